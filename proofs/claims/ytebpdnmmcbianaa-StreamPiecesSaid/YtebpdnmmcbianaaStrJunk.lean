/-
  What stands behind the frames: pure.
-/
import Derived.Test.YtebpdnmmcbianaaStrJoin
set_option linter.unusedVariables false
set_option linter.unusedSimpArgs false
set_option maxRecDepth 100000
namespace Go.Proofs.Ytebpdnmmcbianaa
open Go.RowKit

theorem junk_short (l : List UInt8) (h : l.length < 2) : runS ⟨[], 0⟩ l = (⟨l, 0⟩, []) := by
  match l, h with
  | [], _ => rfl
  | [b], _ =>
    have := runS_piece [b] [] (by simp) (by simp [endOf]) (by simp [endOf])
    rw [List.nil_append] at this
    rw [this]
    simp [settle, endOf]
/-- The length that two bytes tell. -/
def headN (l : List UInt8) : Nat := beV (l.take 2)
theorem junk_head (l : List UInt8) (h : 2 ≤ l.length) : runS ⟨[], 0⟩ l = ((runS (settle (l.take 2)).1 (l.drop 2)).1, (settle (l.take 2)).2 ++ (runS (settle (l.take 2)).1 (l.drop 2)).2) := by
  have ht : (l.take 2).length = 2 := by rw [List.length_take]; omega
  have h1 := runS_piece (l.take 2) [] (by intro e; rw [e] at ht; simp at ht) (by simp [endOf, ht]) (by simp [endOf])
  rw [List.nil_append] at h1
  have h2 := runS_append ⟨[], 0⟩ (l.take 2) (l.drop 2)
  rw [List.take_append_drop, h1] at h2
  exact h2
theorem endOf_head (l : List UInt8) (h : 2 ≤ l.length) : endOf (l.take 2) = 2 + headN l := by
  have ht : (l.take 2).length = 2 := by rw [List.length_take]; omega
  unfold endOf headN
  rw [if_neg (by omega), List.take_take]
  simp
theorem endOf_all (l : List UInt8) (h : 2 ≤ l.length) : endOf l = 2 + headN l := by
  unfold endOf headN
  rw [if_neg (by omega)]
theorem junk_long (l : List UInt8) (h : 2 ≤ l.length) (hn : 4096 < headN l) : runS ⟨[], 0⟩ l = (⟨[], 3⟩, []) := by
  have hs : settle (l.take 2) = (⟨[], 3⟩, []) := by unfold settle; rw [endOf_head l h, if_pos (by omega)]
  rw [junk_head l h, hs]
  simp only
  rw [runS_bad _ _ (by simp)]
  simp
theorem junk_few (l : List UInt8) (h : 2 ≤ l.length) (hn : headN l ≤ 4096) (hl : l.length < 2 + headN l) : runS ⟨[], 0⟩ l = (⟨l, 0⟩, []) := by
  have ht : (l.take 2).length = 2 := by rw [List.length_take]; omega
  have hs : settle (l.take 2) = (⟨l.take 2, 0⟩, []) := by unfold settle; rw [endOf_head l h, if_neg (by omega), if_pos (by rw [ht]; omega)]
  rw [junk_head l h, hs]
  simp only [List.nil_append]
  by_cases he : l.drop 2 = []
  · have h2 : l.take 2 = l := by have := List.take_append_drop 2 l; rwa [he, List.append_nil] at this
    rw [he, h2]
    rfl
  · have h3 := runS_piece (l.drop 2) (l.take 2) he (by rw [endOf_head l h, ht, List.length_drop]; omega) (by rw [endOf_head l h]; omega)
    rw [List.take_append_drop] at h3
    rw [h3]
    unfold settle
    rw [endOf_all l h, if_neg (by omega), if_pos (by omega)]
theorem junk_err (l : List UInt8) (h : 2 ≤ l.length) (hn : headN l ≤ 4096) (hl : 2 + headN l ≤ l.length) (e : Nat) (hd : dec ((l.take (2 + headN l)).drop 2) = .error e) : runS ⟨[], 0⟩ l = (⟨[], e⟩, []) := by
  have he := dec_err hd
  have ht : (l.take (2 + headN l)).length = 2 + headN l := by rw [List.length_take]; omega
  have ht2 : (l.take 2).length = 2 := by rw [List.length_take]; omega
  have hset : settle (l.take (2 + headN l)) = (⟨[], e⟩, []) := by
    have h2 : headN (l.take (2 + headN l)) = headN l := by
      unfold headN
      rw [List.take_take]
      congr 2
      omega
    unfold settle
    rw [endOf_all _ (by omega), h2, if_neg (by omega), if_neg (by omega), List.take_of_length_le (by omega), hd]
  have h1 : runS ⟨[], 0⟩ (l.take (2 + headN l)) = (⟨[], e⟩, []) := by
    by_cases h0 : headN l = 0
    · rw [h0] at hset ⊢
      have := junk_head (l.take (2 + 0)) (by simp; omega)
      rw [List.take_take, List.drop_of_length_le (by simp; omega)] at this
      rw [this]
      simp only [Nat.add_zero, Nat.min_self] at hset ⊢
      rw [hset]
      simp [runS]
    · have hs : settle (l.take 2) = (⟨l.take 2, 0⟩, []) := by unfold settle; rw [endOf_head l h, if_neg (by omega), if_pos (by rw [ht2]; omega)]
      have h4 : (l.take (2 + headN l)).take 2 = l.take 2 := by rw [List.take_take]; congr 1; omega
      rw [junk_head _ (by omega), h4, hs]
      simp only [List.nil_append]
      have hdl : ((l.take (2 + headN l)).drop 2).length = headN l := by rw [List.length_drop]; omega
      have h3 := runS_piece ((l.take (2 + headN l)).drop 2) (l.take 2) (by intro e; rw [e] at hdl; simp at hdl; omega) (by rw [endOf_head l h]; omega) (by rw [endOf_head l h]; omega)
      rw [← h4, List.take_append_drop, hset] at h3
      rw [← h4, h3]
  have h5 := runS_append ⟨[], 0⟩ (l.take (2 + headN l)) (l.drop (2 + headN l))
  rw [List.take_append_drop, h1] at h5
  rw [h5]
  simp only
  rw [runS_bad _ _ (by simp only; omega)]
  simp
theorem head_bytes (l : List UInt8) (h : 2 ≤ l.length) : headN l = 256 * (l[0]'(by omega)).toNat + (l[1]'(by omega)).toNat := by
  match l, h with
  | a :: b :: r, _ => simp [headN, beV]
theorem str_get (l : List UInt8) (i : Nat) (h : i < l.length) (x : UInt8) (hx : x = l[i]) : (str l)[i]? = some x := by
  have hz : i < (str l).size := by rw [str_size]; exact h
  rw [getElem?_pos (str l) i hz]
  have : (str l)[i] = l[i] := by
    show (str l).data[i] = _
    simp only [str, List.getElem_toArray]
    rfl
  rw [this, hx]
  rfl
theorem str_mid (l : List UInt8) (a b : Nat) : (str l).extract a b = str ((l.take b).drop a) := by
  refine toList_inj ?_
  rw [ByteArray.toList_eq, ByteArray.toList_eq]
  simp [str, ByteArray.data_extract, List.drop_take]
theorem wrap_two (a b : UInt8) : wrap64 (wrap64 (256 * wrap64 (a.toNat : Int)) + wrap64 (b.toNat : Int)) = ((256 * a.toNat + b.toNat : Nat) : Int) := by
  obtain ⟨x, hx⟩ : ∃ x, x = a.toNat := ⟨_, rfl⟩
  obtain ⟨y, hy⟩ : ∃ y, y = b.toNat := ⟨_, rfl⟩
  have b0 := a.toNat_lt
  have b1 := b.toNat_lt
  rw [← hx] at b0 ⊢
  rw [← hy] at b1 ⊢
  have e0 : wrap64 (x : Int) = (x : Int) := by unfold wrap64; omega
  have e1 : wrap64 (y : Int) = (y : Int) := by unfold wrap64; omega
  have e2 : wrap64 (256 * (x : Int)) = 256 * (x : Int) := by unfold wrap64; omega
  rw [e0, e1, e2]
  have e3 : wrap64 (256 * (x : Int) + (y : Int)) = 256 * (x : Int) + (y : Int) := by unfold wrap64; omega
  rw [e3]
  omega
theorem two_le (a b : UInt8) : 256 * a.toNat + b.toNat ≤ 65535 := by
  have b0 := a.toNat_lt
  have b1 := b.toNat_lt
  omega
end Go.Proofs.Ytebpdnmmcbianaa
