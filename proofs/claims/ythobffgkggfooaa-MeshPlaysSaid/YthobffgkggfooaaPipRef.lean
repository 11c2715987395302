/-
  The reference of pipes: Send; items compared.
-/
import Derived.Test.YthobffgkggfooaaPipSpk
import Derived.Laws.StructEq
set_option linter.unusedVariables false
set_option linter.unusedSimpArgs false
set_option maxRecDepth 100000
namespace Go.Proofs.Ythobffgkggfooaa
open Go.RowKit

def itC (x : ItA) : List Value := [.bool x.broken, .string x.text]
theorem itC_len (x : ItA) : (itC x).length = 2 := rfl
theorem itC_one (l : List ItA) : ∀ u ∈ l.flatMap itC, u.oneCell' = true := by
  intro u hu
  obtain ⟨t, _, ht⟩ := List.mem_flatMap.1 hu
  simp only [itC, List.mem_cons, List.not_mem_nil, or_false] at ht
  rcases ht with rfl | rfl <;> rfl
theorem rit_info : (Try.prog.info? 60).map (fun i => (i.zero, i.size, i.bytes)) = some (some (.agg #[.bool false, .string ⟨#[]⟩]), 2, 24) := by kernel_rfl
/-- The cells of a slice of items as the source of an append. -/
theorem slk_src {w : World} {S : Nat → Prop} {ao : Option Addr} {n cap : Nat} {l : List ItA} (h : Slk itC 2 w S (.slice ao n cap) l) : n = l.length ∧ (ao = none → cap = 0) ∧ (0 < l.length → ∃ ad, ao = some ad ∧ ∀ (j : Nat) (u : Value), (l.flatMap itC)[j]? = some u → w.cell? (ad.add j) = some u) := by
  have h' := h
  obtain ⟨ao', cap', e, h2, h3, h0, h4⟩ := h
  injection e with e1 e2 e3
  subst e1 e2 e3
  refine ⟨rfl, h0, fun hp => ?_⟩
  obtain ⟨b, off, e, _, _, _⟩ := h4 hp
  subst e
  exact ⟨_, rfl, h'.flat itC_len⟩
set_option maxHeartbeats 1000000 in
theorem rsend_ok (v : Value) (l : List ItA) (s : ByteArray) (S : Nat → Prop) (w : World) (h : Slk itC 2 w S v l) (hl : l.length ≤ 64) :
    Calls Try.prog 27 #[v, .string s] w fun e w' => ∃ v', e = .returned (.tuple #[v', .bool (decide (l.length < 64))]) ∧ Slk itC 2 w' (fun b => S b ∨ w.heap.size ≤ b) v' (putL l ⟨false, s⟩) ∧ New w w' := by
  obtain ⟨i0, hi, hz0, hz1, hz2⟩ := info_parts rit_info
  obtain ⟨ao, cap, rfl, hcl, hcm⟩ := h.shape
  obtain ⟨_, hA, hC⟩ := slk_src h
  have H := Lib.hid h
  have HA := Lib.hid hA
  clear h
  by_cases hr : l.length < 64
  · have hri : (l.length : Int) < 64 := by omega
    rw [dec_ hr, putL, if_pos hr]
    have HCC := Lib.hid hC
    have hsrc : Hid (0 < l.length → ∃ ad, ao = some ad ∧ ∀ (j : Nat) (u : Value), (l.flatMap itC)[j]? = some u → (w.alloc (.cells #[] 60)).cell? (ad.add j) = some u) := Lib.hid fun hp => by
      obtain ⟨ad, e, hc⟩ := hC hp
      refine ⟨ad, e, fun j u hu => ?_⟩
      have hc2 := hc j u hu
      rw [← hc2]
      exact World.cell?_of_block (Below.heap_alloc _ _ _ (World.block_lt_of_cell? w _ hc2))
    clear hC
    go_enter Try.func27, Try.ntmps27
    have tok1 : True := trivial
    go_wp2_with (at_builtin; first | (have _t := tok1; refine list_appK rfl (.tmp 10) (.tmp 11) 55 rfl w.heap.size 60 i0 (.agg #[.bool false, .string ⟨#[]⟩]) 2 24 Try.underlying55 hi hz0 hz1 hz2 rfl (by omega) (.slice (some ⟨w.heap.size, 0, none⟩) 0 0) 0 [] (by simp [Act.eval, Act.put]) (World.ownsRow_made w #[] 0 (Nat.le_refl _) (Nat.zero_le _) rfl) ao l.length cap (l.flatMap itC) rfl (flat_lengthK itC_len l) HA.out (fun e => by have := HA.out e; omega) hsrc.out (itC_one l) (Nat.le_trans (show 0 + l.length ≤ 64 by omega) (by decide)) (by omega) (by simp) ?_; intro v1 w1 HO1 HG1; have HN1 := Lib.hid (show New w w1 from (((New.refl w).alloc _) : Tch _ _ _).trans (Tch.of_grown HG1.out) (fun b hb e => by have e2 : b = w.heap.size := (by simpa [Value.ownBlock] using e); omega)); have HQ0 := Lib.hid (show w1.ownsRow w.heap.size 60 2 v1 l.length (l.flatMap itC) by simpa using HO1.out); have HQ1 := Lib.hid (own_tch HQ0.out ((Tch.refl (fun _ => False) w1).alloc (.cells #[.bool false, .string s] 60)) (fun _ _ h => h)); have HB1 := Lib.hid (Bk.made w1 60 #[.bool false, .string s]); have HZ1 := Lib.hid (show w.heap.size ≤ w1.heap.size from HN1.out.size); clear HO1 HG1 HQ0 tok1) | (refine list_appK rfl (.tmp 12) (.tmp 15) 55 rfl w.heap.size 60 i0 (.agg #[.bool false, .string ⟨#[]⟩]) 2 24 Try.underlying55 hi hz0 hz1 hz2 rfl (by omega) v1 l.length _ (by simp [Act.eval, Act.put]) (by exact HQ1.out) (some ⟨w1.heap.size, 0, none⟩) 1 1 (itC ⟨false, s⟩) (by simp [Act.eval, Act.put]) rfl (by simp) (by simp) (fun _ => ⟨_, rfl, fun jj u hu => by rw [Addr.add_lit, Nat.zero_add, HB1.out.cell]; simpa [itC] using hu⟩) (fun u hu => itC_one [⟨false, s⟩] u (by simpa using hu)) (Nat.le_trans (show l.length + 1 ≤ 65 by omega) (by decide)) (by omega) (by have := HZ1.out; simp; omega) ?_; intro v2 w2 HO2 HG2; have HN2 := Lib.hid (show New w w2 from ((HN1.out.alloc _) : Tch _ _ _).trans (Tch.of_grown HG2.out) (fun b hb e => (own_base HQ1.out e.symm).1))))
    go_ret2
    refine ⟨v2, rfl, ?_, HN2.out⟩
    have ho : w2.ownsRow w.heap.size 60 2 v2 (l ++ [(⟨false, s⟩ : ItA)]).length ((l ++ [(⟨false, s⟩ : ItA)]).flatMap itC) := by
      have := HO2.out
      rw [List.length_append, List.flatMap_append]
      simpa using this
    exact (own_slk itC_len ho).more (fun b _ h => .inr h)
  · have hri : ¬ (l.length : Int) < 64 := by omega
    rw [decn_ hr, putL, if_neg hr]
    clear hC
    go_enter Try.func27, Try.ntmps27
    go_wp2_with fail
    go_ret2
    exact ⟨_, rfl, H.out.more (fun b _ h => .inl h), New.refl w⟩
theorem neItR (x : ItA) (w : World) : (binOp .neq 60 (.agg #[.bool x.broken, .string x.text]) (.agg #[.bool x.broken, .string x.text])).run Try.prog w = .ok (.bool false) w := by
  have hS : Try.prog.underlying 60 = some (.struct (Try.prog.fieldsOf 60)) := by kernel_rfl
  have hp : Try.prog.stoodInHeld 60 = false := by kernel_rfl
  have u1 := Try.underlying9
  have u2 := Try.underlying4
  rw [run_neq_struct, show (10000 : Nat) = 9999 + 1 from rfl, run_equalIn_agg w 9999 _ _ _ hS hp]
  clear hS hp
  simp only [Program.fieldsOf, Try.underlying60]
  go_simp
theorem neItP (x : ItA) (w : World) : (binOp .neq 57 (.agg #[.bool x.broken, .string x.text]) (.agg #[.bool x.broken, .string x.text])).run Try.prog w = .ok (.bool false) w := by
  have hS : Try.prog.underlying 57 = some (.struct (Try.prog.fieldsOf 57)) := by kernel_rfl
  have hp : Try.prog.stoodInHeld 57 = false := by kernel_rfl
  have u1 := Try.underlying9
  have u2 := Try.underlying4
  rw [run_neq_struct, show (10000 : Nat) = 9999 + 1 from rfl, run_equalIn_agg w 9999 _ _ _ hS hp]
  clear hS hp
  simp only [Program.fieldsOf, Try.underlying57]
  go_simp
end Go.Proofs.Ythobffgkggfooaa
