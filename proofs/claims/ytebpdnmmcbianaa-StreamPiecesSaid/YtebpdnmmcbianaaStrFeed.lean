/-
  Package stream: what one round of Feed does (pure); no splitter.
-/
import Derived.Test.YtebpdnmmcbianaaStrNext
set_option linter.unusedVariables false
set_option linter.unusedSimpArgs false
set_option maxRecDepth 100000
namespace Go.Proofs.Ytebpdnmmcbianaa
open Go.RowKit

/-- A splitter between two rounds: bad, or with a frame that is not complete. -/
def Calm (st : St) : Prop := st.bad = 0 → endOf st.h ≤ 4098 ∧ st.h.length < endOf st.h
theorem calm_new : Calm ⟨[], 0⟩ := fun _ => by simp [endOf]
theorem endOf_two_le (h : List UInt8) : 2 ≤ endOf h := by unfold endOf; split <;> omega
theorem settle_calm (h : List UInt8) : Calm (settle h).1 := by
  unfold settle
  split
  · intro h0; simp at h0
  · rename_i h1
    split
    · rename_i h2
      exact fun _ => ⟨by simp only; omega, by simpa using h2⟩
    · split
      · exact calm_new
      · rename_i e he
        intro h0
        have := dec_err he
        simp only at h0
        omega
/-- One round: as much as the frame wants of what is left. -/
theorem feed_step (h l : List UInt8) (k : Nat) (hc : Calm ⟨h, 0⟩) (hl : l ≠ []) (hk : k = min (endOf h - h.length) l.length) :
    runS ⟨h, 0⟩ l = ((runS (settle (h ++ l.take k)).1 (l.drop k)).1, (settle (h ++ l.take k)).2 ++ (runS (settle (h ++ l.take k)).1 (l.drop k)).2) := by
  obtain ⟨h1, h2⟩ := hc rfl
  simp only at h1 h2
  have hp : 0 < l.length := List.length_pos_iff.2 hl
  have ht : (l.take k).length = k := by rw [List.length_take]; omega
  have h3 := runS_piece (l.take k) h (by intro e; rw [e] at ht; simp at ht; omega) (by rw [ht]; omega) h1
  have h4 := runS_append ⟨h, 0⟩ (l.take k) (l.drop k)
  rw [List.take_append_drop, h3] at h4
  exact h4
/-- A piece laid behind the frame's bytes. -/
theorem SpC.laid {cs : Array Value} {h p : List UInt8} (hs : SpC cs ⟨h, 0⟩) (hp : h.length + p.length ≤ 4098) :
    SpC ((lay cs h.length (p.map fun b => Value.int .u8 b.toNat)).setIfInBounds 4098 (.int .i64 ((h ++ p).length : Nat))) ⟨h ++ p, 0⟩ := by
  obtain ⟨h1, h2, h3, h4, h5, h6⟩ := hs
  have hz : (lay cs h.length (p.map fun b => Value.int .u8 b.toNat)).size = 4100 := by
    simp only at h4
    simp [lay, h1]
    omega
  have hget : ∀ i, i ≠ 4098 → ((lay cs h.length (p.map fun b => Value.int .u8 b.toNat)).setIfInBounds 4098 (.int .i64 ((h ++ p).length : Nat)))[i]? = (if h.length ≤ i ∧ i < h.length + p.length then (p[i - h.length]?).map (fun b => Value.int .u8 b.toNat) else cs[i]?) := by
    intro i hi
    rw [Array.getElem?_setIfInBounds_ne (by omega)]
    have hcl : cs.toList.length = 4100 := by simpa using h1
    have htk : (cs.toList.take h.length).length = h.length := by rw [List.length_take]; omega
    have hml : (p.map fun b => Value.int .u8 b.toNat).length = p.length := List.length_map ..
    unfold lay
    rw [List.getElem?_toArray]
    by_cases hi1 : i < h.length
    · rw [if_neg (by omega), List.getElem?_append_left (by omega), List.getElem?_take, if_pos hi1, Array.getElem?_toList]
    · rw [List.getElem?_append_right (by omega), htk]
      by_cases hi2 : i < h.length + p.length
      · rw [if_pos (by omega), List.getElem?_append_left (by omega), List.getElem?_map]
      · rw [if_neg (by omega), List.getElem?_append_right (by omega), List.getElem?_drop, Array.getElem?_toList, hml]
        congr 1
        omega
  refine ⟨by simpa using hz, by simp [hz], ?_, by simp; omega, fun i b hb => ?_, fun i hi => ?_⟩
  · rw [hget 4099 (by omega), if_neg (by omega)]; exact h3
  · have hi : i < (h ++ p).length := (List.getElem?_eq_some_iff.1 hb).1
    rw [List.length_append] at hi
    rw [hget i (by omega)]
    by_cases hih : i < h.length
    · rw [if_neg (by omega)]
      simp only at hb
      rw [List.getElem?_append_left hih] at hb
      exact h5 i b hb
    · rw [if_pos (by omega)]
      simp only at hb
      rw [List.getElem?_append_right (by omega)] at hb
      rw [hb]; rfl
  · rw [hget i (by omega)]
    split
    · rename_i hh
      have hb : i - h.length < p.length := by omega
      exact ⟨p[i - h.length], by rw [List.getElem?_eq_getElem hb]; rfl⟩
    · exact h6 i hi

set_option maxHeartbeats 400000 in
theorem nilbad_ok (w : World) : Calls Try.prog 18 #[.pointer none] w (fun e w' => e = .returned (.int .i64 1) ∧ w' = w) := by
  go_enter Try.func18, Try.ntmps18
  go_wp2_with fail
  go_ret
  exact ⟨rfl, rfl⟩
set_option maxHeartbeats 400000 in
theorem nilleft_ok (w : World) : Calls Try.prog 19 #[.pointer none] w (fun e w' => e = .returned (.int .i64 0) ∧ w' = w) := by
  go_enter Try.func19, Try.ntmps19
  go_wp2_with fail
  go_ret
  exact ⟨rfl, rfl⟩
set_option maxHeartbeats 400000 in
theorem nilfeed_ok (s : ByteArray) (w : World) : Calls Try.prog 17 #[.pointer none, .string s] w (fun e w' => e = .returned (.slice none 0 0) ∧ w' = w) := by
  go_enter Try.func17, Try.ntmps17
  go_wp2_with fail
  go_ret
  exact ⟨rfl, rfl⟩
end Go.Proofs.Ytebpdnmmcbianaa
