/-
  The law's 'speaks' of meshes.
-/
import Derived.Test.YthobffgkggfooaaMesNil
set_option linter.unusedVariables false
set_option linter.unusedSimpArgs false
set_option maxRecDepth 100000
namespace Go.Proofs.Ythobffgkggfooaa
open Go.RowKit Go.Maps

set_option maxHeartbeats 1000000 in
theorem speaks8 (w : World) : Calls Try.prog 31 #[] w (SpkP w) := by
  go_enter Try.func31, Try.ntmps31
  go_wp2_with fail
  refine (newA w).mono ?_
  rintro e w1 ⟨rfl, hm, hn⟩
  obtain ⟨M, hM⟩ : ∃ M, M = w.heap.size + 1 + 1 := ⟨_, rfl⟩
  obtain ⟨B, hB⟩ : ∃ B, B = w.heap.size := ⟨_, rfl⟩
  rw [← hM] at hm ⊢
  rw [← hB] at hm
  have HM := Lib.hid hm
  have HN := Lib.hid hn
  have HB := Lib.hid (show w.heap.size ≤ B by omega)
  clear hM hB hm hn
  go_wp2_with fail
  refine (upA M B 0 [] _ 1 w1 HM.out (by omega) (by omega)).mono ?_
  rintro e w2 ⟨rfl, hm, ht⟩
  have e1 : upL [] 1 = [1] := by decide
  rw [e1] at hm
  have HM2 := Lib.hid hm
  have HN2 := Lib.hid (MT.new HN.out ht HB.out)
  clear hm ht HM HN e1
  go_wp2_with fail
  refine (sendA M B 1 [1] _ 1 2 ⟨#[115]⟩ w2 HM2.out ⟨by omega, by omega⟩ ⟨by omega, by omega⟩ (by omega)).mono ?_
  rintro e w3 ⟨rfl, hm, ht⟩
  have e1 : sendI [1] (fun _ => []) 1 2 ⟨#[115]⟩ = setI (fun _ => []) (2, 1) [brk] := by unfold sendI; rw [if_neg (by decide), if_pos (by decide)]
  rw [e1] at hm
  have HM3 := Lib.hid hm
  have HN3 := Lib.hid (MT.new HN2.out ht HB.out)
  clear hm ht HM2 HN2 e1
  go_wp2_with fail
  refine (mtake_last M B 4 [1] _ 2 1 brk w3 HM3.out ⟨by omega, by omega⟩ ⟨by omega, by omega⟩ (by simp [setI])).mono ?_
  rintro e w4 ⟨rfl, hm, ht⟩
  have e1 : setI (setI (fun _ => []) (2, 1) [brk]) (2, 1) [] = fun _ => [] := by
    funext q
    unfold setI
    split <;> rfl
  rw [e1] at hm
  have hn4 : New w w4 := MT.new HN3.out ht HB.out
  obtain ⟨w5, hw5⟩ : ∃ w5, w5 = w4.alloc (.cells #[.bool true, .string ⟨#[]⟩] 57) := ⟨_, rfl⟩
  have HM5 := Lib.hid (show MeshA w5 M B 4 [1] (fun _ => []) by rw [hw5]; exact hm.new ((New.refl _).alloc _))
  have HN5 := Lib.hid (show New w w5 by rw [hw5]; exact hn4.alloc _)
  have HW5 := Lib.hid hw5
  clear hm ht hn4 hw5 HM3 HN3 e1
  simp only [itV, brk]
  have HL1 := Lib.hid (liveA M B 4 [1] _ 1 w5 HM5.out ⟨by omega, by omega⟩)
  rw [dec_ (show (1 : Int) ∈ [(1 : Int)] by simp)] at HL1
  go_wp2_with fail
  rw [← HW5.out]
  clear HW5
  refine HL1.out.mono ?_
  rintro e w6 ⟨rfl, hn⟩
  have HM6 := Lib.hid (HM5.out.new hn)
  have HN6 := Lib.hid (HN5.out.then hn)
  have HL2 := Lib.hid (liveA M B 4 [1] _ 2 w6 HM6.out ⟨by omega, by omega⟩)
  rw [decn_ (show ¬ (2 : Int) ∈ [(1 : Int)] by simp)] at HL2
  clear hn HL1 HM5 HN5
  go_wp2_with fail
  refine HL2.out.mono ?_
  rintro e w7 ⟨rfl, hn⟩
  have HM7 := Lib.hid (HM6.out.new hn)
  have HN7 := Lib.hid (HN6.out.then hn)
  have HWA := Lib.hid (ways_none M B 4 [1] _ w7 HM7.out (fun _ => rfl))
  clear hn HL2 HM6 HN6
  go_wp2_with fail
  refine HWA.out.mono ?_
  rintro e w8 ⟨rfl, hn⟩
  have HN8 := Lib.hid (HN7.out.then hn)
  clear hn HWA
  go_wp2_with fail
  go_ret
  exact ⟨rfl, HN8.out⟩
end Go.Proofs.Ythobffgkggfooaa
