/-
  Package mesh: no mesh; the ways of an empty one.
-/
import Derived.Test.YthobffgkggfooaaMesTake
import Derived.Test.YthobffgkggfooaaMesSend2
set_option linter.unusedVariables false
set_option linter.unusedSimpArgs false
set_option maxRecDepth 100000
namespace Go.Proofs.Ythobffgkggfooaa
open Go.RowKit Go.Maps

set_option maxHeartbeats 400000 in
theorem nmlive (n : Int) (w : World) : Calls Try.prog 47 #[.pointer none, .int .i64 n] w fun e w' => e = .returned (.bool false) ∧ w' = w := by
  go_enter Try.func47, Try.ntmps47
  go_wp2_with fail
  go_ret
  exact ⟨rfl, rfl⟩
set_option maxHeartbeats 400000 in
theorem nmlen (a b : Int) (w : World) : Calls Try.prog 45 #[.pointer none, .int .i64 a, .int .i64 b] w fun e w' => e = .returned (.int .i64 0) ∧ w' = w := by
  go_enter Try.func45, Try.ntmps45
  go_wp2_with fail
  go_ret
  exact ⟨rfl, rfl⟩
set_option maxHeartbeats 400000 in
theorem nmup (n : Int) (w : World) : Calls Try.prog 33 #[.pointer none, .int .i64 n] w fun e w' => e = .returned (.tuple #[]) ∧ w' = w := by
  go_enter Try.func33, Try.ntmps33
  go_wp2_with fail
  refine bodyPost_ret (v := .tuple #[]) (by simp [results, Try.results33, go_sem]) rfl ?_
  exact ⟨rfl, rfl⟩
set_option maxHeartbeats 400000 in
theorem nmdown (n : Int) (w : World) : Calls Try.prog 40 #[.pointer none, .int .i64 n] w fun e w' => e = .returned (.tuple #[]) ∧ New w w' := by
  go_enter Try.func40, Try.ntmps40
  go_wp2_with fail
  refine (nmlive n _).mono ?_
  rintro e w1 ⟨rfl, rfl⟩
  go_wp2_with fail
  refine bodyPost_ret (v := .tuple #[]) (by simp [results, Try.results40, go_sem]) rfl ?_
  exact ⟨rfl, (New.refl w).alloc _⟩
set_option maxHeartbeats 400000 in
theorem nmsend (a b : Int) (s : ByteArray) (w : World) : Calls Try.prog 41 #[.pointer none, .int .i64 a, .int .i64 b, .string s] w fun e w' => e = .returned (.tuple #[]) ∧ w' = w := by
  go_enter Try.func41, Try.ntmps41
  go_wp2_with fail
  refine (nmlive a _).mono ?_
  rintro e w1 ⟨rfl, rfl⟩
  go_wp2_with fail
  refine bodyPost_ret (v := .tuple #[]) (by simp [results, Try.results41, go_sem]) rfl ?_
  exact ⟨rfl, rfl⟩
set_option maxHeartbeats 400000 in
theorem nmbreak (a b : Int) (hab : (a == b) = false) (w : World) : Calls Try.prog 38 #[.pointer none, .int .i64 a, .int .i64 b] w fun e w' => e = .returned (.tuple #[]) ∧ w' = w := by
  go_enter Try.func38, Try.ntmps38
  go_wp2_with fail
  refine (nmlive a _).mono ?_
  rintro e w1 ⟨rfl, rfl⟩
  go_wp2_with fail
  refine bodyPost_ret (v := .tuple #[]) (by simp [results, Try.results38, go_sem]) rfl ?_
  exact ⟨rfl, rfl⟩
set_option maxHeartbeats 400000 in
theorem nmtake (a b : Int) (w : World) : Calls Try.prog 35 #[.pointer none, .int .i64 a, .int .i64 b] w fun e w' => e = .returned (.tuple #[itV zeroI, .bool false]) ∧ New w w' := by
  go_enter Try.func35, Try.ntmps35
  go_wp2_with fail
  refine (nmlen a b _).mono ?_
  rintro e w1 ⟨rfl, rfl⟩
  go_wp2_with fail
  refine bodyPost_ret (v := .tuple #[itV zeroI, .bool false]) (by simp [results, Try.results35, go_sem, itV, zeroI]) rfl ⟨rfl, ?_⟩
  exact (New.refl w).alloc _
set_option maxHeartbeats 400000 in
theorem nmnodes (w : World) : Calls Try.prog 43 #[.pointer none] w fun e w' => e = .returned (.slice none 0 0) ∧ w' = w := by
  go_enter Try.func43, Try.ntmps43
  go_wp2_with fail
  go_ret
  exact ⟨rfl, rfl⟩
set_option maxHeartbeats 400000 in
theorem nmways (w : World) : Calls Try.prog 46 #[.pointer none] w fun e w' => e = .returned (.slice none 0 0) ∧ w' = w := by
  go_enter Try.func46, Try.ntmps46
  go_wp2_with fail
  go_ret
  exact ⟨rfl, rfl⟩
/-! the sort of nothing -/
set_option maxHeartbeats 400000 in
theorem len64_zero (w : World) : Calls Try.prog 123 #[.int .u64 0] w fun e w' => e = .returned (.int .i64 0) ∧ w' = w := by
  go_enter Try.func123, Try.ntmps123
  go_wp2_with fail
  go_ret
  exact ⟨by kernel_rfl, rfl⟩
set_option maxHeartbeats 400000 in
theorem blen_zero (w : World) : Calls Try.prog 97 #[.int .u64 0] w fun e w' => e = .returned (.int .i64 0) ∧ w' = w := by
  go_enter Try.func97, Try.ntmps97
  go_wp2_with fail
  refine (len64_zero w).mono ?_
  rintro e w1 ⟨rfl, rfl⟩
  go_wp2_with fail
  go_ret
  exact ⟨rfl, rfl⟩
set_option maxHeartbeats 400000 in
theorem ins_zero (f : Value) (w : World) : Calls Try.prog 114 #[.slice none 0 0, .int .i64 0, .int .i64 0, f] w fun e w' => e = .returned (.tuple #[]) ∧ w' = w := by
  go_enter Try.func114, Try.ntmps114
  go_wp2_with fail
  go_loopw [8] (fun v wr => v = .int .i64 1 ∧ wr = w) (fun v _ => 0)
  case atStart => exact ⟨rfl, rfl⟩
  case round =>
    obtain ⟨rfl, rfl⟩ := hrel
    go_wp2_with fail
    go_end0
    exact ⟨rfl, rfl⟩
set_option maxHeartbeats 400000 in
theorem pdq_zero (f : Value) (w : World) : Calls Try.prog 96 #[.slice none 0 0, .int .i64 0, .int .i64 0, .int .i64 0, f] w fun e w' => e = .returned (.tuple #[]) ∧ w' = w := by
  go_enter Try.func96, Try.ntmps96
  go_wp2_with fail
  go_loopw [1, 2] (fun a b wr => a = .int .i64 0 ∧ b = .int .i64 0 ∧ wr = w) (fun _ _ _ => 0)
  case atStart => exact ⟨rfl, rfl, rfl⟩
  case round =>
    obtain ⟨rfl, rfl, rfl⟩ := hrel
    go_wp2_with fail
    refine (ins_zero f _).mono ?_
    rintro e w1 ⟨rfl, rfl⟩
    go_wp2_with fail
    refine bodyPost_ret (v := .tuple #[]) (by simp [results, Try.results96, go_sem]) rfl ?_
    exact ⟨rfl, rfl⟩
set_option maxHeartbeats 400000 in
theorem sort_zero (f : Value) (w : World) : Calls Try.prog 67 #[.slice none 0 0, f] w fun e w' => e = .returned (.tuple #[]) ∧ w' = w := by
  go_enter Try.func67, Try.ntmps67
  go_wp2_with fail
  refine (blen_zero _).mono ?_
  rintro e w1 ⟨rfl, rfl⟩
  go_wp2_with fail
  refine (pdq_zero f _).mono ?_
  rintro e w1 ⟨rfl, rfl⟩
  go_wp2_with fail
  go_end0
  exact ⟨rfl, rfl⟩
/-- The ways of a mesh on whose ways nothing is. -/
theorem MeshA.none {w : World} {M B N : Nat} {lv : List Int} {it : Ways} (h : MeshA w M B N lv it) (hn : ∀ k, it k = []) : ∃ bl bp, MeshI w M bl bp B N lv [] := by
  obtain ⟨bl, bp, es, h1, h2, h3⟩ := h
  rcases es with _ | ⟨e, es⟩
  · exact ⟨bl, bp, h1⟩
  · exfalso
    have h4 := h2 e.1
    rw [hn] at h4
    unfold itemsAt getE at h4
    simp at h4
    exact h3 e (by simp) h4
set_option maxHeartbeats 1000000 in
theorem ways_none (M B N : Nat) (lv : List Int) (it : Ways) (w : World) (h : MeshA w M B N lv it) (hn : ∀ k, it k = []) :
    Calls Try.prog 46 #[.pointer (some ⟨M, 0, none⟩)] w fun e w' => e = .returned (.slice none 0 0) ∧ New w w' := by
  obtain ⟨bl, bp, h1⟩ := h.none hn
  have c1 : w.cell? ⟨M, 1, none⟩ = some (.map (some bp)) := by rw [h1.box.cell]; rfl
  obtain ⟨D, ho, hD⟩ := h1.way
  have hz := hD.size
  have HO := Lib.hid ho
  clear h h1 ho hD
  go_enter Try.func46, Try.ntmps46
  go_wp2_with (refine wpList_range_own _ rfl _ 117 rfl 122 53 wayG.keyed Try.underlying117 wayS.R bp N D rfl HO.out ?_; intro w1 hr1 hg1 hs1)
  go_frame
  have HR1 := Lib.hid hr1
  have hn1 : New w w1 := Tch.of_grown hg1 |>.more (fun b hb e => by cases e)
  have HN1 := Lib.hid hn1
  clear hr1 hg1 hs1 hn1
  go_loopw [3] (fun v wr => v = .slice none 0 0 ∧ wr = w1) (fun _ _ => 0)
  case atStart => exact ⟨rfl, rfl⟩
  case round =>
    obtain ⟨rfl, rfl⟩ := hrel
    go_wp2_with (refine wpList_next_ranges _ rfl _ rfl 122 wayG.keyed wayS.R (fun v => v) ptrV (fun key kl _ => ⟨key, rfl⟩) (fun v y hv => by obtain ⟨x, e, _⟩ := wayG.inv v y.1 y.2 hv; exact ⟨x, e⟩) bp w.heap.size N D _ _ rfl HR1.out ?_ ?_)
    · intros
      go_wp2_with fail
      refine (sort_zero _ _).mono ?_
      rintro e w2 ⟨rfl, rfl⟩
      go_wp2_with fail
      go_ret
      exact ⟨rfl, HN1.out⟩
    all_goals
      intro x c kl y w' cnt' _ _ _ _ _ hlt
      exfalso
      rw [hz] at hlt
      simp at hlt
end Go.Proofs.Ythobffgkggfooaa
