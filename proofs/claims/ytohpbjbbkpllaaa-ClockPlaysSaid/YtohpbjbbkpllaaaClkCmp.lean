/-
  The order of timers: cmp.Or of two numbers, and the closure by which inOrder sorts.
-/
import Derived.Test.YtohpbjbbkpllaaaClkCon
import Derived.Test.YtohpbjbbkpllaaaLayClock
import Derived.Deep.RegionWith
import Derived.Shelf.SlSortCmp.QuietGrown
import Derived.Deep.RegionHeld3
set_option linter.unusedVariables false
set_option linter.unusedSimpArgs false
namespace Go.Proofs.Ytohpbjbbkpllaaa
open Go.RowKit Go.Maps Go.Shelf

def or2 (x y : Int) : Int := if x = 0 then y else x
theorem or_ok (g : Nat) (x y : Int) (w : World) (h0 : w.cell? ⟨g, 0, none⟩ = some (.int .i64 x)) (h1 : w.cell? ⟨g, 1, none⟩ = some (.int .i64 y)) :
    Calls Try.prog 53 #[.slice (some ⟨g, 0, none⟩) 2 2] w fun e w' => e = .returned (.int .i64 (or2 x y)) ∧ w' = w := by
  go_enter Try.func53, Try.ntmps53
  go_wp2_with fail
  go_loopw [8] (fun jv wr => ∃ j : Nat, jv = .int .i64 j ∧ wr = w ∧ j ≤ 2 ∧ (1 ≤ j → x = 0) ∧ (2 ≤ j → y = 0)) (fun jv _ => 2 - (intOf jv).toNat)
  case atStart => exact ⟨0, rfl, rfl, by omega, by omega, by omega⟩
  case round =>
    obtain ⟨j, rfl, rfl, hj, hx, hy⟩ := hrel
    rcases (by omega : j = 0 ∨ j = 1 ∨ j = 2) with hj0 | hj0 | hj0
    · subst hj0
      by_cases hx0 : x = 0
      · have ht : (x != 0) = false := by simp [hx0]
        have HX := Lib.hid hx0
        clear hx0 hx hy hj
        go_wp2_with fail
        go_roundw
        case rel => exact ⟨1, rfl, by trivial, by omega, fun _ => HX.out, by omega⟩
        case measure => simp [intOf]
      · have ht : (x != 0) = true := by simp [hx0]
        have HX := Lib.hid hx0
        clear hx0 hx hy hj
        go_wp2_with fail
        go_ret
        exact ⟨by simp [or2, HX.out], by trivial⟩
    · subst hj0
      have hx0 := hx (by omega)
      have HX := Lib.hid hx0
      by_cases hy0 : y = 0
      · have ht : (y != 0) = false := by simp [hy0]
        have HY := Lib.hid hy0
        clear hx0 hy0 hx hy hj
        go_wp2_with fail
        go_roundw
        case rel => exact ⟨2, rfl, by trivial, by omega, fun _ => HX.out, fun _ => HY.out⟩
        case measure => simp [intOf]
      · have ht : (y != 0) = true := by simp [hy0]
        have HY := Lib.hid hy0
        clear hx0 hy0 hx hy hj
        go_wp2_with fail
        go_ret
        exact ⟨by simp [or2, HX.out], by trivial⟩
    · subst hj0
      have hx0 := hx (by omega)
      have hy0 := hy (by omega)
      have HX := Lib.hid hx0
      have HY := Lib.hid hy0
      clear hx0 hy0 hx hy hj
      go_wp2_with fail
      go_ret
      exact ⟨by simp [or2, HX.out, HY.out], by trivial⟩


/-- x is w after some draws, with some blocks laid behind it. -/
def Gr (w x : World) : Prop := ∃ q os', x = Go.Sort.grow (w.drewN q) os'
theorem Gr.refl (w : World) : Gr w w := ⟨0, #[], by rw [Go.Sort.grow_empty]; rfl⟩
theorem Gr.drew {w x : World} (h : Gr w x) : Gr w x.drew := by
  obtain ⟨q, os', rfl⟩ := h
  exact ⟨q + 1, os', rfl⟩
theorem Gr.alloc {w x : World} (h : Gr w x) (o : Obj) : Gr w (x.alloc o) := by
  obtain ⟨q, os', rfl⟩ := h
  exact ⟨q, os'.push o, by simp [Go.Sort.grow, World.alloc]⟩
def tmCmp (t u : Tm) : Int := or2 (Lib.compareInt t.tick u.tick) (Lib.compareInt t.turn u.turn)
set_option maxHeartbeats 8000000 in
theorem cmpTm (t u : Tm) (w : World) : Calls Try.prog 52 #[t.val, u.val] w fun e w' => e = .returned (.int .i64 (tmCmp t u)) ∧ Gr w w' := by
  unfold Tm.val
  go_enter Try.func52, Try.ntmps52
  go_upto_region 1 with (fail)
  obtain ⟨W, hW⟩ : ∃ W, W = ((w.alloc (.cells #[.string t.name, .int .i64 t.tick, .int .i64 t.turn] 74)).alloc (.cells #[.string u.name, .int .i64 u.tick, .int .i64 u.turn] 74)) := ⟨_, rfl⟩
  have kt : Bk W w.heap.size 74 #[.string t.name, .int .i64 t.tick, .int .i64 t.turn] := by rw [hW]; exact (Bk.made w _ _).alloc _
  have ku : Bk W (w.heap.size + 1) 74 #[.string u.name, .int .i64 u.tick, .int .i64 u.turn] := by
    have h := Bk.made (w.alloc (.cells #[.string t.name, .int .i64 t.tick, .int .i64 t.turn] 74)) 74 #[.string u.name, .int .i64 u.tick, .int .i64 u.turn]
    simp only [World.size_alloc] at h
    rw [hW]; exact h
  have hsz : w.heap.size + 1 + 1 = W.heap.size := by rw [hW]; simp
  have GW : Gr w W := by rw [hW]; exact ((Gr.refl w).alloc _).alloc _
  rw [← hW]
  clear hW
  have G0 := Lib.hid (Gr.refl W)
  have KEEP : Hid (∀ x, Gr W x → x.cell? ⟨w.heap.size, 1, none⟩ = some (.int .i64 t.tick) ∧ x.cell? ⟨w.heap.size, 2, none⟩ = some (.int .i64 t.turn) ∧ x.cell? ⟨w.heap.size + 1, 1, none⟩ = some (.int .i64 u.tick) ∧ x.cell? ⟨w.heap.size + 1, 2, none⟩ = some (.int .i64 u.turn) ∧ Gr W x) := by
    rintro x ⟨q, os', rfl⟩
    have t1 := kt.cell 1; have t2 := kt.cell 2; have u1 := ku.cell 1; have u2 := ku.cell 2
    have l1 := kt.lt; have l2 := ku.lt
    simp at t1 t2 u1 u2
    exact ⟨cell_grown l1 t1 _ _, cell_grown l1 t2 _ _, cell_grown l2 u1 _ _, cell_grown l2 u2 _ _, ⟨q, os', rfl⟩⟩
  obtain ⟨c1, c2, c3, c4, _⟩ := KEEP.out W G0.out
  have HZ := Lib.hid hsz
  have HGW := Lib.hid GW
  clear kt ku hsz GW
  have tok1 : True := trivial
  go_region_held3 (fun x => x.cell? ⟨w.heap.size, 1, none⟩ = some (.int .i64 t.tick) ∧ x.cell? ⟨w.heap.size, 2, none⟩ = some (.int .i64 t.turn) ∧ x.cell? ⟨w.heap.size + 1, 1, none⟩ = some (.int .i64 u.tick) ∧ x.cell? ⟨w.heap.size + 1, 2, none⟩ = some (.int .i64 u.turn) ∧ Gr W x)
    ((refine KEEP.out _ ?_; first | exact G0.out | exact G0.out.drew | exact G0.out.drew.alloc _))
    (first
     | (have _t := tok1; go_at_call 54; refine (AnyG.cmp_Compare_int laysCmp t.tick u.tick _).mono ?_; rintro e w' ⟨rfl, rfl⟩; clear tok1; have tok2 : True := trivial)
     | (have _t := tok2; go_at_call 54; refine (AnyG.cmp_Compare_int laysCmp t.turn u.turn _).mono ?_; rintro e w' ⟨rfl, rfl⟩; clear tok2; have tok3 : True := trivial)
     | (have _t := tok3; go_at_call 53; refine (or_ok _ (Lib.compareInt t.tick u.tick) (Lib.compareInt t.turn u.turn) _ (by simp) (by simp)).mono ?_; rintro e w' ⟨rfl, rfl⟩))
  all_goals
    go_wp2_with fail
    go_ret
    refine ⟨rfl, ?_⟩
    first
    | exact (HGW.out.alloc _).drew
    | exact HGW.out.drew.alloc _
    | exact (HGW.out.drew.alloc _).drew
end Go.Proofs.Ytohpbjbbkpllaaa
