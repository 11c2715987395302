/-
  Package mesh: the order of ways: slices.Compare on two ways as rows of two numbers.
-/
import Derived.Test.YthobffgkggfooaaMesDown2
import Derived.Deep.RegionHeld3
import Derived.Shelf.SlSortCmp.QuietGrown
set_option linter.unusedVariables false
set_option linter.unusedSimpArgs false
set_option maxRecDepth 100000
namespace Go.Proofs.Ythobffgkggfooaa
open Go.RowKit Go.Maps

theorem nan_ok (x : Int) (w : World) : Calls Try.prog 124 #[.int .i64 x] w fun e w' => e = .returned (.bool false) ∧ w' = w := by
  have h : (x != x) = false := by simp
  go_enter Try.func124, Try.ntmps124
  go_wp2_with fail
  go_ret
  exact ⟨by simp, rfl⟩
def cmpI (a b : Int) : Int := if a < b then -1 else if b < a then 1 else 0
theorem cmpI_ok (a b : Int) (w : World) : Calls Try.prog 98 #[.int .i64 a, .int .i64 b] w fun e w' => e = .returned (.int .i64 (cmpI a b)) ∧ w' = w := by
  obtain ⟨c, hc⟩ : ∃ c, c = cmpI a b := ⟨_, rfl⟩
  have HC := Lib.hid hc
  rw [← hc]
  clear hc
  by_cases h1 : a < b
  · have hcv : c = -1 := by rw [HC.out]; simp [cmpI, h1]
    subst hcv
    clear HC
    go_enter Try.func98, Try.ntmps98
    go_wp2_with fail
    refine (nan_ok a w).mono ?_
    rintro e w1 ⟨rfl, rfl⟩
    go_wp2_with fail
    refine (nan_ok b _).mono ?_
    rintro e w1 ⟨rfl, rfl⟩
    go_wp2_with fail
    go_ret
    exact ⟨rfl, rfl⟩
  · by_cases h2 : b < a
    · have hcv : c = 1 := by rw [HC.out]; simp [cmpI, h1, h2]
      have h3 : a > b := h2
      subst hcv
      clear HC
      go_enter Try.func98, Try.ntmps98
      go_wp2_with fail
      refine (nan_ok a w).mono ?_
      rintro e w1 ⟨rfl, rfl⟩
      go_wp2_with fail
      refine (nan_ok b _).mono ?_
      rintro e w1 ⟨rfl, rfl⟩
      go_wp2_with fail
      go_ret
      exact ⟨rfl, rfl⟩
    · have hcv : c = 0 := by rw [HC.out]; simp [cmpI, h1, h2]
      have h3 : ¬ a > b := h2
      subst hcv
      clear HC
      go_enter Try.func98, Try.ntmps98
      go_wp2_with fail
      refine (nan_ok a w).mono ?_
      rintro e w1 ⟨rfl, rfl⟩
      go_wp2_with fail
      refine (nan_ok b _).mono ?_
      rintro e w1 ⟨rfl, rfl⟩
      go_wp2_with fail
      go_ret
      exact ⟨rfl, rfl⟩
def cmp2 (p q : Int × Int) : Int := if cmpI p.1 q.1 = 0 then cmpI p.2 q.2 else cmpI p.1 q.1
set_option maxHeartbeats 1000000 in
theorem scmp_ok (g h : Nat) (p q : Int × Int) (w : World) (g0 : w.cell? ⟨g, 0, none⟩ = some (.int .i64 p.1)) (g1 : w.cell? ⟨g, 1, none⟩ = some (.int .i64 p.2)) (h0 : w.cell? ⟨h, 0, none⟩ = some (.int .i64 q.1)) (h1 : w.cell? ⟨h, 1, none⟩ = some (.int .i64 q.2)) :
    Calls Try.prog 69 #[.slice (some ⟨g, 0, none⟩) 2 2, .slice (some ⟨h, 0, none⟩) 2 2] w fun e w' => e = .returned (.int .i64 (cmp2 p q)) ∧ w' = w := by
  obtain ⟨p1, p2⟩ := p
  obtain ⟨q1, q2⟩ := q
  simp only at g0 g1 h0 h1
  obtain ⟨c1, hc1⟩ : ∃ c, c = cmpI p1 q1 := ⟨_, rfl⟩
  obtain ⟨c2, hc2⟩ : ∃ c, c = cmpI p2 q2 := ⟨_, rfl⟩
  have HP := Lib.hid (show cmp2 (p1, p2) (q1, q2) = if c1 = 0 then c2 else c1 by rw [hc1, hc2]; rfl)
  have HC1 := Lib.hid (cmpI_ok p1 q1 w)
  have HC2 := Lib.hid (cmpI_ok p2 q2 w)
  rw [← hc1] at HC1
  rw [← hc2] at HC2
  obtain ⟨r, hr⟩ : ∃ r, r = cmp2 (p1, p2) (q1, q2) := ⟨_, rfl⟩
  rw [← hr] at HP ⊢
  clear hc1 hc2 hr
  go_enter Try.func69, Try.ntmps69
  go_wp2_with fail
  go_loopw [11] (fun jv wr => ∃ j : Nat, jv = .int .i64 j ∧ wr = w ∧ Hid (j ≤ 2 ∧ (1 ≤ j → c1 = 0) ∧ (2 ≤ j → c2 = 0))) (fun jv _ => 2 - (intOf jv).toNat)
  case atStart => exact ⟨0, rfl, rfl, Lib.hid ⟨by omega, by omega, by omega⟩⟩
  case round =>
    obtain ⟨j, rfl, rfl, HJ⟩ := hrel
    rcases (by have := HJ.out; omega : j = 0 ∨ j = 1 ∨ j = 2) with hj0 | hj0 | hj0
    · subst hj0
      by_cases hx0 : c1 = 0
      · have ht : (c1 != 0) = false := by simp [hx0]
        have HX := Lib.hid hx0
        clear hx0
        go_wp2_with fail
        refine HC1.out.mono ?_
        rintro e w1 ⟨rfl, rfl⟩
        go_wp2_with fail
        go_roundw
        case rel => exact ⟨1, rfl, by trivial, Lib.hid ⟨by omega, fun _ => HX.out, by omega⟩⟩
        case measure => simp [intOf]
      · have ht : (c1 != 0) = true := by simp [hx0]
        have HX := Lib.hid hx0
        clear hx0
        go_wp2_with fail
        refine HC1.out.mono ?_
        rintro e w1 ⟨rfl, rfl⟩
        go_wp2_with fail
        go_ret
        exact ⟨by rw [HP.out, if_neg HX.out]; rfl, by trivial⟩
    · subst hj0
      have HX := Lib.hid (HJ.out.2.1 (by omega))
      by_cases hx0 : c2 = 0
      · have ht : (c2 != 0) = false := by simp [hx0]
        have HY := Lib.hid hx0
        clear hx0
        go_wp2_with fail
        refine HC2.out.mono ?_
        rintro e w1 ⟨rfl, rfl⟩
        go_wp2_with fail
        go_roundw
        case rel => exact ⟨2, rfl, by trivial, Lib.hid ⟨by omega, fun _ => HX.out, fun _ => HY.out⟩⟩
        case measure => simp [intOf]
      · have ht : (c2 != 0) = true := by simp [hx0]
        clear hx0
        go_wp2_with fail
        refine HC2.out.mono ?_
        rintro e w1 ⟨rfl, rfl⟩
        go_wp2_with fail
        go_ret
        exact ⟨by rw [HP.out, if_pos HX.out]; rfl, by trivial⟩
    · subst hj0
      have HX := Lib.hid (HJ.out.2.1 (by omega))
      have HY := Lib.hid (HJ.out.2.2 (by omega))
      go_wp2_with fail
      go_ret
      exact ⟨by rw [HP.out, if_pos HX.out, HY.out]; rfl, by trivial⟩

/-- x is w after some draws, with some blocks laid behind it. -/
def Gw (w x : World) : Prop := ∃ q os', x = Go.Sort.grow (w.drewN q) os'
theorem Gw.refl (w : World) : Gw w w := ⟨0, #[], by rw [Go.Sort.grow_empty]; rfl⟩
theorem Gw.drew {w x : World} (h : Gw w x) : Gw w x.drew := by
  obtain ⟨q, os', rfl⟩ := h
  exact ⟨q + 1, os', rfl⟩
theorem Gw.alloc {w x : World} (h : Gw w x) (o : Obj) : Gw w (x.alloc o) := by
  obtain ⟨q, os', rfl⟩ := h
  exact ⟨q, os'.push o, by simp [Go.Sort.grow, World.alloc]⟩
set_option maxHeartbeats 4000000 in
theorem wcmp_ok (p q : Int × Int) (w : World) : Calls Try.prog 68 #[wayV p, wayV q] w fun e w' => e = .returned (.int .i64 (cmp2 p q)) ∧ Gw w w' := by
  unfold wayV
  go_enter Try.func68, Try.ntmps68
  go_upto_region 1 with (fail)
  obtain ⟨W, hW⟩ : ∃ W, W = ((w.alloc (.cells #[.int .i64 p.1, .int .i64 p.2] 90)).alloc (.cells #[.int .i64 q.1, .int .i64 q.2] 90)) := ⟨_, rfl⟩
  have kt : Bk W w.heap.size 90 #[.int .i64 p.1, .int .i64 p.2] := by rw [hW]; exact (Bk.made w _ _).alloc _
  have ku : Bk W (w.heap.size + 1) 90 #[.int .i64 q.1, .int .i64 q.2] := by
    have h := Bk.made (w.alloc (.cells #[.int .i64 p.1, .int .i64 p.2] 90)) 90 #[.int .i64 q.1, .int .i64 q.2]
    simp only [World.size_alloc] at h
    rw [hW]; exact h
  have hsz : w.heap.size + 1 + 1 = W.heap.size := by rw [hW]; simp
  have GW : Gw w W := by rw [hW]; exact ((Gw.refl w).alloc _).alloc _
  rw [← hW]
  clear hW
  have G0 := Lib.hid (Gw.refl W)
  have KEEP : Hid (∀ x, Gw W x → x.cell? ⟨w.heap.size, 0, none⟩ = some (.int .i64 p.1) ∧ x.cell? ⟨w.heap.size, 1, none⟩ = some (.int .i64 p.2) ∧ x.cell? ⟨w.heap.size + 1, 0, none⟩ = some (.int .i64 q.1) ∧ x.cell? ⟨w.heap.size + 1, 1, none⟩ = some (.int .i64 q.2) ∧ Gw W x) := by
    rintro x ⟨q, os', rfl⟩
    have t1 := kt.cell 0; have t2 := kt.cell 1; have u1 := ku.cell 0; have u2 := ku.cell 1
    have l1 := kt.lt; have l2 := ku.lt
    simp at t1 t2 u1 u2
    exact ⟨cell_grown l1 t1 _ _, cell_grown l1 t2 _ _, cell_grown l2 u1 _ _, cell_grown l2 u2 _ _, ⟨q, os', rfl⟩⟩
  obtain ⟨c1, c2, c3, c4, _⟩ := KEEP.out W G0.out
  have HZ := Lib.hid hsz
  have HGW := Lib.hid GW
  clear kt ku hsz GW
  go_region_held3 (fun x => x.cell? ⟨w.heap.size, 0, none⟩ = some (.int .i64 p.1) ∧ x.cell? ⟨w.heap.size, 1, none⟩ = some (.int .i64 p.2) ∧ x.cell? ⟨w.heap.size + 1, 0, none⟩ = some (.int .i64 q.1) ∧ x.cell? ⟨w.heap.size + 1, 1, none⟩ = some (.int .i64 q.2) ∧ Gw W x)
    ((refine KEEP.out _ ?_; first | exact G0.out | exact G0.out.drew | exact G0.out.drew.alloc _))
    (first
     | (go_at_call 69; refine (scmp_ok w.heap.size (w.heap.size + 1) p q _ (by simp [c1]) (by simp [c2]) (by simp [c3]) (by simp [c4])).mono ?_; rintro e w' ⟨rfl, rfl⟩))
  all_goals
    go_wp2_with fail
    go_ret
    refine ⟨rfl, ?_⟩
    first
    | exact HGW.out
    | exact HGW.out.drew
    | exact HGW.out.drew.drew
end Go.Proofs.Ythobffgkggfooaa
