/-
  The reference's views: Leave, Evict.
-/
import Derived.Test.YtdhafagihfdolaaRefKnow
set_option linter.unusedVariables false
set_option linter.unusedSimpArgs false
set_option maxRecDepth 100000
namespace Go.Proofs.Ytdhafagihfdolaa
open Go.RowKit Go.Lib Go.Sort Go.Shelf

set_option maxHeartbeats 4000000 in
theorem rleave_ok (B : Nat) (x : VA) (ds : List Int) (va vp vd : Value) (n : Int) (keep : Bool) (w : World) (h : RfS w B x ds va vp vd) (hg : x.Good) (hB : B ≤ w.heap.size) :
    Calls Try.prog 22 #[rfV x va vp vd, .int .i64 n, .bool keep] w (RfRB B (leaveV x n keep ds).1 (leaveV x n keep ds).2 (decide (n ∈ x.act)) w) := by
  obtain ⟨⟨ao, ac, rfl⟩, ⟨po, pc, rfl⟩, dO, dc, rfl⟩ := h.slices
  obtain ⟨self, A, P, act, pas⟩ := x
  simp only at *
  have hn0 : New w ((w.alloc (.cells #[.int .i64 self, .slice ao act.length ac, .slice po pas.length pc, .int .i64 A, .int .i64 P, .slice dO ds.length dc] 35)).alloc (.cells zR 35)) := ((New.refl w).alloc _).alloc _
  obtain ⟨w1, hw1⟩ : ∃ q, q = ((w.alloc (.cells #[.int .i64 self, .slice ao act.length ac, .slice po pas.length pc, .int .i64 A, .int .i64 P, .slice dO ds.length dc] 35)).alloc (.cells zR 35)) := ⟨_, rfl⟩
  rw [← hw1] at hn0
  have HS := Lib.hid (h.new hn0)
  obtain ⟨k0, k1, _⟩ := rstart2 w #[.int .i64 self, .slice ao act.length ac, .slice po pas.length pc, .int .i64 A, .int .i64 P, .slice dO ds.length dc] w1 (by rw [← hw1]; exact New.refl _)
  have HN := Lib.hid hn0
  have HG := Lib.hid hg
  have K0 := Lib.hid k0
  unfold zR at k1
  have K1 := Lib.hid k1
  obtain ⟨la, hla, hpa⟩ := HS.out.act
  have h64 : act.length ≤ 64 := by have := hg.act.le; have := hg.act.cap; simp only at *; omega
  have HHA := Lib.hid (rhas_ok hla hpa h64 n)
  have HWO := Lib.hid (without_ref _ la n w1 hla (by rw [hpa.length_eq]; show act.length ≤ 1000; omega))
  have HPA := Lib.hid hpa
  clear h hg hn0 hla hpa k0 k1 h64
  unfold rfV
  simp only
  unfold zR at hw1
  go_enter Try.func22, Try.ntmps22
  go_upto_region 1 with fail
  rw [← hw1]
  clear hw1
  obtain ⟨⟨a0, a1, a2, a3, a4, a5⟩, f0, f1, f2, f3, f4, f5⟩ := Bk.six K0.out
  obtain ⟨⟨b0, b1, b2, b3, b4, b5⟩, g0, g1, g2, g3, g4, g5⟩ := Bk.six K1.out
  by_cases hm : n ∈ act
  · have HM := Lib.hid hm
    rw [dec_ hm] at HHA
    clear hm
    go_wp2_with fail
    refine HHA.out.mono ?_
    rintro e w2 ⟨rfl, hww⟩
    rw [hww]
    clear hww HHA
    go_wp2_with fail
    refine HWO.out.mono ?_
    rintro e w4 ⟨v4, rfl, ho4, hn4⟩
    have hv4 := own_slr ho4.out
    obtain ⟨vo4, m4, vc4, hvv⟩ : ∃ ao m cap, v4 = .slice ao m cap := slr_slice hv4
    subst hvv
    obtain ⟨w5, hw5⟩ : ∃ q, q = w4.setCell ⟨w.heap.size, 1, none⟩ (.slice vo4 m4 vc4) := ⟨_, rfl⟩
    have k4 : Bk w4 w.heap.size 35 #[.int .i64 self, .slice ao act.length ac, .slice po pas.length pc, .int .i64 A, .int .i64 P, .slice dO ds.length dc] := hn4.out.bk K0.out
    have hO5 : OT w w4 w5 := by rw [hw5]; exact Tch.setCell (Tch.refl _ _) (fun _ => ⟨Nat.le_refl _, not_int k4 rview_ne_int⟩) _
    have K05 := Lib.hid (show Bk w5 w.heap.size 35 #[.int .i64 self, .slice vo4 m4 vc4, .slice po pas.length pc, .int .i64 A, .int .i64 P, .slice dO ds.length dc] by rw [hw5]; exact k4.store 1 _)
    have K15 := Lib.hid (show Bk w5 (w.heap.size + 1) 35 #[.int .i64 0, .slice none 0 0, .slice none 0 0, .int .i64 0, .int .i64 0, .slice none 0 0] by rw [hw5]; exact (hn4.out.bk K1.out).tch ((Tch.refl (· = w.heap.size) w4).setCell (p := ⟨w.heap.size, 1, none⟩) (fun _ => rfl) _) (by omega))
    have HN5 := Lib.hid (hO5.new (HN.out.then hn4.out))
    have HS5 := Lib.hid (show RfS w5 B ⟨self, A, P, outL act n, pas⟩ ds (.slice vo4 m4 vc4) (.slice po pas.length pc) (.slice dO ds.length dc) from by
      have h5 := (HS.out.new hn4.out).ot hO5 hB
      exact ⟨⟨_, hO5.slr hv4, outL_perm HPA.out n⟩, h5.pas, h5.dr, h5.u⟩)
    clear hO5 hv4 ho4 HWO a0 a1 a2 a3 a4 a5 f0 f1 f2 f3 f4 f5 b0 b1 b2 b3 b4 b5 g0 g1 g2 g3 g4 g5
    obtain ⟨⟨a0, a1, a2, a3, a4, a5⟩, f0, f1, f2, f3, f4, f5⟩ := Bk.six k4
    clear k4 hn4
    go_upto_region 4 with fail
    rw [← hw5]
    clear hw5 a0 a1 a2 a3 a4 a5 f0 f1 f2 f3 f4 f5
    obtain ⟨⟨a0, a1, a2, a3, a4, a5⟩, f0, f1, f2, f3, f4, f5⟩ := Bk.six K05.out
    obtain ⟨⟨b0, b1, b2, b3, b4, b5⟩, g0, g1, g2, g3, g4, g5⟩ := Bk.six K15.out
    cases keep with
    | false =>
      have HE := Lib.hid (show leaveV ⟨self, A, P, act, pas⟩ n false ds = (⟨self, A, P, outL act n, pas⟩, ds) ∧ decide (n ∈ act) = true from ⟨by unfold leaveV; rw [if_pos HM.out]; rfl, dec_ HM.out⟩)
      obtain ⟨w9, hw9⟩ : ∃ q, q = put6 w5 (w.heap.size + 1) (.int .i64 self) (.slice vo4 m4 vc4) (.slice po pas.length pc) (.int .i64 A) (.int .i64 P) (.slice dO ds.length dc) := ⟨_, rfl⟩
      have K9 := Lib.hid (show Bk w9 (w.heap.size + 1) 35 #[.int .i64 self, .slice vo4 m4 vc4, .slice po pas.length pc, .int .i64 A, .int .i64 P, .slice dO ds.length dc] by rw [hw9]; exact bk_put6 K15.out _ _ _ _ _ _)
      have HO9 := Lib.hid (show OT w w5 w9 by rw [hw9]; exact Tch.more (tch_put6 _ _ _ _ _ _ _ _) (fun b _ e => by rw [e]; exact ⟨by omega, not_int K15.out rview_ne_int⟩))
      unfold put6 at hw9
      go_wp2_with fail
      rw [← hw9, HE.out.1, HE.out.2]
      clear hw9 a0 a1 a2 a3 a4 a5 f0 f1 f2 f3 f4 f5 b0 b1 b2 b3 b4 b5 g0 g1 g2 g3 g4 g5
      obtain ⟨⟨b0, b1, b2, b3, b4, b5⟩, _⟩ := Bk.six K9.out
      refine bodyPost_ret (v := .tuple #[rfV ⟨self, A, P, outL act n, pas⟩ (.slice vo4 m4 vc4) (.slice po pas.length pc) (.slice dO ds.length dc), .bool true]) (by simp [results, Try.results22, go_sem, b0, b1, b2, b3, b4, b5, rfV]) rfl ⟨_, _, _, rfl, ?_⟩
      exact rf_fin (w1 := w5) HS5.out HN5.out HO9.out hB
    | true =>
      have HK := Lib.hid (rknow_ok B ⟨self, A, P, outL act n, pas⟩ ds _ _ _ n w5 HS5.out ⟨HG.out.act.out n, HG.out.pas⟩ (by have := HN5.out.size; omega))
      have HE := Lib.hid (show leaveV ⟨self, A, P, act, pas⟩ n true ds = knowV ⟨self, A, P, outL act n, pas⟩ n ds ∧ decide (n ∈ act) = true from ⟨by unfold leaveV; rw [if_pos HM.out]; rfl, dec_ HM.out⟩)
      obtain ⟨⟨y, ds1⟩, hy⟩ : ∃ q, q = knowV ⟨self, A, P, outL act n, pas⟩ n ds := ⟨_, rfl⟩
      rw [← hy] at HK HE
      have hys : y.self = self ∧ y.A = A ∧ y.P = P := by
        have : y = (knowV ⟨self, A, P, outL act n, pas⟩ n ds).1 := by rw [← hy]
        rw [this]
        unfold knowV
        split
        · exact ⟨rfl, rfl, rfl⟩
        · split <;> exact ⟨rfl, rfl, rfl⟩
      obtain ⟨ys, yA, yP, yact, ypas⟩ := y
      obtain ⟨rfl, rfl, rfl⟩ := hys
      unfold rfV at HK
      simp only at HK
      clear hy
      go_wp2_with fail
      refine HK.out.mono ?_
      rintro e w6 ⟨va6, vp6, vd6, rfl, hs6, hn6⟩
      obtain ⟨⟨ao6, ac6, rfl⟩, ⟨po6, pc6, rfl⟩, dO6, dc6, rfl⟩ := hs6.slices
      simp only at hs6
      have K06 := Lib.hid (hn6.bk K05.out)
      have K16 := Lib.hid (hn6.bk K15.out)
      clear a0 a1 a2 a3 a4 a5 f0 f1 f2 f3 f4 f5 b0 b1 b2 b3 b4 b5 g0 g1 g2 g3 g4 g5
      obtain ⟨⟨a0, a1, a2, a3, a4, a5⟩, f0, f1, f2, f3, f4, f5⟩ := Bk.six K06.out
      obtain ⟨w7, hw7⟩ : ∃ q, q = put6 w6 w.heap.size (.int .i64 ys) (.slice ao6 yact.length ac6) (.slice po6 ypas.length pc6) (.int .i64 yA) (.int .i64 yP) (.slice dO6 ds1.length dc6) := ⟨_, rfl⟩
      have hO7 : OT w w6 w7 := by rw [hw7]; exact Tch.more (tch_put6 _ _ _ _ _ _ _ _) (fun b _ e => by rw [e]; exact ⟨Nat.le_refl _, not_int K06.out rview_ne_int⟩)
      have K07 := Lib.hid (show Bk w7 w.heap.size 35 #[.int .i64 ys, .slice ao6 yact.length ac6, .slice po6 ypas.length pc6, .int .i64 yA, .int .i64 yP, .slice dO6 ds1.length dc6] by rw [hw7]; exact bk_put6 K06.out _ _ _ _ _ _)
      have K17 := Lib.hid (show Bk w7 (w.heap.size + 1) 35 #[.int .i64 0, .slice none 0 0, .slice none 0 0, .int .i64 0, .int .i64 0, .slice none 0 0] by rw [hw7]; exact K16.out.tch (tch_put6 _ _ _ _ _ _ _ _) (by omega))
      have HN7 := Lib.hid (hO7.new (HN5.out.then hn6))
      have HS7 := Lib.hid (hs6.ot hO7 hB)
      clear hO7 hn6 hs6
      unfold put6 at hw7
      unfold rfV
      simp only
      go_upto_region 6 with fail
      rw [← hw7]
      clear hw7 a0 a1 a2 a3 a4 a5 f0 f1 f2 f3 f4 f5
      obtain ⟨⟨a0, a1, a2, a3, a4, a5⟩, f0, f1, f2, f3, f4, f5⟩ := Bk.six K07.out
      obtain ⟨⟨b0, b1, b2, b3, b4, b5⟩, g0, g1, g2, g3, g4, g5⟩ := Bk.six K17.out
      obtain ⟨w9, hw9⟩ : ∃ q, q = put6 w7 (w.heap.size + 1) (.int .i64 ys) (.slice ao6 yact.length ac6) (.slice po6 ypas.length pc6) (.int .i64 yA) (.int .i64 yP) (.slice dO6 ds1.length dc6) := ⟨_, rfl⟩
      have K9 := Lib.hid (show Bk w9 (w.heap.size + 1) 35 #[.int .i64 ys, .slice ao6 yact.length ac6, .slice po6 ypas.length pc6, .int .i64 yA, .int .i64 yP, .slice dO6 ds1.length dc6] by rw [hw9]; exact bk_put6 K17.out _ _ _ _ _ _)
      have HO9 := Lib.hid (show OT w w7 w9 by rw [hw9]; exact Tch.more (tch_put6 _ _ _ _ _ _ _ _) (fun b _ e => by rw [e]; exact ⟨by omega, not_int K17.out rview_ne_int⟩))
      unfold put6 at hw9
      go_wp2_with fail
      rw [← hw9, HE.out.1, HE.out.2]
      clear hw9 a0 a1 a2 a3 a4 a5 f0 f1 f2 f3 f4 f5 b0 b1 b2 b3 b4 b5 g0 g1 g2 g3 g4 g5
      obtain ⟨⟨b0, b1, b2, b3, b4, b5⟩, _⟩ := Bk.six K9.out
      refine bodyPost_ret (v := .tuple #[rfV ⟨ys, yA, yP, yact, ypas⟩ (.slice ao6 yact.length ac6) (.slice po6 ypas.length pc6) (.slice dO6 ds1.length dc6), .bool true]) (by simp [results, Try.results22, go_sem, b0, b1, b2, b3, b4, b5, rfV]) rfl ⟨_, _, _, rfl, ?_⟩
      exact rf_fin (w1 := w7) HS7.out HN7.out HO9.out hB
  · have HM := Lib.hid hm
    rw [decn_ hm] at HHA
    clear hm
    have HE := Lib.hid (show leaveV ⟨self, A, P, act, pas⟩ n keep ds = (⟨self, A, P, act, pas⟩, ds) ∧ decide (n ∈ act) = false from ⟨by unfold leaveV; rw [if_neg HM.out], decn_ HM.out⟩)
    obtain ⟨w9, hw9⟩ : ∃ q, q = put6 w1 (w.heap.size + 1) (.int .i64 self) (.slice ao act.length ac) (.slice po pas.length pc) (.int .i64 A) (.int .i64 P) (.slice dO ds.length dc) := ⟨_, rfl⟩
    have K9 := Lib.hid (show Bk w9 (w.heap.size + 1) 35 #[.int .i64 self, .slice ao act.length ac, .slice po pas.length pc, .int .i64 A, .int .i64 P, .slice dO ds.length dc] by rw [hw9]; exact bk_put6 K1.out _ _ _ _ _ _)
    have HO9 := Lib.hid (show OT w w1 w9 by rw [hw9]; exact Tch.more (tch_put6 _ _ _ _ _ _ _ _) (fun b _ e => by rw [e]; exact ⟨by omega, not_int K1.out rview_ne_int⟩))
    unfold put6 at hw9
    go_wp2_with fail
    refine HHA.out.mono ?_
    rintro e w2 ⟨rfl, hww⟩
    rw [hww]
    clear hww HHA
    go_wp2_with fail
    rw [← hw9, HE.out.1, HE.out.2]
    clear hw9 a0 a1 a2 a3 a4 a5 f0 f1 f2 f3 f4 f5 b0 b1 b2 b3 b4 b5 g0 g1 g2 g3 g4 g5
    obtain ⟨⟨b0, b1, b2, b3, b4, b5⟩, _⟩ := Bk.six K9.out
    refine bodyPost_ret (v := .tuple #[rfV ⟨self, A, P, act, pas⟩ (.slice ao act.length ac) (.slice po pas.length pc) (.slice dO ds.length dc), .bool false]) (by simp [results, Try.results22, go_sem, b0, b1, b2, b3, b4, b5, rfV]) rfl ⟨_, _, _, rfl, ?_⟩
    exact rf_fin (w1 := w1) HS.out HN.out HO9.out hB
end Go.Proofs.Ytdhafagihfdolaa
