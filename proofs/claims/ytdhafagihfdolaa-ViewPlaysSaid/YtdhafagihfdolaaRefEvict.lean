/-
  The reference's views: Evict.
-/
import Derived.Test.YtdhafagihfdolaaRefLeave
set_option linter.unusedVariables false
set_option linter.unusedSimpArgs false
set_option maxRecDepth 100000
namespace Go.Proofs.Ytdhafagihfdolaa
open Go.RowKit Go.Lib Go.Sort Go.Shelf

theorem leaveV_stay (x : VA) (n : Int) (k : Bool) (ds : List Int) : (leaveV x n k ds).1.self = x.self ∧ (leaveV x n k ds).1.A = x.A ∧ (leaveV x n k ds).1.P = x.P := by
  unfold leaveV
  split
  · split
    · unfold knowV
      split
      · exact ⟨rfl, rfl, rfl⟩
      · split <;> exact ⟨rfl, rfl, rfl⟩
    · exact ⟨rfl, rfl, rfl⟩
  · exact ⟨rfl, rfl, rfl⟩
set_option maxHeartbeats 4000000 in
theorem revict_ok (B : Nat) (x : VA) (ds : List Int) (va vp vd : Value) (w : World) (h : RfS w B x ds va vp vd) (hg : x.Good) (hB : B ≤ w.heap.size) :
    Calls Try.prog 20 #[rfV x va vp vd] w (RfRNB B (evictV x ds).1 (evictV x ds).2 (evictN x ds) (!decide (x.act = [])) w) := by
  obtain ⟨⟨ao, ac, rfl⟩, ⟨po, pc, rfl⟩, dO, dc, rfl⟩ := h.slices
  obtain ⟨self, A, P, act, pas⟩ := x
  simp only at *
  have hn0 : New w ((w.alloc (.cells #[.int .i64 self, .slice ao act.length ac, .slice po pas.length pc, .int .i64 A, .int .i64 P, .slice dO ds.length dc] 35)).alloc (.cells zR 35)) := ((New.refl w).alloc _).alloc _
  obtain ⟨w1, hw1⟩ : ∃ q, q = ((w.alloc (.cells #[.int .i64 self, .slice ao act.length ac, .slice po pas.length pc, .int .i64 A, .int .i64 P, .slice dO ds.length dc] 35)).alloc (.cells zR 35)) := ⟨_, rfl⟩
  rw [← hw1] at hn0
  have HS := Lib.hid (h.new hn0)
  obtain ⟨k0, k1, _⟩ := rstart2 w #[.int .i64 self, .slice ao act.length ac, .slice po pas.length pc, .int .i64 A, .int .i64 P, .slice dO ds.length dc] w1 (by rw [← hw1]; exact New.refl _)
  have HN := Lib.hid hn0
  have HG := Lib.hid hg
  have K0 := Lib.hid k0
  unfold zR at k1
  have K1 := Lib.hid k1
  clear h hg hn0 k0 k1
  unfold rfV
  simp only
  unfold zR at hw1
  go_enter Try.func20, Try.ntmps20
  go_upto_region 1 with fail
  rw [← hw1]
  clear hw1
  obtain ⟨⟨a0, a1, a2, a3, a4, a5⟩, f0, f1, f2, f3, f4, f5⟩ := Bk.six K0.out
  obtain ⟨⟨b0, b1, b2, b3, b4, b5⟩, g0, g1, g2, g3, g4, g5⟩ := Bk.six K1.out
  by_cases hm : act = []
  · have HE := Lib.hid (show evictV ⟨self, A, P, act, pas⟩ ds = (⟨self, A, P, act, pas⟩, ds) ∧ evictN ⟨self, A, P, act, pas⟩ ds = 0 ∧ (!decide (act = [])) = false from ⟨by unfold evictV; rw [if_pos hm], by unfold evictN; rw [if_pos hm], by rw [dec_ hm]; rfl⟩)
    have hz : act.length = 0 := by rw [hm]; rfl
    have hz2 : ((act.length : Nat) : Int) = 0 := by omega
    obtain ⟨w9, hw9⟩ : ∃ q, q = put6 w1 (w.heap.size + 1) (.int .i64 self) (.slice ao act.length ac) (.slice po pas.length pc) (.int .i64 A) (.int .i64 P) (.slice dO ds.length dc) := ⟨_, rfl⟩
    have K9 := Lib.hid (show Bk w9 (w.heap.size + 1) 35 #[.int .i64 self, .slice ao act.length ac, .slice po pas.length pc, .int .i64 A, .int .i64 P, .slice dO ds.length dc] by rw [hw9]; exact bk_put6 K1.out _ _ _ _ _ _)
    have HO9 := Lib.hid (show OT w w1 w9 by rw [hw9]; exact Tch.more (tch_put6 _ _ _ _ _ _ _ _) (fun b _ e => by rw [e]; exact ⟨by omega, not_int K1.out rview_ne_int⟩))
    unfold put6 at hw9
    clear hm
    rw [hz] at a1 hw9 K9 HS ⊢
    clear hz hz2
    go_wp2_with fail
    rw [← hw9, HE.out.1, HE.out.2.1, HE.out.2.2]
    clear hw9 a0 a1 a2 a3 a4 a5 f0 f1 f2 f3 f4 f5 b0 b1 b2 b3 b4 b5 g0 g1 g2 g3 g4 g5
    obtain ⟨⟨b0, b1, b2, b3, b4, b5⟩, _⟩ := Bk.six K9.out
    refine bodyPost_ret (v := .tuple #[rfV ⟨self, A, P, act, pas⟩ (.slice ao 0 ac) (.slice po pas.length pc) (.slice dO ds.length dc), .int .i64 0, .bool false]) (by simp [results, Try.results20, go_sem, b0, b1, b2, b3, b4, b5, rfV]) rfl ⟨_, _, _, rfl, ?_⟩
    exact rf_fin (w1 := w1) HS.out HN.out HO9.out hB
  · have hl0 : 0 < act.length := List.length_pos_iff.2 hm
    have hl1 : ((act.length : Nat) : Int) ≠ 0 := by omega
    have h64 : act.length ≤ 64 := by have := HG.out.act.le; have h2 := HG.out.act.cap; simp only at *; omega
    obtain ⟨la, hla, hpa⟩ := HS.out.act
    have HONE := Lib.hid (rone_ok B ⟨self, A, P, act, pas⟩ ds _ _ _ _ la act w1 HS.out hla hpa HG.out.act.asc hm h64 (by have := HN.out.size; omega))
    have HE := Lib.hid (show evictV ⟨self, A, P, act, pas⟩ ds = leaveV ⟨self, A, P, act, pas⟩ (pick act ds) true (belowT ds act.length) ∧ evictN ⟨self, A, P, act, pas⟩ ds = pick act ds ∧ (!decide (act = [])) = true from ⟨by unfold evictV; rw [if_neg hm], by unfold evictN; rw [if_neg hm], by rw [decn_ hm]; rfl⟩)
    obtain ⟨n, hn⟩ : ∃ n, n = pick act ds := ⟨_, rfl⟩
    obtain ⟨ds1, hds1⟩ : ∃ q, q = belowT ds act.length := ⟨_, rfl⟩
    rw [← hn, ← hds1] at HONE HE
    unfold rfV at HONE
    simp only at HONE
    clear hm h64 hla hpa hn hds1
    go_wp2_with fail
    refine HONE.out.mono ?_
    rintro e w2 ⟨va2, vp2, vd2, rfl, hs2, hn2⟩
    obtain ⟨⟨ao2, ac2, rfl⟩, ⟨po2, pc2, rfl⟩, dO2, dc2, rfl⟩ := hs2.slices
    simp only at hs2
    obtain ⟨w3, hw3⟩ : ∃ q, q = w2.alloc (.cells #[.int .i64 self, .slice ao2 act.length ac2, .slice po2 pas.length pc2, .int .i64 A, .int .i64 P, .slice dO2 ds1.length dc2] 35) := ⟨_, rfl⟩
    have hn23 : New w2 w3 := by rw [hw3]; exact (New.refl _).alloc _
    have HZ3 := Lib.hid (show Bk w3 w2.heap.size 35 #[.int .i64 self, .slice ao2 act.length ac2, .slice po2 pas.length pc2, .int .i64 A, .int .i64 P, .slice dO2 ds1.length dc2] by rw [hw3]; exact Bk.made _ _ _)
    have HN3 := Lib.hid (HN.out.then (hn2.then hn23))
    have HN2 := Lib.hid (HN.out.then hn2)
    have HL12 := Lib.hid hn2.size
    have K13 := Lib.hid ((hn2.then hn23).bk K1.out)
    have HLV := Lib.hid (rleave_ok B ⟨self, A, P, act, pas⟩ ds1 _ _ _ n true w3 (hs2.new hn23) HG.out (by have := HN3.out.size; omega))
    have hst := leaveV_stay ⟨self, A, P, act, pas⟩ n true ds1
    obtain ⟨⟨y, ds2⟩, hy⟩ : ∃ q, q = leaveV ⟨self, A, P, act, pas⟩ n true ds1 := ⟨_, rfl⟩
    rw [← hy] at HLV HE hst
    obtain ⟨ys, yA, yP, yact, ypas⟩ := y
    obtain ⟨rfl, rfl, rfl⟩ := hst
    obtain ⟨bb, hbb⟩ : ∃ b, b = decide (n ∈ act) := ⟨_, rfl⟩
    unfold rfV at HLV
    simp only at HLV
    rw [← hbb] at HLV
    clear hs2 hn2 hn23 hy hbb HONE a0 a1 a2 a3 a4 a5 f0 f1 f2 f3 f4 f5 b0 b1 b2 b3 b4 b5 g0 g1 g2 g3 g4 g5
    obtain ⟨⟨z0, z1, z2, z3, z4, z5⟩, y0, y1, y2, y3, y4, y5⟩ := Bk.six HZ3.out
    unfold rfV
    simp only
    go_upto_region 4 with fail
    rw [← hw3]
    clear hw3
    go_wp2_with fail
    refine HLV.out.mono ?_
    rintro e w4 ⟨va4, vp4, vd4, rfl, hs4, hn4⟩
    obtain ⟨⟨ao4, ac4, rfl⟩, ⟨po4, pc4, rfl⟩, dO4, dc4, rfl⟩ := hs4.slices
    simp only at hs4
    have hZ4 := hn4.bk HZ3.out
    have hwz : w.heap.size ≤ w2.heap.size := HN2.out.size
    obtain ⟨w5, hw5⟩ : ∃ q, q = put6 w4 w2.heap.size (.int .i64 ys) (.slice ao4 yact.length ac4) (.slice po4 ypas.length pc4) (.int .i64 yA) (.int .i64 yP) (.slice dO4 ds2.length dc4) := ⟨_, rfl⟩
    have hO5 : OT w w4 w5 := by rw [hw5]; exact Tch.more (tch_put6 _ _ _ _ _ _ _ _) (fun b _ e => by rw [e]; exact ⟨hwz, not_int hZ4 rview_ne_int⟩)
    have HZ5 := Lib.hid (show Bk w5 w2.heap.size 35 #[.int .i64 ys, .slice ao4 yact.length ac4, .slice po4 ypas.length pc4, .int .i64 yA, .int .i64 yP, .slice dO4 ds2.length dc4] by rw [hw5]; exact bk_put6 hZ4 _ _ _ _ _ _)
    have hlt1 : w.heap.size + 1 < w2.heap.size := by
      have h1 := K1.out.lt
      have h3 := HL12.out
      omega
    have K15 := Lib.hid (show Bk w5 (w.heap.size + 1) 35 #[.int .i64 0, .slice none 0 0, .slice none 0 0, .int .i64 0, .int .i64 0, .slice none 0 0] by rw [hw5]; exact (hn4.bk K13.out).tch (tch_put6 _ _ _ _ _ _ _ _) (by omega))
    have HN5 := Lib.hid (hO5.new (HN3.out.then hn4))
    have HS5 := Lib.hid (hs4.ot hO5 hB)
    clear hO5 hn4 hs4 z0 z1 z2 z3 z4 z5 y0 y1 y2 y3 y4 y5
    obtain ⟨⟨z0, z1, z2, z3, z4, z5⟩, y0, y1, y2, y3, y4, y5⟩ := Bk.six hZ4
    clear hZ4
    unfold put6 at hw5
    unfold rfV
    simp only
    go_upto_region 5 with fail
    rw [← hw5]
    clear hw5 z0 z1 z2 z3 z4 z5 y0 y1 y2 y3 y4 y5
    obtain ⟨⟨z0, z1, z2, z3, z4, z5⟩, y0, y1, y2, y3, y4, y5⟩ := Bk.six HZ5.out
    obtain ⟨⟨b0, b1, b2, b3, b4, b5⟩, g0, g1, g2, g3, g4, g5⟩ := Bk.six K15.out
    obtain ⟨w9, hw9⟩ : ∃ q, q = put6 w5 (w.heap.size + 1) (.int .i64 ys) (.slice ao4 yact.length ac4) (.slice po4 ypas.length pc4) (.int .i64 yA) (.int .i64 yP) (.slice dO4 ds2.length dc4) := ⟨_, rfl⟩
    have K9 := Lib.hid (show Bk w9 (w.heap.size + 1) 35 #[.int .i64 ys, .slice ao4 yact.length ac4, .slice po4 ypas.length pc4, .int .i64 yA, .int .i64 yP, .slice dO4 ds2.length dc4] by rw [hw9]; exact bk_put6 K15.out _ _ _ _ _ _)
    have HO9 := Lib.hid (show OT w w5 w9 by rw [hw9]; exact Tch.more (tch_put6 _ _ _ _ _ _ _ _) (fun b _ e => by rw [e]; exact ⟨by omega, not_int K15.out rview_ne_int⟩))
    unfold put6 at hw9
    go_wp2_with fail
    rw [← hw9, HE.out.1, HE.out.2.1, HE.out.2.2]
    clear hw9 z0 z1 z2 z3 z4 z5 y0 y1 y2 y3 y4 y5 b0 b1 b2 b3 b4 b5 g0 g1 g2 g3 g4 g5
    obtain ⟨⟨b0, b1, b2, b3, b4, b5⟩, _⟩ := Bk.six K9.out
    refine bodyPost_ret (v := .tuple #[rfV ⟨ys, yA, yP, yact, ypas⟩ (.slice ao4 yact.length ac4) (.slice po4 ypas.length pc4) (.slice dO4 ds2.length dc4), .int .i64 n, .bool true]) (by simp [results, Try.results20, go_sem, b0, b1, b2, b3, b4, b5, rfV]) rfl ⟨_, _, _, rfl, ?_⟩
    exact rf_fin (w1 := w5) HS5.out HN5.out HO9.out hB
end Go.Proofs.Ytdhafagihfdolaa
