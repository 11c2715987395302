/-
  MessageSames: the core.
-/
import Derived.Test.YteaeodinllpfbaaMsgOpen
import Derived.Test.YteaeodinllpfbaaMsgSpk
set_option linter.unusedVariables false
set_option linter.unusedSimpArgs false
set_option maxRecDepth 100000
namespace Go.Proofs.Yteaeodinllpfbaa
open Go.RowKit

theorem MsgIs.shape {w : World} {S : Nat → Prop} {m : MsgA} {v : MsgV} (h : MsgIs w S m v) : ∃ an cn ai ci ar cr, v = ⟨.slice an m.nodes.length cn, .slice ai m.ids.length ci, .slice ar m.recs.length cr⟩ := by
  obtain ⟨vn, vi, vr⟩ := v
  obtain ⟨an, cn, e1, _, _⟩ := h.n.shape
  obtain ⟨ai, ci, e2, _, _⟩ := h.i.shape
  obtain ⟨ar, cr, e3, _, _⟩ := h.r.shape
  simp only at e1 e2 e3
  subst e1 e2 e3
  exact ⟨an, cn, ai, ci, ar, cr, rfl⟩
theorem LawIs.shape {w : World} {S : Nat → Prop} {m : LawA} {v : MsgV} (h : LawIs w S m v) : ∃ an cn ai ci ar cr, v = ⟨.slice an m.nodes.length cn, .slice ai m.ids.length ci, .slice ar m.recs.length cr⟩ := by
  obtain ⟨vn, vi, vr⟩ := v
  obtain ⟨an, cn, e1, _, _⟩ := h.n.shape
  obtain ⟨ai, ci, e2, _, _⟩ := h.i.shape
  obtain ⟨ar, cr, e3, _, _⟩ := h.r.shape
  simp only at e1 e2 e3
  subst e1 e2 e3
  exact ⟨an, cn, ai, ci, ar, cr, rfl⟩
def LawW (x : LawA) : Prop := (∀ q ∈ x.ids, RecW q) ∧ (∀ q ∈ x.recs, RecW q)
theorem cut_wf {x : LawA} (h : LawW x) : Wf (cutM x) := by
  refine ⟨fun i hi => ?_, fun r hr => ?_⟩
  · obtain ⟨q, hq, rfl⟩ := List.mem_map.1 hi
    exact h.1 q (List.mem_of_mem_take hq)
  · obtain ⟨q, hq, rfl⟩ := List.mem_map.1 hr
    exact h.2 q (List.mem_of_mem_take hq)
/-- Two messages are the same just where their bytes are. -/
theorem same_enc {m n : MsgA} (hm : (encE m).2 = 0) (hn : (encE n).2 = 0) (wm : Wf m) (wn : Wf n) : m = n ↔ (encE m).1 = (encE n).1 := by
  obtain ⟨a1, a2, a3⟩ := encE_zero hm
  obtain ⟨b1, b2, b3⟩ := encE_zero hn
  rw [a3, b3]
  exact ⟨fun h => by rw [h], enc_inj a1 wm b1 wn⟩
theorem two_new (w : World) (a b : Obj) : New w ((w.alloc a).alloc b) := ((New.refl w).alloc a).alloc b

set_option maxHeartbeats 4000000 in
theorem messageSames_core (x y : LawA) (u v : MsgV) (cp : Bool) (W : World) (hx : LawIs W (· < W.heap.size) x u) (hy : LawIs W (· < W.heap.size) y v) (wx : LawW x) (wy : LawW y) :
    Calls Try.prog 5 #[.agg (lawC x u), .agg (lawC y v), .bool cp] W fun e W' => e = .returned (.bool true) ∧ Below W.heap.size W W' := by
  obtain ⟨x1, x2, x3, x4, x5, x6, rfl⟩ := hx.shape
  obtain ⟨y1, y2, y3, y4, y5, y6, rfl⟩ := hy.shape
  obtain ⟨w1, hw1⟩ : ∃ w1, w1 = (W.alloc (.cells (lawC x ⟨.slice x1 x.nodes.length x2, .slice x3 x.ids.length x4, .slice x5 x.recs.length x6⟩) 25)).alloc (.cells (lawC y ⟨.slice y1 y.nodes.length y2, .slice y3 y.ids.length y4, .slice y5 y.recs.length y6⟩) 25) := ⟨_, rfl⟩
  have hn1 : New W w1 := by rw [hw1]; exact two_new _ _ _
  have bX : Bk w1 W.heap.size 25 (lawC x ⟨.slice x1 x.nodes.length x2, .slice x3 x.ids.length x4, .slice x5 x.recs.length x6⟩) := by rw [hw1]; exact (Bk.made W _ _).alloc _
  have bY : Bk w1 (W.heap.size + 1) 25 (lawC y ⟨.slice y1 y.nodes.length y2, .slice y3 y.ids.length y4, .slice y5 y.recs.length y6⟩) := by rw [hw1]; exact bk_second _ _ _ _
  have HX := Lib.hid hx
  have HY := Lib.hid hy
  have BX := Lib.hid bX
  have BY := Lib.hid bY
  have HN1 := Lib.hid hn1
  have HW1 := Lib.hid hw1
  have WX := Lib.hid wx
  have WY := Lib.hid wy
  clear hx hy bX bY hn1 hw1 wx wy
  simp only [lawC]
  go_enter Try.func5, Try.ntmps5
  go_wp2_with fail
  have hwx := HW1.out
  simp only [lawC] at hwx
  rw [← hwx]
  clear hwx
  refine (speaks5 w1).mono ?_
  rintro e w2 ⟨rfl, hn2⟩
  have HN2 := Lib.hid (HN1.out.then hn2)
  have BX2 := Lib.hid (hn2.bk BX.out)
  have BY2 := Lib.hid (hn2.bk BY.out)
  clear hn2
  have cX0 := BX2.out.cell 0
  have cX1 := BX2.out.cell 1
  have cX2 := BX2.out.cell 2
  have cX3 := BX2.out.cell 3
  have cX4 := BX2.out.cell 4
  have cX5 := BX2.out.cell 5
  have cX6 := BX2.out.cell 6
  have cY0 := BY2.out.cell 0
  have cY1 := BY2.out.cell 1
  have cY2 := BY2.out.cell 2
  have cY3 := BY2.out.cell 3
  have cY4 := BY2.out.cell 4
  have cY5 := BY2.out.cell 5
  have cY6 := BY2.out.cell 6
  have f0 := BY2.out.frozen 0
  have f1 := BY2.out.frozen 1
  have f2 := BY2.out.frozen 2
  have f3 := BY2.out.frozen 3
  have f4 := BY2.out.frozen 4
  have f5 := BY2.out.frozen 5
  have f6 := BY2.out.frozen 6
  simp [lawC] at cX0 cX1 cX2 cX3 cX4 cX5 cX6 cY0 cY1 cY2 cY3 cY4 cY5 cY6
  go_upto_if 17 with fail
  go_cut [] (fun wc => ∃ y' p1 p2 p3 p4 p5 p6, Hid (cp = true → y' = x) ∧ Hid (Bk wc (W.heap.size + 1) 25 (lawC y' ⟨.slice p1 y'.nodes.length p2, .slice p3 y'.ids.length p4, .slice p5 y'.recs.length p6⟩)) ∧ Hid (Bk wc W.heap.size 25 (lawC x ⟨.slice x1 x.nodes.length x2, .slice x3 x.ids.length x4, .slice x5 x.recs.length x6⟩)) ∧ Hid (LawIs wc (· < W.heap.size) y' ⟨.slice p1 y'.nodes.length p2, .slice p3 y'.ids.length p4, .slice p5 y'.recs.length p6⟩) ∧ Hid (LawW y') ∧ Hid (New W wc))
  case first =>
    cases cp
    · go_wp2_with fail
      go_meet
      exact ⟨y, _, _, _, _, _, _, Lib.hid (fun h => by cases h), BY2, BX2, Lib.hid (HN2.out.law HY.out), WY, HN2⟩
    · go_wp2_with fail
      go_meet
      have hb := (((((((BY2.out.store 0 (.int .i64 x.kind)).store 1 (.int .i64 x.node)).store 2 (.int .i64 x.walk)).store 3 (.bool x.high)).store 4 (.slice x1 x.nodes.length x2)).store 5 (.slice x3 x.ids.length x4)).store 6 (.slice x5 x.recs.length x6))
      refine ⟨x, x1, x2, x3, x4, x5, x6, Lib.hid (fun _ => rfl), Lib.hid (by simpa [lawC] using hb), Lib.hid (((((((BX2.out.other (p := ⟨W.heap.size + 1, 0, none⟩) (by simp) (.int .i64 x.kind)).other (p := ⟨W.heap.size + 1, 1, none⟩) (by simp) (.int .i64 x.node)).other (p := ⟨W.heap.size + 1, 2, none⟩) (by simp) (.int .i64 x.walk)).other (p := ⟨W.heap.size + 1, 3, none⟩) (by simp) (.bool x.high)).other (p := ⟨W.heap.size + 1, 4, none⟩) (by simp) (.slice x1 x.nodes.length x2)).other (p := ⟨W.heap.size + 1, 5, none⟩) (by simp) (.slice x3 x.ids.length x4)).other (p := ⟨W.heap.size + 1, 6, none⟩) (by simp) (.slice x5 x.recs.length x6)), Lib.hid ?_, WX, Lib.hid ?_⟩
      · exact (HN2.out.law HX.out).keep (Tch.size ((((((((Tch.refl (fun b => b = W.heap.size + 1) w2).setCell (p := ⟨W.heap.size + 1, 0, none⟩) (fun _ => rfl) (.int .i64 x.kind)).setCell (p := ⟨W.heap.size + 1, 1, none⟩) (fun _ => rfl) (.int .i64 x.node)).setCell (p := ⟨W.heap.size + 1, 2, none⟩) (fun _ => rfl) (.int .i64 x.walk)).setCell (p := ⟨W.heap.size + 1, 3, none⟩) (fun _ => rfl) (.bool x.high)).setCell (p := ⟨W.heap.size + 1, 4, none⟩) (fun _ => rfl) (.slice x1 x.nodes.length x2)).setCell (p := ⟨W.heap.size + 1, 5, none⟩) (fun _ => rfl) (.slice x3 x.ids.length x4)).setCell (p := ⟨W.heap.size + 1, 6, none⟩) (fun _ => rfl) (.slice x5 x.recs.length x6))) (fun b hb hs => Tch.block ((((((((Tch.refl (fun b => b = W.heap.size + 1) w2).setCell (p := ⟨W.heap.size + 1, 0, none⟩) (fun _ => rfl) (.int .i64 x.kind)).setCell (p := ⟨W.heap.size + 1, 1, none⟩) (fun _ => rfl) (.int .i64 x.node)).setCell (p := ⟨W.heap.size + 1, 2, none⟩) (fun _ => rfl) (.int .i64 x.walk)).setCell (p := ⟨W.heap.size + 1, 3, none⟩) (fun _ => rfl) (.bool x.high)).setCell (p := ⟨W.heap.size + 1, 4, none⟩) (fun _ => rfl) (.slice x1 x.nodes.length x2)).setCell (p := ⟨W.heap.size + 1, 5, none⟩) (fun _ => rfl) (.slice x3 x.ids.length x4)).setCell (p := ⟨W.heap.size + 1, 6, none⟩) (fun _ => rfl) (.slice x5 x.recs.length x6)) b hb (by omega))
      · exact Tch.trans HN2.out ((((((((Tch.refl (fun b => b = W.heap.size + 1) w2).setCell (p := ⟨W.heap.size + 1, 0, none⟩) (fun _ => rfl) (.int .i64 x.kind)).setCell (p := ⟨W.heap.size + 1, 1, none⟩) (fun _ => rfl) (.int .i64 x.node)).setCell (p := ⟨W.heap.size + 1, 2, none⟩) (fun _ => rfl) (.int .i64 x.walk)).setCell (p := ⟨W.heap.size + 1, 3, none⟩) (fun _ => rfl) (.bool x.high)).setCell (p := ⟨W.heap.size + 1, 4, none⟩) (fun _ => rfl) (.slice x1 x.nodes.length x2)).setCell (p := ⟨W.heap.size + 1, 5, none⟩) (fun _ => rfl) (.slice x3 x.ids.length x4)).setCell (p := ⟨W.heap.size + 1, 6, none⟩) (fun _ => rfl) (.slice x5 x.recs.length x6)) (fun b hb h => by omega)
  case rest =>
    obtain ⟨y', p1, p2, p3, p4, p5, p6, HCP, BY3, BX3, HY3, WY3, HN3⟩ := hcut
    obtain ⟨w3, rfl⟩ : ∃ z, z = wc := ⟨_, rfl⟩
    clear cX0 cX1 cX2 cX3 cX4 cX5 cX6 cY0 cY1 cY2 cY3 cY4 cY5 cY6 f0 f1 f2 f3 f4 f5 f6 BX2 BY2 HN2 BX BY
    have cX0 := BX3.out.cell 0
    have cX1 := BX3.out.cell 1
    have cX2 := BX3.out.cell 2
    have cX3 := BX3.out.cell 3
    have cX4 := BX3.out.cell 4
    have cX5 := BX3.out.cell 5
    have cX6 := BX3.out.cell 6
    simp [lawC] at cX0 cX1 cX2 cX3 cX4 cX5 cX6
    have hb1 := both_ok x ⟨.slice x1 x.nodes.length x2, .slice x3 x.ids.length x4, .slice x5 x.recs.length x6⟩ (· < W.heap.size) w3 (HN3.out.law HX.out)
    simp only [lawC] at hb1
    have HB1 := Lib.hid hb1
    clear hb1
    go_wp2_with fail
    refine HB1.out.mono ?_
    rintro e w4 ⟨hn4, va, vb, rfl, hva, hvb⟩
    obtain ⟨a1, a2, a3, a4, a5, a6, rfl⟩ := hva.shape
    obtain ⟨b1, b2, b3, b4, b5, b6, rfl⟩ := hvb.shape
    obtain ⟨m, hm⟩ : ∃ m, m = cutM x := ⟨_, rfl⟩
    have hwm : Wf m := by rw [hm]; exact cut_wf WX.out
    rw [← hm] at hva ⊢
    have hMN : cp = true → cutM y' = m := fun h => by rw [hm, HCP.out h]
    have HMN := Lib.hid hMN
    obtain ⟨w5, hw5⟩ : ∃ w5, w5 = (w4.alloc (.cells (msgC m ⟨.slice a1 m.nodes.length a2, .slice a3 m.ids.length a4, .slice a5 m.recs.length a6⟩) 30)).alloc (.cells (msgC m ⟨.slice b1 m.nodes.length b2, .slice b3 m.ids.length b4, .slice b5 m.recs.length b6⟩) 34) := ⟨_, rfl⟩
    have hn5 : New w4 w5 := by rw [hw5]; exact two_new _ _ _
    have bA : Bk w5 w4.heap.size 30 (msgC m ⟨.slice a1 m.nodes.length a2, .slice a3 m.ids.length a4, .slice a5 m.recs.length a6⟩) := by rw [hw5]; exact (Bk.made w4 _ _).alloc _
    have HN5 := Lib.hid ((HN3.out.then hn4).then hn5)
    have HVA := Lib.hid ((hn5.msg hva).more (T := fun _ => True) (fun _ _ _ => trivial))
    have BA := Lib.hid bA
    have BY5 := Lib.hid (hn5.bk (hn4.bk BY3.out))
    have HY5 := Lib.hid (hn5.law (hn4.law HY3.out))
    have HW5 := Lib.hid hw5
    have HWM := Lib.hid hwm
    clear hva hvb hn4 hn5 bA hw5 hm hwm hMN cX0 cX1 cX2 cX3 cX4 cX5 cX6 BX3 BY3 HY3 HB1
    have cY0 := BY5.out.cell 0
    have cY1 := BY5.out.cell 1
    have cY2 := BY5.out.cell 2
    have cY3 := BY5.out.cell 3
    have cY4 := BY5.out.cell 4
    have cY5 := BY5.out.cell 5
    have cY6 := BY5.out.cell 6
    simp [lawC] at cY0 cY1 cY2 cY3 cY4 cY5 cY6
    have hb2 := both_ok y' ⟨.slice p1 y'.nodes.length p2, .slice p3 y'.ids.length p4, .slice p5 y'.recs.length p6⟩ (· < W.heap.size) w5 HY5.out
    simp only [lawC] at hb2
    have HB2 := Lib.hid hb2
    clear hb2
    simp only [msgC]
    go_upto_region 6 with fail
    have hwx := HW5.out
    simp only [msgC] at hwx
    rw [← hwx]
    clear hwx
    go_wp2_with fail
    refine HB2.out.mono ?_
    rintro e w6 ⟨hn6, vc, vd, rfl, hvc, hvd⟩
    obtain ⟨c1, c2, c3, c4, c5, c6, rfl⟩ := hvc.shape
    obtain ⟨d1, d2, d3, d4, d5, d6, rfl⟩ := hvd.shape
    obtain ⟨n, hn⟩ : ∃ n, n = cutM y' := ⟨_, rfl⟩
    have hwn : Wf n := by rw [hn]; exact cut_wf WY3.out
    rw [← hn] at hvc ⊢
    have HMN2 := Lib.hid (show cp = true → m = n from fun h => by rw [hn, HMN.out h])
    obtain ⟨w7, hw7⟩ : ∃ w7, w7 = (w6.alloc (.cells (msgC n ⟨.slice c1 n.nodes.length c2, .slice c3 n.ids.length c4, .slice c5 n.recs.length c6⟩) 30)).alloc (.cells (msgC n ⟨.slice d1 n.nodes.length d2, .slice d3 n.ids.length d4, .slice d5 n.recs.length d6⟩) 34) := ⟨_, rfl⟩
    have hn7 : New w6 w7 := by rw [hw7]; exact two_new _ _ _
    have bC : Bk w7 w6.heap.size 30 (msgC n ⟨.slice c1 n.nodes.length c2, .slice c3 n.ids.length c4, .slice c5 n.recs.length c6⟩) := by rw [hw7]; exact (Bk.made w6 _ _).alloc _
    have HN7 := Lib.hid ((HN5.out.then hn6).then hn7)
    have HVC := Lib.hid ((hn7.msg hvc).more (T := fun _ => True) (fun _ _ _ => trivial))
    have HVA7 := Lib.hid (hn7.msg (hn6.msg HVA.out))
    have BC := Lib.hid bC
    have BA7 := Lib.hid (hn7.bk (hn6.bk BA.out))
    have HW7 := Lib.hid hw7
    have HWN := Lib.hid hwn
    clear hvc hvd hn6 hn7 bC hw7 hn hwn cY0 cY1 cY2 cY3 cY4 cY5 cY6 BY5 HY5 HB2 HVA BA HW5
    simp only [msgC]
    have he1 := encode_ok m _ _ w7 HVA7.out HWM.out
    simp only [msgC] at he1
    have HE1 := Lib.hid he1
    clear he1
    have cA0 := BA7.out.cell 0
    have cA1 := BA7.out.cell 1
    have cA2 := BA7.out.cell 2
    have cA3 := BA7.out.cell 3
    have cA4 := BA7.out.cell 4
    have cA5 := BA7.out.cell 5
    have cA6 := BA7.out.cell 6
    simp [msgC] at cA0 cA1 cA2 cA3 cA4 cA5 cA6
    go_upto_region 7 with fail
    have hwx := HW7.out
    simp only [msgC] at hwx
    rw [← hwx]
    clear hwx
    go_wp2_with fail
    refine HE1.out.mono ?_
    rintro e w8 ⟨rfl, hn8⟩
    have HN8 := Lib.hid (HN7.out.then hn8)
    have HVC8 := Lib.hid (hn8.msg HVC.out)
    have HVA8 := Lib.hid (hn8.msg HVA7.out)
    have BC8 := Lib.hid (hn8.bk BC.out)
    have BA8 := Lib.hid (hn8.bk BA7.out)
    clear hn8 cA0 cA1 cA2 cA3 cA4 cA5 cA6 HVC HVA7 BC BA7 HE1 HW7 HN7
    have he2 := encode_ok n _ _ w8 HVC8.out HWN.out
    simp only [msgC] at he2
    have HE2 := Lib.hid he2
    clear he2
    have cC0 := BC8.out.cell 0
    have cC1 := BC8.out.cell 1
    have cC2 := BC8.out.cell 2
    have cC3 := BC8.out.cell 3
    have cC4 := BC8.out.cell 4
    have cC5 := BC8.out.cell 5
    have cC6 := BC8.out.cell 6
    simp [msgC] at cC0 cC1 cC2 cC3 cC4 cC5 cC6
    go_wp2_with fail
    refine HE2.out.mono ?_
    rintro e w9 ⟨rfl, hn9⟩
    have HN9 := Lib.hid (HN8.out.then hn9)
    have HVC9 := Lib.hid (hn9.msg HVC8.out)
    have HVA9 := Lib.hid (hn9.msg HVA8.out)
    have BC9 := Lib.hid (hn9.bk BC8.out)
    have BA9 := Lib.hid (hn9.bk BA8.out)
    clear hn9 cC0 cC1 cC2 cC3 cC4 cC5 cC6 HVC8 HVA8 BC8 BA8 HE2 HN8
    have cC0 := BC9.out.cell 0
    have cC1 := BC9.out.cell 1
    have cC2 := BC9.out.cell 2
    have cC3 := BC9.out.cell 3
    have cC4 := BC9.out.cell 4
    have cC5 := BC9.out.cell 5
    have cC6 := BC9.out.cell 6
    simp [msgC] at cC0 cC1 cC2 cC3 cC4 cC5 cC6
    have cA0 := BA9.out.cell 0
    have cA1 := BA9.out.cell 1
    have cA2 := BA9.out.cell 2
    have cA3 := BA9.out.cell 3
    have cA4 := BA9.out.cell 4
    have cA5 := BA9.out.cell 5
    have cA6 := BA9.out.cell 6
    simp [msgC] at cA0 cA1 cA2 cA3 cA4 cA5 cA6
    have hs1 := same_ok m m _ _ _ _ w9 HVA9.out HVA9.out
    simp only [msgC] at hs1
    have HS1 := Lib.hid hs1
    clear hs1
    go_wp2_with fail
    refine HS1.out.mono ?_
    rintro e w10 ⟨⟨b, rfl, hb⟩, hn10⟩
    obtain rfl : b = true := hb.2 rfl
    have HN10 := Lib.hid (HN9.out.then hn10)
    have HVC10 := Lib.hid (hn10.msg HVC9.out)
    have HVA10 := Lib.hid (hn10.msg HVA9.out)
    have BC10 := Lib.hid (hn10.bk BC9.out)
    have BA10 := Lib.hid (hn10.bk BA9.out)
    clear hn10 hb cC0 cC1 cC2 cC3 cC4 cC5 cC6 cA0 cA1 cA2 cA3 cA4 cA5 cA6 HVC9 HVA9 BC9 BA9 HS1 HN9
    have cC0 := BC10.out.cell 0
    have cC1 := BC10.out.cell 1
    have cC2 := BC10.out.cell 2
    have cC3 := BC10.out.cell 3
    have cC4 := BC10.out.cell 4
    have cC5 := BC10.out.cell 5
    have cC6 := BC10.out.cell 6
    simp [msgC] at cC0 cC1 cC2 cC3 cC4 cC5 cC6
    have cA0 := BA10.out.cell 0
    have cA1 := BA10.out.cell 1
    have cA2 := BA10.out.cell 2
    have cA3 := BA10.out.cell 3
    have cA4 := BA10.out.cell 4
    have cA5 := BA10.out.cell 5
    have cA6 := BA10.out.cell 6
    simp [msgC] at cA0 cA1 cA2 cA3 cA4 cA5 cA6
    cases cp
    · go_upto_region 11 with fail
      have hss := sb (encE m).1 (encE n).1
      have HSS := Lib.hid hss
      clear hss
      by_cases h1 : (encE m).2 = 0
      · by_cases h2 : (encE n).2 = 0
        · have HE12 := Lib.hid (same_enc h1 h2 HWM.out HWN.out)
          have hz := same_ok m n _ _ _ _ w10 HVA10.out HVC10.out
          simp only [msgC] at hz
          have HZ := Lib.hid hz
          clear hz
          have i1 : ((encE m).2 : Int) = 0 := by omega
          have i2 : ((encE n).2 : Int) = 0 := by omega
          rw [i1, i2]
          clear i1 i2 h1 h2
          go_wp2_with fail
          refine HZ.out.mono ?_
          rintro e wz ⟨⟨b, rfl, hb⟩, hnz⟩
          have HNZ := Lib.hid (HN10.out.then hnz)
          by_cases hmn : m = n
          · obtain rfl : b = true := hb.2 hmn
            have e1 : ((str (encE m).1).toList == (str (encE n).1).toList) = true := by rw [HSS.out]; exact dec_ (HE12.out.1 hmn)
            clear hnz hb hmn
            go_wp2_with fail
            go_ret
            exact ⟨by first | (rw [e1]; rfl) | (simp [e1]; done), HNZ.out.below⟩
          · obtain rfl : b = false := by cases b; rfl; exact absurd (hb.1 rfl) hmn
            have e1 : ((str (encE m).1).toList == (str (encE n).1).toList) = false := by rw [HSS.out]; exact decn_ (fun h => hmn (HE12.out.2 h))
            clear hnz hb hmn
            go_wp2_with fail
            go_ret
            exact ⟨by first | (rw [e1]; rfl) | (simp [e1]; done), HNZ.out.below⟩
        · have i1 : ((encE m).2 : Int) = 0 := by omega
          have i2 : ((((encE n).2 : Nat) : Int) != 0) = true := by rw [bne_iff_ne]; omega
          rw [i1]
          clear i1 h1 h2
          go_wp2_with fail
          go_ret
          exact ⟨by first | (rw [i2]; rfl) | (simp [i2]; done), HN10.out.below⟩
      · have i1 : ((((encE m).2 : Nat) : Int) != 0) = true := by rw [bne_iff_ne]; omega
        clear h1
        go_wp2_with fail
        go_ret
        exact ⟨by first | (rw [i1]; rfl) | (simp [i1]; done), HN10.out.below⟩
    · have hs2 := same_ok m n _ _ _ _ w10 HVA10.out HVC10.out
      simp only [msgC] at hs2
      have HS2 := Lib.hid hs2
      clear hs2
      go_wp2_with fail
      refine HS2.out.mono ?_
      rintro e w11 ⟨⟨b, rfl, hb⟩, hn11⟩
      obtain rfl : b = true := hb.2 (by have h := HMN2.out; simpa using h)
      have HN11 := Lib.hid (HN10.out.then hn11)
      have HVC11 := Lib.hid (hn11.msg HVC10.out)
      have HVA11 := Lib.hid (hn11.msg HVA10.out)
      have BC11 := Lib.hid (hn11.bk BC10.out)
      have BA11 := Lib.hid (hn11.bk BA10.out)
      clear hn11 hb cC0 cC1 cC2 cC3 cC4 cC5 cC6 cA0 cA1 cA2 cA3 cA4 cA5 cA6 HVC10 HVA10 BC10 BA10 HS2 HN10
      have cC0 := BC11.out.cell 0
      have cC1 := BC11.out.cell 1
      have cC2 := BC11.out.cell 2
      have cC3 := BC11.out.cell 3
      have cC4 := BC11.out.cell 4
      have cC5 := BC11.out.cell 5
      have cC6 := BC11.out.cell 6
      simp [msgC] at cC0 cC1 cC2 cC3 cC4 cC5 cC6
      have cA0 := BA11.out.cell 0
      have cA1 := BA11.out.cell 1
      have cA2 := BA11.out.cell 2
      have cA3 := BA11.out.cell 3
      have cA4 := BA11.out.cell 4
      have cA5 := BA11.out.cell 5
      have cA6 := BA11.out.cell 6
      simp [msgC] at cA0 cA1 cA2 cA3 cA4 cA5 cA6
      go_upto_region 11 with fail
      have hss := sb (encE m).1 (encE n).1
      have HSS := Lib.hid hss
      clear hss
      by_cases h1 : (encE m).2 = 0
      · by_cases h2 : (encE n).2 = 0
        · have HE12 := Lib.hid (same_enc h1 h2 HWM.out HWN.out)
          have hz := same_ok m n _ _ _ _ w11 HVA11.out HVC11.out
          simp only [msgC] at hz
          have HZ := Lib.hid hz
          clear hz
          have i1 : ((encE m).2 : Int) = 0 := by omega
          have i2 : ((encE n).2 : Int) = 0 := by omega
          rw [i1, i2]
          clear i1 i2 h1 h2
          go_wp2_with fail
          refine HZ.out.mono ?_
          rintro e wz ⟨⟨b, rfl, hb⟩, hnz⟩
          have HNZ := Lib.hid (HN11.out.then hnz)
          by_cases hmn : m = n
          · obtain rfl : b = true := hb.2 hmn
            have e1 : ((str (encE m).1).toList == (str (encE n).1).toList) = true := by rw [HSS.out]; exact dec_ (HE12.out.1 hmn)
            clear hnz hb hmn
            go_wp2_with fail
            go_ret
            exact ⟨by first | (rw [e1]; rfl) | (simp [e1]; done), HNZ.out.below⟩
          · obtain rfl : b = false := by cases b; rfl; exact absurd (hb.1 rfl) hmn
            have e1 : ((str (encE m).1).toList == (str (encE n).1).toList) = false := by rw [HSS.out]; exact decn_ (fun h => hmn (HE12.out.2 h))
            clear hnz hb hmn
            go_wp2_with fail
            go_ret
            exact ⟨by first | (rw [e1]; rfl) | (simp [e1]; done), HNZ.out.below⟩
        · have i1 : ((encE m).2 : Int) = 0 := by omega
          have i2 : ((((encE n).2 : Nat) : Int) != 0) = true := by rw [bne_iff_ne]; omega
          rw [i1]
          clear i1 h1 h2
          go_wp2_with fail
          go_ret
          exact ⟨by first | (rw [i2]; rfl) | (simp [i2]; done), HN11.out.below⟩
      · have i1 : ((((encE m).2 : Nat) : Int) != 0) = true := by rw [bne_iff_ne]; omega
        clear h1
        go_wp2_with fail
        go_ret
        exact ⟨by first | (rw [i1]; rfl) | (simp [i1]; done), HN11.out.below⟩
end Go.Proofs.Yteaeodinllpfbaa
