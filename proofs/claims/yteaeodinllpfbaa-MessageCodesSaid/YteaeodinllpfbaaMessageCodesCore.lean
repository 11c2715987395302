/-
  MessageCodes: the core.
-/
import Derived.Test.YteaeodinllpfbaaRef6
set_option linter.unusedVariables false
set_option linter.unusedSimpArgs false
set_option maxRecDepth 100000
namespace Go.Proofs.Yteaeodinllpfbaa
open Go.RowKit

set_option maxHeartbeats 2000000 in
theorem messageCodes_core (x : LawA) (u : MsgV) (W : World) (hx : LawIs W (· < W.heap.size) x u) (wx : LawW x) :
    Calls Try.prog 3 #[.agg (lawC x u)] W fun e W' => e = .returned (.bool true) ∧ Below W.heap.size W W' := by
  obtain ⟨x1, x2, x3, x4, x5, x6, rfl⟩ := hx.shape
  obtain ⟨w1, hw1⟩ : ∃ w1, w1 = W.alloc (.cells (lawC x ⟨.slice x1 x.nodes.length x2, .slice x3 x.ids.length x4, .slice x5 x.recs.length x6⟩) 25) := ⟨_, rfl⟩
  have hn1 : New W w1 := by rw [hw1]; exact (New.refl W).alloc _
  have bX : Bk w1 W.heap.size 25 (lawC x ⟨.slice x1 x.nodes.length x2, .slice x3 x.ids.length x4, .slice x5 x.recs.length x6⟩) := by rw [hw1]; exact Bk.made W _ _
  have HX := Lib.hid hx
  have BX := Lib.hid bX
  have HN1 := Lib.hid hn1
  have HW1 := Lib.hid hw1
  have WX := Lib.hid wx
  clear hx bX hn1 hw1 wx
  simp only [lawC]
  go_enter Try.func3, Try.ntmps3
  go_wp2_with fail
  have hwx := HW1.out
  simp only [lawC] at hwx
  rw [← hwx]
  clear hwx
  refine (speaks5 w1).mono ?_
  rintro e w2 ⟨rfl, hn2⟩
  have HN2 := Lib.hid (HN1.out.then hn2)
  have BX2 := Lib.hid (hn2.bk BX.out)
  clear hn2
  have cX0 := BX2.out.cell 0
  have cX1 := BX2.out.cell 1
  have cX2 := BX2.out.cell 2
  have cX3 := BX2.out.cell 3
  have cX4 := BX2.out.cell 4
  have cX5 := BX2.out.cell 5
  have cX6 := BX2.out.cell 6
  simp [lawC] at cX0 cX1 cX2 cX3 cX4 cX5 cX6
  have hb1 := both_ok x ⟨.slice x1 x.nodes.length x2, .slice x3 x.ids.length x4, .slice x5 x.recs.length x6⟩ (· < W.heap.size) w2 (HN2.out.law HX.out)
  simp only [lawC] at hb1
  have HB1 := Lib.hid hb1
  clear hb1
  go_wp2_with fail
  refine HB1.out.mono ?_
  rintro e w4 ⟨hn4, va, vb, rfl, hva, hvb⟩
  obtain ⟨a1, a2, a3, a4, a5, a6, rfl⟩ := hva.shape
  obtain ⟨b1, b2, b3, b4, b5, b6, rfl⟩ := hvb.shape
  obtain ⟨m, hm⟩ : ∃ m, m = cutM x := ⟨_, rfl⟩
  have hwm : Wf m := by rw [hm]; exact cut_wf WX.out
  rw [← hm] at hva hvb ⊢
  obtain ⟨w5, hw5⟩ : ∃ w5, w5 = (w4.alloc (.cells (msgC m ⟨.slice a1 m.nodes.length a2, .slice a3 m.ids.length a4, .slice a5 m.recs.length a6⟩) 30)).alloc (.cells (msgC m ⟨.slice b1 m.nodes.length b2, .slice b3 m.ids.length b4, .slice b5 m.recs.length b6⟩) 34) := ⟨_, rfl⟩
  have hn5 : New w4 w5 := by rw [hw5]; exact two_new _ _ _
  have bA : Bk w5 w4.heap.size 30 (msgC m ⟨.slice a1 m.nodes.length a2, .slice a3 m.ids.length a4, .slice a5 m.recs.length a6⟩) := by rw [hw5]; exact (Bk.made w4 _ _).alloc _
  have HN5 := Lib.hid ((HN2.out.then hn4).then hn5)
  have BA := Lib.hid bA
  have bR : Bk w5 (w4.heap.size + 1) 34 (msgC m ⟨.slice b1 m.nodes.length b2, .slice b3 m.ids.length b4, .slice b5 m.recs.length b6⟩) := by rw [hw5]; exact bk_second _ _ _ _
  have BR := Lib.hid bR
  have HVA := Lib.hid (hn5.msg hva)
  have HVB := Lib.hid (hn5.msg hvb)
  have HW5 := Lib.hid hw5
  have HWM := Lib.hid hwm
  have he1 := encode_ok m _ _ w5 (hn5.msg hva) hwm
  simp only [msgC] at he1
  have HE1 := Lib.hid he1
  clear bR hva hvb hn4 hn5 bA hw5 hm hwm cX0 cX1 cX2 cX3 cX4 cX5 cX6 BX2 HB1 he1
  have cA0 := BA.out.cell 0
  have cA1 := BA.out.cell 1
  have cA2 := BA.out.cell 2
  have cA3 := BA.out.cell 3
  have cA4 := BA.out.cell 4
  have cA5 := BA.out.cell 5
  have cA6 := BA.out.cell 6
  simp [msgC] at cA0 cA1 cA2 cA3 cA4 cA5 cA6
  simp only [msgC]
  go_upto_region 4 with fail
  have hwx := HW5.out
  simp only [msgC] at hwx
  rw [← hwx]
  clear hwx
  go_wp2_with fail
  refine HE1.out.mono ?_
  rintro e w6 ⟨rfl, hn6⟩
  have HN6 := Lib.hid (HN5.out.then hn6)
  have BA6 := Lib.hid (hn6.bk BA.out)
  have BR6 := Lib.hid (hn6.bk BR.out)
  have HVA6 := Lib.hid (hn6.msg HVA.out)
  have HVB6 := Lib.hid (hn6.msg HVB.out)
  clear BA BR HVA HVB hn6 cA0 cA1 cA2 cA3 cA4 cA5 cA6 HE1 HW5 HN5
  have he2 := rencode_ok m _ _ w6 HVB6.out HWM.out
  simp only [msgC] at he2
  have HE2 := Lib.hid he2
  clear he2
  have cR0 := BR6.out.cell 0
  have cR1 := BR6.out.cell 1
  have cR2 := BR6.out.cell 2
  have cR3 := BR6.out.cell 3
  have cR4 := BR6.out.cell 4
  have cR5 := BR6.out.cell 5
  have cR6 := BR6.out.cell 6
  simp [msgC] at cR0 cR1 cR2 cR3 cR4 cR5 cR6
  go_wp2_with fail
  refine HE2.out.mono ?_
  rintro e w7 ⟨rfl, hn7⟩
  have HN7 := Lib.hid (HN6.out.then hn7)
  have BA7 := Lib.hid (hn7.bk BA6.out)
  have HVA7 := Lib.hid (hn7.msg HVA6.out)
  clear hn7 cR0 cR1 cR2 cR3 cR4 cR5 cR6 BA6 BR6 HVA6 HVB6 HE2 HN6
  have hss : ((str (encE m).1).toList == (str (encE m).1).toList) = true := by simp
  by_cases h0 : (encE m).2 = 0
  · obtain ⟨hmay, hlen, hs⟩ := encE_zero h0
    have i0 : ((encE m).2 : Int) = 0 := by omega
    rw [hs] at hss
    rw [hs, i0]
    have hd := decode_ok (encM m) w7
    have HD := Lib.hid hd
    have HDE := Lib.hid (dec_enc hmay HWM.out hlen)
    clear h0 i0 hs hmay hlen hd
    go_wp2_with fail
    refine HD.out.mono ?_
    rintro e w8 ⟨hn8, ⟨m', v', h1, rfl, hm'⟩ | ⟨er, h1, _⟩⟩
    · rw [HDE.out] at h1
      cases h1
      obtain ⟨q1, q2, q3, q4, q5, q6, rfl⟩ := hm'.shape
      obtain ⟨w9, hw9⟩ : ∃ w9, w9 = w8.alloc (.cells (msgC m ⟨.slice q1 m.nodes.length q2, .slice q3 m.ids.length q4, .slice q5 m.recs.length q6⟩) 30) := ⟨_, rfl⟩
      have hn9 : New w8 w9 := by rw [hw9]; exact (New.refl w8).alloc _
      have bM : Bk w9 w8.heap.size 30 (msgC m ⟨.slice q1 m.nodes.length q2, .slice q3 m.ids.length q4, .slice q5 m.recs.length q6⟩) := by rw [hw9]; exact Bk.made w8 _ _
      have bA9 := hn9.bk (hn8.bk BA7.out)
      have hs1 := same_ok m m _ _ _ _ w9 (hn9.msg hm') (hn9.msg (hn8.msg HVA7.out))
      simp only [msgC] at hs1
      have HS1 := Lib.hid hs1
      have HN9 := Lib.hid ((HN7.out.then hn8).then hn9)
      have HW9 := Lib.hid hw9
      have m0 := bM.cell 0
      have m1 := bM.cell 1
      have m2 := bM.cell 2
      have m3 := bM.cell 3
      have m4 := bM.cell 4
      have m5 := bM.cell 5
      have m6 := bM.cell 6
      simp [msgC] at m0 m1 m2 m3 m4 m5 m6
      have z0 := bA9.cell 0
      have z1 := bA9.cell 1
      have z2 := bA9.cell 2
      have z3 := bA9.cell 3
      have z4 := bA9.cell 4
      have z5 := bA9.cell 5
      have z6 := bA9.cell 6
      simp [msgC] at z0 z1 z2 z3 z4 z5 z6
      clear hn8 hn9 hm' bM bA9 hs1 hw9 HD BA7 HVA7
      simp only [msgC]
      go_upto_region 11 with fail
      have hwx := HW9.out
      simp only [msgC] at hwx
      rw [← hwx]
      clear hwx
      go_wp2_with fail
      refine HS1.out.mono ?_
      rintro e w10 ⟨⟨b, rfl, hb⟩, hn10⟩
      obtain rfl : b = true := hb.2 rfl
      have HN10 := Lib.hid (HN9.out.then hn10)
      clear hn10 hb
      go_wp2_with fail
      go_ret
      exact ⟨rfl, HN10.out.below⟩
    · rw [HDE.out] at h1
      cases h1
  · have i1 : ((((encE m).2 : Nat) : Int) != 0) = true := by rw [bne_iff_ne]; omega
    clear h0
    go_wp2_with fail
    go_ret
    exact ⟨rfl, HN7.out.below⟩
end Go.Proofs.Yteaeodinllpfbaa
