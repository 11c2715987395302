/-
  MessageParses: the core.
-/
import Derived.Test.YteaeodinllpfbaaMessageSamesCore
import Derived.Lib.ConvBytes
set_option linter.unusedVariables false
set_option linter.unusedSimpArgs false
set_option maxRecDepth 100000
namespace Go.Proofs.Yteaeodinllpfbaa
open Go.ChangeShapes Go.WideShapes Go.RowKit Go.Deep

theorem str_app (l r : List UInt8) : str l ++ str r = str (l ++ r) := by
  have h : (str l ++ str r).data.toList = l ++ r := by simp [str, ByteArray.data_append]
  rw [← str_of (str l ++ str r), h]
theorem new_bytes (w : World) (e : TypeId) (s : ByteArray) : New w (Lib.bytesWorld w e s) := by
  refine ⟨?_, ?_, ?_, by rw [Lib.bytesWorld_size]; omega, fun b hb _ => Lib.bytesWorld_at_old w e s b hb⟩
  · simp [Lib.bytesWorld, World.freeze, World.alloc, World.drew, -World.alloc_eq, -World.drew_eq]
  · simp [Lib.bytesWorld, World.freeze, World.alloc, World.drew, -World.alloc_eq, -World.drew_eq]
  · simp [Lib.bytesWorld, World.freeze, World.alloc, World.drew, -World.alloc_eq, -World.drew_eq]
/-- The bytes of a slice that was made of a text. -/
def BytesAt (w : World) (g : Nat) (l : List UInt8) : Prop := ∀ j (h : j < l.length), w.cell? ⟨g, j, none⟩ = some (.int .u8 (l[j].toNat : Int))
theorem bytesAt_made (w : World) (e : TypeId) (l : List UInt8) : BytesAt (Lib.bytesWorld w e (str l)) w.heap.size l := by
  intro j h
  rw [Lib.bytesWorld_cell w e (str l) j (by rw [str_size]; exact h), str_data]
  simp [List.getD, h]
theorem bytesFrozen (w : World) (e : TypeId) (l : List UInt8) (j : Nat) (h : j < l.length) : (Lib.bytesWorld w e (str l)).frozen? ⟨w.heap.size, j, none⟩ = false := by
  have hsz : l.length ≤ (Lib.bytesCells w e (str l)).size := by simp [Lib.bytesCells, str]
  simp [World.frozen?, Lib.bytesWorld_at_new]
  omega
theorem BytesAt.new {w w' : World} {g : Nat} {l : List UInt8} (h : BytesAt w g l) (k : New w w') : BytesAt w' g l := fun j hj => k.cell (h j hj)
theorem BytesAt.set {w : World} {g : Nat} {l : List UInt8} (h : BytesAt w g l) (k : Nat) (x : UInt8) (hk : k < l.length) : BytesAt (w.setCell ⟨g, k, none⟩ (.int .u8 (x.toNat : Int))) g (l.set k x) := by
  intro j hj
  rw [List.length_set] at hj
  by_cases e : k = j
  · subst e
    have h1 := World.cell?_setCell_same w ⟨g, k, none⟩ (.int .u8 (x.toNat : Int)) (h k hj)
    rw [h1]
    simp
  · rw [World.cell?_setCell_other _ _ _ _ (by intro e'; injection e' with _ e2 _; exact e e2), h j hj]
    simp [List.getElem_set, e]
theorem tmod_step (a : Int) (L : Nat) (h0 : 0 < L) (h1 : L ≤ 4096) : ∃ k : Nat, k < L ∧ a.tmod (L : Int) + L = wrap64 (a.tmod (L : Int) + L) ∧ (a.tmod (L : Int) + L).tmod (L : Int) = k := by
  have hb : -(L : Int) < a.tmod L ∧ a.tmod L < L := by
    have h2 := Int.tmod_lt_of_pos a (show (0 : Int) < L by omega)
    have h3 := Int.tmod_lt_of_pos (-a) (show (0 : Int) < L by omega)
    rw [Int.neg_tmod] at h3
    omega
  have hnn : 0 ≤ a.tmod (L : Int) + L := by omega
  have e : (a.tmod (L : Int) + L).tmod (L : Int) = (a.tmod (L : Int) + L) % (L : Int) := Int.tmod_eq_emod_of_nonneg hnn
  have hm := Int.emod_nonneg (a.tmod (L : Int) + L) (show (L : Int) ≠ 0 by omega)
  have hl := Int.emod_lt_of_pos (a.tmod (L : Int) + L) (show (0 : Int) < L by omega)
  refine ⟨((a.tmod (L : Int) + L) % (L : Int)).toNat, by omega, by unfold wrap64; omega, by rw [e]; omega⟩

theorem open_two {H : Type} {enc : TypeId × Value → H} {P : Program} {t f : TypeId} {W : World} {base : Nat} {v : Value} {d : DataW H} {p : List MemPlace} (hu : P.underlying t = some (.array 2 f)) (hC : P.cellsOf t = 2) (h0 : P.underlying f = some (.int .i64)) (c0 : P.cellsOf f = 1)
    (hv : Value.okWide P W .any base t v) (h : DataW.Trod enc P W 0 (fun _ => true) true t v d p) :
    ∃ a b : Int, v = .agg #[.int .i64 a, .int .i64 b] ∧ (-9223372036854775808 ≤ a ∧ a ≤ 9223372036854775807) ∧ (-9223372036854775808 ≤ b ∧ b ≤ 9223372036854775807) := by
  simp only [Value.okWide, hu] at hv
  obtain ⟨cs, rfl, hcs, _⟩ := hv
  obtain ⟨fuel, hf⟩ := h
  simp only [Value.cells] at hf
  rw [hC] at hcs
  obtain ⟨cl, rfl⟩ : ∃ l : List Value, cs = l.toArray := ⟨cs.toList, by simp⟩
  simp at hcs
  obtain ⟨xs, k, hk, hxy, _, hxl, hg⟩ := DataW.trod_array hu hf
  match xs, hxl, cl, hcs with
  | [y0, y1], _, [v0, v1], _ =>
    have g0 := hg 0 (by omega)
    have g1 := hg 1 (by omega)
    simp [c0] at g0 g1
    obtain ⟨n0, e0, x0, w0⟩ := DataW.trod_int h0 g0
    obtain ⟨n1, e1, x1, w1⟩ := DataW.trod_int h0 g1
    simp at e0 e1
    subst e0 e1
    exact ⟨n0, n1, rfl, wf_i64 w0, wf_i64 w1⟩

set_option maxHeartbeats 2000000 in
theorem messageParses_core (x : LawA) (u : MsgV) (a b : Int) (cut : Bool) (W : World) (hx : LawIs W (· < W.heap.size) x u) (wx : LawW x) (ha : -9223372036854775808 ≤ a ∧ a ≤ 9223372036854775807) :
    Calls Try.prog 4 #[.agg (lawC x u), .agg #[.int .i64 a, .int .i64 b], .bool cut] W fun e W' => e = .returned (.bool true) ∧ Below W.heap.size W W' := by
  obtain ⟨x1, x2, x3, x4, x5, x6, rfl⟩ := hx.shape
  obtain ⟨w1, hw1⟩ : ∃ w1, w1 = (W.alloc (.cells (lawC x ⟨.slice x1 x.nodes.length x2, .slice x3 x.ids.length x4, .slice x5 x.recs.length x6⟩) 25)).alloc (.cells #[.int .i64 a, .int .i64 b] 46) := ⟨_, rfl⟩
  have hn1 : New W w1 := by rw [hw1]; exact two_new _ _ _
  have bX : Bk w1 W.heap.size 25 (lawC x ⟨.slice x1 x.nodes.length x2, .slice x3 x.ids.length x4, .slice x5 x.recs.length x6⟩) := by rw [hw1]; exact (Bk.made W _ _).alloc _
  have bY : Bk w1 (W.heap.size + 1) 46 #[.int .i64 a, .int .i64 b] := by rw [hw1]; exact bk_second _ _ _ _
  have HX := Lib.hid hx
  have BX := Lib.hid bX
  have BY := Lib.hid bY
  have HN1 := Lib.hid hn1
  have HW1 := Lib.hid hw1
  have WX := Lib.hid wx
  have HA := Lib.hid ha
  clear hx bX bY hn1 hw1 wx ha
  simp only [lawC]
  go_enter Try.func4, Try.ntmps4
  go_wp2_with fail
  have hwx := HW1.out
  simp only [lawC] at hwx
  rw [← hwx]
  clear hwx
  refine (speaks5 w1).mono ?_
  rintro e w2 ⟨rfl, hn2⟩
  have HN2 := Lib.hid (HN1.out.then hn2)
  have BX2 := Lib.hid (hn2.bk BX.out)
  have BY2 := Lib.hid (hn2.bk BY.out)
  clear hn2
  have cX0 := BX2.out.cell 0
  have cX1 := BX2.out.cell 1
  have cX2 := BX2.out.cell 2
  have cX3 := BX2.out.cell 3
  have cX4 := BX2.out.cell 4
  have cX5 := BX2.out.cell 5
  have cX6 := BX2.out.cell 6
  simp [lawC] at cX0 cX1 cX2 cX3 cX4 cX5 cX6
  have hb1 := both_ok x ⟨.slice x1 x.nodes.length x2, .slice x3 x.ids.length x4, .slice x5 x.recs.length x6⟩ (· < W.heap.size) w2 (HN2.out.law HX.out)
  simp only [lawC] at hb1
  have HB1 := Lib.hid hb1
  clear hb1
  go_wp2_with fail
  refine HB1.out.mono ?_
  rintro e w4 ⟨hn4, va, vb, rfl, hva, hvb⟩
  obtain ⟨a1, a2, a3, a4, a5, a6, rfl⟩ := hva.shape
  obtain ⟨b1, b2, b3, b4, b5, b6, rfl⟩ := hvb.shape
  obtain ⟨m, hm⟩ : ∃ m, m = cutM x := ⟨_, rfl⟩
  have hwm : Wf m := by rw [hm]; exact cut_wf WX.out
  rw [← hm] at hva ⊢
  obtain ⟨w5, hw5⟩ : ∃ w5, w5 = (w4.alloc (.cells (msgC m ⟨.slice a1 m.nodes.length a2, .slice a3 m.ids.length a4, .slice a5 m.recs.length a6⟩) 30)).alloc (.cells (msgC m ⟨.slice b1 m.nodes.length b2, .slice b3 m.ids.length b4, .slice b5 m.recs.length b6⟩) 34) := ⟨_, rfl⟩
  have hn5 : New w4 w5 := by rw [hw5]; exact two_new _ _ _
  have bA : Bk w5 w4.heap.size 30 (msgC m ⟨.slice a1 m.nodes.length a2, .slice a3 m.ids.length a4, .slice a5 m.recs.length a6⟩) := by rw [hw5]; exact (Bk.made w4 _ _).alloc _
  have HN5 := Lib.hid ((HN2.out.then hn4).then hn5)
  have BA := Lib.hid bA
  have BY5 := Lib.hid (hn5.bk (hn4.bk BY2.out))
  have HW5 := Lib.hid hw5
  have HWM := Lib.hid hwm
  have he1 := encode_ok m _ _ w5 (hn5.msg hva) hwm
  simp only [msgC] at he1
  have HE1 := Lib.hid he1
  clear hva hvb hn4 hn5 bA hw5 hm hwm cX0 cX1 cX2 cX3 cX4 cX5 cX6 BX2 BY2 HB1 he1
  have cA0 := BA.out.cell 0
  have cA1 := BA.out.cell 1
  have cA2 := BA.out.cell 2
  have cA3 := BA.out.cell 3
  have cA4 := BA.out.cell 4
  have cA5 := BA.out.cell 5
  have cA6 := BA.out.cell 6
  simp [msgC] at cA0 cA1 cA2 cA3 cA4 cA5 cA6
  simp only [msgC]
  go_upto_region 4 with fail
  have hwx := HW5.out
  simp only [msgC] at hwx
  rw [← hwx]
  clear hwx
  go_wp2_with fail
  refine HE1.out.mono ?_
  rintro e w6 ⟨rfl, hn6⟩
  have HN6 := Lib.hid (HN5.out.then hn6)
  have BY6 := Lib.hid (hn6.bk BY5.out)
  clear hn6 cA0 cA1 cA2 cA3 cA4 cA5 cA6 BA BY5 HE1 HW5 HN5
  by_cases h0 : (encE m).2 = 0
  · obtain ⟨hmay, hlen, hs⟩ := encE_zero h0
    obtain ⟨sb, hsb⟩ : ∃ sb, sb = encM m := ⟨_, rfl⟩
    have i0 : ((encE m).2 : Int) = 0 := by omega
    have hL8 : 8 ≤ sb.length := by rw [hsb]; exact enc_pos m
    rw [← hsb] at hlen hs
    rw [hs, i0]
    obtain ⟨k, hk, hk1, hk2⟩ := tmod_step a sb.length (by omega) hlen
    have HMAY := Lib.hid hmay
    have HSB := Lib.hid hsb
    have HSZ := Lib.hid (str_size sb)
    clear h0 i0 hs hmay hsb
    have y0 := BY6.out.cell 0
    have y1 := BY6.out.cell 1
    simp at y0 y1
    have hmod : (wrap64 (a.tmod ((str sb).size : Int) + ((str sb).size : Int))).tmod ((str sb).size : Int) = (k : Int) := by rw [str_size, ← hk1, hk2]
    have hki : (k : Int) ≤ ((str sb).size : Int) := by rw [str_size]; omega
    have hki2 : (k : Int) < ((str sb).size : Int) := by rw [str_size]; omega
    have hs0 : ((str sb).size : Int) ≠ 0 := by rw [str_size]; omega
    have HK := Lib.hid hk
    have HL8 := Lib.hid hL8
    have HLEN := Lib.hid hlen
    clear hk1 hk2 hk hL8 hlen
    have hmo : ∀ (w : World), New w6 w → Bk w (W.heap.size + 1) 46 #[.int .i64 a, .int .i64 b] := fun w h => h.bk BY6.out
    have HMO := Lib.hid hmo
    clear hmo
    cases cut
    · have hcv := Lib.run_convert_string_bytes (P := Try.prog) w6 9 47 5 (str sb) Try.underlying9 Try.underlying47 Try.underlying5
      go_upto_region 13 with fail
      obtain ⟨wb, hwb⟩ : ∃ wb, wb = Lib.bytesWorld w6 5 (str sb) := ⟨_, rfl⟩
      have hnb : New w6 wb := by rw [hwb]; exact new_bytes _ _ _
      have hba : BytesAt wb w6.heap.size sb := by rw [hwb]; exact bytesAt_made _ _ _
      have hbf : wb.frozen? ⟨w6.heap.size, k, none⟩ = false := by rw [hwb]; exact bytesFrozen _ _ _ _ HK.out
      rw [← hwb]
      have cb := hba k HK.out
      have hYb := HMO.out wb hnb
      have y0' := hYb.cell 0
      have y1' := hYb.cell 1
      simp at y0' y1'
      obtain ⟨bx, hbx⟩ : ∃ bx : UInt8, IntKind.u8.wrap b = (bx.toNat : Int) := ⟨UInt8.ofNat (b % 256).toNat, by
        rw [IntKind.wrap_u8]
        have h1 := Int.emod_nonneg b (show (256 : Int) ≠ 0 by omega)
        have h2 := Int.emod_lt_of_pos b (show (0 : Int) < 256 by omega)
        simp
        omega⟩
      obtain ⟨ub, hub⟩ : ∃ ub, ub = sb.set k bx := ⟨_, rfl⟩
      have hul : ub.length = sb.length := by rw [hub, List.length_set]
      have hba2 : BytesAt (wb.setCell ⟨w6.heap.size, k, none⟩ (.int .u8 (bx.toNat : Int))) w6.heap.size ub := by rw [hub]; exact hba.set k bx HK.out
      have HBA2 := Lib.hid hba2
      have HUL := Lib.hid hul
      have HNB := Lib.hid (HN6.out.then hnb)
      have hgb : w6.heap.size < wb.heap.size := World.block_lt_of_cell? wb _ cb
      have hW6 : W.heap.size ≤ w6.heap.size := HN6.out.below.size
      clear hwb hcv hnb hba hYb hub hul hba2
      go_upto_region 14 with fail
      obtain ⟨wz, hwz⟩ : ∃ wz, wz = wb.setCell ⟨w6.heap.size, k, none⟩ (.int .u8 (bx.toNat : Int)) := ⟨_, rfl⟩
      have hnz : New W wz := by
        rw [hwz]
        exact Tch.setCell HNB.out (fun h => by simp at h; omega) _
      have hbz := HBA2.out
      rw [← hwz] at hbz ⊢
      have hus : ub.length = (str sb).size := by rw [HUL.out, str_size]
      have hcv2 : ∀ w, BytesAt w w6.heap.size ub → (convert 47 9 (.slice (some ⟨w6.heap.size, 0, none⟩) (str sb).size (grownCap w6 (str sb).size 0 5))).run Try.prog w = .ok (.string (str ub)) w := by
        intro w hb
        rw [← hus]
        exact run_convert_bytes_back w _ _ 5 ⟨w6.heap.size, 0, none⟩ _ ub Try.underlying47 Try.underlying5 Try.underlying9 (fun j hj => by rw [Addr.add_lit, Nat.zero_add]; exact hb j hj)
      have HCV2 := Lib.hid hcv2
      have HNZ := Lib.hid hnz
      have HBZ := Lib.hid hbz
      have hcz := hcv2 wz hbz
      have hd3 := decode_ok ub wz
      have HD3 := Lib.hid hd3
      clear hwz hnz hbz hus hcv2 HBA2 cb hbf y0' y1' HNB hd3
      go_wp2_with fail
      refine HD3.out.mono ?_
      rintro e w7 ⟨hn7, ⟨m', v', h1, rfl, hm'⟩ | ⟨er, h1, rfl⟩⟩
      · obtain ⟨d1, d2, d3, d4⟩ := dec_inv h1
        obtain ⟨q1, q2, q3, q4, q5, q6, rfl⟩ := hm'.shape
        obtain ⟨w8, hw8⟩ : ∃ w8, w8 = w7.alloc (.cells (msgC m' ⟨.slice q1 m'.nodes.length q2, .slice q3 m'.ids.length q4, .slice q5 m'.recs.length q6⟩) 30) := ⟨_, rfl⟩
        have hn8 : New w7 w8 := by rw [hw8]; exact (New.refl w7).alloc _
        have bM : Bk w8 w7.heap.size 30 (msgC m' ⟨.slice q1 m'.nodes.length q2, .slice q3 m'.ids.length q4, .slice q5 m'.recs.length q6⟩) := by rw [hw8]; exact Bk.made w7 _ _
        have he3 := encode_ok m' _ _ w8 (hn8.msg hm') d2
        simp only [msgC] at he3
        have HE3 := Lib.hid he3
        have HN8 := Lib.hid ((HNZ.out.then hn7).then hn8)
        have HB8 := Lib.hid ((HBZ.out.new hn7).new hn8)
        have HENC := Lib.hid (show encE m' = (ub, 0) by rw [encE_ok d1 (by rw [← d3]; exact d4), d3])
        have HW8 := Lib.hid hw8
        have m0 := bM.cell 0
        have m1 := bM.cell 1
        have m2 := bM.cell 2
        have m3 := bM.cell 3
        have m4 := bM.cell 4
        have m5 := bM.cell 5
        have m6 := bM.cell 6
        simp [msgC] at m0 m1 m2 m3 m4 m5 m6
        clear hn7 hn8 hm' bM he3 d1 d2 d3 d4 hw8 h1 HD3 hcz HBZ HNZ
        simp only [msgC]
        go_upto_region 15 with fail
        have hwx := HW8.out
        simp only [msgC] at hwx
        rw [← hwx]
        clear hwx
        go_wp2_with fail
        refine HE3.out.mono ?_
        rintro e w9 ⟨rfl, hn9⟩
        rw [HENC.out]
        have HN9 := Lib.hid (HN8.out.then hn9)
        have hc9 := HCV2.out w9 (HB8.out.new hn9)
        have hss : ((str ub).toList == (str ub).toList) = true := by simp
        clear hn9 m0 m1 m2 m3 m4 m5 m6 HE3 HW8
        go_wp2_with fail
        go_ret
        exact ⟨rfl, HN9.out.below⟩
      · have h3 := dec_err h1
        have hsz := same_ok zeroM zeroM zeroV zeroV (fun _ => True) (fun _ => True) (w7.alloc (.cells zeroC 30)) (zero_is _ _) (zero_is _ _)
        simp only [msgC, zeroM, zeroV, zeroC] at hsz
        have HSZ2 := Lib.hid hsz
        have HN7 := Lib.hid (HNZ.out.then hn7)
        clear hn7 hsz h1 HD3 hcz HBZ HNZ
        simp only [zeroC]
        rcases h3 with rfl | rfl | rfl
        all_goals
          go_wp2_with fail
          refine HSZ2.out.mono ?_
          rintro e w8 ⟨⟨b, rfl, hb⟩, hn8⟩
          obtain rfl : b = true := hb.2 rfl
          have HN8 := Lib.hid ((HN7.out.alloc (.cells #[.int .i64 0, .int .i64 0, .int .i64 0, .bool false, .slice none 0 0, .slice none 0 0, .slice none 0 0] 30)).then hn8)
          clear hn8 hb
          go_wp2_with fail
          go_ret
          exact ⟨rfl, HN8.out.below⟩
    · have hd1 := decode_ok (sb.take k) w6
      rw [← str_head] at hd1
      have HD1 := Lib.hid hd1
      clear hd1
      go_wp2_with fail
      refine HD1.out.mono ?_
      rintro e w7 ⟨hn7, ⟨m', v', h1, _⟩ | ⟨er, h1, rfl⟩⟩
      · have := dec_cut HMAY.out HWM.out (by rw [← HSB.out]; exact HLEN.out) (k := k) (by rw [← HSB.out]; exact HK.out)
        rw [← HSB.out, h1] at this
        cases this
      have h2 := dec_cut HMAY.out HWM.out (by rw [← HSB.out]; exact HLEN.out) (k := k) (by rw [← HSB.out]; exact HK.out)
      rw [← HSB.out, h1] at h2
      cases h2
      have HN7 := Lib.hid (HN6.out.then hn7)
      clear hn7 h1 HD1
      simp only [zeroC]
      have hd2 := decode_ok (sb ++ [120]) (w7.alloc (.cells #[.int .i64 0, .int .i64 0, .int .i64 0, .bool false, .slice none 0 0, .slice none 0 0, .slice none 0 0] 30))
      rw [← str_app] at hd2
      have HD2 := Lib.hid hd2
      clear hd2
      have hz1 : (str sb).size ≤ 4096 := by rw [str_size]; exact HLEN.out
      have hz2 : (⟨#[120]⟩ : ByteArray).size = 1 := rfl
      go_wp2_with fail
      refine HD2.out.mono ?_
      rintro e w8 ⟨hn8, ⟨m', v', h1, _⟩ | ⟨er, h1, rfl⟩⟩
      · have := dec_more HMAY.out HWM.out 120
        rw [← HSB.out, h1] at this
        cases this
      have h2 := dec_more HMAY.out HWM.out 120
      rw [← HSB.out, h1] at h2
      cases h2
      have HN8 := Lib.hid ((HN7.out.alloc (.cells #[.int .i64 0, .int .i64 0, .int .i64 0, .bool false, .slice none 0 0, .slice none 0 0, .slice none 0 0] 30)).then hn8)
      clear hn8 h1 HD2
      simp only [zeroC]
      go_wp2_with fail
      go_ret
      exact ⟨rfl, (HN8.out.alloc _).below⟩
  · have i1 : ((((encE m).2 : Nat) : Int) != 0) = true := by rw [bne_iff_ne]; omega
    clear h0
    go_wp2_with fail
    go_ret
    exact ⟨rfl, HN6.out.below⟩
end Go.Proofs.Yteaeodinllpfbaa
