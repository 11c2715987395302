/-
  ViewPlays: the core.
-/
import Derived.Test.YtdhafagihfdolaaViwPlay
import Derived.Test.YtdhafagihfdolaaVActs
import Derived.Test.YtdhafagihfdolaaHeldBy
import Derived.Test.YtdhafagihfdolaaDrawZ
import Derived.Deep.RegionHeld3
import Derived.Deep.RegionWith
import Derived.BigQuiet
import Derived.Deep.CutBlock
import Derived.Deep.DeepCutAuto
set_option linter.unusedVariables false
set_option linter.unusedSimpArgs false
set_option maxRecDepth 100000
namespace Go.Proofs.Ytdhafagihfdolaa
open Go.RowKit Go.Lib Go.Sort Go.Shelf

theorem vacs3 {w : World} {S : Nat → Prop} {ao : Option Addr} {n cap : Nat} {l : List VAc} (h : VAcs w S (.slice ao n cap) l) (j : Nat) (hj : j < l.length) :
    ∃ b off, ao = some ⟨b, off, none⟩ ∧ (w.cell? ⟨b, off + j * 3, none⟩ = some (.int .i64 l[j].what) ∧ w.cell? ⟨b, off + j * 3 + 1, none⟩ = some (.int .i64 l[j].n) ∧ w.cell? ⟨b, off + j * 3 + 2, none⟩ = some (.bool l[j].keep)) ∧ S b ∧ b < w.heap.size := by
  obtain ⟨ao', cap', e, _, _, hc⟩ := h
  injection e with e1 _ _
  subst e1
  obtain ⟨b, off, e, hs, hb, hcc⟩ := hc (by omega)
  exact ⟨b, off, e, hcc j hj, hs, hb⟩
theorem u32s_take (ls : List Int) (m : Nat) : (u32s ls).take m = u32s (ls.take m) := by simp [u32s]
theorem joinV_st (x : VA) (n : Int) : (joinV x n).self = x.self ∧ (joinV x n).A = x.A ∧ (joinV x n).P = x.P := by
  unfold joinV
  split <;> exact ⟨rfl, rfl, rfl⟩
theorem knowV_st (x : VA) (n : Int) (ds : List Int) : (knowV x n ds).1.self = x.self ∧ (knowV x n ds).1.A = x.A ∧ (knowV x n ds).1.P = x.P := by
  unfold knowV
  split
  · exact ⟨rfl, rfl, rfl⟩
  · split <;> exact ⟨rfl, rfl, rfl⟩
theorem forgetV_st (x : VA) (n : Int) : (forgetV x n).self = x.self ∧ (forgetV x n).A = x.A ∧ (forgetV x n).P = x.P := ⟨rfl, rfl, rfl⟩
theorem evictV_st (x : VA) (ds : List Int) : (evictV x ds).1.self = x.self ∧ (evictV x ds).1.A = x.A ∧ (evictV x ds).1.P = x.P := by
  unfold evictV
  split
  · exact ⟨rfl, rfl, rfl⟩
  · exact leaveV_stay _ _ _ _
set_option maxHeartbeats 8000000 in
theorem viewPlays_core (s0 s1 : Int) (ac : List VAc) (ao : Option Addr) (ca : Nat) (v2 : Value) (ls : List Int) (W : World) (hs0 : -9223372036854775808 ≤ s0 ∧ s0 ≤ 9223372036854775807) (hs1 : -9223372036854775808 ≤ s1 ∧ s1 ≤ 9223372036854775807)
    (h1 : VAcs W (· < W.heap.size) (.slice ao ac.length ca) ac) (hok : ∀ q ∈ ac, VAcOk q) (h2 : Sl W (· < W.heap.size) v2 (u32s ls)) (hu : U32s ls) :
    Calls Try.prog 3 #[.agg #[.int .i64 s0, .int .i64 s1], .slice ao ac.length ca, v2] W fun e W' => e = .returned (.bool true) ∧ Below W.heap.size W W' := by
  obtain ⟨ao2, cap2, rfl, h2c, _, _, _⟩ := id h2
  obtain ⟨A, hA⟩ : ∃ A : Nat, (A : Int) = min (max s0 0) 64 := ⟨(min (max s0 0) 64).toNat, by omega⟩
  obtain ⟨P, hP⟩ : ∃ P : Nat, (P : Int) = min (max s1 0) 64 := ⟨(min (max s1 0) 64).toNat, by omega⟩
  obtain ⟨m, hm⟩ : ∃ m : Nat, m = min ls.length 40 := ⟨_, rfl⟩
  have hul : (u32s ls).length = ls.length := by simp [u32s]
  rw [hul] at h2
  have HH := Lib.hid (show Sl W (· < W.heap.size) (.slice ao2 m cap2) (u32s (ls.take m)) ∧ U32s (ls.take m) ∧ (ls.take m).length = m ∧ m ≤ 40 from ⟨by rw [← u32s_take]; exact h2.head (by omega), fun x hx => hu x (List.mem_of_mem_take hx), by rw [List.length_take]; omega, by omega⟩)
  have HSL := Lib.hid h1
  have HOK := Lib.hid hok
  have HA := Lib.hid hA
  have HP := Lib.hid hP
  have HNEW := Lib.hid (fun w => vnew_ok 3 s0 s1 A P w hs0 hs1 hA hP)
  have hm2 : min (ls.length : Int) 40 = m := by omega
  have hm3 : m ≤ cap2 := by rw [hul] at h2c; omega
  rw [hul]
  clear h1 hok h2 hu hs0 hs1 hA hP hm h2c hul
  go_enter Try.func3, Try.ntmps3
  go_wp2_with fail
  refine (speaks09 _).mono ?_
  rintro e w1 ⟨rfl, hn1⟩
  have HB1 := Lib.hid (hn1.out.bk (Bk.made W 22 #[.int .i64 s0, .int .i64 s1]))
  have HN1 := Lib.hid (show New W w1 from ((New.refl W).alloc _).then hn1.out)
  have q0 := HB1.out.cell 0
  have q1 := HB1.out.cell 1
  simp at q0 q1
  clear hn1
  go_wp2_with fail
  refine (HNEW.out w1).mono ?_
  rintro e w3 ⟨ta, tp, rfl, hs3, hn3⟩
  obtain ⟨⟨bo, bl, bc, rfl⟩, po, pl, pc, rfl⟩ := hs3.slices
  obtain ⟨V, hV⟩ : ∃ V, V = w3.heap.size := ⟨_, rfl⟩
  obtain ⟨w4, hw4⟩ : ∃ w4, w4 = w3.alloc (.cells #[.int .i64 3, .int .i64 A, .slice bo bl bc, .int .i64 P, .slice po pl pc] 30) := ⟨_, rfl⟩
  have HV4 := Lib.hid (show ViwAt w4 V ⟨3, A, P, [], []⟩ (.slice bo bl bc) (.slice po pl pc) by rw [hw4, hV]; exact viw_made hs3)
  have HN4 := Lib.hid (show New W w4 by rw [hw4]; exact (HN1.out.then hn3).alloc _)
  have hb4 : Bk w4 W.heap.size 22 #[.int .i64 s0, .int .i64 s1] := by rw [hw4]; exact ((New.refl _).alloc _).bk (hn3.bk HB1.out)
  have HB4 := Lib.hid hb4
  have HVW := Lib.hid (show W.heap.size ≤ V by rw [hV]; exact (HN1.out.then hn3).size)
  have HNW := Lib.hid (new_is (.slice ao2 m cap2) (ls.take m) (· < W.heap.size) w4 (HH.out.1.keep HN4.out.size (fun b hb _ => HN4.out.block b hb (by omega))) HH.out.2.1 (by have := HH.out.2.2; omega))
  clear hs3 hn3 HN1 HB1 hb4 q0 q1 HNEW
  unfold viwV
  try simp only
  go_upto_region 4 with fail
  rw [← hw4, ← hV]
  clear hw4 hV
  go_wp2_with fail
  refine HNW.out.mono ?_
  rintro e w5 ⟨D, g, rfl, hD, hg, hdr, hb5⟩
  have HB5 := Lib.hid ((New.of hb5).bk HB4.out)
  have HN5 := Lib.hid (HN4.out.then (New.of hb5))
  have HV5 := Lib.hid (HV4.out.new (New.of hb5))
  have HDR := Lib.hid hdr
  have HDG := Lib.hid (show W.heap.size ≤ D ∧ W.heap.size ≤ g ∧ V ≠ g ∧ D < w5.heap.size ∧ (0 < (ls.take m).length → g < w5.heap.size) from ⟨by have := HN4.out.size; omega, by have := HN4.out.size; omega, by have := HV4.out.lt; omega, hdr.lt, fun h0 => hdr.glt h0⟩)
  obtain ⟨M, hM⟩ : ∃ M, M = w5.heap.size := ⟨_, rfl⟩
  obtain ⟨w6, hw6⟩ : ∃ q, q = w5.alloc (.cells #[.int .i64 3, .slice none 0 0, .slice none 0 0, .int .i64 A, .int .i64 P, .slice ao2 m cap2] 35) := ⟨_, rfl⟩
  have hn56 : New w5 w6 := by rw [hw6]; exact (New.refl _).alloc _
  have HPL := Lib.hid (show PlV W w6 V M D g ⟨3, A, P, [], []⟩ (.slice bo bl bc) (.slice po pl pc) (ls.take m) ⟨3, A, P, [], []⟩ (.slice none 0 0) (.slice none 0 0) (.slice ao2 m cap2) (ls.take m) from by
    refine ⟨HV5.out.new hn56, by rw [hw6, hM]; exact Bk.made _ _ _, ⟨⟨[], ?_, List.Perm.refl _⟩, ⟨[], ?_, List.Perm.refl _⟩, ?_, HH.out.2.1⟩, HDR.out.tch hn56 (by have := HDG.out; omega) (fun h0 => by have := HDG.out; have := this.2.2.2.2 h0; omega), HN5.out.then hn56, ⟨HVW.out, by rw [hM]; exact HN5.out.size, HDG.out.1, HDG.out.2.1⟩, fun h0 => ⟨HDG.out.2.2.1, by rw [hM]; have := HDG.out.2.2.2.2 h0; omega⟩⟩
    · exact ⟨none, 0, rfl, Nat.le_refl _, Nat.zero_le _, fun _ => rfl, fun h => absurd h (by simp [ints])⟩
    · exact ⟨none, 0, rfl, Nat.le_refl _, Nat.zero_le _, fun _ => rfl, fun h => absurd h (by simp [ints])⟩
    · exact HH.out.1.keep (HN5.out.then hn56).size (fun b hb _ => (HN5.out.then hn56).block b hb (by omega)))
  have q0 := HB5.out.cell 0
  have q1 := HB5.out.cell 1
  simp at q0 q1
  have hA2 : min (max s0 0) 64 = (A : Int) := HA.out.symm
  have hP2 : min (max s1 0) 64 = (P : Int) := HP.out.symm
  clear hD hg hdr hb5 HNW HV4 HN4 HB4 hn56
  go_upto_region 7 with fail
  rw [← hw6, ← hM]
  clear hw6 hM q0 q1 hA2 hP2 HB5 HN5 HV5 HDR HVW hm2 hm3
  go_wp2_with fail
  go_loopw [10] (fun vi wr => ∃ (i : Nat) (x : VA) (ta tp va vp vd : Value) (ds : List Int), vi = .int .i64 i ∧ Hid (i ≤ ac.length ∧ i ≤ 70) ∧ Hid (x.Sane ∧ x.self = 3 ∧ x.A = A ∧ x.P = P) ∧ Hid (PlV W wr V M D g x ta tp ds x va vp vd ds)) (fun vi _ => 70 - (intOf vi).toNat)
  case atStart => exact ⟨0, _, _, _, _, _, _, _, rfl, Lib.hid (by omega), Lib.hid ⟨⟨by simp, by simp, by simp⟩, rfl, rfl, rfl⟩, HPL⟩
  case round =>
    clear HPL
    obtain ⟨i, x, ta, tp, va, vp, vd, ds, rfl, HI, HX, HPL⟩ := hrel
    have hib := HI.out
    by_cases hi1 : i < ac.length ∧ i < 70
    · have hi2 : (i : Int) < ac.length := by omega
      have hi3 : (i : Int) < 70 := by omega
      obtain ⟨ob, off, hao, hcc, hbw, hbo⟩ := vacs3 (HSL.out.below HPL.out.new.below) i hi1.1
      subst hao
      obtain ⟨q, hq⟩ : ∃ q, q = ac[i] := ⟨_, rfl⟩
      have HQ := Lib.hid (HOK.out (ac[i]) (List.getElem_mem _))
      rw [← hq] at hcc HQ
      clear hq
      have HCC := Lib.hid hcc
      obtain ⟨c0, c1, c2⟩ := hcc
      obtain ⟨n, hn⟩ : ∃ n, n = q.n := ⟨_, rfl⟩
      obtain ⟨kp, hkp⟩ : ∃ k, k = q.keep := ⟨_, rfl⟩
      obtain ⟨t, ht⟩ : ∃ t, t = (wrap64 (q.what.tmod 6 + 6)).tmod 6 := ⟨_, rfl⟩
      have ht2 := ht.symm
      rw [← hn] at c1
      rw [← hkp] at c2
      have HBW := Lib.hid (show ob < W.heap.size ∧ ob < wr.heap.size from ⟨hbw, hbo⟩)
      clear ht hbw hbo HCC hn hkp
      go_upto_block 2 with fail
      go_cut [12, 13, 14, 15] (fun va vb vx vy wy => ∃ (y : VA) (ta tp va' vp vd : Value) (ds : List Int) (b : Bool) (k : Int), va = .bool b ∧ vb = .bool b ∧ vx = .int .i64 k ∧ vy = .int .i64 k ∧ Hid (y.Sane ∧ y.self = 3 ∧ y.A = A ∧ y.P = P) ∧ Hid (PlV W wy V M D g y ta tp ds y va' vp vd ds))
      case first =>
        by_cases q2 : t = 2
        · have t2 := beq_ q2
          clear q2
          obtain ⟨⟨xo, xl, xc, rfl⟩, yo, yl, yc, rfl⟩ := HPL.out.v.s.slices
          obtain ⟨⟨ao3, ac3, rfl⟩, ⟨po3, pc3, rfl⟩, dO3, dc3, rfl⟩ := HPL.out.ms.slices
          have HG := Lib.hid HPL.out.v.s.good
          have HPD := Lib.hid (HPL.out.later (New.refl wr).drew)
          have HJ := Lib.hid (know_ok x _ _ n _ _ _ ds wr.drew HPD.out.v.s HPD.out.dp)
          have HR := Lib.hid (fun (wy : World) (hz : W.heap.size ≤ wy.heap.size) (h : RfS wy W.heap.size x ds (.slice ao3 x.act.length ac3) (.slice po3 x.pas.length pc3) (.slice dO3 ds.length dc3)) => rknow_ok W.heap.size x ds _ _ _ n wy h HG.out hz)
          have HY := Lib.hid (show ((knowV x n ds).1).Sane ∧ ((knowV x n ds).1).self = 3 ∧ ((knowV x n ds).1).A = A ∧ ((knowV x n ds).1).P = P from ⟨knowV_sane HX.out.1 n ds, by rw [(knowV_st x n ds).1]; exact HX.out.2.1, by rw [(knowV_st x n ds).2.1]; exact HX.out.2.2.1, by rw [(knowV_st x n ds).2.2]; exact HX.out.2.2.2⟩)
          have HGL := Lib.hid (fun e => knowV_gl (x := x) (n := n) (ds := ds) e)
          obtain ⟨⟨y, ds2⟩, hy⟩ : ∃ y, y = knowV x n ds := ⟨_, rfl⟩
          rw [← hy] at HJ HR
          rw [← hy] at HY HGL
          try simp only at HY HGL
          clear hy
          unfold viwV at HJ
          unfold rfV at HR
          try simp only at HJ HR
          go_upto_region 17 with fail
          refine regionZ 7 (fun z => z.cell? ⟨V, 0, none⟩ = some (.int .i64 x.self) ∧ z.cell? ⟨V, 1, none⟩ = some (.int .i64 x.A) ∧ z.cell? ⟨V, 2, none⟩ = some (.slice xo xl xc) ∧ z.cell? ⟨V, 3, none⟩ = some (.int .i64 x.P) ∧ z.cell? ⟨V, 4, none⟩ = some (.slice yo yl yc) ∧ z.cell? ⟨M, 0, none⟩ = some (.int .i64 x.self) ∧ z.cell? ⟨M, 1, none⟩ = some (.slice ao3 x.act.length ac3) ∧ z.cell? ⟨M, 2, none⟩ = some (.slice po3 x.pas.length pc3) ∧ z.cell? ⟨M, 3, none⟩ = some (.int .i64 x.A) ∧ z.cell? ⟨M, 4, none⟩ = some (.int .i64 x.P) ∧ z.cell? ⟨M, 5, none⟩ = some (.slice dO3 ds.length dc3)) (by kernel_rfl) (by obtain ⟨⟨y0, y1, y2, y3, y4⟩, _⟩ := HPD.out.v.five; obtain ⟨⟨e0, e1, e2, e3, e4, e5⟩, _⟩ := Bk.six HPD.out.mb; exact ⟨y0, y1, y2, y3, y4, e0, e1, e2, e3, e4, e5⟩) (fun hHeld => ?_)
          refine takeZ (i := 0) (v := .agg #[.int .i64 x.self, .int .i64 x.A, .slice xo xl xc, .int .i64 x.P, .slice yo yl yc]) (some 77) rfl rfl (by kernel_rfl) (by kernel_rfl) (by kernel_rfl) (by kernel_rfl) (by kernel_rfl) (by kernel_rfl) (by kernel_rfl) (by kernel_rfl) (fun _ _ _ h => h) (Or.inl ⟨by rfl, ?_⟩) hHeld ?_
          · (intro x hSw; (try dsimp only at hSw); go_simp)
          try simp only [Act.put, List.setIfInBounds_toArray, List.set_cons_zero, List.set_cons_succ]
          refine takeZ (i := 1) (v := .int .i64 n) (some 78) rfl rfl (by kernel_rfl) (by kernel_rfl) (by kernel_rfl) (by kernel_rfl) (by kernel_rfl) (by kernel_rfl) (by kernel_rfl) (by kernel_rfl) (fun _ _ _ h => h) (Or.inl ⟨by rfl, ?_⟩) hHeld ?_
          · (intro x hSw; (try dsimp only at hSw); go_simp)
          try simp only [Act.put, List.setIfInBounds_toArray, List.set_cons_zero, List.set_cons_succ]
          refine takeZ (i := 2) (v := .pointer (some ⟨D, 0, none⟩)) (some 79) rfl rfl (by kernel_rfl) (by kernel_rfl) (by kernel_rfl) (by kernel_rfl) (by kernel_rfl) (by kernel_rfl) (by kernel_rfl) (by kernel_rfl) (fun _ _ _ h => h) (Or.inl ⟨by rfl, ?_⟩) hHeld ?_
          · (intro x hSw; (try dsimp only at hSw); go_simp)
          try simp only [Act.put, List.setIfInBounds_toArray, List.set_cons_zero, List.set_cons_succ]
          refine takeZ (i := 4) (v := .agg #[.int .i64 x.self, .slice ao3 x.act.length ac3, .slice po3 x.pas.length pc3, .int .i64 x.A, .int .i64 x.P, .slice dO3 ds.length dc3]) (some 81) rfl rfl (by kernel_rfl) (by kernel_rfl) (by kernel_rfl) (by kernel_rfl) (by kernel_rfl) (by kernel_rfl) (by kernel_rfl) (by kernel_rfl) (fun _ _ _ h => h) (Or.inl ⟨by rfl, ?_⟩) hHeld ?_
          · (intro x hSw; (try dsimp only at hSw); go_simp)
          try simp only [Act.put, List.setIfInBounds_toArray, List.set_cons_zero, List.set_cons_succ]
          refine takeZ (i := 5) (v := .int .i64 n) (some 82) rfl rfl (by kernel_rfl) (by kernel_rfl) (by kernel_rfl) (by kernel_rfl) (by kernel_rfl) (by kernel_rfl) (by kernel_rfl) (by kernel_rfl) (fun _ _ _ h => h) (Or.inl ⟨by rfl, ?_⟩) hHeld ?_
          · (intro x hSw; (try dsimp only at hSw); go_simp)
          try simp only [Act.put, List.setIfInBounds_toArray, List.set_cons_zero, List.set_cons_succ]
          refine oneZ (i := 3) (by kernel_rfl) rfl (fun K hK => ?_)
          go_simp
          refine HJ.out.mono ?_
          rintro e w7 ⟨sa7, sp7, rfl, hs7, hd7, hv7⟩
          obtain ⟨⟨qo, ql, qc, rfl⟩, ro, rl, rc, rfl⟩ := hs7.slices
          have HP7 := Lib.hid (HPD.out.vt hd7 hv7 HGL.out)
          have HS7 := Lib.hid hs7
          have KE7 : Hid ((fun z => z.cell? ⟨V, 0, none⟩ = some (.int .i64 x.self) ∧ z.cell? ⟨V, 1, none⟩ = some (.int .i64 x.A) ∧ z.cell? ⟨V, 2, none⟩ = some (.slice xo xl xc) ∧ z.cell? ⟨V, 3, none⟩ = some (.int .i64 x.P) ∧ z.cell? ⟨V, 4, none⟩ = some (.slice yo yl yc) ∧ z.cell? ⟨M, 0, none⟩ = some (.int .i64 x.self) ∧ z.cell? ⟨M, 1, none⟩ = some (.slice ao3 x.act.length ac3) ∧ z.cell? ⟨M, 2, none⟩ = some (.slice po3 x.pas.length pc3) ∧ z.cell? ⟨M, 3, none⟩ = some (.int .i64 x.A) ∧ z.cell? ⟨M, 4, none⟩ = some (.int .i64 x.P) ∧ z.cell? ⟨M, 5, none⟩ = some (.slice dO3 ds.length dc3)) w7) := by obtain ⟨⟨y0, y1, y2, y3, y4⟩, _⟩ := HP7.out.v.five; obtain ⟨⟨e0, e1, e2, e3, e4, e5⟩, _⟩ := Bk.six HP7.out.mb; exact ⟨y0, y1, y2, y3, y4, e0, e1, e2, e3, e4, e5⟩
          clear hd7 hv7 hs7
          unfold viwV
          try simp only
          go_wp2_with fail
          refine hK.out _ _ (fun _ => KE7.out) ?_
          clear hK K
          replace hHeld := KE7.out
          try simp only [Act.put, List.setIfInBounds_toArray, List.set_cons_zero, List.set_cons_succ]
          refine oneZ (i := 6) (by kernel_rfl) rfl (fun K hK => ?_)
          go_simp
          refine (HR.out w7 HP7.out.new.size HP7.out.ms).mono ?_
          rintro e w9 ⟨ua, up, ud, rfl, hs9, hn9⟩
          obtain ⟨⟨ao4, ac4, rfl⟩, ⟨po4, pc4, rfl⟩, dO4, dc4, rfl⟩ := hs9.slices
          have HP9 := Lib.hid (HP7.out.later hn9)
          have HS9 := Lib.hid hs9
          have HV9 := Lib.hid (HS7.out.new hn9)
          have KE9 : Hid ((fun z => z.cell? ⟨V, 0, none⟩ = some (.int .i64 x.self) ∧ z.cell? ⟨V, 1, none⟩ = some (.int .i64 x.A) ∧ z.cell? ⟨V, 2, none⟩ = some (.slice xo xl xc) ∧ z.cell? ⟨V, 3, none⟩ = some (.int .i64 x.P) ∧ z.cell? ⟨V, 4, none⟩ = some (.slice yo yl yc) ∧ z.cell? ⟨M, 0, none⟩ = some (.int .i64 x.self) ∧ z.cell? ⟨M, 1, none⟩ = some (.slice ao3 x.act.length ac3) ∧ z.cell? ⟨M, 2, none⟩ = some (.slice po3 x.pas.length pc3) ∧ z.cell? ⟨M, 3, none⟩ = some (.int .i64 x.A) ∧ z.cell? ⟨M, 4, none⟩ = some (.int .i64 x.P) ∧ z.cell? ⟨M, 5, none⟩ = some (.slice dO3 ds.length dc3)) w9) := by obtain ⟨⟨y0, y1, y2, y3, y4⟩, _⟩ := HP9.out.v.five; obtain ⟨⟨e0, e1, e2, e3, e4, e5⟩, _⟩ := Bk.six HP9.out.mb; exact ⟨y0, y1, y2, y3, y4, e0, e1, e2, e3, e4, e5⟩
          clear hs9 hn9
          unfold rfV
          try simp only
          go_wp2_with fail
          refine hK.out _ _ (fun _ => KE9.out) ?_
          clear hK K
          replace hHeld := KE9.out
          try simp only [Act.put, List.setIfInBounds_toArray, List.set_cons_zero, List.set_cons_succ]
          obtain ⟨⟨x0, x1, x2, x3, x4⟩, x5, x6, x7, x8, x9⟩ := HP9.out.v.five
          refine oneZ (i := 7) (by kernel_rfl) rfl (fun K hK => ?_)
          go_simp
          refine hK.out _ _ (fun h => absurd h (by decide)) ?_
          clear hK K
          try simp only [Act.put, List.setIfInBounds_toArray, List.set_cons_zero, List.set_cons_succ]
          obtain ⟨w10, hw10⟩ : ∃ q, q = put5 w9 V y.self y.A (.slice qo ql qc) y.P (.slice ro rl rc) := ⟨_, rfl⟩
          have HP10 := Lib.hid (show PlV W w10 V M D g y (.slice qo ql qc) (.slice ro rl rc) ds2 x _ _ _ ds by rw [hw10]; exact HP9.out.putv HV9.out rfl rfl rfl)
          have HS10 := Lib.hid (show RfS w10 W.heap.size y _ _ _ _ from by rw [hw10]; exact HP9.out.keepm HS9.out)
          unfold put5 at hw10
          rw [← hw10]
          clear hw10 x0 x1 x2 x3 x4 x5 x6 x7 x8 x9
          obtain ⟨⟨a0, a1, a2, a3, a4, a5⟩, f0, f1, f2, f3, f4, f5⟩ := Bk.six (show Bk w10 M 35 #[.int .i64 x.self, .slice ao3 x.act.length ac3, .slice po3 x.pas.length pc3, .int .i64 x.A, .int .i64 x.P, .slice dO3 ds.length dc3] from HP10.out.mb)
          refine oneZ (i := 8) (by kernel_rfl) rfl (fun K hK => ?_)
          go_simp
          refine hK.out _ _ (fun h => absurd h (by decide)) ?_
          clear hK K
          try simp only [Act.put, List.setIfInBounds_toArray, List.set_cons_zero, List.set_cons_succ]
          refine doneZ (by kernel_rfl) ?_ _
          refine NoPanic.normal ?_
          obtain ⟨w11, hw11⟩ : ∃ q, q = put6 w10 M (.int .i64 y.self) (.slice ao4 y.act.length ac4) (.slice po4 y.pas.length pc4) (.int .i64 y.A) (.int .i64 y.P) (.slice dO4 ds2.length dc4) := ⟨_, rfl⟩
          have HPX := Lib.hid (show PlV W w11 V M D g y (.slice qo ql qc) (.slice ro rl rc) ds2 y (.slice ao4 y.act.length ac4) (.slice po4 y.pas.length pc4) (.slice dO4 ds2.length dc4) ds2 by rw [hw11]; exact HP10.out.putm HS10.out rfl rfl rfl)
          unfold put6 at hw11
          rw [← hw11]
          clear hw11 a0 a1 a2 a3 a4 a5 f0 f1 f2 f3 f4 f5
          go_wp2_with fail
          go_meet
          exact ⟨y, _, _, _, _, _, ds2, true, 0, rfl, rfl, rfl, rfl, HY, HPX⟩
        · have t2 := bne_ q2
          clear q2
          by_cases q3 : t = 3
          · have t3 := beq_ q3
            clear q3
            obtain ⟨⟨xo, xl, xc, rfl⟩, yo, yl, yc, rfl⟩ := HPL.out.v.s.slices
            obtain ⟨⟨ao3, ac3, rfl⟩, ⟨po3, pc3, rfl⟩, dO3, dc3, rfl⟩ := HPL.out.ms.slices
            have HG := Lib.hid HPL.out.v.s.good
            obtain ⟨⟨x0, x1, x2, x3, x4⟩, x5, x6, x7, x8, x9⟩ := HPL.out.v.five
            have HJ := Lib.hid (evict_ok x _ _ _ _ _ ds wr HPL.out.v.s HPL.out.dp)
            have HR := Lib.hid (fun (wy : World) (hz : W.heap.size ≤ wy.heap.size) (h : RfS wy W.heap.size x ds (.slice ao3 x.act.length ac3) (.slice po3 x.pas.length pc3) (.slice dO3 ds.length dc3)) => revict_ok W.heap.size x ds _ _ _ wy h HG.out hz)
            have HY := Lib.hid (show (evictV x ds).1.Sane ∧ (evictV x ds).1.self = 3 ∧ (evictV x ds).1.A = A ∧ (evictV x ds).1.P = P from ⟨evictV_sane HX.out.1 ds, by rw [(evictV_st x ds).1]; exact HX.out.2.1, by rw [(evictV_st x ds).2.1]; exact HX.out.2.2.1, by rw [(evictV_st x ds).2.2]; exact HX.out.2.2.2⟩)
            have HGL := Lib.hid (fun e => evictV_gl (x := x) (ds := ds) e)
            obtain ⟨⟨y, ds2⟩, hy⟩ : ∃ y, y = evictV x ds := ⟨_, rfl⟩
            obtain ⟨b, hb⟩ : ∃ b, b = !decide (x.act = []) := ⟨_, rfl⟩
            obtain ⟨k, hk⟩ : ∃ k, k = evictN x ds := ⟨_, rfl⟩
            rw [← hy, ← hb, ← hk] at HJ HR
            rw [← hy] at HY HGL
            simp only at HY HGL
            clear hy hb hk
            unfold viwV at HJ
            unfold rfV at HR
            try simp only at HJ HR
            go_wp2_with fail
            refine HJ.out.mono ?_
            rintro e w7 ⟨sa7, sp7, rfl, hs7, hd7, hv7⟩
            obtain ⟨⟨qo, ql, qc, rfl⟩, ro, rl, rc, rfl⟩ := hs7.slices
            have h7 := HPL.out.vt hd7 hv7 HGL.out
            obtain ⟨w8, hw8⟩ : ∃ q, q = put5 w7 V y.self y.A (.slice qo ql qc) y.P (.slice ro rl rc) := ⟨_, rfl⟩
            have HP8 := Lib.hid (show PlV W w8 V M D g y (.slice qo ql qc) (.slice ro rl rc) ds2 x _ _ _ ds by rw [hw8]; exact h7.putv hs7 rfl rfl rfl)
            clear x0 x1 x2 x3 x4 x5 x6 x7 x8 x9
            obtain ⟨⟨x0, x1, x2, x3, x4⟩, x5, x6, x7, x8, x9⟩ := h7.v.five
            clear h7 hs7 hd7 hv7 HJ
            unfold put5 at hw8
            unfold viwV
            try simp only
            go_upto_region 20 with fail
            rw [← hw8]
            clear hw8 x0 x1 x2 x3 x4 x5 x6 x7 x8 x9
            have HRC := Lib.hid (HR.out w8 HP8.out.new.size HP8.out.ms)
            obtain ⟨⟨a0, a1, a2, a3, a4, a5⟩, f0, f1, f2, f3, f4, f5⟩ := Bk.six (show Bk w8 M 35 #[.int .i64 x.self, .slice ao3 x.act.length ac3, .slice po3 x.pas.length pc3, .int .i64 x.A, .int .i64 x.P, .slice dO3 ds.length dc3] from HP8.out.mb)
            go_wp2_with fail
            refine HRC.out.mono ?_
            rintro e w9 ⟨ua, up, ud, rfl, hs9, hn9⟩
            obtain ⟨⟨ao4, ac4, rfl⟩, ⟨po4, pc4, rfl⟩, dO4, dc4, rfl⟩ := hs9.slices
            have h9 := HP8.out.later hn9
            obtain ⟨w10, hw10⟩ : ∃ q, q = put6 w9 M (.int .i64 y.self) (.slice ao4 y.act.length ac4) (.slice po4 y.pas.length pc4) (.int .i64 y.A) (.int .i64 y.P) (.slice dO4 ds2.length dc4) := ⟨_, rfl⟩
            have HPX := Lib.hid (show PlV W w10 V M D g y (.slice qo ql qc) (.slice ro rl rc) ds2 y (.slice ao4 y.act.length ac4) (.slice po4 y.pas.length pc4) (.slice dO4 ds2.length dc4) ds2 by rw [hw10]; exact h9.putm hs9 rfl rfl rfl)
            clear a0 a1 a2 a3 a4 a5 f0 f1 f2 f3 f4 f5
            obtain ⟨⟨a0, a1, a2, a3, a4, a5⟩, f0, f1, f2, f3, f4, f5⟩ := Bk.six (show Bk w9 M 35 #[.int .i64 x.self, .slice ao3 x.act.length ac3, .slice po3 x.pas.length pc3, .int .i64 x.A, .int .i64 x.P, .slice dO3 ds.length dc3] from h9.mb)
            clear h9 hs9 hn9
            unfold put6 at hw10
            unfold rfV
            try simp only
            go_wp2_with fail
            rw [← hw10]
            go_meet
            exact ⟨y, _, _, _, _, _, ds2, b, k, rfl, rfl, rfl, rfl, HY, HPX⟩
          · have t3 := bne_ q3
            clear q3
            by_cases q4 : t = 4
            · have t4 := beq_ q4
              clear q4
              obtain ⟨⟨xo, xl, xc, rfl⟩, yo, yl, yc, rfl⟩ := HPL.out.v.s.slices
              obtain ⟨⟨ao3, ac3, rfl⟩, ⟨po3, pc3, rfl⟩, dO3, dc3, rfl⟩ := HPL.out.ms.slices
              have HG := Lib.hid HPL.out.v.s.good
              have CW := Lib.hid (show W.cell? ⟨ob, off + i * 3 + 2, none⟩ = some (.bool kp) by rw [← c2]; exact (Tch.cell HPL.out.new HBW.out.1 (Nat.not_le.2 HBW.out.1)).symm)
              have HJ := Lib.hid (fun (z : World) (k : New wr z) => leave_ok x _ _ n kp _ _ _ ds z (HPL.out.later k).v.s (HPL.out.later k).dp)
              have HR := Lib.hid (fun (wy : World) (hz : W.heap.size ≤ wy.heap.size) (h : RfS wy W.heap.size x ds (.slice ao3 x.act.length ac3) (.slice po3 x.pas.length pc3) (.slice dO3 ds.length dc3)) => rleave_ok W.heap.size x ds _ _ _ n kp wy h HG.out hz)
              have HY := Lib.hid (show (leaveV x n kp ds).1.Sane ∧ (leaveV x n kp ds).1.self = 3 ∧ (leaveV x n kp ds).1.A = A ∧ (leaveV x n kp ds).1.P = P from ⟨leaveV_sane HX.out.1 n kp ds, by rw [(leaveV_stay x n kp ds).1]; exact HX.out.2.1, by rw [(leaveV_stay x n kp ds).2.1]; exact HX.out.2.2.1, by rw [(leaveV_stay x n kp ds).2.2]; exact HX.out.2.2.2⟩)
              have HGL := Lib.hid (fun e => leaveV_gl (x := x) (n := n) (k := kp) (ds := ds) e)
              obtain ⟨⟨y, ds2⟩, hy⟩ : ∃ y, y = leaveV x n kp ds := ⟨_, rfl⟩
              obtain ⟨b, hb⟩ : ∃ b, b = decide (n ∈ x.act) := ⟨_, rfl⟩
              rw [← hy, ← hb] at HJ HR
              rw [← hy] at HY HGL
              try simp only at HY HGL
              clear hy hb
              unfold viwV at HJ
              unfold rfV at HR
              try simp only at HJ HR
              obtain ⟨⟨x0, x1, x2, x3, x4⟩, x5, x6, x7, x8, x9⟩ := HPL.out.v.five
              go_upto_region 22 with fail
              go_cut [12] (fun vb wy => ∃ (qo ro : Option Addr) (ql qc rl rc : Nat), vb = .bool b ∧ Hid (PlV W wy V M D g y (.slice qo ql qc) (.slice ro rl rc) ds2 x (.slice ao3 x.act.length ac3) (.slice po3 x.pas.length pc3) (.slice dO3 ds.length dc3) ds))
              case first =>
                go_region_with (go_at_call 21; refine (HJ.out _ (by first | exact New.refl _ | exact (New.refl _).drew)).mono ?_; rintro e w7 ⟨sa7, sp7, rfl, hs7, hd7, hv7⟩; obtain ⟨⟨qo, ql, qc, rfl⟩, ro, rl, rc, rfl⟩ := hs7.slices; have HP7 := Lib.hid ((HPL.out.later (New.refl wr).drew).vt hd7 hv7 HGL.out); have HS7 := Lib.hid hs7; clear hs7 hd7 hv7; obtain ⟨⟨z0, z1, z2, z3, z4⟩, z5, z6, z7, z8, z9⟩ := HP7.out.v.five; (try simp only [viwV]))
                all_goals
                  obtain ⟨w8, hw8⟩ : ∃ q, q = put5 w7 V y.self y.A (.slice qo ql qc) y.P (.slice ro rl rc) := ⟨_, rfl⟩
                  have HP8 := Lib.hid (show PlV W w8 V M D g y (.slice qo ql qc) (.slice ro rl rc) ds2 x _ _ _ ds by rw [hw8]; exact HP7.out.putv HS7.out rfl rfl rfl)
                  unfold put5 at hw8
                  rw [← hw8]
                  go_wp2_with fail
                  go_meet
                  exact ⟨_, _, _, _, _, _, rfl, HP8⟩
              case rest =>
                obtain ⟨qo, ro, ql, qc, rl, rc, rfl, HP8⟩ := hcut
                obtain ⟨w8, hw8⟩ : ∃ x, x = wc := ⟨_, rfl⟩
                subst hw8
                have HRC := Lib.hid (fun (z : World) (k : New w8 z) => HR.out z ((HP8.out.later k).new.size) (HP8.out.later k).ms)
                clear x0 x1 x2 x3 x4 x5 x6 x7 x8 x9 c2 c0 c1
                have c2 := HP8.out.new.cell CW.out
                obtain ⟨⟨a0, a1, a2, a3, a4, a5⟩, f0, f1, f2, f3, f4, f5⟩ := Bk.six (show Bk w8 M 35 #[.int .i64 x.self, .slice ao3 x.act.length ac3, .slice po3 x.pas.length pc3, .int .i64 x.A, .int .i64 x.P, .slice dO3 ds.length dc3] from HP8.out.mb)
                go_upto_region 23 with fail
                go_region_with (go_at_call 22; refine (HRC.out _ (by first | exact New.refl _ | exact (New.refl _).drew)).mono ?_; rintro e w9 ⟨ua, up, ud, rfl, hs9, hn9⟩; obtain ⟨⟨ao4, ac4, rfl⟩, ⟨po4, pc4, rfl⟩, dO4, dc4, rfl⟩ := hs9.slices; have HP9 := Lib.hid ((HP8.out.later (New.refl w8).drew).later hn9); have HS9 := Lib.hid hs9; clear hs9 hn9; obtain ⟨⟨z0, z1, z2, z3, z4, zz⟩, z5, z6, z7, z8, z9, zy⟩ := Bk.six (show Bk w9 M 35 #[.int .i64 x.self, .slice ao3 x.act.length ac3, .slice po3 x.pas.length pc3, .int .i64 x.A, .int .i64 x.P, .slice dO3 ds.length dc3] from HP9.out.mb); (try simp only [rfV]))
                all_goals
                  obtain ⟨w11, hw11⟩ : ∃ q, q = put6 w9 M (.int .i64 y.self) (.slice ao4 y.act.length ac4) (.slice po4 y.pas.length pc4) (.int .i64 y.A) (.int .i64 y.P) (.slice dO4 ds2.length dc4) := ⟨_, rfl⟩
                  have HPX := Lib.hid (show PlV W w11 V M D g y (.slice qo ql qc) (.slice ro rl rc) ds2 y (.slice ao4 y.act.length ac4) (.slice po4 y.pas.length pc4) (.slice dO4 ds2.length dc4) ds2 by rw [hw11]; exact HP9.out.putm HS9.out rfl rfl rfl)
                  unfold put6 at hw11
                  rw [← hw11]
                  go_wp2_with fail
                  go_meet
                  exact ⟨y, _, _, _, _, _, ds2, b, 0, rfl, rfl, rfl, rfl, HY, HPX⟩
            · have t4 := bne_ q4
              clear q4
              by_cases q5 : t = 5
              · have t5 := beq_ q5
                clear q5
                obtain ⟨⟨xo, xl, xc, rfl⟩, yo, yl, yc, rfl⟩ := HPL.out.v.s.slices
                obtain ⟨⟨ao3, ac3, rfl⟩, ⟨po3, pc3, rfl⟩, dO3, dc3, rfl⟩ := HPL.out.ms.slices
                have HG := Lib.hid HPL.out.v.s.good
                have HPD := Lib.hid (HPL.out.later (New.refl wr).drew)
                have HJ := Lib.hid (forget_ok x _ _ n wr.drew HPD.out.v.s)
                have HR := Lib.hid (fun (wy : World) (hz : W.heap.size ≤ wy.heap.size) (h : RfS wy W.heap.size x ds (.slice ao3 x.act.length ac3) (.slice po3 x.pas.length pc3) (.slice dO3 ds.length dc3)) => rforget_ok W.heap.size x ds _ _ _ n wy h HG.out hz)
                have HY := Lib.hid (show (forgetV x n).Sane ∧ (forgetV x n).self = 3 ∧ (forgetV x n).A = A ∧ (forgetV x n).P = P from ⟨forgetV_sane HX.out.1 n, by rw [(forgetV_st x n).1]; exact HX.out.2.1, by rw [(forgetV_st x n).2.1]; exact HX.out.2.2.1, by rw [(forgetV_st x n).2.2]; exact HX.out.2.2.2⟩)
                obtain ⟨y, hy⟩ : ∃ y, y = forgetV x n := ⟨_, rfl⟩
                rw [← hy] at HJ HR
                rw [← hy] at HY
                clear hy
                unfold viwV at HJ
                unfold rfV at HR
                try simp only at HJ HR
                go_upto_region 25 with fail
                refine regionZ 6 (fun z => z.cell? ⟨V, 0, none⟩ = some (.int .i64 x.self) ∧ z.cell? ⟨V, 1, none⟩ = some (.int .i64 x.A) ∧ z.cell? ⟨V, 2, none⟩ = some (.slice xo xl xc) ∧ z.cell? ⟨V, 3, none⟩ = some (.int .i64 x.P) ∧ z.cell? ⟨V, 4, none⟩ = some (.slice yo yl yc) ∧ z.cell? ⟨M, 0, none⟩ = some (.int .i64 x.self) ∧ z.cell? ⟨M, 1, none⟩ = some (.slice ao3 x.act.length ac3) ∧ z.cell? ⟨M, 2, none⟩ = some (.slice po3 x.pas.length pc3) ∧ z.cell? ⟨M, 3, none⟩ = some (.int .i64 x.A) ∧ z.cell? ⟨M, 4, none⟩ = some (.int .i64 x.P) ∧ z.cell? ⟨M, 5, none⟩ = some (.slice dO3 ds.length dc3)) (by kernel_rfl) (by obtain ⟨⟨y0, y1, y2, y3, y4⟩, _⟩ := HPD.out.v.five; obtain ⟨⟨e0, e1, e2, e3, e4, e5⟩, _⟩ := Bk.six HPD.out.mb; exact ⟨y0, y1, y2, y3, y4, e0, e1, e2, e3, e4, e5⟩) (fun hHeld => ?_)
                refine takeZ (i := 0) (v := .agg #[.int .i64 x.self, .int .i64 x.A, .slice xo xl xc, .int .i64 x.P, .slice yo yl yc]) (some 126) rfl rfl (by kernel_rfl) (by kernel_rfl) (by kernel_rfl) (by kernel_rfl) (by kernel_rfl) (by kernel_rfl) (by kernel_rfl) (by kernel_rfl) (fun _ _ _ h => h) (Or.inl ⟨by rfl, ?_⟩) hHeld ?_
                · (intro x hSw; (try dsimp only at hSw); go_simp)
                try simp only [Act.put, List.setIfInBounds_toArray, List.set_cons_zero, List.set_cons_succ]
                refine takeZ (i := 1) (v := .int .i64 n) (some 127) rfl rfl (by kernel_rfl) (by kernel_rfl) (by kernel_rfl) (by kernel_rfl) (by kernel_rfl) (by kernel_rfl) (by kernel_rfl) (by kernel_rfl) (fun _ _ _ h => h) (Or.inl ⟨by rfl, ?_⟩) hHeld ?_
                · (intro x hSw; (try dsimp only at hSw); go_simp)
                try simp only [Act.put, List.setIfInBounds_toArray, List.set_cons_zero, List.set_cons_succ]
                refine takeZ (i := 3) (v := .agg #[.int .i64 x.self, .slice ao3 x.act.length ac3, .slice po3 x.pas.length pc3, .int .i64 x.A, .int .i64 x.P, .slice dO3 ds.length dc3]) (some 129) rfl rfl (by kernel_rfl) (by kernel_rfl) (by kernel_rfl) (by kernel_rfl) (by kernel_rfl) (by kernel_rfl) (by kernel_rfl) (by kernel_rfl) (fun _ _ _ h => h) (Or.inl ⟨by rfl, ?_⟩) hHeld ?_
                · (intro x hSw; (try dsimp only at hSw); go_simp)
                try simp only [Act.put, List.setIfInBounds_toArray, List.set_cons_zero, List.set_cons_succ]
                refine takeZ (i := 4) (v := .int .i64 n) (some 130) rfl rfl (by kernel_rfl) (by kernel_rfl) (by kernel_rfl) (by kernel_rfl) (by kernel_rfl) (by kernel_rfl) (by kernel_rfl) (by kernel_rfl) (fun _ _ _ h => h) (Or.inl ⟨by rfl, ?_⟩) hHeld ?_
                · (intro x hSw; (try dsimp only at hSw); go_simp)
                try simp only [Act.put, List.setIfInBounds_toArray, List.set_cons_zero, List.set_cons_succ]
                refine oneZ (i := 2) (by kernel_rfl) rfl (fun K hK => ?_)
                go_simp
                refine HJ.out.mono ?_
                rintro e w7 ⟨sa7, sp7, rfl, hs7, hn7⟩
                obtain ⟨⟨qo, ql, qc, rfl⟩, ro, rl, rc, rfl⟩ := hs7.slices
                have HP7 := Lib.hid (HPD.out.later hn7)
                have HS7 := Lib.hid hs7
                have KE7 : Hid ((fun z => z.cell? ⟨V, 0, none⟩ = some (.int .i64 x.self) ∧ z.cell? ⟨V, 1, none⟩ = some (.int .i64 x.A) ∧ z.cell? ⟨V, 2, none⟩ = some (.slice xo xl xc) ∧ z.cell? ⟨V, 3, none⟩ = some (.int .i64 x.P) ∧ z.cell? ⟨V, 4, none⟩ = some (.slice yo yl yc) ∧ z.cell? ⟨M, 0, none⟩ = some (.int .i64 x.self) ∧ z.cell? ⟨M, 1, none⟩ = some (.slice ao3 x.act.length ac3) ∧ z.cell? ⟨M, 2, none⟩ = some (.slice po3 x.pas.length pc3) ∧ z.cell? ⟨M, 3, none⟩ = some (.int .i64 x.A) ∧ z.cell? ⟨M, 4, none⟩ = some (.int .i64 x.P) ∧ z.cell? ⟨M, 5, none⟩ = some (.slice dO3 ds.length dc3)) w7) := by obtain ⟨⟨y0, y1, y2, y3, y4⟩, _⟩ := HP7.out.v.five; obtain ⟨⟨e0, e1, e2, e3, e4, e5⟩, _⟩ := Bk.six HP7.out.mb; exact ⟨y0, y1, y2, y3, y4, e0, e1, e2, e3, e4, e5⟩
                clear hn7 hs7
                unfold viwV
                try simp only
                go_wp2_with fail
                refine hK.out _ _ (fun _ => KE7.out) ?_
                clear hK K
                replace hHeld := KE7.out
                try simp only [Act.put, List.setIfInBounds_toArray, List.set_cons_zero, List.set_cons_succ]
                refine oneZ (i := 5) (by kernel_rfl) rfl (fun K hK => ?_)
                go_simp
                refine (HR.out w7 HP7.out.new.size HP7.out.ms).mono ?_
                rintro e w9 ⟨ua, up, ud, rfl, hs9, hn9⟩
                obtain ⟨⟨ao4, ac4, rfl⟩, ⟨po4, pc4, rfl⟩, dO4, dc4, rfl⟩ := hs9.slices
                have HP9 := Lib.hid (HP7.out.later hn9)
                have HS9 := Lib.hid hs9
                have HV9 := Lib.hid (HS7.out.new hn9)
                have KE9 : Hid ((fun z => z.cell? ⟨V, 0, none⟩ = some (.int .i64 x.self) ∧ z.cell? ⟨V, 1, none⟩ = some (.int .i64 x.A) ∧ z.cell? ⟨V, 2, none⟩ = some (.slice xo xl xc) ∧ z.cell? ⟨V, 3, none⟩ = some (.int .i64 x.P) ∧ z.cell? ⟨V, 4, none⟩ = some (.slice yo yl yc) ∧ z.cell? ⟨M, 0, none⟩ = some (.int .i64 x.self) ∧ z.cell? ⟨M, 1, none⟩ = some (.slice ao3 x.act.length ac3) ∧ z.cell? ⟨M, 2, none⟩ = some (.slice po3 x.pas.length pc3) ∧ z.cell? ⟨M, 3, none⟩ = some (.int .i64 x.A) ∧ z.cell? ⟨M, 4, none⟩ = some (.int .i64 x.P) ∧ z.cell? ⟨M, 5, none⟩ = some (.slice dO3 ds.length dc3)) w9) := by obtain ⟨⟨y0, y1, y2, y3, y4⟩, _⟩ := HP9.out.v.five; obtain ⟨⟨e0, e1, e2, e3, e4, e5⟩, _⟩ := Bk.six HP9.out.mb; exact ⟨y0, y1, y2, y3, y4, e0, e1, e2, e3, e4, e5⟩
                clear hs9 hn9
                unfold rfV
                try simp only
                go_wp2_with fail
                refine hK.out _ _ (fun _ => KE9.out) ?_
                clear hK K
                replace hHeld := KE9.out
                try simp only [Act.put, List.setIfInBounds_toArray, List.set_cons_zero, List.set_cons_succ]
                obtain ⟨⟨x0, x1, x2, x3, x4⟩, x5, x6, x7, x8, x9⟩ := HP9.out.v.five
                refine oneZ (i := 6) (by kernel_rfl) rfl (fun K hK => ?_)
                go_simp
                refine hK.out _ _ (fun h => absurd h (by decide)) ?_
                clear hK K
                try simp only [Act.put, List.setIfInBounds_toArray, List.set_cons_zero, List.set_cons_succ]
                obtain ⟨w10, hw10⟩ : ∃ q, q = put5 w9 V y.self y.A (.slice qo ql qc) y.P (.slice ro rl rc) := ⟨_, rfl⟩
                have HP10 := Lib.hid (show PlV W w10 V M D g y (.slice qo ql qc) (.slice ro rl rc) ds x _ _ _ ds by rw [hw10]; exact HP9.out.putv HV9.out rfl rfl rfl)
                have HS10 := Lib.hid (show RfS w10 W.heap.size y _ _ _ _ from by rw [hw10]; exact HP9.out.keepm HS9.out)
                unfold put5 at hw10
                rw [← hw10]
                clear hw10 x0 x1 x2 x3 x4 x5 x6 x7 x8 x9
                obtain ⟨⟨a0, a1, a2, a3, a4, a5⟩, f0, f1, f2, f3, f4, f5⟩ := Bk.six (show Bk w10 M 35 #[.int .i64 x.self, .slice ao3 x.act.length ac3, .slice po3 x.pas.length pc3, .int .i64 x.A, .int .i64 x.P, .slice dO3 ds.length dc3] from HP10.out.mb)
                refine oneZ (i := 7) (by kernel_rfl) rfl (fun K hK => ?_)
                go_simp
                refine hK.out _ _ (fun h => absurd h (by decide)) ?_
                clear hK K
                try simp only [Act.put, List.setIfInBounds_toArray, List.set_cons_zero, List.set_cons_succ]
                refine doneZ (by kernel_rfl) ?_ _
                refine NoPanic.normal ?_
                obtain ⟨w11, hw11⟩ : ∃ q, q = put6 w10 M (.int .i64 y.self) (.slice ao4 y.act.length ac4) (.slice po4 y.pas.length pc4) (.int .i64 y.A) (.int .i64 y.P) (.slice dO4 ds.length dc4) := ⟨_, rfl⟩
                have HPX := Lib.hid (show PlV W w11 V M D g y (.slice qo ql qc) (.slice ro rl rc) ds y (.slice ao4 y.act.length ac4) (.slice po4 y.pas.length pc4) (.slice dO4 ds.length dc4) ds by rw [hw11]; exact HP10.out.putm HS10.out rfl rfl rfl)
                unfold put6 at hw11
                rw [← hw11]
                clear hw11 a0 a1 a2 a3 a4 a5 f0 f1 f2 f3 f4 f5
                go_wp2_with fail
                go_meet
                exact ⟨y, _, _, _, _, _, ds, true, 0, rfl, rfl, rfl, rfl, HY, HPX⟩
              · have t5 := bne_ q5
                clear q5
                obtain ⟨⟨xo, xl, xc, rfl⟩, yo, yl, yc, rfl⟩ := HPL.out.v.s.slices
                obtain ⟨⟨ao3, ac3, rfl⟩, ⟨po3, pc3, rfl⟩, dO3, dc3, rfl⟩ := HPL.out.ms.slices
                have HG := Lib.hid HPL.out.v.s.good
                obtain ⟨⟨x0, x1, x2, x3, x4⟩, x5, x6, x7, x8, x9⟩ := HPL.out.v.five
                have HJ := Lib.hid (join_ok x _ _ n wr HPL.out.v.s)
                have HR := Lib.hid (fun (wy : World) (hz : W.heap.size ≤ wy.heap.size) (h : RfS wy W.heap.size x ds (.slice ao3 x.act.length ac3) (.slice po3 x.pas.length pc3) (.slice dO3 ds.length dc3)) => rjoin_ok W.heap.size x ds _ _ _ n wy h HG.out hz)
                have HY := Lib.hid (show (joinV x n).Sane ∧ (joinV x n).self = 3 ∧ (joinV x n).A = A ∧ (joinV x n).P = P from ⟨joinV_sane HX.out.1 n, by rw [(joinV_st x n).1]; exact HX.out.2.1, by rw [(joinV_st x n).2.1]; exact HX.out.2.2.1, by rw [(joinV_st x n).2.2]; exact HX.out.2.2.2⟩)
                obtain ⟨y, hy⟩ : ∃ y, y = joinV x n := ⟨_, rfl⟩
                obtain ⟨b, hb⟩ : ∃ b, b = joinB x n := ⟨_, rfl⟩
                rw [← hy, ← hb] at HJ HR
                rw [← hy] at HY
                clear hy hb
                unfold viwV at HJ
                unfold rfV at HR
                try simp only at HJ HR
                go_wp2_with fail
                refine HJ.out.mono ?_
                rintro e w7 ⟨sa7, sp7, rfl, hs7, hn7⟩
                obtain ⟨⟨qo, ql, qc, rfl⟩, ro, rl, rc, rfl⟩ := hs7.slices
                have h7 := HPL.out.later hn7
                obtain ⟨w8, hw8⟩ : ∃ q, q = put5 w7 V y.self y.A (.slice qo ql qc) y.P (.slice ro rl rc) := ⟨_, rfl⟩
                have HP8 := Lib.hid (show PlV W w8 V M D g y (.slice qo ql qc) (.slice ro rl rc) ds x _ _ _ ds by rw [hw8]; exact h7.putv hs7 rfl rfl rfl)
                clear x0 x1 x2 x3 x4 x5 x6 x7 x8 x9
                obtain ⟨⟨x0, x1, x2, x3, x4⟩, x5, x6, x7, x8, x9⟩ := h7.v.five
                clear h7 hs7 hn7 HJ
                unfold put5 at hw8
                unfold viwV
                try simp only
                go_upto_region 15 with fail
                rw [← hw8]
                clear hw8 x0 x1 x2 x3 x4 x5 x6 x7 x8 x9
                have HRC := Lib.hid (HR.out w8 HP8.out.new.size HP8.out.ms)
                obtain ⟨⟨a0, a1, a2, a3, a4, a5⟩, f0, f1, f2, f3, f4, f5⟩ := Bk.six (show Bk w8 M 35 #[.int .i64 x.self, .slice ao3 x.act.length ac3, .slice po3 x.pas.length pc3, .int .i64 x.A, .int .i64 x.P, .slice dO3 ds.length dc3] from HP8.out.mb)
                go_wp2_with fail
                refine HRC.out.mono ?_
                rintro e w9 ⟨ua, up, ud, rfl, hs9, hn9⟩
                obtain ⟨⟨ao4, ac4, rfl⟩, ⟨po4, pc4, rfl⟩, dO4, dc4, rfl⟩ := hs9.slices
                have h9 := HP8.out.later hn9
                obtain ⟨w10, hw10⟩ : ∃ q, q = put6 w9 M (.int .i64 y.self) (.slice ao4 y.act.length ac4) (.slice po4 y.pas.length pc4) (.int .i64 y.A) (.int .i64 y.P) (.slice dO4 ds.length dc4) := ⟨_, rfl⟩
                have HPX := Lib.hid (show PlV W w10 V M D g y (.slice qo ql qc) (.slice ro rl rc) ds y (.slice ao4 y.act.length ac4) (.slice po4 y.pas.length pc4) (.slice dO4 ds.length dc4) ds by rw [hw10]; exact h9.putm hs9 rfl rfl rfl)
                clear a0 a1 a2 a3 a4 a5 f0 f1 f2 f3 f4 f5
                obtain ⟨⟨a0, a1, a2, a3, a4, a5⟩, f0, f1, f2, f3, f4, f5⟩ := Bk.six (show Bk w9 M 35 #[.int .i64 x.self, .slice ao3 x.act.length ac3, .slice po3 x.pas.length pc3, .int .i64 x.A, .int .i64 x.P, .slice dO3 ds.length dc3] from h9.mb)
                clear h9 hs9 hn9
                unfold put6 at hw10
                unfold rfV
                try simp only
                go_wp2_with fail
                rw [← hw10]
                go_meet
                exact ⟨y, _, _, _, _, _, ds, b, 0, rfl, rfl, rfl, rfl, HY, HPX⟩
      case rest =>
        obtain ⟨y, ta, tp, va, vp, vd, ds, b, k, rfl, rfl, rfl, rfl, HY, HPL⟩ := hcut
        obtain ⟨wd, hwd⟩ : ∃ x, x = wc := ⟨_, rfl⟩
        subst hwd
        clear c0 c1 c2
        obtain ⟨⟨xo, xl, xc, rfl⟩, yo, yl, yc, rfl⟩ := HPL.out.v.s.slices
        obtain ⟨⟨ao3, ac3, rfl⟩, ⟨po3, pc3, rfl⟩, dO3, dc3, rfl⟩ := HPL.out.ms.slices
        have hbb : (b != b) = false := by simp
        have hkk : (k != k) = false := by simp
        have HGA := Lib.hid HPL.out.v.s.good.act.asc
        have HGP := Lib.hid HPL.out.v.s.good.pas.asc
        have hle1 : ¬ (y.A : Int) < y.act.length := by have := HPL.out.v.s.good.act.le; omega
        have hle2 : ¬ (y.P : Int) < y.pas.length := by have := HPL.out.v.s.good.pas.le; omega
        have hle3 : y.act.length ≤ y.A := HPL.out.v.s.good.act.le
        have hle4 : y.pas.length ≤ y.P := HPL.out.v.s.good.pas.le
        have h641 : y.act.length ≤ 1000000 := by have := HPL.out.v.s.good.act.le; have := HPL.out.v.s.good.act.cap; omega
        have h642 : y.pas.length ≤ 1000000 := by have := HPL.out.v.s.good.pas.le; have := HPL.out.v.s.good.pas.cap; omega
        have H4 := Lib.hid (fun (q : World) (nn : New wd q) => sane_ok y _ _ q (HPL.out.v.s.new nn))
        rw [dec_ HY.out.1] at H4
        have H5 := Lib.hid (fun (q : World) (nn : New wd q) => len_lay y.A (.slice xo xl xc) y.act q (HPL.out.v.s.new nn).seta)
        have H6 := Lib.hid (fun (q : World) (nn : New wd q) => len_lay y.P (.slice yo yl yc) y.pas q (HPL.out.v.s.new nn).setp)
        have HA1 := Lib.hid (fun (q : World) (nn : New wd q) => all_lay y.A (.slice xo xl xc) y.act q (HPL.out.v.s.new nn).seta)
        have HA2 := Lib.hid (fun (q : World) (nn : New wd q) => all_lay y.P (.slice yo yl yc) y.pas q (HPL.out.v.s.new nn).setp)
        obtain ⟨la, hla, hpa⟩ := HPL.out.ms.act
        obtain ⟨lp, hlp, hpp⟩ := HPL.out.ms.pas
        have HS1 := Lib.hid (fun (q : World) (nn : New wd q) => sorted_ref (.slice ao3 y.act.length ac3) la q (hla.below nn.below) (by rw [hpa.length_eq]; exact h641))
        have HS2 := Lib.hid (fun (q : World) (nn : New wd q) => sorted_ref (.slice po3 y.pas.length pc3) lp q (hlp.below nn.below) (by rw [hpp.length_eq]; exact h642))
        have HPA := Lib.hid hpa
        have HPP := Lib.hid hpp
        have HLF := Lib.hid (fun (q : World) (nn : New wd q) => left_is D g ds q (HPL.out.later nn).dr)
        have KEEP : Hid (∀ z, New wd z → z.cell? ⟨V, 0, none⟩ = some (.int .i64 y.self) ∧ z.cell? ⟨V, 1, none⟩ = some (.int .i64 y.A) ∧ z.cell? ⟨V, 2, none⟩ = some (.slice xo xl xc) ∧ z.cell? ⟨V, 3, none⟩ = some (.int .i64 y.P) ∧ z.cell? ⟨V, 4, none⟩ = some (.slice yo yl yc) ∧ z.cell? ⟨M, 0, none⟩ = some (.int .i64 y.self) ∧ z.cell? ⟨M, 1, none⟩ = some (.slice ao3 y.act.length ac3) ∧ z.cell? ⟨M, 2, none⟩ = some (.slice po3 y.pas.length pc3) ∧ z.cell? ⟨M, 3, none⟩ = some (.int .i64 y.A) ∧ z.cell? ⟨M, 4, none⟩ = some (.int .i64 y.P) ∧ z.cell? ⟨M, 5, none⟩ = some (.slice dO3 ds.length dc3)) := fun z hz => by
          have h := HPL.out.later hz
          obtain ⟨⟨y0, y1, y2, y3, y4⟩, _⟩ := h.v.five
          obtain ⟨⟨e0, e1, e2, e3, e4, e5⟩, _⟩ := Bk.six h.mb
          exact ⟨y0, y1, y2, y3, y4, e0, e1, e2, e3, e4, e5⟩
        have BC := Lib.hid (show New wd wd.drew from (New.refl _).drew)
        unfold viwV at H4
        try simp only at H4
        clear hla hlp hpa hpp
        go_upto_region 26 with fail
        refine wp_region_noPanic ?_
        refine wp_region_held_drew (S := (fun z => z.cell? ⟨V, 0, none⟩ = some (.int .i64 y.self) ∧ z.cell? ⟨V, 1, none⟩ = some (.int .i64 y.A) ∧ z.cell? ⟨V, 2, none⟩ = some (.slice xo xl xc) ∧ z.cell? ⟨V, 3, none⟩ = some (.int .i64 y.P) ∧ z.cell? ⟨V, 4, none⟩ = some (.slice yo yl yc) ∧ z.cell? ⟨M, 0, none⟩ = some (.int .i64 y.self) ∧ z.cell? ⟨M, 1, none⟩ = some (.slice ao3 y.act.length ac3) ∧ z.cell? ⟨M, 2, none⟩ = some (.slice po3 y.pas.length pc3) ∧ z.cell? ⟨M, 3, none⟩ = some (.int .i64 y.A) ∧ z.cell? ⟨M, 4, none⟩ = some (.int .i64 y.P) ∧ z.cell? ⟨M, 5, none⟩ = some (.slice dO3 ds.length dc3))) (by kernel_rfl) (KEEP.out _ BC.out) (fun hHeld => ?_)
        refine takeH (i := 0) (v := .bool b) (some 132) rfl rfl (by kernel_rfl) (by kernel_rfl) (by kernel_rfl) (fun _ _ _ h => h) (Or.inl ⟨by rfl, ?_⟩) hHeld ?_
        · (intro x hSw; (try dsimp only at hSw); go_simp)
        try simp only [Act.put, List.setIfInBounds_toArray, List.set_cons_zero, List.set_cons_succ]
        refine takeH (i := 1) (v := .bool b) (some 133) rfl rfl (by kernel_rfl) (by kernel_rfl) (by kernel_rfl) (fun _ _ _ h => h) (Or.inl ⟨by rfl, ?_⟩) hHeld ?_
        · (intro x hSw; (try dsimp only at hSw); go_simp)
        try simp only [Act.put, List.setIfInBounds_toArray, List.set_cons_zero, List.set_cons_succ]
        refine takeH (i := 2) (v := .bool false) (some 134) rfl rfl (by kernel_rfl) (by kernel_rfl) (by kernel_rfl) (fun _ _ _ h => h) (Or.inl ⟨by rfl, ?_⟩) hHeld ?_
        · (intro x hSw; (try dsimp only at hSw); go_simp)
        try simp only [Act.put, List.setIfInBounds_toArray, List.set_cons_zero, List.set_cons_succ]
        refine takeH (i := 3) (v := .bool false) (some 135) rfl rfl (by kernel_rfl) (by kernel_rfl) (by kernel_rfl) (fun _ _ _ h => h) (Or.inl ⟨by rfl, ?_⟩) hHeld ?_
        · (intro x hSw; (try dsimp only at hSw); go_simp)
        try simp only [Act.put, List.setIfInBounds_toArray, List.set_cons_zero, List.set_cons_succ]
        refine takeH (i := 4) (v := .int .i64 k) (some 136) rfl rfl (by kernel_rfl) (by kernel_rfl) (by kernel_rfl) (fun _ _ _ h => h) (Or.inl ⟨by rfl, ?_⟩) hHeld ?_
        · (intro x hSw; (try dsimp only at hSw); go_simp)
        try simp only [Act.put, List.setIfInBounds_toArray, List.set_cons_zero, List.set_cons_succ]
        refine takeH (i := 5) (v := .int .i64 k) (some 137) rfl rfl (by kernel_rfl) (by kernel_rfl) (by kernel_rfl) (fun _ _ _ h => h) (Or.inl ⟨by rfl, ?_⟩) hHeld ?_
        · (intro x hSw; (try dsimp only at hSw); go_simp)
        try simp only [Act.put, List.setIfInBounds_toArray, List.set_cons_zero, List.set_cons_succ]
        refine takeH (i := 6) (v := .bool false) (some 138) rfl rfl (by kernel_rfl) (by kernel_rfl) (by kernel_rfl) (fun _ _ _ h => h) (Or.inl ⟨by rfl, ?_⟩) hHeld ?_
        · (intro x hSw; (try dsimp only at hSw); go_simp)
        try simp only [Act.put, List.setIfInBounds_toArray, List.set_cons_zero, List.set_cons_succ]
        refine takeH (i := 7) (v := .bool false) (some 139) rfl rfl (by kernel_rfl) (by kernel_rfl) (by kernel_rfl) (fun _ _ _ h => h) (Or.inl ⟨by rfl, ?_⟩) hHeld ?_
        · (intro x hSw; (try dsimp only at hSw); go_simp)
        try simp only [Act.put, List.setIfInBounds_toArray, List.set_cons_zero, List.set_cons_succ]
        refine takeH (i := 8) (v := .bool false) (some 140) rfl rfl (by kernel_rfl) (by kernel_rfl) (by kernel_rfl) (fun _ _ _ h => h) (Or.inl ⟨by rfl, ?_⟩) hHeld ?_
        · (intro x hSw; (try dsimp only at hSw); go_simp)
        try simp only [Act.put, List.setIfInBounds_toArray, List.set_cons_zero, List.set_cons_succ]
        refine takeH (i := 9) (v := .agg #[.int .i64 y.self, .int .i64 y.A, .slice xo xl xc, .int .i64 y.P, .slice yo yl yc]) (some 141) rfl rfl (by kernel_rfl) (by kernel_rfl) (by kernel_rfl) (fun _ _ _ h => h) (Or.inl ⟨by rfl, ?_⟩) hHeld ?_
        · (intro x hSw; (try dsimp only at hSw); go_simp)
        try simp only [Act.put, List.setIfInBounds_toArray, List.set_cons_zero, List.set_cons_succ]
        refine wpAnyH_ready (rs := [10]) (by kernel_rfl) (by simp) (AllReadyH.cons rfl (fun K hK => ?_) AllReadyH.nil)
        go_simp
        refine (H4.out _ BC.out).mono ?_
        rintro e w6 ⟨rfl, hn6⟩
        replace BC := Lib.hid (New.then BC.out hn6.out)
        clear hn6
        go_wp2_with fail
        refine hK.out _ _ (KEEP.out _ BC.out) (fun hHeld => ?_)
        clear hK K
        try simp only [Act.put, List.setIfInBounds_toArray, List.set_cons_zero, List.set_cons_succ]
        refine takeH (i := 11) (v := .bool false) (some 143) rfl rfl (by kernel_rfl) (by kernel_rfl) (by kernel_rfl) (fun _ _ _ h => h) (Or.inl ⟨by rfl, ?_⟩) hHeld ?_
        · (intro x hSw; (try dsimp only at hSw); go_simp)
        try simp only [Act.put, List.setIfInBounds_toArray, List.set_cons_zero, List.set_cons_succ]
        refine takeH (i := 12) (v := .bool false) (some 144) rfl rfl (by kernel_rfl) (by kernel_rfl) (by kernel_rfl) (fun _ _ _ h => h) (Or.inl ⟨by rfl, ?_⟩) hHeld ?_
        · (intro x hSw; (try dsimp only at hSw); go_simp)
        try simp only [Act.put, List.setIfInBounds_toArray, List.set_cons_zero, List.set_cons_succ]
        refine takeH (i := 13) (v := .bool false) (some 145) rfl rfl (by kernel_rfl) (by kernel_rfl) (by kernel_rfl) (fun _ _ _ h => h) (Or.inl ⟨by rfl, ?_⟩) hHeld ?_
        · (intro x hSw; (try dsimp only at hSw); go_simp)
        try simp only [Act.put, List.setIfInBounds_toArray, List.set_cons_zero, List.set_cons_succ]
        refine takeH (i := 14) (v := .pointer (some ⟨V, 1, none⟩)) (some 146) rfl rfl (by kernel_rfl) (by kernel_rfl) (by kernel_rfl) (fun _ _ _ h => h) (Or.inl ⟨by rfl, ?_⟩) hHeld ?_
        · (intro x hSw; (try dsimp only at hSw); go_simp)
        try simp only [Act.put, List.setIfInBounds_toArray, List.set_cons_zero, List.set_cons_succ]
        refine takeH (i := 15) (v := .agg #[.int .i64 y.A, .slice xo xl xc]) (some 147) rfl rfl (by kernel_rfl) (by kernel_rfl) (by kernel_rfl) (fun _ _ _ h => h) (Or.inl ⟨by rfl, ?_⟩) hHeld ?_
        · (intro x hSw; (try dsimp only at hSw); go_simp)
        try simp only [Act.put, List.setIfInBounds_toArray, List.set_cons_zero, List.set_cons_succ]
        refine takeH (i := 17) (v := .pointer (some ⟨M, 3, none⟩)) (some 149) rfl rfl (by kernel_rfl) (by kernel_rfl) (by kernel_rfl) (fun _ _ _ h => h) (Or.inl ⟨by rfl, ?_⟩) hHeld ?_
        · (intro x hSw; (try dsimp only at hSw); go_simp)
        try simp only [Act.put, List.setIfInBounds_toArray, List.set_cons_zero, List.set_cons_succ]
        refine takeH (i := 18) (v := .int .i64 y.A) (some 150) rfl rfl (by kernel_rfl) (by kernel_rfl) (by kernel_rfl) (fun _ _ _ h => h) (Or.inl ⟨by rfl, ?_⟩) hHeld ?_
        · (intro x hSw; (try dsimp only at hSw); go_simp)
        try simp only [Act.put, List.setIfInBounds_toArray, List.set_cons_zero, List.set_cons_succ]
        refine wpAnyH_ready (rs := [16]) (by kernel_rfl) (by simp) (AllReadyH.cons rfl (fun K hK => ?_) AllReadyH.nil)
        go_simp
        refine (H5.out _ BC.out).mono ?_
        rintro e w6 ⟨rfl, hn6⟩
        replace BC := Lib.hid (New.then BC.out hn6.out)
        clear hn6
        go_wp2_with fail
        refine hK.out _ _ (KEEP.out _ BC.out) (fun hHeld => ?_)
        clear hK K
        try simp only [Act.put, List.setIfInBounds_toArray, List.set_cons_zero, List.set_cons_succ]
        refine takeH (i := 19) (v := .bool false) (some 151) rfl rfl (by kernel_rfl) (by kernel_rfl) (by kernel_rfl) (fun _ _ _ h => h) (Or.inl ⟨by rfl, ?_⟩) hHeld ?_
        · (intro x hSw; (try dsimp only at hSw); go_simp)
        try simp only [Act.put, List.setIfInBounds_toArray, List.set_cons_zero, List.set_cons_succ]
        refine takeH (i := 20) (v := .bool false) (some 152) rfl rfl (by kernel_rfl) (by kernel_rfl) (by kernel_rfl) (fun _ _ _ h => h) (Or.inl ⟨by rfl, ?_⟩) hHeld ?_
        · (intro x hSw; (try dsimp only at hSw); go_simp)
        try simp only [Act.put, List.setIfInBounds_toArray, List.set_cons_zero, List.set_cons_succ]
        refine takeH (i := 21) (v := .bool false) (some 153) rfl rfl (by kernel_rfl) (by kernel_rfl) (by kernel_rfl) (fun _ _ _ h => h) (Or.inl ⟨by rfl, ?_⟩) hHeld ?_
        · (intro x hSw; (try dsimp only at hSw); go_simp)
        try simp only [Act.put, List.setIfInBounds_toArray, List.set_cons_zero, List.set_cons_succ]
        refine takeH (i := 22) (v := .pointer (some ⟨V, 3, none⟩)) (some 154) rfl rfl (by kernel_rfl) (by kernel_rfl) (by kernel_rfl) (fun _ _ _ h => h) (Or.inl ⟨by rfl, ?_⟩) hHeld ?_
        · (intro x hSw; (try dsimp only at hSw); go_simp)
        try simp only [Act.put, List.setIfInBounds_toArray, List.set_cons_zero, List.set_cons_succ]
        refine takeH (i := 23) (v := .agg #[.int .i64 y.P, .slice yo yl yc]) (some 155) rfl rfl (by kernel_rfl) (by kernel_rfl) (by kernel_rfl) (fun _ _ _ h => h) (Or.inl ⟨by rfl, ?_⟩) hHeld ?_
        · (intro x hSw; (try dsimp only at hSw); go_simp)
        try simp only [Act.put, List.setIfInBounds_toArray, List.set_cons_zero, List.set_cons_succ]
        refine takeH (i := 25) (v := .pointer (some ⟨M, 4, none⟩)) (some 157) rfl rfl (by kernel_rfl) (by kernel_rfl) (by kernel_rfl) (fun _ _ _ h => h) (Or.inl ⟨by rfl, ?_⟩) hHeld ?_
        · (intro x hSw; (try dsimp only at hSw); go_simp)
        try simp only [Act.put, List.setIfInBounds_toArray, List.set_cons_zero, List.set_cons_succ]
        refine takeH (i := 26) (v := .int .i64 y.P) (some 158) rfl rfl (by kernel_rfl) (by kernel_rfl) (by kernel_rfl) (fun _ _ _ h => h) (Or.inl ⟨by rfl, ?_⟩) hHeld ?_
        · (intro x hSw; (try dsimp only at hSw); go_simp)
        try simp only [Act.put, List.setIfInBounds_toArray, List.set_cons_zero, List.set_cons_succ]
        refine wpAnyH_ready (rs := [24]) (by kernel_rfl) (by simp) (AllReadyH.cons rfl (fun K hK => ?_) AllReadyH.nil)
        go_simp
        refine (H6.out _ BC.out).mono ?_
        rintro e w6 ⟨rfl, hn6⟩
        replace BC := Lib.hid (New.then BC.out hn6.out)
        clear hn6
        go_wp2_with fail
        refine hK.out _ _ (KEEP.out _ BC.out) (fun hHeld => ?_)
        clear hK K
        try simp only [Act.put, List.setIfInBounds_toArray, List.set_cons_zero, List.set_cons_succ]
        refine takeH (i := 27) (v := .bool false) (some 159) rfl rfl (by kernel_rfl) (by kernel_rfl) (by kernel_rfl) (fun _ _ _ h => h) (Or.inl ⟨by rfl, ?_⟩) hHeld ?_
        · (intro x hSw; (try dsimp only at hSw); go_simp)
        try simp only [Act.put, List.setIfInBounds_toArray, List.set_cons_zero, List.set_cons_succ]
        refine takeH (i := 28) (v := .bool false) (some 160) rfl rfl (by kernel_rfl) (by kernel_rfl) (by kernel_rfl) (fun _ _ _ h => h) (Or.inl ⟨by rfl, ?_⟩) hHeld ?_
        · (intro x hSw; (try dsimp only at hSw); go_simp)
        try simp only [Act.put, List.setIfInBounds_toArray, List.set_cons_zero, List.set_cons_succ]
        refine wpAnyH_done (by kernel_rfl) ?_ _
        refine NoPanic.normal ?_
        obtain ⟨we, hwe⟩ : ∃ x, x = w6 := ⟨_, rfl⟩
        subst hwe
        replace BC := Lib.hid (show New wd we.drew from BC.out.drew)
        clear hHeld
        go_upto_region 28 with fail
        refine wp_region_noPanic ?_
        refine wp_region_held_drew (S := (fun z => z.cell? ⟨V, 0, none⟩ = some (.int .i64 y.self) ∧ z.cell? ⟨V, 1, none⟩ = some (.int .i64 y.A) ∧ z.cell? ⟨V, 2, none⟩ = some (.slice xo xl xc) ∧ z.cell? ⟨V, 3, none⟩ = some (.int .i64 y.P) ∧ z.cell? ⟨V, 4, none⟩ = some (.slice yo yl yc) ∧ z.cell? ⟨M, 0, none⟩ = some (.int .i64 y.self) ∧ z.cell? ⟨M, 1, none⟩ = some (.slice ao3 y.act.length ac3) ∧ z.cell? ⟨M, 2, none⟩ = some (.slice po3 y.pas.length pc3) ∧ z.cell? ⟨M, 3, none⟩ = some (.int .i64 y.A) ∧ z.cell? ⟨M, 4, none⟩ = some (.int .i64 y.P) ∧ z.cell? ⟨M, 5, none⟩ = some (.slice dO3 ds.length dc3))) (by kernel_rfl) (KEEP.out _ BC.out) (fun hHeld => ?_)
        refine takeH (i := 0) (v := .pointer (some ⟨V, 1, none⟩)) (some 161) rfl rfl (by kernel_rfl) (by kernel_rfl) (by kernel_rfl) (fun _ _ _ h => h) (Or.inl ⟨by rfl, ?_⟩) hHeld ?_
        · (intro x hSw; (try dsimp only at hSw); go_simp)
        try simp only [Act.put, List.setIfInBounds_toArray, List.set_cons_zero, List.set_cons_succ]
        refine takeH (i := 1) (v := .agg #[.int .i64 y.A, .slice xo xl xc]) (some 162) rfl rfl (by kernel_rfl) (by kernel_rfl) (by kernel_rfl) (fun _ _ _ h => h) (Or.inl ⟨by rfl, ?_⟩) hHeld ?_
        · (intro x hSw; (try dsimp only at hSw); go_simp)
        try simp only [Act.put, List.setIfInBounds_toArray, List.set_cons_zero, List.set_cons_succ]
        refine takeH (i := 3) (v := .pointer (some ⟨M, 1, none⟩)) (some 164) rfl rfl (by kernel_rfl) (by kernel_rfl) (by kernel_rfl) (fun _ _ _ h => h) (Or.inl ⟨by rfl, ?_⟩) hHeld ?_
        · (intro x hSw; (try dsimp only at hSw); go_simp)
        try simp only [Act.put, List.setIfInBounds_toArray, List.set_cons_zero, List.set_cons_succ]
        refine takeH (i := 4) (v := .slice ao3 y.act.length ac3) (some 165) rfl rfl (by kernel_rfl) (by kernel_rfl) (by kernel_rfl) (fun _ _ _ h => h) (Or.inl ⟨by rfl, ?_⟩) hHeld ?_
        · (intro x hSw; (try dsimp only at hSw); go_simp)
        try simp only [Act.put, List.setIfInBounds_toArray, List.set_cons_zero, List.set_cons_succ]
        refine wpAnyH_ready (rs := [2]) (by kernel_rfl) (by simp) (AllReadyH.cons rfl (fun K hK => ?_) AllReadyH.nil)
        go_simp
        refine (HA1.out _ BC.out).mono ?_
        rintro e w6 ⟨o1, q1, rfl, hs, hn6⟩
        have HL1 := Lib.hid hs.out
        replace BC := Lib.hid (New.then BC.out hn6.out)
        clear hs hn6
        go_wp2_with fail
        refine hK.out _ _ (KEEP.out _ BC.out) (fun hHeld => ?_)
        clear hK K
        try simp only [Act.put, List.setIfInBounds_toArray, List.set_cons_zero, List.set_cons_succ]
        refine wpAnyH_ready (rs := [5]) (by kernel_rfl) (by simp) (AllReadyH.cons rfl (fun K hK => ?_) AllReadyH.nil)
        go_simp
        refine (HS1.out _ BC.out).mono ?_
        rintro e w6 ⟨v1, L, rfl, hs, hp, ho, hb⟩
        obtain rfl : L = y.act := int_order (hp.trans HPA.out) ho HGA.out.le
        obtain ⟨r1, s1, rfl, _⟩ := slr_ints hs
        replace HL1 := Lib.hid (Slr.below HL1.out hb)
        have HM1 := Lib.hid hs
        replace BC := Lib.hid (New.then BC.out (New.of hb))
        clear hs hp ho hb
        go_wp2_with fail
        refine hK.out _ _ (KEEP.out _ BC.out) (fun hHeld => ?_)
        clear hK K
        try simp only [Act.put, List.setIfInBounds_toArray, List.set_cons_zero, List.set_cons_succ]
        refine wpAnyH_ready (rs := [6]) (by kernel_rfl) (by simp) (AllReadyH.cons rfl (fun K hK => ?_) AllReadyH.nil)
        go_simp
        have hsm := same_ref _ _ y.act y.act _ HL1.out HM1.out h641 h641
        rw [dec_ (rfl : y.act = y.act)] at hsm
        refine hsm.mono ?_
        rintro e w6 ⟨rfl, nq, hw⟩
        replace BC := Lib.hid (show New wd w6 by rw [hw]; exact BC.out.drewN nq)
        clear hsm hw
        go_wp2_with fail
        refine hK.out _ _ (KEEP.out _ BC.out) (fun hHeld => ?_)
        clear hK K
        try simp only [Act.put, List.setIfInBounds_toArray, List.set_cons_zero, List.set_cons_succ]
        refine takeH (i := 7) (v := .bool false) (some 168) rfl rfl (by kernel_rfl) (by kernel_rfl) (by kernel_rfl) (fun _ _ _ h => h) (Or.inl ⟨by rfl, ?_⟩) hHeld ?_
        · (intro x hSw; (try dsimp only at hSw); go_simp)
        try simp only [Act.put, List.setIfInBounds_toArray, List.set_cons_zero, List.set_cons_succ]
        refine takeH (i := 8) (v := .bool false) (some 169) rfl rfl (by kernel_rfl) (by kernel_rfl) (by kernel_rfl) (fun _ _ _ h => h) (Or.inl ⟨by rfl, ?_⟩) hHeld ?_
        · (intro x hSw; (try dsimp only at hSw); go_simp)
        try simp only [Act.put, List.setIfInBounds_toArray, List.set_cons_zero, List.set_cons_succ]
        refine takeH (i := 9) (v := .pointer (some ⟨V, 3, none⟩)) (some 170) rfl rfl (by kernel_rfl) (by kernel_rfl) (by kernel_rfl) (fun _ _ _ h => h) (Or.inl ⟨by rfl, ?_⟩) hHeld ?_
        · (intro x hSw; (try dsimp only at hSw); go_simp)
        try simp only [Act.put, List.setIfInBounds_toArray, List.set_cons_zero, List.set_cons_succ]
        refine takeH (i := 10) (v := .agg #[.int .i64 y.P, .slice yo yl yc]) (some 171) rfl rfl (by kernel_rfl) (by kernel_rfl) (by kernel_rfl) (fun _ _ _ h => h) (Or.inl ⟨by rfl, ?_⟩) hHeld ?_
        · (intro x hSw; (try dsimp only at hSw); go_simp)
        try simp only [Act.put, List.setIfInBounds_toArray, List.set_cons_zero, List.set_cons_succ]
        refine takeH (i := 12) (v := .pointer (some ⟨M, 2, none⟩)) (some 173) rfl rfl (by kernel_rfl) (by kernel_rfl) (by kernel_rfl) (fun _ _ _ h => h) (Or.inl ⟨by rfl, ?_⟩) hHeld ?_
        · (intro x hSw; (try dsimp only at hSw); go_simp)
        try simp only [Act.put, List.setIfInBounds_toArray, List.set_cons_zero, List.set_cons_succ]
        refine takeH (i := 13) (v := .slice po3 y.pas.length pc3) (some 174) rfl rfl (by kernel_rfl) (by kernel_rfl) (by kernel_rfl) (fun _ _ _ h => h) (Or.inl ⟨by rfl, ?_⟩) hHeld ?_
        · (intro x hSw; (try dsimp only at hSw); go_simp)
        try simp only [Act.put, List.setIfInBounds_toArray, List.set_cons_zero, List.set_cons_succ]
        refine wpAnyH_ready (rs := [11]) (by kernel_rfl) (by simp) (AllReadyH.cons rfl (fun K hK => ?_) AllReadyH.nil)
        go_simp
        refine (HA2.out _ BC.out).mono ?_
        rintro e w6 ⟨o2, q2, rfl, hs, hn6⟩
        have HL2 := Lib.hid hs.out
        replace BC := Lib.hid (New.then BC.out hn6.out)
        clear hs hn6
        go_wp2_with fail
        refine hK.out _ _ (KEEP.out _ BC.out) (fun hHeld => ?_)
        clear hK K
        try simp only [Act.put, List.setIfInBounds_toArray, List.set_cons_zero, List.set_cons_succ]
        refine wpAnyH_ready (rs := [14]) (by kernel_rfl) (by simp) (AllReadyH.cons rfl (fun K hK => ?_) AllReadyH.nil)
        go_simp
        refine (HS2.out _ BC.out).mono ?_
        rintro e w6 ⟨v2, L, rfl, hs, hp, ho, hb⟩
        obtain rfl : L = y.pas := int_order (hp.trans HPP.out) ho HGP.out.le
        obtain ⟨r2, s2, rfl, _⟩ := slr_ints hs
        replace HL2 := Lib.hid (Slr.below HL2.out hb)
        have HM2 := Lib.hid hs
        replace BC := Lib.hid (New.then BC.out (New.of hb))
        clear hs hp ho hb
        go_wp2_with fail
        refine hK.out _ _ (KEEP.out _ BC.out) (fun hHeld => ?_)
        clear hK K
        try simp only [Act.put, List.setIfInBounds_toArray, List.set_cons_zero, List.set_cons_succ]
        refine wpAnyH_ready (rs := [15]) (by kernel_rfl) (by simp) (AllReadyH.cons rfl (fun K hK => ?_) AllReadyH.nil)
        go_simp
        have hsm := same_ref _ _ y.pas y.pas _ HL2.out HM2.out h642 h642
        rw [dec_ (rfl : y.pas = y.pas)] at hsm
        refine hsm.mono ?_
        rintro e w6 ⟨rfl, nq, hw⟩
        replace BC := Lib.hid (show New wd w6 by rw [hw]; exact BC.out.drewN nq)
        clear hsm hw
        go_wp2_with fail
        refine hK.out _ _ (KEEP.out _ BC.out) (fun hHeld => ?_)
        clear hK K
        try simp only [Act.put, List.setIfInBounds_toArray, List.set_cons_zero, List.set_cons_succ]
        refine takeH (i := 16) (v := .bool false) (some 177) rfl rfl (by kernel_rfl) (by kernel_rfl) (by kernel_rfl) (fun _ _ _ h => h) (Or.inl ⟨by rfl, ?_⟩) hHeld ?_
        · (intro x hSw; (try dsimp only at hSw); go_simp)
        try simp only [Act.put, List.setIfInBounds_toArray, List.set_cons_zero, List.set_cons_succ]
        refine takeH (i := 17) (v := .bool false) (some 178) rfl rfl (by kernel_rfl) (by kernel_rfl) (by kernel_rfl) (fun _ _ _ h => h) (Or.inl ⟨by rfl, ?_⟩) hHeld ?_
        · (intro x hSw; (try dsimp only at hSw); go_simp)
        try simp only [Act.put, List.setIfInBounds_toArray, List.set_cons_zero, List.set_cons_succ]
        refine takeH (i := 18) (v := .bool false) (some 179) rfl rfl (by kernel_rfl) (by kernel_rfl) (by kernel_rfl) (fun _ _ _ h => h) (Or.inl ⟨by rfl, ?_⟩) hHeld ?_
        · (intro x hSw; (try dsimp only at hSw); go_simp)
        try simp only [Act.put, List.setIfInBounds_toArray, List.set_cons_zero, List.set_cons_succ]
        refine takeH (i := 19) (v := .pointer (some ⟨D, 0, none⟩)) (some 180) rfl rfl (by kernel_rfl) (by kernel_rfl) (by kernel_rfl) (fun _ _ _ h => h) (Or.inl ⟨by rfl, ?_⟩) hHeld ?_
        · (intro x hSw; (try dsimp only at hSw); go_simp)
        try simp only [Act.put, List.setIfInBounds_toArray, List.set_cons_zero, List.set_cons_succ]
        refine takeH (i := 21) (v := .pointer (some ⟨M, 5, none⟩)) (some 182) rfl rfl (by kernel_rfl) (by kernel_rfl) (by kernel_rfl) (fun _ _ _ h => h) (Or.inl ⟨by rfl, ?_⟩) hHeld ?_
        · (intro x hSw; (try dsimp only at hSw); go_simp)
        try simp only [Act.put, List.setIfInBounds_toArray, List.set_cons_zero, List.set_cons_succ]
        refine takeH (i := 22) (v := .slice dO3 ds.length dc3) (some 183) rfl rfl (by kernel_rfl) (by kernel_rfl) (by kernel_rfl) (fun _ _ _ h => h) (Or.inl ⟨by rfl, ?_⟩) hHeld ?_
        · (intro x hSw; (try dsimp only at hSw); go_simp)
        try simp only [Act.put, List.setIfInBounds_toArray, List.set_cons_zero, List.set_cons_succ]
        refine takeH (i := 23) (v := .int .i64 ds.length) (some 184) rfl rfl (by kernel_rfl) (by kernel_rfl) (by kernel_rfl) (fun _ _ _ h => h) (Or.inl ⟨by rfl, ?_⟩) hHeld ?_
        · (intro x hSw; (try dsimp only at hSw); go_simp)
        try simp only [Act.put, List.setIfInBounds_toArray, List.set_cons_zero, List.set_cons_succ]
        refine wpAnyH_ready (rs := [20]) (by kernel_rfl) (by simp) (AllReadyH.cons rfl (fun K hK => ?_) AllReadyH.nil)
        go_simp
        refine (HLF.out _ BC.out).mono ?_
        rintro e w6 ⟨rfl, hw⟩
        replace BC := Lib.hid (show New wd w6 by first | (rw [hw]; exact BC.out) | (rw [← hw]; exact BC.out))
        clear hw
        go_wp2_with fail
        refine hK.out _ _ (KEEP.out _ BC.out) (fun hHeld => ?_)
        clear hK K
        try simp only [Act.put, List.setIfInBounds_toArray, List.set_cons_zero, List.set_cons_succ]
        refine takeH (i := 24) (v := .bool false) (some 185) rfl rfl (by kernel_rfl) (by kernel_rfl) (by kernel_rfl) (fun _ _ _ h => h) (Or.inl ⟨by rfl, ?_⟩) hHeld ?_
        · (intro x hSw; (try dsimp only at hSw); go_simp)
        try simp only [Act.put, List.setIfInBounds_toArray, List.set_cons_zero, List.set_cons_succ]
        refine takeH (i := 25) (v := .bool false) (some 186) rfl rfl (by kernel_rfl) (by kernel_rfl) (by kernel_rfl) (fun _ _ _ h => h) (Or.inl ⟨by rfl, ?_⟩) hHeld ?_
        · (intro x hSw; (try dsimp only at hSw); go_simp)
        try simp only [Act.put, List.setIfInBounds_toArray, List.set_cons_zero, List.set_cons_succ]
        refine wpAnyH_done (by kernel_rfl) ?_ _
        refine NoPanic.normal ?_
        have HPZ := Lib.hid (HPL.out.later BC.out)
        clear KEEP HA1 HA2 HS1 HS2 HLF H4 H5 H6 HPL hHeld
        go_wp2_with fail
        go_roundw
        case rel => exact ⟨i + 1, y, _, _, _, _, _, ds, rfl, Lib.hid (by omega), HY, HPZ⟩
        case measure => simp [intOf]; omega
    · go_wp2_with fail
      all_goals
        go_ret
        exact ⟨rfl, HPL.out.new.below⟩
end Go.Proofs.Ytdhafagihfdolaa
