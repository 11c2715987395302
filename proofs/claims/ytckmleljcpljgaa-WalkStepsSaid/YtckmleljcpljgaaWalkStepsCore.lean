/-
  WalkSteps: the core.
-/
import Derived.Test.YtckmleljcpljgaaWlkNext
import Derived.Test.YtckmleljcpljgaaViewSaneCore
import Derived.Deep.RegionWith
import Derived.Deep.RegionHeld3
import Derived.BigQuiet
set_option linter.unusedVariables false
set_option linter.unusedSimpArgs false
set_option maxRecDepth 100000
namespace Go.Proofs.Ytckmleljcpljgaa
open Go.RowKit Go.Lib Go.Sort Go.Shelf

theorem Bk.four {w : World} {g : Nat} {t : TypeId} {a b c d : Value} (h : Bk w g t #[a, b, c, d]) :
    w.cell? ⟨g, 0, none⟩ = some a ∧ w.cell? ⟨g, 1, none⟩ = some b ∧ w.cell? ⟨g, 2, none⟩ = some c ∧ w.cell? ⟨g, 3, none⟩ = some d := ⟨h.cell 0, h.cell 1, h.cell 2, h.cell 3⟩
theorem joinV_keeps (x : VA) (n : Int) : (joinV x n).self = x.self ∧ (joinV x n).A = x.A ∧ (joinV x n).P = x.P := by
  unfold joinV
  split <;> exact ⟨rfl, rfl, rfl⟩
set_option maxHeartbeats 20000000 in
theorem walkSteps_core (v0 : Value) (l0 : List Int) (n0 n1 left know num : Int) (W : World) (h0 : Sl W (· < W.heap.size) v0 (l0.map (Value.int .i64))) (hnum : 0 ≤ num ∧ num ≤ 4294967295) :
    Calls Try.prog 6 #[v0, .agg #[.int .i64 n0, .int .i64 n1, .int .i64 left, .int .i64 know], .int .u32 num] W fun e W' => e = .returned (.bool true) ∧ Below W.heap.size W W' := by
  have H0 := Lib.hid (show Sl W (· < W.heap.size) v0 (ints l0) from h0)
  have HNU := Lib.hid hnum
  clear h0 hnum
  obtain ⟨ao0, cap0, rfl, _, _, _, _⟩ := slr_ints H0.out
  go_enter Try.func6, Try.ntmps6
  go_wp2_with fail
  refine (speaks10 _).mono ?_
  rintro e w1 ⟨rfl, hn1⟩
  have HB1 := Lib.hid (hn1.out.bk (Bk.made W 63 #[.int .i64 n0, .int .i64 n1, .int .i64 left, .int .i64 know]))
  have HN1 := Lib.hid (show New W w1 from ((New.refl W).alloc _).then hn1.out)
  clear hn1
  go_wp2_with fail
  refine (vnew_ok 9 8 8 8 8 w1 (by omega) (by omega) (by omega) (by omega)).mono ?_
  rintro e w2 ⟨sa, sp, rfl, hs2, hn2⟩
  obtain ⟨⟨sao, sal, sac, rfl⟩, spo, spl, spc, rfl⟩ := hs2.slices
  obtain ⟨X, hX⟩ : ∃ X, X = w2.heap.size := ⟨_, rfl⟩
  obtain ⟨w3, hw3⟩ : ∃ w3, w3 = w2.alloc (.cells #[.int .i64 9, .int .i64 8, .slice sao sal sac, .int .i64 8, .slice spo spl spc] 30) := ⟨_, rfl⟩
  have HV := Lib.hid (show ViwAt w3 X ⟨9, 8, 8, [], []⟩ (.slice sao sal sac) (.slice spo spl spc) by rw [hw3, hX]; exact viw_made hs2)
  have hn3 : New w1 w3 := by rw [hw3]; exact hn2.alloc _
  have HN := Lib.hid (HN1.out.then hn3)
  have HB := Lib.hid (hn3.bk HB1.out)
  have HZ := Lib.hid (show W.heap.size < X by rw [hX]; exact Nat.lt_of_lt_of_le HB1.out.lt hn2.size)
  clear hs2 hn2 hn3 HN1 HB1
  unfold viwV
  simp only
  rw [show ((8 : Nat) : Int) = 8 from rfl]
  go_upto_region 4 with fail
  rw [← hw3, ← hX]
  clear hw3 hX
  go_upto_block 0 with fail
  go_cut [8] (fun _ wx => ∃ (x : VA) (ta tp : Value), Hid (x.self = 9 ∧ x.A = 8 ∧ x.P = 8) ∧ Hid (ViwAt wx X x ta tp) ∧ Hid (New W wx) ∧ Hid (Bk wx W.heap.size 63 #[.int .i64 n0, .int .i64 n1, .int .i64 left, .int .i64 know]))
  case first =>
   go_wp2_with fail
   go_loopw [8] (fun vi wr => ∃ (i : Nat) (x : VA) (ta tp : Value), vi = .int .i64 i ∧ Hid (i ≤ 8) ∧ Hid (x.self = 9 ∧ x.A = 8 ∧ x.P = 8) ∧ Hid (ViwAt wr X x ta tp) ∧ Hid (New W wr) ∧ Hid (Bk wr W.heap.size 63 #[.int .i64 n0, .int .i64 n1, .int .i64 left, .int .i64 know])) (fun vi _ => 8 - (intOf vi).toNat)
   case atStart => exact ⟨0, _, _, _, rfl, Lib.hid (Nat.zero_le _), Lib.hid ⟨rfl, rfl, rfl⟩, HV, HN, HB⟩
   case round =>
     clear HV HN HB
     obtain ⟨i, x, ta, tp, rfl, HI, HX, HV, HN, HB⟩ := hrel
     by_cases hc : i < l0.length ∧ i < 8
     · have hc1 : (i : Int) < l0.length := by omega
       have hc2 : (i : Int) < 8 := by omega
       obtain ⟨⟨ao, al, ac, rfl⟩, po, pl, pc, rfl⟩ := HV.out.s.slices
       obtain ⟨b, off, hao, cy⟩ := sli_get (H0.out.keep HN.out.size (fun b hb _ => HN.out.block b hb (by omega))) i hc.1
       subst hao
       obtain ⟨y, hy⟩ : ∃ y, y = l0.getD i 0 := ⟨_, rfl⟩
       rw [← hy] at cy
       obtain ⟨n, hn, hn1, hn2⟩ := and7_wrap y
       have HJ := Lib.hid (fun (z : World) (k : New wr z) => join_ok x _ _ n z (HV.out.s.new k))
       have HSE := Lib.hid (joinV_keeps x n)
       obtain ⟨q, hq⟩ : ∃ q, q = joinV x n := ⟨_, rfl⟩
       rw [← hq] at HJ HSE
       obtain ⟨⟨x0, x1, x2, x3, x4⟩, x5, x6, x7, x8, x9⟩ := HV.out.five
       obtain ⟨xs, xA, xP, xact, xpas⟩ := x
       obtain ⟨qs, qA, qP, qact, qpas⟩ := q
       obtain ⟨rfl, rfl, rfl⟩ := (show qs = xs ∧ qA = xA ∧ qP = xP from HSE.out)
       unfold viwV at HJ
       simp only at HJ x0 x1 x2 x3 x4
       clear hy hn1 hn2 hq HSE
       go_upto_region 7 with fail
       go_region_with (go_at_call 19; refine (HJ.out _ (by first | exact New.refl _ | exact (New.refl _).drew)).mono ?_; rintro e w5 ⟨sa5, sp5, rfl, hs5, hn5⟩; obtain ⟨⟨ao5, al5, ac5, rfl⟩, po5, pl5, pc5, rfl⟩ := hs5.slices; have HS5 := Lib.hid hs5; have HN5 := Lib.hid (show New wr w5 from (New.refl _).drew.then hn5); clear hs5 hn5; obtain ⟨⟨z0, z1, z2, z3, z4⟩, z5, z6, z7, z8, z9⟩ := (HV.out.new HN5.out).five; (try simp only [viwV]); simp only at z0 z1 z2 z3 z4)
       all_goals
         obtain ⟨w6, hw6⟩ : ∃ w6, w6 = put5 w5 X qs qA (.slice ao5 al5 ac5) qP (.slice po5 pl5 pc5) := ⟨_, rfl⟩
         have HV6 := Lib.hid (show ViwAt w6 X ⟨qs, qA, qP, qact, qpas⟩ (.slice ao5 al5 ac5) (.slice po5 pl5 pc5) by
           rw [hw6]
           exact viw_put (HN5.out.bk HV.out.bk) HS5.out rfl rfl rfl)
         have HN6 := Lib.hid (show New W w6 by rw [hw6]; exact Tch.trans (HN.out.then HN5.out) (tch_put5 _ _ _ _ _ _ _) (fun b hb e => by rw [e]; exact Nat.le_of_lt HZ.out))
         have HB6 := Lib.hid ((HN5.out.bk HB.out).tch (show Tch (· = X) w5 w6 by rw [hw6]; exact tch_put5 _ _ _ _ _ _ _) (fun e => by have := HZ.out; omega))
         unfold put5 at hw6
         rw [← hw6]
         clear hw6 x0 x1 x2 x3 x4 x5 x6 x7 x8 x9 z0 z1 z2 z3 z4 z5 z6 z7 z8 z9 cy HV HN HB HN5 HS5
         go_wp2_with fail
         go_roundw
         case rel => exact ⟨i + 1, _, _, _, rfl, Lib.hid (by omega), Lib.hid HX.out, HV6, HN6, HB6⟩
         case measure => simp [intOf]; omega
     · go_wp2_with fail
       all_goals
         go_meet
         exact ⟨_, _, _, HX, HV, HN, HB⟩
  case rest =>
    clear HV HN HB
    obtain ⟨x, ta, tp, HX, HV, HN, HB⟩ := hcut
    obtain ⟨wd, hwd⟩ : ∃ x, x = wc := ⟨_, rfl⟩
    subst hwd
    obtain ⟨⟨ao, al, ac, rfl⟩, po, pl, pc, rfl⟩ := HV.out.s.slices
    obtain ⟨q0, q1, q2, q3⟩ := HB.out.four
    go_upto_region 8 with fail
    go_quiet (fail)
    have HV2 := Lib.hid (HV.out.new ((New.refl wd).drewN nq))
    have HN2 := Lib.hid (HN.out.drewN nq)
    clear HV HN HB q0 q1 q2 q3
    generalize wd.drewN nq = we at HV2 HN2 ⊢
    obtain ⟨fr, hfr⟩ : ∃ z, z = bits BinOp.and IntKind.i64 n0 15 := ⟨_, rfl⟩
    obtain ⟨nd, hnd⟩ : ∃ z, z = bits BinOp.and IntKind.i64 n1 15 := ⟨_, rfl⟩
    rw [← hfr, ← hnd]
    clear hfr hnd
    obtain ⟨⟨x0, x1, x2, x3, x4⟩, x5, x6, x7, x8, x9⟩ := HV2.out.five
    have HAL := Lib.hid (all_lay x.A (.slice ao al ac) x.act we HV2.out.s.seta)
    go_wp2_with fail
    refine HAL.out.mono ?_
    rintro e wf ⟨lo, lc, rfl, hsf, hnf⟩
    have HVF := Lib.hid (HV2.out.new hnf.out)
    have HNF := Lib.hid (HN2.out.then hnf.out)
    have HNX := Lib.hid (next_ref (.slice lo x.act.length lc) x.act fr nd num wf hsf.out (by have := x.act.length; have h1 := HVF.out.s.good.act.le; have h2 := HVF.out.s.good.act.cap; omega) (HVF.out.s.good.act.asc.le) HNU.out)
    rw [twoF_off] at HNX
    obtain ⟨F, hF⟩ : ∃ F, F = offL x fr nd := ⟨_, rfl⟩
    rw [← hF] at HNX
    obtain ⟨nx, hnx⟩ : ∃ z, z = nextN F num := ⟨_, rfl⟩
    rw [← hnx] at HNX
    have HFE := Lib.hid hF
    have HNE := Lib.hid hnx
    clear hF hnx HAL hsf hnf HV2 HN2 x0 x1 x2 x3 x4 x5 x6 x7 x8 x9
    go_wp2_with fail
    refine HNX.out.mono ?_
    rintro e wg ⟨rfl, hng⟩
    have HVG := Lib.hid (HVF.out.new hng.out)
    have HNG := Lib.hid (HNF.out.then hng.out)
    clear hng HNX HVF HNF
    have KEEP : Hid (∀ z, New wg z → z.cell? ⟨X, 0, none⟩ = some (.int .i64 x.self) ∧ z.cell? ⟨X, 1, none⟩ = some (.int .i64 x.A) ∧ z.cell? ⟨X, 2, none⟩ = some (.slice ao al ac) ∧ z.cell? ⟨X, 3, none⟩ = some (.int .i64 x.P) ∧ z.cell? ⟨X, 4, none⟩ = some (.slice po pl pc)) := fun z hz => by
      obtain ⟨⟨y0, y1, y2, y3, y4⟩, _⟩ := (HVG.out.new hz).five
      exact ⟨y0, y1, y2, y3, y4⟩
    have HWJ := Lib.hid (fun (z : World) (k : New wg z) (D g : Nat) (hd : DrawIs z D g [num]) => wjoin_ok x _ _ fr nd left know (.pointer (some ⟨D, 0, none⟩)) (some D) g [num] z (HVG.out.s.new k) (.inr ⟨D, rfl, rfl, hd⟩))
    have HNW := Lib.hid (fun (z : World) (v : Value) (S : Nat → Prop) (hs : Sl z S v (u32s [num])) => new_is v [num] S z hs (by intro y hy; obtain rfl := List.mem_singleton.1 hy; exact HNU.out) (by simp))
    obtain ⟨⟨⟨se, sn, sk⟩, ds5⟩, hsj⟩ : ∃ q, q = joinA x fr nd left know [num] := ⟨_, rfl⟩
    rw [← hsj] at HWJ
    have HSJ := Lib.hid hsj
    have BC := Lib.hid (show New wg wg.drew from (New.refl _).drew)
    unfold viwV at HWJ
    simp only at HWJ
    clear hsj
    have NB1 := Lib.hid (show New wg (wg.alloc (.cells #[.int .u32 num] 64)).drew from ((New.refl _).alloc _).drew)
    have NB2 := Lib.hid (show New wg (((wg.alloc (.cells #[.int .u32 num] 64)).alloc (.cells #[.bool false, .int .i64 0, .bool false] 67)).drew) from (((New.refl _).alloc _).alloc _).drew)
    have NB3 := Lib.hid (show New wg (((wg.alloc (.cells #[.bool false, .int .i64 0, .bool false] 67)).alloc (.cells #[.int .u32 num] 64)).drew) from (((New.refl _).alloc _).alloc _).drew)
    have HSL := Lib.hid (sl_made wg 64 (u32s [num]) (by show 1 ≤ maxLen; decide))
    have HS1 := Lib.hid (show Sl (wg.alloc (.cells #[.int .u32 num] 64)).drew (· = wg.heap.size) (.slice (some ⟨wg.heap.size, 0, none⟩) 1 1) (u32s [num]) from ((New.refl _).drew).sl HSL.out)
    have HS2 := Lib.hid (show Sl (((wg.alloc (.cells #[.int .u32 num] 64)).alloc (.cells #[.bool false, .int .i64 0, .bool false] 67)).drew) (· = wg.heap.size) (.slice (some ⟨wg.heap.size, 0, none⟩) 1 1) (u32s [num]) from (((New.refl _).alloc _).drew).sl HSL.out)
    have HS3 := Lib.hid (show Sl (((wg.alloc (.cells #[.bool false, .int .i64 0, .bool false] 67)).alloc (.cells #[.int .u32 num] 64)).drew) (· = wg.heap.size + 1) (.slice (some ⟨wg.heap.size + 1, 0, none⟩) 1 1) (u32s [num]) from ((New.refl _).drew).sl (by have h := sl_made (wg.alloc (.cells #[.bool false, .int .i64 0, .bool false] 67)) 64 (u32s [num]) (by show 1 ≤ maxLen; decide); have e : (wg.alloc (.cells #[.bool false, .int .i64 0, .bool false] 67)).heap.size = wg.heap.size + 1 := (by simp); rw [e] at h; exact h))
    have HY2 := Lib.hid (show Bk (((wg.alloc (.cells #[.int .u32 num] 64)).alloc (.cells #[.bool false, .int .i64 0, .bool false] 67)).drew) (wg.heap.size + 1) 67 #[.bool false, .int .i64 0, .bool false] from ((New.refl _).drew).bk (by simpa using Bk.made (wg.alloc (.cells #[.int .u32 num] 64)) 67 #[.bool false, .int .i64 0, .bool false]))
    have HY3 := Lib.hid (show Bk (((wg.alloc (.cells #[.bool false, .int .i64 0, .bool false] 67)).alloc (.cells #[.int .u32 num] 64)).drew) wg.heap.size 67 #[.bool false, .int .i64 0, .bool false] from ((New.refl _).drew).bk ((Bk.made wg 67 #[.bool false, .int .i64 0, .bool false]).alloc _))
    go_upto_region 10 with fail
    go_cut [14] (fun vy wx => ∃ Y, vy = .pointer (some ⟨Y, 0, none⟩) ∧ Hid (Bk wx Y 67 #[.bool se, .int .i64 sn, .bool sk]) ∧ Hid (New wg wx) ∧ Hid (wg.heap.size ≤ Y))
    case first =>
      go_region_held3 (fun z => z.cell? ⟨X, 0, none⟩ = some (.int .i64 x.self) ∧ z.cell? ⟨X, 1, none⟩ = some (.int .i64 x.A) ∧ z.cell? ⟨X, 2, none⟩ = some (.slice ao al ac) ∧ z.cell? ⟨X, 3, none⟩ = some (.int .i64 x.P) ∧ z.cell? ⟨X, 4, none⟩ = some (.slice po pl pc))
        ((refine KEEP.out _ ?_; first | exact BC.out | exact BC.out.drew | exact BC.out.alloc _ | exact BC.out.drew.alloc _ | exact (BC.out.alloc _).alloc _ | exact (BC.out.alloc _).drew | exact (BC.out.alloc _).drew.alloc _ | exact ((BC.out.set (p := ⟨_, _, none⟩) (by first | exact Nat.le_refl _ | exact Nat.le_succ _ | exact HLE6.out) _).set (p := ⟨_, _, none⟩) (by first | exact Nat.le_refl _ | exact Nat.le_succ _ | exact HLE6.out) _).set (p := ⟨_, _, none⟩) (by first | exact Nat.le_refl _ | exact Nat.le_succ _ | exact HLE6.out) _))
        (first
         | (go_at_call 10; refine (HNW.out _ _ _ HS1.out).mono ?_; rintro e w6 ⟨D, g, rfl, hD, hg, hdr, hb6⟩; have HDR := Lib.hid hdr; have HDD := Lib.hid (show wg.heap.size ≤ D from Nat.le_trans NB1.out.below.size hD); replace BC := Lib.hid (NB1.out.then (New.of hb6)); have HLE6 := Lib.hid (show wg.heap.size ≤ w6.heap.size from BC.out.below.size); clear hdr hb6 hD hg)
         | (go_at_call 10; refine (HNW.out _ _ _ HS2.out).mono ?_; rintro e w6 ⟨D, g, rfl, hD, hg, hdr, hb6⟩; have HDR := Lib.hid hdr; have HDD := Lib.hid (show wg.heap.size ≤ D from Nat.le_trans NB2.out.below.size hD); have HY6 := Lib.hid ((New.of hb6).bk HY2.out); replace BC := Lib.hid (NB2.out.then (New.of hb6)); have HLE6 := Lib.hid (show wg.heap.size ≤ w6.heap.size from BC.out.below.size); clear hdr hb6 hD hg)
         | (go_at_call 10; refine (HNW.out _ _ _ HS3.out).mono ?_; rintro e w6 ⟨D, g, rfl, hD, hg, hdr, hb6⟩; have HDR := Lib.hid hdr; have HDD := Lib.hid (show wg.heap.size ≤ D from Nat.le_trans NB3.out.below.size hD); have HY6 := Lib.hid ((New.of hb6).bk HY3.out); replace BC := Lib.hid (NB3.out.then (New.of hb6)); have HLE6 := Lib.hid (show wg.heap.size ≤ w6.heap.size from BC.out.below.size); clear hdr hb6 hD hg)
         | (go_at_call 31; refine (HWJ.out _ (by first | exact BC.out | exact BC.out.alloc _) D g (by first | exact HDR.out | exact HDR.out.alloc _)).mono ?_; rintro e w7 ⟨rfl, hd7, hv7⟩; (first | (have HY7 := Lib.hid (hv7.out.bk HY6.out ((show DrawP _ (.pointer (some ⟨D, 0, none⟩)) (some D) g [num] from .inr ⟨D, rfl, rfl, HDR.out⟩).ne HY6.out step_ne_draw)); obtain ⟨⟨y0, y1, y2⟩, y3, y4, y5⟩ := Bk.three HY7.out; (try simp at y0 y1 y2 y3 y4 y5)) | (have HY7 := Lib.hid (show Bk w7 w6.heap.size 67 #[.bool false, .int .i64 0, .bool false] from hv7.out.bk (Bk.made w6 67 #[.bool false, .int .i64 0, .bool false]) ((show DrawP (w6.alloc (.cells #[.bool false, .int .i64 0, .bool false] 67)) (.pointer (some ⟨D, 0, none⟩)) (some D) g [num] from .inr ⟨D, rfl, rfl, HDR.out.alloc _⟩).ne (Bk.made w6 67 #[.bool false, .int .i64 0, .bool false]) step_ne_draw)); obtain ⟨⟨y0, y1, y2⟩, y3, y4, y5⟩ := Bk.three HY7.out; (try simp at y0 y1 y2 y3 y4 y5)) | skip); replace BC := Lib.hid (show New wg w7 from VT.new (by first | exact BC.out | exact BC.out.alloc _) hv7.out (fun d e => by injection e with e; rw [← e]; exact HDD.out)); clear hd7 hv7; (try simp only [stV])))
      all_goals
        go_wp2_with fail
        go_meet
        first
          | exact ⟨_, rfl, Lib.hid (Bk.made _ _ _), Lib.hid (BC.out.alloc _), Lib.hid BC.out.below.size⟩
          | exact ⟨_, rfl, Lib.hid (((HY7.out.store 0 _).store 1 _).store 2 _), Lib.hid (((BC.out.set (p := ⟨_, _, none⟩) (by first | exact Nat.le_refl _ | exact Nat.le_succ _ | exact HLE6.out) _).set (p := ⟨_, _, none⟩) (by first | exact Nat.le_refl _ | exact Nat.le_succ _ | exact HLE6.out) _).set (p := ⟨_, _, none⟩) (by first | exact Nat.le_refl _ | exact Nat.le_succ _ | exact HLE6.out) _), Lib.hid (by first | exact Nat.le_refl _ | exact Nat.le_succ _ | exact HLE6.out)⟩
    case rest =>
      obtain ⟨Y, rfl, HBY, HNY, HLY⟩ := hcut
      obtain ⟨wh, hwh⟩ : ∃ x, x = wc := ⟨_, rfl⟩
      subst hwh
      have HVH := Lib.hid (HVG.out.new HNY.out)
      have HNH := Lib.hid (HNG.out.then HNY.out)
      clear KEEP HWJ HNW BC NB1 NB2 NB3 HSL HS1 HS2 HS3 HY2 HY3 HNG HNY
      have KEEP : Hid (∀ z, New wh z → z.cell? ⟨X, 0, none⟩ = some (.int .i64 x.self) ∧ z.cell? ⟨X, 1, none⟩ = some (.int .i64 x.A) ∧ z.cell? ⟨X, 2, none⟩ = some (.slice ao al ac) ∧ z.cell? ⟨X, 3, none⟩ = some (.int .i64 x.P) ∧ z.cell? ⟨X, 4, none⟩ = some (.slice po pl pc)) := fun z hz => by
        obtain ⟨⟨y0, y1, y2, y3, y4⟩, _⟩ := (HVH.out.new hz).five
        exact ⟨y0, y1, y2, y3, y4⟩
      have HWM := Lib.hid (fun (z : World) (k : New wh z) (D g : Nat) (hd : DrawIs z D g [num]) => mix_ok x _ _ fr nd left (.pointer (some ⟨D, 0, none⟩)) (some D) g [num] z (HVH.out.s.new k) (.inr ⟨D, rfl, rfl, hd⟩))
      have HNW := Lib.hid (fun (z : World) (v : Value) (S : Nat → Prop) (hs : Sl z S v (u32s [num])) => new_is v [num] S z hs (by intro y hy; obtain rfl := List.mem_singleton.1 hy; exact HNU.out) (by simp))
      obtain ⟨⟨⟨te, tn, tk⟩, ds6⟩, hsm⟩ : ∃ q, q = stepA x fr nd left [num] := ⟨_, rfl⟩
      rw [← hsm] at HWM
      have HSM := Lib.hid hsm
      have BC := Lib.hid (show New wh wh.drew from (New.refl _).drew)
      unfold viwV at HWM
      simp only at HWM
      clear hsm
      have NB1 := Lib.hid (show New wh (wh.alloc (.cells #[.int .u32 num] 64)).drew from ((New.refl _).alloc _).drew)
      have NB2 := Lib.hid (show New wh (((wh.alloc (.cells #[.int .u32 num] 64)).alloc (.cells #[.bool false, .int .i64 0, .bool false] 67)).drew) from (((New.refl _).alloc _).alloc _).drew)
      have NB3 := Lib.hid (show New wh (((wh.alloc (.cells #[.bool false, .int .i64 0, .bool false] 67)).alloc (.cells #[.int .u32 num] 64)).drew) from (((New.refl _).alloc _).alloc _).drew)
      have HSL := Lib.hid (sl_made wh 64 (u32s [num]) (by show 1 ≤ maxLen; decide))
      have HS1 := Lib.hid (show Sl (wh.alloc (.cells #[.int .u32 num] 64)).drew (· = wh.heap.size) (.slice (some ⟨wh.heap.size, 0, none⟩) 1 1) (u32s [num]) from ((New.refl _).drew).sl HSL.out)
      have HS2 := Lib.hid (show Sl (((wh.alloc (.cells #[.int .u32 num] 64)).alloc (.cells #[.bool false, .int .i64 0, .bool false] 67)).drew) (· = wh.heap.size) (.slice (some ⟨wh.heap.size, 0, none⟩) 1 1) (u32s [num]) from (((New.refl _).alloc _).drew).sl HSL.out)
      have HS3 := Lib.hid (show Sl (((wh.alloc (.cells #[.bool false, .int .i64 0, .bool false] 67)).alloc (.cells #[.int .u32 num] 64)).drew) (· = wh.heap.size + 1) (.slice (some ⟨wh.heap.size + 1, 0, none⟩) 1 1) (u32s [num]) from ((New.refl _).drew).sl (by have h := sl_made (wh.alloc (.cells #[.bool false, .int .i64 0, .bool false] 67)) 64 (u32s [num]) (by show 1 ≤ maxLen; decide); have e : (wh.alloc (.cells #[.bool false, .int .i64 0, .bool false] 67)).heap.size = wh.heap.size + 1 := (by simp); rw [e] at h; exact h))
      have HY2 := Lib.hid (show Bk (((wh.alloc (.cells #[.int .u32 num] 64)).alloc (.cells #[.bool false, .int .i64 0, .bool false] 67)).drew) (wh.heap.size + 1) 67 #[.bool false, .int .i64 0, .bool false] from ((New.refl _).drew).bk (by simpa using Bk.made (wh.alloc (.cells #[.int .u32 num] 64)) 67 #[.bool false, .int .i64 0, .bool false]))
      have HY3 := Lib.hid (show Bk (((wh.alloc (.cells #[.bool false, .int .i64 0, .bool false] 67)).alloc (.cells #[.int .u32 num] 64)).drew) wh.heap.size 67 #[.bool false, .int .i64 0, .bool false] from ((New.refl _).drew).bk ((Bk.made wh 67 #[.bool false, .int .i64 0, .bool false]).alloc _))
      go_upto_region 11 with fail
      go_cut [15] (fun vy wx => ∃ Y, vy = .pointer (some ⟨Y, 0, none⟩) ∧ Hid (Bk wx Y 67 #[.bool te, .int .i64 tn, .bool tk]) ∧ Hid (New wh wx) ∧ Hid (wh.heap.size ≤ Y))
      case first =>
        go_region_held3 (fun z => z.cell? ⟨X, 0, none⟩ = some (.int .i64 x.self) ∧ z.cell? ⟨X, 1, none⟩ = some (.int .i64 x.A) ∧ z.cell? ⟨X, 2, none⟩ = some (.slice ao al ac) ∧ z.cell? ⟨X, 3, none⟩ = some (.int .i64 x.P) ∧ z.cell? ⟨X, 4, none⟩ = some (.slice po pl pc))
          ((refine KEEP.out _ ?_; first | exact BC.out | exact BC.out.drew | exact BC.out.alloc _ | exact BC.out.drew.alloc _ | exact (BC.out.alloc _).alloc _ | exact (BC.out.alloc _).drew | exact (BC.out.alloc _).drew.alloc _ | exact ((BC.out.set (p := ⟨_, _, none⟩) (by first | exact Nat.le_refl _ | exact Nat.le_succ _ | exact HLE6.out) _).set (p := ⟨_, _, none⟩) (by first | exact Nat.le_refl _ | exact Nat.le_succ _ | exact HLE6.out) _).set (p := ⟨_, _, none⟩) (by first | exact Nat.le_refl _ | exact Nat.le_succ _ | exact HLE6.out) _))
          (first
           | (go_at_call 10; refine (HNW.out _ _ _ HS1.out).mono ?_; rintro e w6 ⟨D, g, rfl, hD, hg, hdr, hb6⟩; have HDR := Lib.hid hdr; have HDD := Lib.hid (show wh.heap.size ≤ D from Nat.le_trans NB1.out.below.size hD); replace BC := Lib.hid (NB1.out.then (New.of hb6)); have HLE6 := Lib.hid (show wh.heap.size ≤ w6.heap.size from BC.out.below.size); clear hdr hb6 hD hg)
           | (go_at_call 10; refine (HNW.out _ _ _ HS2.out).mono ?_; rintro e w6 ⟨D, g, rfl, hD, hg, hdr, hb6⟩; have HDR := Lib.hid hdr; have HDD := Lib.hid (show wh.heap.size ≤ D from Nat.le_trans NB2.out.below.size hD); have HY6 := Lib.hid ((New.of hb6).bk HY2.out); replace BC := Lib.hid (NB2.out.then (New.of hb6)); have HLE6 := Lib.hid (show wh.heap.size ≤ w6.heap.size from BC.out.below.size); clear hdr hb6 hD hg)
           | (go_at_call 10; refine (HNW.out _ _ _ HS3.out).mono ?_; rintro e w6 ⟨D, g, rfl, hD, hg, hdr, hb6⟩; have HDR := Lib.hid hdr; have HDD := Lib.hid (show wh.heap.size ≤ D from Nat.le_trans NB3.out.below.size hD); have HY6 := Lib.hid ((New.of hb6).bk HY3.out); replace BC := Lib.hid (NB3.out.then (New.of hb6)); have HLE6 := Lib.hid (show wh.heap.size ≤ w6.heap.size from BC.out.below.size); clear hdr hb6 hD hg)
           | (go_at_call 32; refine (HWM.out _ (by first | exact BC.out | exact BC.out.alloc _) D g (by first | exact HDR.out | exact HDR.out.alloc _)).mono ?_; rintro e w7 ⟨rfl, hd7, hv7⟩; (first | (have HY7 := Lib.hid (hv7.out.bk HY6.out ((show DrawP _ (.pointer (some ⟨D, 0, none⟩)) (some D) g [num] from .inr ⟨D, rfl, rfl, HDR.out⟩).ne HY6.out step_ne_draw)); obtain ⟨⟨y0, y1, y2⟩, y3, y4, y5⟩ := Bk.three HY7.out; (try simp at y0 y1 y2 y3 y4 y5)) | (have HY7 := Lib.hid (show Bk w7 w6.heap.size 67 #[.bool false, .int .i64 0, .bool false] from hv7.out.bk (Bk.made w6 67 #[.bool false, .int .i64 0, .bool false]) ((show DrawP (w6.alloc (.cells #[.bool false, .int .i64 0, .bool false] 67)) (.pointer (some ⟨D, 0, none⟩)) (some D) g [num] from .inr ⟨D, rfl, rfl, HDR.out.alloc _⟩).ne (Bk.made w6 67 #[.bool false, .int .i64 0, .bool false]) step_ne_draw)); obtain ⟨⟨y0, y1, y2⟩, y3, y4, y5⟩ := Bk.three HY7.out; (try simp at y0 y1 y2 y3 y4 y5)) | skip); replace BC := Lib.hid (show New wh w7 from VT.new (by first | exact BC.out | exact BC.out.alloc _) hv7.out (fun d e => by injection e with e; rw [← e]; exact HDD.out)); clear hd7 hv7; (try simp only [stV])))
        all_goals
          go_wp2_with fail
          go_meet
          first
            | exact ⟨_, rfl, Lib.hid (Bk.made _ _ _), Lib.hid (BC.out.alloc _), Lib.hid BC.out.below.size⟩
            | exact ⟨_, rfl, Lib.hid (((HY7.out.store 0 _).store 1 _).store 2 _), Lib.hid (((BC.out.set (p := ⟨_, _, none⟩) (by first | exact Nat.le_refl _ | exact Nat.le_succ _ | exact HLE6.out) _).set (p := ⟨_, _, none⟩) (by first | exact Nat.le_refl _ | exact Nat.le_succ _ | exact HLE6.out) _).set (p := ⟨_, _, none⟩) (by first | exact Nat.le_refl _ | exact Nat.le_succ _ | exact HLE6.out) _), Lib.hid (by first | exact Nat.le_refl _ | exact Nat.le_succ _ | exact HLE6.out)⟩
      case rest =>
        obtain ⟨Z, rfl, HBZ, HNZ, HLZ⟩ := hcut
        obtain ⟨wi, hwi⟩ : ∃ x, x = wc := ⟨_, rfl⟩
        subst hwi
        have HVI := Lib.hid (HVH.out.new HNZ.out)
        have HNI := Lib.hid (HNH.out.then HNZ.out)
        have HBYI := Lib.hid (HNZ.out.bk HBY.out)
        have HYZ := Lib.hid (show Y < wi.heap.size ∧ Z < wi.heap.size from ⟨HBYI.out.lt, HBZ.out.lt⟩)
        clear KEEP HWM HNW BC NB1 NB2 NB3 HSL HS1 HS2 HS3 HY2 HY3 HNH HNZ HBY HVH HVG
        have HLN := Lib.hid (fun (z : World) (k : New wi z) => len_lay x.A (.slice ao al ac) x.act z (HVI.out.new k).s.seta)
        obtain ⟨⟨x0, x1, x2, x3, x4⟩, x5, x6, x7, x8, x9⟩ := HVI.out.five
        obtain ⟨⟨y0, y1, y2⟩, y3, y4, y5⟩ := HBYI.out.three
        obtain ⟨⟨z0, z1, z2⟩, z3, z4, z5⟩ := HBZ.out.three
        have HSTE := Lib.hid (show left < 1 → stepA x fr nd left [num] = (⟨true, 0, false⟩, [num]) from fun h => by unfold stepA; rw [if_pos h])
        have HNP := Lib.hid (show F ≠ [] → nx = pick F [num] ∧ 1 ≤ nx from fun h => by
          have h1 := nextN_pick num h (by
            rw [HFE.out]
            have h1 := HVI.out.s.good.act.le
            have h2 := HVI.out.s.good.act.cap
            exact Nat.le_trans (List.length_filter_le _ _) (by omega))
          have h2 := pick_mem h [num]
          rw [HNE.out, h1]
          rw [HFE.out] at h2 ⊢
          exact ⟨rfl, (HVI.out.s.good.act.node _ (List.mem_filter.1 h2).1).1⟩)
        have hxl : X < wi.heap.size := HVI.out.bk.lt
        have hyl : Y < wi.heap.size := HBYI.out.lt
        have hzl : Z < wi.heap.size := HBZ.out.lt
        have hxa : X ≠ wi.heap.size := Nat.ne_of_lt hxl
        have hya : Y ≠ wi.heap.size := Nat.ne_of_lt hyl
        have hza : Z ≠ wi.heap.size := Nat.ne_of_lt hzl
        by_cases hl : left < 1
        · have e1 := HSTE.out hl
          have e2 : (joinA x fr nd left know [num]).1 = ⟨true, 0, false⟩ := by
            unfold joinA
            split
            · rfl
            · rw [e1]; rfl
          rw [← HSM.out] at e1
          rw [← HSJ.out] at e2
          injection e1 with e1 _
          injection e1 with f1 f2 f3
          injection e2 with g1 g2 g3
          subst f1 f2 f3 g1 g2 g3
          have hl2 : ¬ 1 ≤ left := by omega
          have heq := fun w => eqSt true 0 false w
          clear hl
          go_wp2_with fail
          go_ret
          refine ⟨rfl, New.below (w1 := _) ?_⟩
          repeat (first | refine New.alloc ?_ _ | refine New.set ?_ (by show W.heap.size ≤ _; have := HNI.out.below.size; (try simp); omega) _)
          exact HNI.out
        · have hl1 : 1 ≤ left := by omega
          have HXM := Lib.hid (Bk.made wi 67 #[.bool true, .int .i64 0, .bool false])
          have HBYJ := Lib.hid (Bk.alloc HBYI.out (.cells #[.bool true, .int .i64 0, .bool false] 67))
          have HBZJ := Lib.hid (Bk.alloc HBZ.out (.cells #[.bool true, .int .i64 0, .bool false] 67))
          have HNJ0 := Lib.hid (HNI.out.alloc (.cells #[.bool true, .int .i64 0, .bool false] 67))
          obtain ⟨⟨xa0, xa1, xa2, xa3, xa4⟩, xa5, xa6, xa7, xa8, xa9⟩ := (HVI.out.new ((New.refl wi).alloc (.cells #[.bool true, .int .i64 0, .bool false] 67))).five
          obtain ⟨ln, hln⟩ : ∃ ln, ln = x.act.length := ⟨_, rfl⟩
          have HLNN := Lib.hid hln
          rw [← hln] at HLN
          clear hln
          by_cases hF : F = []
          · have e1 : stepA x fr nd left [num] = (⟨true, 0, false⟩, [num]) := by unfold stepA; rw [if_neg hl, ← HFE.out, if_pos hF]
            have e2 : (joinA x fr nd left know [num]).1 = ⟨true, 0, false⟩ := by
              unfold joinA
              split
              · rfl
              · rw [e1]; rfl
            have hx0 : nx = 0 := by rw [HNE.out]; unfold nextN; rw [if_pos hF]
            rw [← HSM.out] at e1
            rw [← HSJ.out] at e2
            injection e1 with e1 _
            injection e1 with f1 f2 f3
            injection e2 with g1 g2 g3
            subst f1 f2 f3 g1 g2 g3 hx0
            have heq := fun w => eqSt true 0 false w
            have HL2 := Lib.hid (HLN.out _ ((New.refl wi).alloc (.cells #[.bool true, .int .i64 0, .bool false] 67)))
            clear hl hF
            by_cases h2 : 2 ≤ ln
            · have h2i : (2 : Int) ≤ ln := by omega
              clear h2
              go_wp2_with fail
              refine HL2.out.mono ?_
              rintro e wj ⟨rfl, hnj⟩
              have HNJ := Lib.hid (HNJ0.out.then hnj.out)
              clear xa0 xa1 xa2 xa3 xa4 xa5 xa6 xa7 xa8 xa9 x0 x1 x2 x3 x4 x5 x6 x7 x8 x9 y0 y1 y2 y3 y4 y5 z0 z1 z2 z3 z4 z5
              obtain ⟨⟨y0, y1, y2⟩, y3, y4, y5⟩ := (hnj.out.bk HBYJ.out).three
              obtain ⟨⟨z0, z1, z2⟩, z3, z4, z5⟩ := (hnj.out.bk HBZJ.out).three
              obtain ⟨⟨x0, x1, x2⟩, x3, x4, x5⟩ := (hnj.out.bk HXM.out).three
              have hz := (hnj.out.bk HXM.out).lt
              have hzy := (hnj.out.bk HBYJ.out).lt
              have hzz := (hnj.out.bk HBZJ.out).lt
              go_wp2_with fail
              go_ret
              refine ⟨rfl, New.below (w1 := _) ?_⟩
              repeat (first | refine New.alloc ?_ _ | refine New.set ?_ (by show W.heap.size ≤ _; have := HNI.out.below.size; (try simp); omega) _)
              exact HNJ.out
            · have h2i : ¬ (2 : Int) ≤ ln := by omega
              clear h2
              go_wp2_with fail
              refine HL2.out.mono ?_
              rintro e wj ⟨rfl, hnj⟩
              have HNJ := Lib.hid (HNJ0.out.then hnj.out)
              clear xa0 xa1 xa2 xa3 xa4 xa5 xa6 xa7 xa8 xa9 x0 x1 x2 x3 x4 x5 x6 x7 x8 x9 y0 y1 y2 y3 y4 y5 z0 z1 z2 z3 z4 z5
              obtain ⟨⟨y0, y1, y2⟩, y3, y4, y5⟩ := (hnj.out.bk HBYJ.out).three
              obtain ⟨⟨z0, z1, z2⟩, z3, z4, z5⟩ := (hnj.out.bk HBZJ.out).three
              obtain ⟨⟨x0, x1, x2⟩, x3, x4, x5⟩ := (hnj.out.bk HXM.out).three
              have hz := (hnj.out.bk HXM.out).lt
              have hzy := (hnj.out.bk HBYJ.out).lt
              have hzz := (hnj.out.bk HBZJ.out).lt
              go_wp2_with fail
              go_ret
              refine ⟨rfl, New.below (w1 := _) ?_⟩
              repeat (first | refine New.alloc ?_ _ | refine New.set ?_ (by show W.heap.size ≤ _; have := HNI.out.below.size; (try simp); omega) _)
              exact HNJ.out
          · obtain ⟨hpk, hx1⟩ := HNP.out hF
            have e1 : (stepA x fr nd left [num]).1 = ⟨false, nx, false⟩ := by unfold stepA; rw [if_neg hl, ← HFE.out, if_neg hF, hpk]
            have e0 : (stepA x fr nd left [num]).1 = ⟨te, tn, tk⟩ := by rw [← HSM.out]
            have hx0 : 0 < nx := by omega
            have e3 : (joinA x fr nd left know [num]).1 = if ln < 2 then ⟨true, 0, false⟩ else ⟨false, nx, decide (left = know)⟩ := by
              unfold joinA
              rw [← HLNN.out]
              split
              · rfl
              · rw [e1]; rfl
            have e4 : (joinA x fr nd left know [num]).1 = ⟨se, sn, sk⟩ := by rw [← HSJ.out]
            rw [e1] at e0
            rw [e3] at e4
            injection e0 with f1 f2 f3
            have HL2 := Lib.hid (HLN.out _ ((New.refl wi).alloc (.cells #[.bool true, .int .i64 0, .bool false] 67)))
            subst f1 f2 f3
            clear e1 e3 hl hF hpk
            have heq := fun e n k w => eqSt e n k w
            by_cases h2 : ln < 2
            · have h2i : ¬ (2 : Int) ≤ ln := by omega
              rw [if_pos h2] at e4
              injection e4 with g1 g2 g3
              subst g1 g2 g3
              clear h2
              go_wp2_with fail
              refine HL2.out.mono ?_
              rintro e wj ⟨rfl, hnj⟩
              have HNJ := Lib.hid (HNJ0.out.then hnj.out)
              clear xa0 xa1 xa2 xa3 xa4 xa5 xa6 xa7 xa8 xa9 x0 x1 x2 x3 x4 x5 x6 x7 x8 x9 y0 y1 y2 y3 y4 y5 z0 z1 z2 z3 z4 z5
              obtain ⟨⟨y0, y1, y2⟩, y3, y4, y5⟩ := (hnj.out.bk HBYJ.out).three
              obtain ⟨⟨z0, z1, z2⟩, z3, z4, z5⟩ := (hnj.out.bk HBZJ.out).three
              obtain ⟨⟨x0, x1, x2⟩, x3, x4, x5⟩ := (hnj.out.bk HXM.out).three
              have hz := (hnj.out.bk HXM.out).lt
              have hzy := (hnj.out.bk HBYJ.out).lt
              have hzz := (hnj.out.bk HBZJ.out).lt
              go_wp2_with fail
              go_ret
              refine ⟨rfl, New.below (w1 := _) ?_⟩
              repeat (first | refine New.alloc ?_ _ | refine New.set ?_ (by show W.heap.size ≤ _; have := HNI.out.below.size; (try simp); omega) _)
              exact HNJ.out
            · have h2i : (2 : Int) ≤ ln := by omega
              rw [if_neg h2] at e4
              injection e4 with g1 g2 g3
              obtain ⟨bk, hbk⟩ : ∃ bk, bk = decide (left = know) := ⟨_, rfl⟩
              rw [← hbk] at g3
              have t1 : (left == know) = bk := by
                rw [hbk]
                by_cases hk : left = know
                · rw [dec_ hk]; simp [hk]
                · rw [decn_ hk]; simp [hk]
              subst g1 g2 g3
              clear h2 hbk
              go_wp2_with fail
              refine HL2.out.mono ?_
              rintro e wj ⟨rfl, hnj⟩
              have HNJ := Lib.hid (HNJ0.out.then hnj.out)
              clear xa0 xa1 xa2 xa3 xa4 xa5 xa6 xa7 xa8 xa9 x0 x1 x2 x3 x4 x5 x6 x7 x8 x9 y0 y1 y2 y3 y4 y5 z0 z1 z2 z3 z4 z5
              obtain ⟨⟨y0, y1, y2⟩, y3, y4, y5⟩ := (hnj.out.bk HBYJ.out).three
              obtain ⟨⟨z0, z1, z2⟩, z3, z4, z5⟩ := (hnj.out.bk HBZJ.out).three
              obtain ⟨⟨x0, x1, x2⟩, x3, x4, x5⟩ := (hnj.out.bk HXM.out).three
              have hz := (hnj.out.bk HXM.out).lt
              have hzy := (hnj.out.bk HBYJ.out).lt
              have hzz := (hnj.out.bk HBZJ.out).lt
              have hYX : Y ≠ wi.heap.size := by have := HYZ.out; omega
              have hZX : Z ≠ wi.heap.size := by have := HYZ.out; omega
              go_wp2_with fail
              go_ret
              refine ⟨rfl, New.below (w1 := _) ?_⟩
              repeat (first | refine New.alloc ?_ _ | refine New.set ?_ (by show W.heap.size ≤ _; have := HNI.out.below.size; (try simp); omega) _)
              exact HNJ.out
end Go.Proofs.Ytckmleljcpljgaa
