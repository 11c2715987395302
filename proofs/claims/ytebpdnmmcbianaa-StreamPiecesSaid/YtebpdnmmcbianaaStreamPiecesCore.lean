/-
  StreamPieces: the core.
-/
import Derived.Test.YtebpdnmmcbianaaStrJunk
import Derived.Test.YtebpdnmmcbianaaTellApp
import Derived.Test.YtebpdnmmcbianaaHeldBy
set_option linter.unusedVariables false
set_option linter.unusedSimpArgs false
set_option maxRecDepth 100000
namespace Go.Proofs.Ytebpdnmmcbianaa
open Go.RowKit

set_option maxHeartbeats 2000000 in
theorem streamPieces_core (l : Value) (qs : List SM) (cv : Value) (cs : List Int) (s : ByteArray) (W : World) (hl : SMs W (· < W.heap.size) l qs) (hq : ∀ q ∈ qs, SMOk q) (hcv : Sl W (· < W.heap.size) cv (cs.map fun c => .int .u8 c)) (hcs : ∀ c ∈ cs, 0 ≤ c ∧ c ≤ 255) (hs : s.size ≤ maxLen) :
    Calls Try.prog 3 #[l, cv, .string s] W fun e W' => e = .returned (.bool true) ∧ Below W.heap.size W W' := by
  obtain ⟨ao, cap, rfl, hcap, hcm⟩ := sms_shape hl
  have HL := Lib.hid hl
  have HQ := Lib.hid hq
  have HCV := Lib.hid hcv
  have HCS := Lib.hid hcs
  obtain ⟨aoc, capc, rfl, _, _, _, _⟩ := hcv
  clear hl hq hcs
  go_enter Try.func3, Try.ntmps3
  go_wp2_with fail
  refine (speaks6 W).mono ?_
  rintro e w1 ⟨rfl, hn⟩
  have HN1 := Lib.hid hn
  clear hn
  go_upto_block 0 with fail
  go_cut [7, 8] (fun v7 v8 wr => ∃ (js : List SM) (ms : List (MsgA × MsgV)), v7 = .string (str (framesL js)) ∧ Hid (js.length ≤ 8) ∧ Hid (Told wr W.heap.size v8 ms) ∧ Hid (ms.map (·.1) = js.map SM.m) ∧ Hid (New W wr))
  case first =>
    go_wp2_with fail
    go_loopw [7, 8, 9] (fun v7 v8 v9 wr => ∃ (j : Nat) (ms : List (MsgA × MsgV)), v7 = .string (str (framesL (qs.take j))) ∧ v9 = .int .i64 j ∧ Hid (j ≤ qs.length ∧ j ≤ 8) ∧ Hid (Told wr W.heap.size v8 ms) ∧ Hid (ms.map (·.1) = (qs.take j).map SM.m) ∧ Hid (New W wr)) (fun _ _ v9 _ => qs.length - (intOf v9).toNat)
    case atStart => exact ⟨0, [], rfl, rfl, Lib.hid ⟨by omega, by omega⟩, Lib.hid ⟨World.ownsRow_nil _ _ _ _, by simp⟩, Lib.hid rfl, HN1⟩
    case round =>
      obtain ⟨j, ms, rfl, rfl, HJ, HTD, HMS, HNr⟩ := hrel
      clear HN1
      by_cases hj : j < qs.length ∧ j < 8
      · obtain ⟨hj1, hj2⟩ := hj
        obtain ⟨b, off, rfl, c0, c1, c2⟩ := sms_at (HL.out.below HNr.out.below) j hj1
        obtain ⟨q, hq⟩ : ∃ q, q = qs[j] := ⟨_, rfl⟩
        rw [← hq] at c0 c1 c2
        have HO : Hid (SMOk q) := Lib.hid (HQ.out q (by rw [hq]; exact List.getElem_mem _))
        obtain ⟨fs, hfs⟩ : ∃ fs, fs = framesL (qs.take j) := ⟨_, rfl⟩
        have hfl : fs.length ≤ 1616 := by rw [hfs]; have := framesL_len (qs.take j); rw [List.length_take] at this; omega
        have HF2 := Lib.hid (show framesL (qs.take (j + 1)) = fs ++ frameL q.m by rw [framesL_more qs j hj1, hfs, hq])
        have HM2 := Lib.hid (show (qs.take (j + 1)).map SM.m = ms.map (·.1) ++ [q.m] by rw [List.take_succ_eq_append_getElem hj1, List.map_append, HMS.out, hq]; rfl)
        have HML := Lib.hid (show ms.length = j by have := congrArg List.length HMS.out; rw [List.length_map, List.length_map, List.length_take] at this; omega)
        rw [← hfs]
        have HFL := Lib.hid hfl
        have HTO := Lib.hid (q.told HO.out wr)
        obtain ⟨ef, hef⟩ : ∃ ef, ef = encM q.m := ⟨_, rfl⟩
        obtain ⟨fr, hfr⟩ : ∃ fr, fr = frameL q.m := ⟨_, rfl⟩
        have HEF := Lib.hid hef
        have HFR := Lib.hid hfr
        clear hq hfs hfl hef hfr
        go_wp2_with fail
        refine HTO.out.mono ?_
        rintro e w2 ⟨an, cn, ai, ci, ar, cr, rfl, hm, hn⟩
        obtain ⟨w3, hw3⟩ : ∃ w3, w3 = w2.alloc (.cells (msgC q.m ⟨.slice an q.m.nodes.length cn, .slice ai q.m.ids.length ci, .slice ar q.m.recs.length cr⟩) 30) := ⟨_, rfl⟩
        have HB3 := Lib.hid (show Bk w3 w2.heap.size 30 (msgC q.m ⟨.slice an q.m.nodes.length cn, .slice ai q.m.ids.length ci, .slice ar q.m.recs.length cr⟩) by rw [hw3]; exact Bk.made _ _ _)
        have hn3 : New wr w3 := by rw [hw3]; exact hn.alloc _
        have HN3 := Lib.hid hn3
        have hm3 : MsgIs w3 (fun b => wr.heap.size ≤ b ∧ b < w2.heap.size) q.m ⟨.slice an q.m.nodes.length cn, .slice ai q.m.ids.length ci, .slice ar q.m.recs.length cr⟩ := by
          rw [hw3]; exact ((New.refl w2).alloc _).msg (hm.more (fun b hb h => ⟨h, hb⟩))
        have HM3 := Lib.hid hm3
        have HEN := Lib.hid (encode_ok q.m _ _ w3 hm3 q.wf)
        have HW3 := Lib.hid hw3
        have HS3 := Lib.hid (show w2.heap.size < w3.heap.size by rw [hw3]; simp)
        clear hm hn HTO c0 c1 c2 hw3 hn3 hm3
        simp only [msgC]
        go_wp2_with fail
        have hwx := HW3.out
        simp only [msgC] at hwx
        rw [← hwx]
        clear hwx HW3
        refine HEN.out.mono ?_
        rintro e w4 ⟨rfl, hn⟩
        rw [encE_ok q.may (by have := q.len; omega)]
        have HN4 := Lib.hid (HN3.out.then hn)
        have hb4 := hn.bk HB3.out
        have HM4 := Lib.hid (hn.msg HM3.out)
        have HS4 := Lib.hid (show w2.heap.size < w4.heap.size by have := HS3.out; have := hn.size; omega)
        have HB4 := Lib.hid hb4
        have c0 := hb4.cell 0
        have c1 := hb4.cell 1
        have c2 := hb4.cell 2
        have c3 := hb4.cell 3
        have c4 := hb4.cell 4
        have c5 := hb4.cell 5
        have c6 := hb4.cell 6
        simp [msgC] at c0 c1 c2 c3 c4 c5 c6
        have HFO := Lib.hid (frame_ok q.m _ _ w4 HM4.out q.wf)
        have e1 : str (encM q.m, 0).1 = str ef := by rw [HEF.out]
        have e2 : (((encM q.m, 0) : List UInt8 × Nat).2 : Int) = 0 := rfl
        rw [e1, e2]
        clear hn hb4 HEN e1 e2 HB3 HM3 HN3 HS3
        simp only [msgC] at HFO
        go_wp2_with fail
        refine HFO.out.mono ?_
        rintro e w5 ⟨rfl, hn⟩
        rw [q.frame]
        have HN5 := Lib.hid (HN4.out.then hn)
        have hb5 := hn.bk HB4.out
        have HM5 := Lib.hid (hn.msg HM4.out)
        have HS5 := Lib.hid (show w2.heap.size < w5.heap.size by have := HS4.out; have := hn.size; omega)
        have HB5 := Lib.hid hb5
        have e1 : str (frameL q.m, 0).1 = str fr := by rw [HFR.out]
        have e2 : (((frameL q.m, 0) : List UInt8 × Nat).2 : Int) = 0 := rfl
        rw [e1, e2]
        have hez : (str ef).size = ef.length := str_size ef
        have heb : ef.length ≤ 200 := by rw [HEF.out]; exact q.len
        have HEB := Lib.hid heb
        have A2 : ∀ w, (Op.stringOp .add (str (beL 2 ef.length)) (str ef)).run Try.prog w = .ok (.string (str fr)) w := fun w => by
          have := sadd (beL 2 ef.length) ef (by have := HEB.out; rw [beL_length]; omega) w
          rw [this, HFR.out, frameL, ← HEF.out]
        have A1 : ∀ w, (Op.stringOp .add (str fs) (str fr)).run Try.prog w = .ok (.string (str (fs ++ fr))) w := fun w => sadd _ _ (by have := HFL.out; have := q.flen; rw [← HFR.out] at this; omega) w
        have HLE := Lib.hid (length_ok ef.length (by omega) w5)
        clear hn hb5 HFO e1 e2 HB4 HM4 HN4 HS4 c0 c1 c2 c3 c4 c5 c6 heb
        go_wp2_with fail
        refine HLE.out.mono ?_
        rintro e w6 ⟨rfl, hn⟩
        have HN6 := Lib.hid (HN5.out.then hn)
        have hb6 := hn.bk HB5.out
        have HM6 := Lib.hid (hn.msg HM5.out)
        have HS6 := Lib.hid (show w2.heap.size < w6.heap.size by have := HS5.out; have := hn.size; omega)
        have HTD6 := Lib.hid (HTD.out.new HN6.out)
        have c0 := hb6.cell 0
        have c1 := hb6.cell 1
        have c2 := hb6.cell 2
        have c3 := hb6.cell 3
        have c4 := hb6.cell 4
        have c5 := hb6.cell 5
        have c6 := hb6.cell 6
        simp [msgC] at c0 c1 c2 c3 c4 c5 c6
        have hne : ((str fr).toList != (str fr).toList) = false := str_nne rfl
        have HX7 := Lib.hid (Bk.made w6 30 (msgC q.m ⟨.slice an q.m.nodes.length cn, .slice ai q.m.ids.length ci, .slice ar q.m.recs.length cr⟩))
        have HM7 := Lib.hid (show MsgIs (w6.alloc (.cells (msgC q.m ⟨.slice an q.m.nodes.length cn, .slice ai q.m.ids.length ci, .slice ar q.m.recs.length cr⟩) 30)) (fun b => W.heap.size ≤ b ∧ u8.ownBlock ≠ some b ∧ b < (w6.alloc (.cells (msgC q.m ⟨.slice an q.m.nodes.length cn, .slice ai q.m.ids.length ci, .slice ar q.m.recs.length cr⟩) 30)).heap.size) q.m ⟨.slice an q.m.nodes.length cn, .slice ai q.m.ids.length ci, .slice ar q.m.recs.length cr⟩ from
          ((New.refl w6).alloc _).msg (HM6.out.more (fun b hb h => ⟨by have := HNr.out.size; omega, fun hv => by have := (own_base HTD.out.1 hv).2; omega, by simp; omega⟩)))
        have HTD7 := Lib.hid (HTD6.out.new ((New.refl w6).alloc (.cells (msgC q.m ⟨.slice an q.m.nodes.length cn, .slice ai q.m.ids.length ci, .slice ar q.m.recs.length cr⟩) 30)))
        have HW6 := Lib.hid (show W.heap.size ≤ w6.heap.size by have := HNr.out.size; have := HN6.out.size; omega)
        clear hn hb6 HLE HB5 HM5 HN5 HS5 HM6 HTD6
        simp only [msgC] at HTD7
        go_wp2_with (at_builtin; go_loud (refine list_app_told rfl (.tmp 74) (.tmp 76) rfl W.heap.size _ ms rfl (by exact HTD7.out) (some ⟨w6.heap.size, 0, none⟩) 1 [(q.m, ⟨.slice an q.m.nodes.length cn, .slice ai q.m.ids.length ci, .slice ar q.m.recs.length cr⟩)] (by simp [Act.eval, Act.put]) (fun h => by cases h) (fun ad e jj u hu => by cases e; rw [Addr.add_lit, Nat.zero_add]; exact (HX7.out.cell jj).trans (by rw [← Array.getElem?_toList]; simpa [flatM] using hu)) (fun x hx => by obtain rfl := List.mem_singleton.1 hx; exact HM7.out) (by have := HML.out; have := HJ.out; simp; omega) (by have := HW6.out; simp; omega) ?_); intro v' w8 HT8 HG8)
        have HN8 := Lib.hid (show New W w8 from ((((HNr.out.then HN6.out).alloc _) : Tch _ _ _).trans HG8.out (fun b hb e => (own_base HTD7.out.1 e.symm).1)))
        go_roundw
        case rel => exact ⟨j + 1, ms ++ [(q.m, ⟨.slice an q.m.nodes.length cn, .slice ai q.m.ids.length ci, .slice ar q.m.recs.length cr⟩)], by rw [HF2.out, HFR.out], rfl, Lib.hid ⟨by omega, by omega⟩, HT8, Lib.hid (by rw [HM2.out, List.map_append]; rfl), HN8⟩
        case measure => simp [intOf]; omega
      · have HOUT : Hid (∃ (js : List SM) (ms2 : List (MsgA × MsgV)), Value.string (str (framesL (qs.take j))) = .string (str (framesL js)) ∧ Hid (js.length ≤ 8) ∧ Hid (Told wr W.heap.size u8 ms2) ∧ Hid (ms2.map (·.1) = js.map SM.m) ∧ Hid (New W wr)) := Lib.hid ⟨qs.take j, ms, rfl, Lib.hid (by rw [List.length_take]; have := HJ.out; omega), HTD, HMS, HNr⟩
        by_cases hj1 : j < qs.length
        · have hj2 : ¬ j < 8 := by omega
          go_wp2_with fail
          go_meet
          exact HOUT.out
        · go_wp2_with fail
          go_meet
          exact HOUT.out
  case rest =>
    obtain ⟨js, mw, rfl, HJS, HTW, HMW, HNr⟩ := hcut
    clear HN1
    obtain ⟨fs, hfs⟩ : ∃ fs, fs = framesL js := ⟨_, rfl⟩
    have hfl : fs.length ≤ 1616 := by rw [hfs]; have := framesL_len js; have := HJS.out; omega
    have HRF := Lib.hid (show runS ⟨[], 0⟩ fs = (⟨[], 0⟩, js.map SM.m) by rw [hfs]; exact framesL_run js)
    rw [← hfs]
    have HFL := Lib.hid hfl
    obtain ⟨jl, hjl⟩ : ∃ jl, jl = s.data.toList.take 40 := ⟨_, rfl⟩
    have hjz : jl.length ≤ 40 := by rw [hjl, List.length_take]; omega
    have HJL := Lib.hid hjl
    have HJZ := Lib.hid hjz
    have HNW := Lib.hid (show mw.length ≤ 8 by have := congrArg List.length HMW.out; rw [List.length_map, List.length_map] at this; have := HJS.out; omega)
    clear hfs hfl hjl hjz HJS
    obtain ⟨wr, hwr⟩ : ∃ x, x = wc := ⟨_, rfl⟩
    subst hwr
    obtain ⟨vw, capw, hvw, hnw⟩ : ∃ ao cap, u8 = .slice ao mw.length cap ∧ mw.length ≤ cap := by obtain ⟨a, c, h1, h2, _⟩ := HTW.out.shape; exact ⟨a, c, h1, h2⟩
    subst hvw
    go_upto_region 14 with fail
    go_cut [2] (fun v2 wx => v2 = .string (str jl) ∧ wx = wr)
    case first =>
      by_cases h8 : 40 < (s.size : Int)
      · have X : s.extract 0 40 = str jl := by rw [cut_str s 40 40 (by omega), HJL.out]
        go_wp2_with fail
        go_meet
        exact ⟨rfl, rfl⟩
      · have X : s.extract 0 s.size = str jl := by rw [cut_str s 40 s.size (by omega), HJL.out]
        go_wp2_with fail
        go_meet
        exact ⟨rfl, rfl⟩
    case rest =>
    obtain ⟨rfl, rfl⟩ := hcut
    obtain ⟨w0, hw0⟩ : ∃ x, x = wc := ⟨_, rfl⟩
    subst hw0
    have A1 : ∀ w, (Op.stringOp .add (str fs) (str jl)).run Try.prog w = .ok (.string (str (fs ++ jl))) w := fun w => sadd _ _ (by have := HFL.out; have := HJZ.out; omega) w
    obtain ⟨al, hal⟩ : ∃ al, al = fs ++ jl := ⟨_, rfl⟩
    rw [← hal] at A1
    have HRA := Lib.hid (show runS ⟨[], 0⟩ al = ((runS ⟨[], 0⟩ jl).1, js.map SM.m ++ (runS ⟨[], 0⟩ jl).2) by rw [hal, runS_append, HRF.out])
    have HAL := Lib.hid (show al.length ≤ 1656 by rw [hal, List.length_append]; have := HFL.out; have := HJZ.out; omega)
    clear hal HRF
    obtain ⟨P, hP⟩ : ∃ P, P = w0.heap.size := ⟨_, rfl⟩
    obtain ⟨w5, hw5⟩ : ∃ w5, w5 = (w0.alloc (.cells Try.zeroCells40 40)).alloc (.cells Try.zeroCells40 40) := ⟨_, rfl⟩
    have hsp : SpIs w5 P ⟨[], 0⟩ := by rw [hw5, hP]; exact (sp_new w0).new ((New.refl _).alloc _)
    have hsq : SpIs w5 (P + 1) ⟨[], 0⟩ := by
      have := sp_new (w0.alloc (.cells Try.zeroCells40 40))
      rw [World.size_alloc, ← hP, ← hw5] at this
      exact this
    have HN5 := Lib.hid (show New w0 w5 by rw [hw5]; exact ((New.refl _).alloc _).alloc _)
    have HP := Lib.hid (show w0.heap.size ≤ P by rw [hP]; omega)
    have HP5 := Lib.hid (show P + 1 < w5.heap.size from hsq.lt)
    have HW5 := Lib.hid hw5
    have HPP := Lib.hid hP
    have HSP := Lib.hid hsp
    have HFC := Lib.hid (feed_ok (P + 1) al ⟨[], 0⟩ w5 hsq calm_new (by have := HAL.out; omega))
    clear hw5 hP hsp hsq
    go_wp2_with fail
    rw [← HW5.out, ← HPP.out]
    clear HW5 HPP A1
    refine HFC.out.mono ?_
    rintro e w6 ⟨vc, mc, rfl, htc, hsq, hmc, ht⟩
    rw [HRA.out] at hsq hmc
    simp only at hsq hmc
    obtain ⟨aox, capx, rfl, hxc, _⟩ := htc.shape
    have HN6 := Lib.hid (new_of_own HN5.out ht (by have := HP.out; omega))
    replace HSP := Lib.hid (HSP.out.tch ht (by omega))
    have HZ6 := Lib.hid (show w5.heap.size ≤ w6.heap.size from ht.size)
    have HSQ := Lib.hid hsq
    have HTC := Lib.hid htc
    have HMC := Lib.hid hmc
    have HB6 := Lib.hid (show P + 1 < w6.heap.size by have := HP5.out; have := ht.size; omega)
    clear htc hsq hmc ht HFC HN5
    go_upto_block 2 with fail
    go_cut [19] (fun vg wx => ∃ (mg : List (MsgA × MsgV)), Hid (Told wx w6.heap.size vg mg) ∧ Hid (SpIs wx P (runS ⟨[], 0⟩ jl).1) ∧ Hid (mg.map (·.1) = js.map SM.m ++ (runS ⟨[], 0⟩ jl).2) ∧ Hid (Tch (· = P) w6 wx))
    case first =>
      go_wp2_with fail
      go_loopw [19, 20, 21] (fun vg vr vi wx => ∃ (mg : List (MsgA × MsgV)) (r : List UInt8) (st : St) (i : Nat), vr = .string (str r) ∧ vi = .int .i64 i ∧ Hid (i + r.length ≤ 1656 ∧ mg.length + r.length ≤ 1656) ∧ Hid (Told wx w6.heap.size vg mg) ∧ Hid (SpIs wx P st) ∧ Hid (Calm st) ∧ Hid (((runS ⟨[], 0⟩ jl).1, js.map SM.m ++ (runS ⟨[], 0⟩ jl).2) = ((runS st r).1, mg.map (·.1) ++ (runS st r).2)) ∧ Hid (Tch (· = P) w6 wx)) (fun _ vr _ _ => match vr with | .string s => s.size | _ => 0)
      case atStart => exact ⟨[], al, ⟨[], 0⟩, 0, rfl, rfl, Lib.hid (by have := HAL.out; simp; omega), Lib.hid ⟨World.ownsRow_nil _ _ _ _, by simp⟩, HSP, Lib.hid calm_new, Lib.hid (by rw [HRA.out]; rfl), Lib.hid (Tch.refl _ _)⟩
      case round =>
        obtain ⟨mg, r, st, i, rfl, rfl, HI, HTG, HSP1, HCA, HRU, HTT⟩ := hrel
        by_cases hn : r = []
        · subst hn
          have hse : (str []).toList.isEmpty = true := by decide +kernel
          go_wp2_with fail
          go_meet
          have hr := HRU.out
          simp only [runS, List.append_nil] at hr
          have h1 := congrArg Prod.fst hr
          have h2 := congrArg Prod.snd hr
          simp only at h1 h2
          exact ⟨mg, HTG, Lib.hid (by rw [h1]; exact HSP1.out), Lib.hid h2.symm, HTT⟩
        · have hse : (str r).toList.isEmpty = false := by
            rw [List.isEmpty_eq_false_iff]
            intro e
            exact hn (str_inj (toList_inj (e.trans (show ([] : List UInt8) = (str []).toList from by decide +kernel))))
          have hrl : 0 < r.length := List.length_pos_iff.2 hn
          have hsz := str_size r
          obtain ⟨nr, hnr⟩ : ∃ nr, nr = r.length := ⟨_, rfl⟩
          rw [← hnr] at hsz hrl
          have HNR := Lib.hid hnr
          have hib : i ≤ 1656 := by have := HI.out; omega
          clear hn hnr
          by_cases hi : i < cs.length
          · obtain ⟨c, hc⟩ : ∃ c, c = cs[i] := ⟨_, rfl⟩
            have hcb : 0 ≤ c ∧ c ≤ 255 := HCS.out c (by rw [hc]; exact List.getElem_mem _)
            have HNX := new_of_own (HNr.out.then HN6.out) HTT.out (by have := HP.out; have := HNr.out.size; omega)
            obtain ⟨bc, oc, rfl, cc⟩ := sl_get (HCV.out.below HNX.below) i (by simpa using hi)
            simp only [List.getElem_map] at cc
            rw [← hc] at cc
            obtain ⟨cn, hcn⟩ : ∃ cn : Nat, c = (cn : Int) := ⟨c.toNat, by omega⟩
            subst hcn
            clear hc HNX
            obtain ⟨n, hn⟩ : ∃ n : Nat, 1 + (cn : Int) = (n : Int) := ⟨1 + cn, by omega⟩
            have hn1 : 1 ≤ n := by omega
            by_cases hlt : n ≤ nr
            · have hlt2 : ¬ (nr : Int) < (n : Int) := by omega
              have X1 : (str r).extract 0 n = str (r.take n) := str_head r n
              have X2 : (str r).extract n nr = str (r.drop n) := by have := str_tail r n; rwa [hsz] at this
              have HFX := Lib.hid (feed_ok P (r.take n) st wr HSP1.out HCA.out (by rw [List.length_take, ← HNR.out]; have := HI.out; omega))
              have HLN := Lib.hid (show (r.drop n).length + n = nr by rw [List.length_drop, ← HNR.out]; omega)
              go_wp2_with fail
              refine HFX.out.mono ?_
              rintro e w7 ⟨vx, m2, rfl, htx, hsx, hmx, ht⟩
              have hra := runS_append st (r.take n) (r.drop n)
              rw [List.take_append_drop, ← hmx] at hra
              have HRA2 := Lib.hid hra
              have HCA2 := Lib.hid (runS_calm st (r.take n) HCA.out)
              have HM2L := Lib.hid (show m2.length ≤ n by have h1 := runS_count st (r.take n); have h2 := congrArg List.length hmx; rw [List.length_map] at h2; rw [List.length_take] at h1; omega)
              obtain ⟨aoz, capz, rfl, _, _⟩ := htx.shape
              obtain ⟨_, hsrcA, hsrcC⟩ := htx.src
              have HSA := Lib.hid hsrcA
              have HSC := Lib.hid hsrcC
              have HTG7 := Lib.hid (HTG.out.tch ht (fun b hb e => by have := HB6.out; omega))
              have HS7 := Lib.hid (show wr.heap.size ≤ w7.heap.size from ht.size)
              have HSR := Lib.hid (show w6.heap.size ≤ wr.heap.size from HTT.out.size)
              have HMX := Lib.hid (show ∀ x ∈ m2, MsgIs w7 (fun b => w6.heap.size ≤ b ∧ u19.ownBlock ≠ some b ∧ b < w7.heap.size) x.1 x.2 from fun x hx => (htx.2 x hx).more (fun b hb h => ⟨by have := HSR.out; omega, fun hv => by have := (own_base HTG.out.1 hv).2; omega, hb⟩))
              have HT7 := Lib.hid (HTT.out.then ht)
              have HSX := Lib.hid hsx
              have HMX2 := Lib.hid hmx
              clear htx hsx hmx ht hra hsrcA hsrcC HFX X1
              go_wp2_with (at_builtin; go_loud (refine list_app_told rfl (.tmp 107) (.tmp 111) rfl w6.heap.size _ mg rfl (by exact HTG7.out) aoz capz m2 (by simp [Act.eval, Act.put]) HSA.out HSC.out HMX.out (by have := HM2L.out; have := HI.out; have := HLN.out; have := HNR.out; omega) (by have := HS7.out; have := HSR.out; omega) ?_); intro v' w8 HT8 HG8)
              have HP8 := Lib.hid (show ¬ (some P = u19.ownBlock) from fun e => by have := (own_base HTG7.out.1 e.symm).1; have := HB6.out; omega)
              have HTT8 := Lib.hid (show Tch (· = P) w6 w8 from HT7.out.trans HG8.out (fun b hb e => by have := (own_base HTG7.out.1 e.symm).1; omega))
              go_roundw
              case rel => exact ⟨mg ++ m2, r.drop n, (runS st (r.take n)).1, i + 1, (by first | rfl | rw [List.drop_one] | (rw [List.drop_of_length_le (by rw [← HNR.out]; omega)]; rfl)), rfl, Lib.hid (by have := HI.out; have := HLN.out; have := HNR.out; have := HM2L.out; rw [List.length_append]; omega), HT8, Lib.hid (HSX.out.tch HG8.out HP8.out), HCA2, Lib.hid (by rw [HRU.out, HRA2.out]; simp), HTT8⟩
              case measure => simp [str_size]; have := HLN.out; have := HNR.out; omega
            · have hlt2 : (nr : Int) < (n : Int) := by omega
              have X1 : (str r).extract 0 nr = str (r.take nr) := str_head r nr
              have X2 : (str r).extract nr nr = str (r.drop nr) := by have := str_tail r nr; rwa [hsz] at this
              have HFX := Lib.hid (feed_ok P (r.take nr) st wr HSP1.out HCA.out (by rw [List.length_take, ← HNR.out]; have := HI.out; omega))
              have HLN := Lib.hid (show (r.drop nr).length + nr = nr by rw [List.length_drop, ← HNR.out]; omega)
              go_wp2_with fail
              refine HFX.out.mono ?_
              rintro e w7 ⟨vx, m2, rfl, htx, hsx, hmx, ht⟩
              have hra := runS_append st (r.take nr) (r.drop nr)
              rw [List.take_append_drop, ← hmx] at hra
              have HRA2 := Lib.hid hra
              have HCA2 := Lib.hid (runS_calm st (r.take nr) HCA.out)
              have HM2L := Lib.hid (show m2.length ≤ nr by have h1 := runS_count st (r.take nr); have h2 := congrArg List.length hmx; rw [List.length_map] at h2; rw [List.length_take] at h1; omega)
              obtain ⟨aoz, capz, rfl, _, _⟩ := htx.shape
              obtain ⟨_, hsrcA, hsrcC⟩ := htx.src
              have HSA := Lib.hid hsrcA
              have HSC := Lib.hid hsrcC
              have HTG7 := Lib.hid (HTG.out.tch ht (fun b hb e => by have := HB6.out; omega))
              have HS7 := Lib.hid (show wr.heap.size ≤ w7.heap.size from ht.size)
              have HSR := Lib.hid (show w6.heap.size ≤ wr.heap.size from HTT.out.size)
              have HMX := Lib.hid (show ∀ x ∈ m2, MsgIs w7 (fun b => w6.heap.size ≤ b ∧ u19.ownBlock ≠ some b ∧ b < w7.heap.size) x.1 x.2 from fun x hx => (htx.2 x hx).more (fun b hb h => ⟨by have := HSR.out; omega, fun hv => by have := (own_base HTG.out.1 hv).2; omega, hb⟩))
              have HT7 := Lib.hid (HTT.out.then ht)
              have HSX := Lib.hid hsx
              have HMX2 := Lib.hid hmx
              clear htx hsx hmx ht hra hsrcA hsrcC HFX X1
              go_wp2_with (at_builtin; go_loud (refine list_app_told rfl (.tmp 107) (.tmp 111) rfl w6.heap.size _ mg rfl (by exact HTG7.out) aoz capz m2 (by simp [Act.eval, Act.put]) HSA.out HSC.out HMX.out (by have := HM2L.out; have := HI.out; have := HLN.out; have := HNR.out; omega) (by have := HS7.out; have := HSR.out; omega) ?_); intro v' w8 HT8 HG8)
              have HP8 := Lib.hid (show ¬ (some P = u19.ownBlock) from fun e => by have := (own_base HTG7.out.1 e.symm).1; have := HB6.out; omega)
              have HTT8 := Lib.hid (show Tch (· = P) w6 w8 from HT7.out.trans HG8.out (fun b hb e => by have := (own_base HTG7.out.1 e.symm).1; omega))
              go_roundw
              case rel => exact ⟨mg ++ m2, r.drop nr, (runS st (r.take nr)).1, i + 1, (by first | rfl | rw [List.drop_one] | (rw [List.drop_of_length_le (by rw [← HNR.out]; omega)]; rfl)), rfl, Lib.hid (by have := HI.out; have := HLN.out; have := HNR.out; have := HM2L.out; rw [List.length_append]; omega), HT8, Lib.hid (HSX.out.tch HG8.out HP8.out), HCA2, Lib.hid (by rw [HRU.out, HRA2.out]; simp), HTT8⟩
              case measure => simp [str_size]; have := HLN.out; have := HNR.out; omega
          · have hn1 : 1 ≤ nr := by omega
            have X1 : (str r).extract 0 1 = str (r.take 1) := str_head r 1
            have X2 : (str r).extract 1 nr = str (r.drop 1) := by have := str_tail r 1; rwa [hsz] at this
            have HFX := Lib.hid (feed_ok P (r.take 1) st wr HSP1.out HCA.out (by rw [List.length_take, ← HNR.out]; have := HI.out; omega))
            have HLN := Lib.hid (show (r.drop 1).length + 1 = nr by rw [List.length_drop, ← HNR.out]; omega)
            go_wp2_with fail
            refine HFX.out.mono ?_
            rintro e w7 ⟨vx, m2, rfl, htx, hsx, hmx, ht⟩
            have hra := runS_append st (r.take 1) (r.drop 1)
            rw [List.take_append_drop, ← hmx] at hra
            have HRA2 := Lib.hid hra
            have HCA2 := Lib.hid (runS_calm st (r.take 1) HCA.out)
            have HM2L := Lib.hid (show m2.length ≤ 1 by have h1 := runS_count st (r.take 1); have h2 := congrArg List.length hmx; rw [List.length_map] at h2; rw [List.length_take] at h1; omega)
            obtain ⟨aoz, capz, rfl, _, _⟩ := htx.shape
            obtain ⟨_, hsrcA, hsrcC⟩ := htx.src
            have HSA := Lib.hid hsrcA
            have HSC := Lib.hid hsrcC
            have HTG7 := Lib.hid (HTG.out.tch ht (fun b hb e => by have := HB6.out; omega))
            have HS7 := Lib.hid (show wr.heap.size ≤ w7.heap.size from ht.size)
            have HSR := Lib.hid (show w6.heap.size ≤ wr.heap.size from HTT.out.size)
            have HMX := Lib.hid (show ∀ x ∈ m2, MsgIs w7 (fun b => w6.heap.size ≤ b ∧ u19.ownBlock ≠ some b ∧ b < w7.heap.size) x.1 x.2 from fun x hx => (htx.2 x hx).more (fun b hb h => ⟨by have := HSR.out; omega, fun hv => by have := (own_base HTG.out.1 hv).2; omega, hb⟩))
            have HT7 := Lib.hid (HTT.out.then ht)
            have HSX := Lib.hid hsx
            have HMX2 := Lib.hid hmx
            clear htx hsx hmx ht hra hsrcA hsrcC HFX X1
            go_wp2_with (at_builtin; go_loud (refine list_app_told rfl (.tmp 107) (.tmp 111) rfl w6.heap.size _ mg rfl (by exact HTG7.out) aoz capz m2 (by simp [Act.eval, Act.put]) HSA.out HSC.out HMX.out (by have := HM2L.out; have := HI.out; have := HLN.out; have := HNR.out; omega) (by have := HS7.out; have := HSR.out; omega) ?_); intro v' w8 HT8 HG8)
            have HP8 := Lib.hid (show ¬ (some P = u19.ownBlock) from fun e => by have := (own_base HTG7.out.1 e.symm).1; have := HB6.out; omega)
            have HTT8 := Lib.hid (show Tch (· = P) w6 w8 from HT7.out.trans HG8.out (fun b hb e => by have := (own_base HTG7.out.1 e.symm).1; omega))
            go_roundw
            case rel => exact ⟨mg ++ m2, r.drop 1, (runS st (r.take 1)).1, i + 1, (by first | rfl | rw [List.drop_one] | (rw [List.drop_of_length_le (by rw [← HNR.out]; omega)]; rfl)), rfl, Lib.hid (by have := HI.out; have := HLN.out; have := HNR.out; have := HM2L.out; rw [List.length_append]; omega), HT8, Lib.hid (HSX.out.tch HG8.out HP8.out), HCA2, Lib.hid (by rw [HRU.out, HRA2.out]; simp), HTT8⟩
            case measure => simp [str_size]; have := HLN.out; have := HNR.out; omega
    case rest =>
    obtain ⟨mg, HTG, HSG, HMG, HTT⟩ := hcut
    obtain ⟨aog, capg, hvg, hgc⟩ : ∃ ao cap, u19 = .slice ao mg.length cap ∧ mg.length ≤ cap := by obtain ⟨a, c, h1, h2, _⟩ := HTG.out.shape; exact ⟨a, c, h1, h2⟩
    subst hvg
    have HNC := Lib.hid (show New w0 wc from new_of_own HN6.out HTT.out HP.out)
    replace HSQ := Lib.hid (HSQ.out.tch HTT.out (by omega))
    replace HTC := Lib.hid (HTC.out.tch HTT.out (fun b hb e => by have := HP5.out; omega))
    replace HTW := Lib.hid (HTW.out.new HNC.out)
    obtain ⟨rj, hrj⟩ : ∃ rj, rj = runS ⟨[], 0⟩ jl := ⟨_, rfl⟩
    rw [← hrj] at HSG HMG HSQ HMC
    have HRJ := Lib.hid hrj
    have HNF := Lib.hid (show New W wc from HNr.out.then HNC.out)
    have hgx : mg.length = mc.length := by have h1 := congrArg List.length HMG.out; have h2 := congrArg List.length HMC.out; rw [List.length_map] at h1 h2; omega
    have hwx : mw.length + rj.2.length = mc.length := by have h1 := congrArg List.length HMC.out; have h2 := congrArg List.length HMW.out; simp only [List.length_map, List.length_append] at h1 h2; omega
    have hcx : mc.length ≤ 1700 := by have h1 := runS_count ⟨[], 0⟩ jl; rw [← hrj] at h1; have := HJZ.out; have := HNW.out; omega
    obtain ⟨nc, hnc⟩ : ∃ nc, nc = mc.length := ⟨_, rfl⟩
    obtain ⟨nw, hnw2⟩ : ∃ nw, nw = mw.length := ⟨_, rfl⟩
    rw [hgx] at hgc HTG
    rw [hgx]
    rw [← hnc] at hgx hcx hwx hgc HTG HTC
    rw [← hnw2] at hwx HTW hnw
    rw [← hnc, ← hnw2]
    have HGX := Lib.hid hgx
    have HWX := Lib.hid hwx
    have HC := Lib.hid hnc
    have HWL := Lib.hid hnw2
    have hwc : nw ≤ nc := by omega
    have HB1 := Lib.hid (spbad_ok P _ wc HSG.out)
    have HB2 := Lib.hid (spbad_ok (P + 1) _ wc HSQ.out)
    have HL1 := Lib.hid (spleft_ok P _ wc HSG.out)
    have HL2 := Lib.hid (spleft_ok (P + 1) _ wc HSQ.out)
    have hwci : ¬ (nc : Int) < (nw : Int) := by omega
    clear hrj hgx hwx hnc hnw2 HTT HN6 HSP HRA HAL HZ6 HB6 HP5
    go_wp2_with fail
    refine HB1.out.mono ?_
    rintro e w9 ⟨rfl, rfl⟩
    go_wp2_with fail
    refine HB2.out.mono ?_
    rintro e w10 ⟨rfl, rfl⟩
    go_wp2_with fail
    refine HL1.out.mono ?_
    rintro e w11 ⟨rfl, rfl⟩
    go_wp2_with fail
    refine HL2.out.mono ?_
    rintro e w12 ⟨rfl, rfl⟩
    clear HB1 HB2 HL1 HL2
    go_wp2_with fail
    go_loopw [23] (fun v wr => ∃ j : Nat, v = .int .i64 j ∧ Hid (j ≤ nc) ∧ Hid (New w12 wr)) (fun v _ => nc - (intOf v).toNat)
    case atStart => exact ⟨0, rfl, Lib.hid (by omega), Lib.hid (New.refl _)⟩
    case round =>
      obtain ⟨j, rfl, HJ, HNl⟩ := hrel
      by_cases hj : j < nc
      · obtain ⟨gc, m, cn1, cn2, ci1, ci2, cr1, cr2, rfl, hgcc, hcm2, hmc, c0, c1, c2, c3, c4, c5, c6⟩ := HTC.out.get j (by rw [← HC.out]; exact hj)
        obtain ⟨ga, m2, an1, an2, ai1, ai2, ar1, ar2, rfl, hga, ham, hma, a0, a1, a2, a3, a4, a5, a6⟩ := HTG.out.get j (by rw [HGX.out]; exact hj)
        obtain rfl : m = m2 := by
          have h1 : (mc.map (·.1))[j]? = some m := by rw [List.getElem?_map, List.getElem?_eq_getElem (by rw [← HC.out]; exact hj), hcm2]; rfl
          rw [HMC.out, ← HMG.out, List.getElem?_map, List.getElem?_eq_getElem (by rw [HGX.out]; exact hj)] at h1
          simp at h1
          rw [ham, ← h1]
        by_cases hjw : j < nw
        · obtain ⟨gw, m3, wn1, wn2, wi1, wi2, wr1, wr2, rfl, hgw, hwm, hmw, b0, b1, b2, b3, b4, b5, b6⟩ := HTW.out.get j (by rw [← HWL.out]; exact hjw)
          obtain rfl : m = m3 := by
            have h1 : (mc.map (·.1))[j]? = some m := by rw [List.getElem?_map, List.getElem?_eq_getElem (by rw [← HC.out]; exact hj), hcm2]; rfl
            rw [HMC.out, ← HMW.out, List.getElem?_append_left (by rw [List.length_map, ← HWL.out]; exact hjw), List.getElem?_map, List.getElem?_eq_getElem (by rw [← HWL.out]; exact hjw)] at h1
            simp at h1
            rw [hwm, ← h1]
          have d1 : decide ((j : Int) < (nw : Int)) = true := dec_ (by omega)
          clear hcm2 ham hwm
          go_upto_region 34 with fail
          have KEEP : Hid (∀ x, New w12 x → (fun x => x.cell? ⟨ga, j * 7, none⟩ = some (.int .i64 m.kind) ∧ x.cell? ⟨ga, j * 7 + 1, none⟩ = some (.int .i64 m.node) ∧ x.cell? ⟨ga, j * 7 + 2, none⟩ = some (.int .i64 m.walk) ∧ x.cell? ⟨ga, j * 7 + 3, none⟩ = some (.bool m.high) ∧ x.cell? ⟨ga, j * 7 + 4, none⟩ = some (.slice an1 m.nodes.length an2) ∧ x.cell? ⟨ga, j * 7 + 5, none⟩ = some (.slice ai1 m.ids.length ai2) ∧ x.cell? ⟨ga, j * 7 + 6, none⟩ = some (.slice ar1 m.recs.length ar2) ∧ x.cell? ⟨gc, j * 7, none⟩ = some (.int .i64 m.kind) ∧ x.cell? ⟨gc, j * 7 + 1, none⟩ = some (.int .i64 m.node) ∧ x.cell? ⟨gc, j * 7 + 2, none⟩ = some (.int .i64 m.walk) ∧ x.cell? ⟨gc, j * 7 + 3, none⟩ = some (.bool m.high) ∧ x.cell? ⟨gc, j * 7 + 4, none⟩ = some (.slice cn1 m.nodes.length cn2) ∧ x.cell? ⟨gc, j * 7 + 5, none⟩ = some (.slice ci1 m.ids.length ci2) ∧ x.cell? ⟨gc, j * 7 + 6, none⟩ = some (.slice cr1 m.recs.length cr2) ∧ x.cell? ⟨gw, j * 7, none⟩ = some (.int .i64 m.kind) ∧ x.cell? ⟨gw, j * 7 + 1, none⟩ = some (.int .i64 m.node) ∧ x.cell? ⟨gw, j * 7 + 2, none⟩ = some (.int .i64 m.walk) ∧ x.cell? ⟨gw, j * 7 + 3, none⟩ = some (.bool m.high) ∧ x.cell? ⟨gw, j * 7 + 4, none⟩ = some (.slice wn1 m.nodes.length wn2) ∧ x.cell? ⟨gw, j * 7 + 5, none⟩ = some (.slice wi1 m.ids.length wi2) ∧ x.cell? ⟨gw, j * 7 + 6, none⟩ = some (.slice wr1 m.recs.length wr2)) x) := Lib.hid fun x hx => ⟨hx.cell a0, hx.cell a1, hx.cell a2, hx.cell a3, hx.cell a4, hx.cell a5, hx.cell a6, hx.cell c0, hx.cell c1, hx.cell c2, hx.cell c3, hx.cell c4, hx.cell c5, hx.cell c6, hx.cell b0, hx.cell b1, hx.cell b2, hx.cell b3, hx.cell b4, hx.cell b5, hx.cell b6⟩
          have HMX := Lib.hid (fun (x : World) (hx : New w12 x) => hx.msg hma)
          have HMY := Lib.hid (fun (x : World) (hx : New w12 x) => hx.msg hmc)
          have HMZ := Lib.hid (fun (x : World) (hx : New w12 x) => hx.msg hmw)
          have BC := HNl
          clear a0 c0 b0 a1 c1 b1 a2 c2 b2 a3 c3 b3 a4 c4 b4 a5 c5 b5 a6 c6 b6 hma hmc hmw
          refine wp_region_noPanic ?_
          refine wp_region_held_drew (S := (fun x => x.cell? ⟨ga, j * 7, none⟩ = some (.int .i64 m.kind) ∧ x.cell? ⟨ga, j * 7 + 1, none⟩ = some (.int .i64 m.node) ∧ x.cell? ⟨ga, j * 7 + 2, none⟩ = some (.int .i64 m.walk) ∧ x.cell? ⟨ga, j * 7 + 3, none⟩ = some (.bool m.high) ∧ x.cell? ⟨ga, j * 7 + 4, none⟩ = some (.slice an1 m.nodes.length an2) ∧ x.cell? ⟨ga, j * 7 + 5, none⟩ = some (.slice ai1 m.ids.length ai2) ∧ x.cell? ⟨ga, j * 7 + 6, none⟩ = some (.slice ar1 m.recs.length ar2) ∧ x.cell? ⟨gc, j * 7, none⟩ = some (.int .i64 m.kind) ∧ x.cell? ⟨gc, j * 7 + 1, none⟩ = some (.int .i64 m.node) ∧ x.cell? ⟨gc, j * 7 + 2, none⟩ = some (.int .i64 m.walk) ∧ x.cell? ⟨gc, j * 7 + 3, none⟩ = some (.bool m.high) ∧ x.cell? ⟨gc, j * 7 + 4, none⟩ = some (.slice cn1 m.nodes.length cn2) ∧ x.cell? ⟨gc, j * 7 + 5, none⟩ = some (.slice ci1 m.ids.length ci2) ∧ x.cell? ⟨gc, j * 7 + 6, none⟩ = some (.slice cr1 m.recs.length cr2) ∧ x.cell? ⟨gw, j * 7, none⟩ = some (.int .i64 m.kind) ∧ x.cell? ⟨gw, j * 7 + 1, none⟩ = some (.int .i64 m.node) ∧ x.cell? ⟨gw, j * 7 + 2, none⟩ = some (.int .i64 m.walk) ∧ x.cell? ⟨gw, j * 7 + 3, none⟩ = some (.bool m.high) ∧ x.cell? ⟨gw, j * 7 + 4, none⟩ = some (.slice wn1 m.nodes.length wn2) ∧ x.cell? ⟨gw, j * 7 + 5, none⟩ = some (.slice wi1 m.ids.length wi2) ∧ x.cell? ⟨gw, j * 7 + 6, none⟩ = some (.slice wr1 m.recs.length wr2))) (by kernel_rfl) (KEEP.out _ BC.out.drew) (fun hHeld => ?_)
          refine takeH (i := 0) (v := .slice (some ⟨ga, 0, none⟩) nc capg) (some 144) rfl rfl (by kernel_rfl) (by kernel_rfl) (by kernel_rfl) (fun _ _ _ h => h) (Or.inl ⟨by rfl, ?_⟩) hHeld ?_
          · (intro x hSw; (try dsimp only at hSw); go_simp)
          try simp only [Act.put, List.setIfInBounds_toArray, List.set_cons_zero, List.set_cons_succ]
          refine takeH (i := 1) (v := .int .i64 (j : Int)) (some 145) rfl rfl (by kernel_rfl) (by kernel_rfl) (by kernel_rfl) (fun _ _ _ h => h) (Or.inl ⟨by rfl, ?_⟩) hHeld ?_
          · (intro x hSw; (try dsimp only at hSw); go_simp)
          try simp only [Act.put, List.setIfInBounds_toArray, List.set_cons_zero, List.set_cons_succ]
          refine takeH (i := 2) (v := .pointer (some ⟨ga, j * 7, none⟩)) (some 146) rfl rfl (by kernel_rfl) (by kernel_rfl) (by kernel_rfl) (fun _ _ _ h => h) (Or.inl ⟨by rfl, ?_⟩) hHeld ?_
          · (intro x hSw; (try dsimp only at hSw); go_simp)
          try simp only [Act.put, List.setIfInBounds_toArray, List.set_cons_zero, List.set_cons_succ]
          refine takeH (i := 3) (v := .agg #[.int .i64 m.kind, .int .i64 m.node, .int .i64 m.walk, .bool m.high, .slice an1 m.nodes.length an2, .slice ai1 m.ids.length ai2, .slice ar1 m.recs.length ar2]) (some 147) rfl rfl (by kernel_rfl) (by kernel_rfl) (by kernel_rfl) (fun _ _ _ h => h) (Or.inl ⟨by rfl, ?_⟩) hHeld ?_
          · (intro x hSw; (try dsimp only at hSw); go_simp)
          try simp only [Act.put, List.setIfInBounds_toArray, List.set_cons_zero, List.set_cons_succ]
          refine takeH (i := 4) (v := .slice (some ⟨gc, 0, none⟩) nc capx) (some 148) rfl rfl (by kernel_rfl) (by kernel_rfl) (by kernel_rfl) (fun _ _ _ h => h) (Or.inl ⟨by rfl, ?_⟩) hHeld ?_
          · (intro x hSw; (try dsimp only at hSw); go_simp)
          try simp only [Act.put, List.setIfInBounds_toArray, List.set_cons_zero, List.set_cons_succ]
          refine takeH (i := 5) (v := .int .i64 (j : Int)) (some 149) rfl rfl (by kernel_rfl) (by kernel_rfl) (by kernel_rfl) (fun _ _ _ h => h) (Or.inl ⟨by rfl, ?_⟩) hHeld ?_
          · (intro x hSw; (try dsimp only at hSw); go_simp)
          try simp only [Act.put, List.setIfInBounds_toArray, List.set_cons_zero, List.set_cons_succ]
          refine takeH (i := 6) (v := .pointer (some ⟨gc, j * 7, none⟩)) (some 150) rfl rfl (by kernel_rfl) (by kernel_rfl) (by kernel_rfl) (fun _ _ _ h => h) (Or.inl ⟨by rfl, ?_⟩) hHeld ?_
          · (intro x hSw; (try dsimp only at hSw); go_simp)
          try simp only [Act.put, List.setIfInBounds_toArray, List.set_cons_zero, List.set_cons_succ]
          refine takeH (i := 7) (v := .agg #[.int .i64 m.kind, .int .i64 m.node, .int .i64 m.walk, .bool m.high, .slice cn1 m.nodes.length cn2, .slice ci1 m.ids.length ci2, .slice cr1 m.recs.length cr2]) (some 151) rfl rfl (by kernel_rfl) (by kernel_rfl) (by kernel_rfl) (fun _ _ _ h => h) (Or.inl ⟨by rfl, ?_⟩) hHeld ?_
          · (intro x hSw; (try dsimp only at hSw); go_simp)
          try simp only [Act.put, List.setIfInBounds_toArray, List.set_cons_zero, List.set_cons_succ]
          refine wpAnyH_ready (rs := [8]) (by kernel_rfl) (by simp) (AllReadyH.cons rfl (fun K hK => ?_) AllReadyH.nil)
          go_simp
          refine (same_ok m m ⟨.slice an1 m.nodes.length an2, .slice ai1 m.ids.length ai2, .slice ar1 m.recs.length ar2⟩ ⟨.slice cn1 m.nodes.length cn2, .slice ci1 m.ids.length ci2, .slice cr1 m.recs.length cr2⟩ (fun _ => True) (fun _ => True) _ (by exact HMX.out _ (by first | exact BC.out.drew | exact BC.out)) (by exact HMY.out _ (by first | exact BC.out.drew | exact BC.out))).mono ?_
          rintro e x1 ⟨⟨bb, rfl, hbb⟩, hnn⟩
          obtain rfl : bb = true := hbb.2 rfl
          replace BC := Lib.hid ((by first | exact BC.out.drew | exact BC.out : New w12 _).then hnn)
          clear hbb hnn
          go_wp2_with fail
          refine hK.out _ _ (KEEP.out _ (by first | exact BC.out.drew | exact BC.out)) (fun hHeld => ?_)
          clear hK K
          try simp only [Act.put, List.setIfInBounds_toArray, List.set_cons_zero, List.set_cons_succ]
          refine takeH (i := 9) (v := .bool false) (some 153) rfl rfl (by kernel_rfl) (by kernel_rfl) (by kernel_rfl) (fun _ _ _ h => h) (Or.inl ⟨by rfl, ?_⟩) hHeld ?_
          · (intro x hSw; (try dsimp only at hSw); go_simp)
          try simp only [Act.put, List.setIfInBounds_toArray, List.set_cons_zero, List.set_cons_succ]
          refine takeH (i := 10) (v := .bool false) (some 154) rfl rfl (by kernel_rfl) (by kernel_rfl) (by kernel_rfl) (fun _ _ _ h => h) (Or.inl ⟨by rfl, ?_⟩) hHeld ?_
          · (intro x hSw; (try dsimp only at hSw); go_simp)
          try simp only [Act.put, List.setIfInBounds_toArray, List.set_cons_zero, List.set_cons_succ]
          refine takeH (i := 11) (v := .int .i64 (j : Int)) (some 155) rfl rfl (by kernel_rfl) (by kernel_rfl) (by kernel_rfl) (fun _ _ _ h => h) (Or.inl ⟨by rfl, ?_⟩) hHeld ?_
          · (intro x hSw; (try dsimp only at hSw); go_simp)
          try simp only [Act.put, List.setIfInBounds_toArray, List.set_cons_zero, List.set_cons_succ]
          refine takeH (i := 12) (v := .slice (some ⟨gw, 0, none⟩) nw capw) (some 156) rfl rfl (by kernel_rfl) (by kernel_rfl) (by kernel_rfl) (fun _ _ _ h => h) (Or.inl ⟨by rfl, ?_⟩) hHeld ?_
          · (intro x hSw; (try dsimp only at hSw); go_simp)
          try simp only [Act.put, List.setIfInBounds_toArray, List.set_cons_zero, List.set_cons_succ]
          refine takeH (i := 13) (v := .int .i64 (nw : Int)) (some 157) rfl rfl (by kernel_rfl) (by kernel_rfl) (by kernel_rfl) (fun _ _ _ h => h) (Or.inl ⟨by rfl, ?_⟩) hHeld ?_
          · (intro x hSw; (try dsimp only at hSw); go_simp)
          try simp only [Act.put, List.setIfInBounds_toArray, List.set_cons_zero, List.set_cons_succ]
          refine takeH (i := 14) (v := .bool true) (some 158) rfl rfl (by kernel_rfl) (by kernel_rfl) (by kernel_rfl) (fun _ _ _ h => h) (Or.inl ⟨by rfl, ?_⟩) hHeld ?_
          · (intro x hSw; (try dsimp only at hSw); go_simp)
          try simp only [Act.put, List.setIfInBounds_toArray, List.set_cons_zero, List.set_cons_succ]
          refine takeH (i := 15) (v := .bool true) (some 159) rfl rfl (by kernel_rfl) (by kernel_rfl) (by kernel_rfl) (fun _ _ _ h => h) (Or.inl ⟨by rfl, ?_⟩) hHeld ?_
          · (intro x hSw; (try dsimp only at hSw); go_simp)
          try simp only [Act.put, List.setIfInBounds_toArray, List.set_cons_zero, List.set_cons_succ]
          refine takeH (i := 16) (v := .slice (some ⟨ga, 0, none⟩) nc capg) (some 160) rfl rfl (by kernel_rfl) (by kernel_rfl) (by kernel_rfl) (fun _ _ _ h => h) (Or.inl ⟨by rfl, ?_⟩) hHeld ?_
          · (intro x hSw; (try dsimp only at hSw); go_simp)
          try simp only [Act.put, List.setIfInBounds_toArray, List.set_cons_zero, List.set_cons_succ]
          refine takeH (i := 17) (v := .int .i64 (j : Int)) (some 161) rfl rfl (by kernel_rfl) (by kernel_rfl) (by kernel_rfl) (fun _ _ _ h => h) (Or.inl ⟨by rfl, ?_⟩) hHeld ?_
          · (intro x hSw; (try dsimp only at hSw); go_simp)
          try simp only [Act.put, List.setIfInBounds_toArray, List.set_cons_zero, List.set_cons_succ]
          refine takeH (i := 18) (v := .pointer (some ⟨ga, j * 7, none⟩)) (some 162) rfl rfl (by kernel_rfl) (by kernel_rfl) (by kernel_rfl) (fun _ _ _ h => h) (Or.inl ⟨by rfl, ?_⟩) hHeld ?_
          · (intro x hSw; (try dsimp only at hSw); go_simp)
          try simp only [Act.put, List.setIfInBounds_toArray, List.set_cons_zero, List.set_cons_succ]
          refine takeH (i := 19) (v := .agg #[.int .i64 m.kind, .int .i64 m.node, .int .i64 m.walk, .bool m.high, .slice an1 m.nodes.length an2, .slice ai1 m.ids.length ai2, .slice ar1 m.recs.length ar2]) (some 163) rfl rfl (by kernel_rfl) (by kernel_rfl) (by kernel_rfl) (fun _ _ _ h => h) (Or.inl ⟨by rfl, ?_⟩) hHeld ?_
          · (intro x hSw; (try dsimp only at hSw); go_simp)
          try simp only [Act.put, List.setIfInBounds_toArray, List.set_cons_zero, List.set_cons_succ]
          refine takeH (i := 20) (v := .slice (some ⟨gw, 0, none⟩) nw capw) (some 164) rfl rfl (by kernel_rfl) (by kernel_rfl) (by kernel_rfl) (fun _ _ _ h => h) (Or.inl ⟨by rfl, ?_⟩) hHeld ?_
          · (intro x hSw; (try dsimp only at hSw); go_simp)
          try simp only [Act.put, List.setIfInBounds_toArray, List.set_cons_zero, List.set_cons_succ]
          refine takeH (i := 21) (v := .int .i64 (j : Int)) (some 165) rfl rfl (by kernel_rfl) (by kernel_rfl) (by kernel_rfl) (fun _ _ _ h => h) (Or.inl ⟨by rfl, ?_⟩) hHeld ?_
          · (intro x hSw; (try dsimp only at hSw); go_simp)
          try simp only [Act.put, List.setIfInBounds_toArray, List.set_cons_zero, List.set_cons_succ]
          refine takeH (i := 22) (v := .pointer (some ⟨gw, j * 7, none⟩)) (some 166) rfl rfl (by kernel_rfl) (by kernel_rfl) (by kernel_rfl) (fun _ _ _ h => h) (Or.inl ⟨by rfl, ?_⟩) hHeld ?_
          · (intro x hSw; (try dsimp only at hSw); go_simp)
          try simp only [Act.put, List.setIfInBounds_toArray, List.set_cons_zero, List.set_cons_succ]
          refine takeH (i := 23) (v := .agg #[.int .i64 m.kind, .int .i64 m.node, .int .i64 m.walk, .bool m.high, .slice wn1 m.nodes.length wn2, .slice wi1 m.ids.length wi2, .slice wr1 m.recs.length wr2]) (some 167) rfl rfl (by kernel_rfl) (by kernel_rfl) (by kernel_rfl) (fun _ _ _ h => h) (Or.inl ⟨by rfl, ?_⟩) hHeld ?_
          · (intro x hSw; (try dsimp only at hSw); go_simp)
          try simp only [Act.put, List.setIfInBounds_toArray, List.set_cons_zero, List.set_cons_succ]
          refine wpAnyH_ready (rs := [24]) (by kernel_rfl) (by simp) (AllReadyH.cons rfl (fun K hK => ?_) AllReadyH.nil)
          go_simp
          refine (same_ok m m ⟨.slice an1 m.nodes.length an2, .slice ai1 m.ids.length ai2, .slice ar1 m.recs.length ar2⟩ ⟨.slice wn1 m.nodes.length wn2, .slice wi1 m.ids.length wi2, .slice wr1 m.recs.length wr2⟩ (fun _ => True) (fun _ => True) _ (by exact HMX.out _ (by first | exact BC.out.drew | exact BC.out)) (by exact HMZ.out _ (by first | exact BC.out.drew | exact BC.out))).mono ?_
          rintro e x1 ⟨⟨bb, rfl, hbb⟩, hnn⟩
          obtain rfl : bb = true := hbb.2 rfl
          replace BC := Lib.hid ((by first | exact BC.out.drew | exact BC.out : New w12 _).then hnn)
          clear hbb hnn
          go_wp2_with fail
          refine hK.out _ _ (KEEP.out _ (by first | exact BC.out.drew | exact BC.out)) (fun hHeld => ?_)
          clear hK K
          try simp only [Act.put, List.setIfInBounds_toArray, List.set_cons_zero, List.set_cons_succ]
          refine takeH (i := 25) (v := .bool false) (some 169) rfl rfl (by kernel_rfl) (by kernel_rfl) (by kernel_rfl) (fun _ _ _ h => h) (Or.inl ⟨by rfl, ?_⟩) hHeld ?_
          · (intro x hSw; (try dsimp only at hSw); go_simp)
          try simp only [Act.put, List.setIfInBounds_toArray, List.set_cons_zero, List.set_cons_succ]
          refine takeH (i := 26) (v := .bool false) (some 170) rfl rfl (by kernel_rfl) (by kernel_rfl) (by kernel_rfl) (fun _ _ _ h => h) (Or.inl ⟨by rfl, ?_⟩) hHeld ?_
          · (intro x hSw; (try dsimp only at hSw); go_simp)
          try simp only [Act.put, List.setIfInBounds_toArray, List.set_cons_zero, List.set_cons_succ]
          refine takeH (i := 27) (v := .bool false) (some 171) rfl rfl (by kernel_rfl) (by kernel_rfl) (by kernel_rfl) (fun _ _ _ h => h) (Or.inl ⟨by rfl, ?_⟩) hHeld ?_
          · (intro x hSw; (try dsimp only at hSw); go_simp)
          try simp only [Act.put, List.setIfInBounds_toArray, List.set_cons_zero, List.set_cons_succ]
          refine wpAnyH_done (by kernel_rfl) ?_ _
          refine NoPanic.normal ?_
          go_wp2_with fail
          go_roundw
          case rel => exact ⟨j + 1, rfl, Lib.hid (by omega), Lib.hid (by first | exact BC.out.drew | exact BC.out)⟩
          case measure => simp [intOf]; omega
        · have d1 : decide ((j : Int) < (nw : Int)) = false := decn_ (by omega)
          clear hcm2 ham
          go_upto_region 34 with fail
          have KEEP : Hid (∀ x, New w12 x → (fun x => x.cell? ⟨ga, j * 7, none⟩ = some (.int .i64 m.kind) ∧ x.cell? ⟨ga, j * 7 + 1, none⟩ = some (.int .i64 m.node) ∧ x.cell? ⟨ga, j * 7 + 2, none⟩ = some (.int .i64 m.walk) ∧ x.cell? ⟨ga, j * 7 + 3, none⟩ = some (.bool m.high) ∧ x.cell? ⟨ga, j * 7 + 4, none⟩ = some (.slice an1 m.nodes.length an2) ∧ x.cell? ⟨ga, j * 7 + 5, none⟩ = some (.slice ai1 m.ids.length ai2) ∧ x.cell? ⟨ga, j * 7 + 6, none⟩ = some (.slice ar1 m.recs.length ar2) ∧ x.cell? ⟨gc, j * 7, none⟩ = some (.int .i64 m.kind) ∧ x.cell? ⟨gc, j * 7 + 1, none⟩ = some (.int .i64 m.node) ∧ x.cell? ⟨gc, j * 7 + 2, none⟩ = some (.int .i64 m.walk) ∧ x.cell? ⟨gc, j * 7 + 3, none⟩ = some (.bool m.high) ∧ x.cell? ⟨gc, j * 7 + 4, none⟩ = some (.slice cn1 m.nodes.length cn2) ∧ x.cell? ⟨gc, j * 7 + 5, none⟩ = some (.slice ci1 m.ids.length ci2) ∧ x.cell? ⟨gc, j * 7 + 6, none⟩ = some (.slice cr1 m.recs.length cr2)) x) := Lib.hid fun x hx => ⟨hx.cell a0, hx.cell a1, hx.cell a2, hx.cell a3, hx.cell a4, hx.cell a5, hx.cell a6, hx.cell c0, hx.cell c1, hx.cell c2, hx.cell c3, hx.cell c4, hx.cell c5, hx.cell c6⟩
          have HMX := Lib.hid (fun (x : World) (hx : New w12 x) => hx.msg hma)
          have HMY := Lib.hid (fun (x : World) (hx : New w12 x) => hx.msg hmc)
          have BC := HNl
          clear a0 c0 a1 c1 a2 c2 a3 c3 a4 c4 a5 c5 a6 c6 hma hmc
          refine wp_region_noPanic ?_
          refine wp_region_held_drew (S := (fun x => x.cell? ⟨ga, j * 7, none⟩ = some (.int .i64 m.kind) ∧ x.cell? ⟨ga, j * 7 + 1, none⟩ = some (.int .i64 m.node) ∧ x.cell? ⟨ga, j * 7 + 2, none⟩ = some (.int .i64 m.walk) ∧ x.cell? ⟨ga, j * 7 + 3, none⟩ = some (.bool m.high) ∧ x.cell? ⟨ga, j * 7 + 4, none⟩ = some (.slice an1 m.nodes.length an2) ∧ x.cell? ⟨ga, j * 7 + 5, none⟩ = some (.slice ai1 m.ids.length ai2) ∧ x.cell? ⟨ga, j * 7 + 6, none⟩ = some (.slice ar1 m.recs.length ar2) ∧ x.cell? ⟨gc, j * 7, none⟩ = some (.int .i64 m.kind) ∧ x.cell? ⟨gc, j * 7 + 1, none⟩ = some (.int .i64 m.node) ∧ x.cell? ⟨gc, j * 7 + 2, none⟩ = some (.int .i64 m.walk) ∧ x.cell? ⟨gc, j * 7 + 3, none⟩ = some (.bool m.high) ∧ x.cell? ⟨gc, j * 7 + 4, none⟩ = some (.slice cn1 m.nodes.length cn2) ∧ x.cell? ⟨gc, j * 7 + 5, none⟩ = some (.slice ci1 m.ids.length ci2) ∧ x.cell? ⟨gc, j * 7 + 6, none⟩ = some (.slice cr1 m.recs.length cr2))) (by kernel_rfl) (KEEP.out _ BC.out.drew) (fun hHeld => ?_)
          refine takeH (i := 0) (v := .slice (some ⟨ga, 0, none⟩) nc capg) (some 144) rfl rfl (by kernel_rfl) (by kernel_rfl) (by kernel_rfl) (fun _ _ _ h => h) (Or.inl ⟨by rfl, ?_⟩) hHeld ?_
          · (intro x hSw; (try dsimp only at hSw); go_simp)
          try simp only [Act.put, List.setIfInBounds_toArray, List.set_cons_zero, List.set_cons_succ]
          refine takeH (i := 1) (v := .int .i64 (j : Int)) (some 145) rfl rfl (by kernel_rfl) (by kernel_rfl) (by kernel_rfl) (fun _ _ _ h => h) (Or.inl ⟨by rfl, ?_⟩) hHeld ?_
          · (intro x hSw; (try dsimp only at hSw); go_simp)
          try simp only [Act.put, List.setIfInBounds_toArray, List.set_cons_zero, List.set_cons_succ]
          refine takeH (i := 2) (v := .pointer (some ⟨ga, j * 7, none⟩)) (some 146) rfl rfl (by kernel_rfl) (by kernel_rfl) (by kernel_rfl) (fun _ _ _ h => h) (Or.inl ⟨by rfl, ?_⟩) hHeld ?_
          · (intro x hSw; (try dsimp only at hSw); go_simp)
          try simp only [Act.put, List.setIfInBounds_toArray, List.set_cons_zero, List.set_cons_succ]
          refine takeH (i := 3) (v := .agg #[.int .i64 m.kind, .int .i64 m.node, .int .i64 m.walk, .bool m.high, .slice an1 m.nodes.length an2, .slice ai1 m.ids.length ai2, .slice ar1 m.recs.length ar2]) (some 147) rfl rfl (by kernel_rfl) (by kernel_rfl) (by kernel_rfl) (fun _ _ _ h => h) (Or.inl ⟨by rfl, ?_⟩) hHeld ?_
          · (intro x hSw; (try dsimp only at hSw); go_simp)
          try simp only [Act.put, List.setIfInBounds_toArray, List.set_cons_zero, List.set_cons_succ]
          refine takeH (i := 4) (v := .slice (some ⟨gc, 0, none⟩) nc capx) (some 148) rfl rfl (by kernel_rfl) (by kernel_rfl) (by kernel_rfl) (fun _ _ _ h => h) (Or.inl ⟨by rfl, ?_⟩) hHeld ?_
          · (intro x hSw; (try dsimp only at hSw); go_simp)
          try simp only [Act.put, List.setIfInBounds_toArray, List.set_cons_zero, List.set_cons_succ]
          refine takeH (i := 5) (v := .int .i64 (j : Int)) (some 149) rfl rfl (by kernel_rfl) (by kernel_rfl) (by kernel_rfl) (fun _ _ _ h => h) (Or.inl ⟨by rfl, ?_⟩) hHeld ?_
          · (intro x hSw; (try dsimp only at hSw); go_simp)
          try simp only [Act.put, List.setIfInBounds_toArray, List.set_cons_zero, List.set_cons_succ]
          refine takeH (i := 6) (v := .pointer (some ⟨gc, j * 7, none⟩)) (some 150) rfl rfl (by kernel_rfl) (by kernel_rfl) (by kernel_rfl) (fun _ _ _ h => h) (Or.inl ⟨by rfl, ?_⟩) hHeld ?_
          · (intro x hSw; (try dsimp only at hSw); go_simp)
          try simp only [Act.put, List.setIfInBounds_toArray, List.set_cons_zero, List.set_cons_succ]
          refine takeH (i := 7) (v := .agg #[.int .i64 m.kind, .int .i64 m.node, .int .i64 m.walk, .bool m.high, .slice cn1 m.nodes.length cn2, .slice ci1 m.ids.length ci2, .slice cr1 m.recs.length cr2]) (some 151) rfl rfl (by kernel_rfl) (by kernel_rfl) (by kernel_rfl) (fun _ _ _ h => h) (Or.inl ⟨by rfl, ?_⟩) hHeld ?_
          · (intro x hSw; (try dsimp only at hSw); go_simp)
          try simp only [Act.put, List.setIfInBounds_toArray, List.set_cons_zero, List.set_cons_succ]
          refine wpAnyH_ready (rs := [8]) (by kernel_rfl) (by simp) (AllReadyH.cons rfl (fun K hK => ?_) AllReadyH.nil)
          go_simp
          refine (same_ok m m ⟨.slice an1 m.nodes.length an2, .slice ai1 m.ids.length ai2, .slice ar1 m.recs.length ar2⟩ ⟨.slice cn1 m.nodes.length cn2, .slice ci1 m.ids.length ci2, .slice cr1 m.recs.length cr2⟩ (fun _ => True) (fun _ => True) _ (by exact HMX.out _ (by first | exact BC.out.drew | exact BC.out)) (by exact HMY.out _ (by first | exact BC.out.drew | exact BC.out))).mono ?_
          rintro e x1 ⟨⟨bb, rfl, hbb⟩, hnn⟩
          obtain rfl : bb = true := hbb.2 rfl
          replace BC := Lib.hid ((by first | exact BC.out.drew | exact BC.out : New w12 _).then hnn)
          clear hbb hnn
          go_wp2_with fail
          refine hK.out _ _ (KEEP.out _ (by first | exact BC.out.drew | exact BC.out)) (fun hHeld => ?_)
          clear hK K
          try simp only [Act.put, List.setIfInBounds_toArray, List.set_cons_zero, List.set_cons_succ]
          refine takeH (i := 9) (v := .bool false) (some 153) rfl rfl (by kernel_rfl) (by kernel_rfl) (by kernel_rfl) (fun _ _ _ h => h) (Or.inl ⟨by rfl, ?_⟩) hHeld ?_
          · (intro x hSw; (try dsimp only at hSw); go_simp)
          try simp only [Act.put, List.setIfInBounds_toArray, List.set_cons_zero, List.set_cons_succ]
          refine takeH (i := 10) (v := .bool false) (some 154) rfl rfl (by kernel_rfl) (by kernel_rfl) (by kernel_rfl) (fun _ _ _ h => h) (Or.inl ⟨by rfl, ?_⟩) hHeld ?_
          · (intro x hSw; (try dsimp only at hSw); go_simp)
          try simp only [Act.put, List.setIfInBounds_toArray, List.set_cons_zero, List.set_cons_succ]
          refine takeH (i := 11) (v := .int .i64 (j : Int)) (some 155) rfl rfl (by kernel_rfl) (by kernel_rfl) (by kernel_rfl) (fun _ _ _ h => h) (Or.inl ⟨by rfl, ?_⟩) hHeld ?_
          · (intro x hSw; (try dsimp only at hSw); go_simp)
          try simp only [Act.put, List.setIfInBounds_toArray, List.set_cons_zero, List.set_cons_succ]
          refine takeH (i := 12) (v := .slice vw nw capw) (some 156) rfl rfl (by kernel_rfl) (by kernel_rfl) (by kernel_rfl) (fun _ _ _ h => h) (Or.inl ⟨by rfl, ?_⟩) hHeld ?_
          · (intro x hSw; (try dsimp only at hSw); go_simp)
          try simp only [Act.put, List.setIfInBounds_toArray, List.set_cons_zero, List.set_cons_succ]
          refine takeH (i := 13) (v := .int .i64 (nw : Int)) (some 157) rfl rfl (by kernel_rfl) (by kernel_rfl) (by kernel_rfl) (fun _ _ _ h => h) (Or.inl ⟨by rfl, ?_⟩) hHeld ?_
          · (intro x hSw; (try dsimp only at hSw); go_simp)
          try simp only [Act.put, List.setIfInBounds_toArray, List.set_cons_zero, List.set_cons_succ]
          refine takeH (i := 14) (v := .bool false) (some 158) rfl rfl (by kernel_rfl) (by kernel_rfl) (by kernel_rfl) (fun _ _ _ h => h) (Or.inl ⟨by rfl, ?_⟩) hHeld ?_
          · (intro x hSw; (try dsimp only at hSw); go_simp)
          try simp only [Act.put, List.setIfInBounds_toArray, List.set_cons_zero, List.set_cons_succ]
          refine takeH (i := 15) (v := .bool false) (some 159) rfl rfl (by kernel_rfl) (by kernel_rfl) (by kernel_rfl) (fun _ _ _ h => h) (Or.inl ⟨by rfl, ?_⟩) hHeld ?_
          · (intro x hSw; (try dsimp only at hSw); go_simp)
          try simp only [Act.put, List.setIfInBounds_toArray, List.set_cons_zero, List.set_cons_succ]
          refine takeH (i := 16) (v := undef) (some 160) rfl rfl (by kernel_rfl) (by kernel_rfl) (by kernel_rfl) (fun _ _ _ h => h) (Or.inr ⟨by rfl, rfl⟩) hHeld ?_
          try simp only [Act.put, List.setIfInBounds_toArray, List.set_cons_zero, List.set_cons_succ]
          refine takeH (i := 17) (v := undef) (some 161) rfl rfl (by kernel_rfl) (by kernel_rfl) (by kernel_rfl) (fun _ _ _ h => h) (Or.inr ⟨by rfl, rfl⟩) hHeld ?_
          try simp only [Act.put, List.setIfInBounds_toArray, List.set_cons_zero, List.set_cons_succ]
          refine takeH (i := 18) (v := undef) (some 162) rfl rfl (by kernel_rfl) (by kernel_rfl) (by kernel_rfl) (fun _ _ _ h => h) (Or.inr ⟨by rfl, rfl⟩) hHeld ?_
          try simp only [Act.put, List.setIfInBounds_toArray, List.set_cons_zero, List.set_cons_succ]
          refine takeH (i := 19) (v := undef) (some 163) rfl rfl (by kernel_rfl) (by kernel_rfl) (by kernel_rfl) (fun _ _ _ h => h) (Or.inr ⟨by rfl, rfl⟩) hHeld ?_
          try simp only [Act.put, List.setIfInBounds_toArray, List.set_cons_zero, List.set_cons_succ]
          refine takeH (i := 20) (v := undef) (some 164) rfl rfl (by kernel_rfl) (by kernel_rfl) (by kernel_rfl) (fun _ _ _ h => h) (Or.inr ⟨by rfl, rfl⟩) hHeld ?_
          try simp only [Act.put, List.setIfInBounds_toArray, List.set_cons_zero, List.set_cons_succ]
          refine takeH (i := 21) (v := undef) (some 165) rfl rfl (by kernel_rfl) (by kernel_rfl) (by kernel_rfl) (fun _ _ _ h => h) (Or.inr ⟨by rfl, rfl⟩) hHeld ?_
          try simp only [Act.put, List.setIfInBounds_toArray, List.set_cons_zero, List.set_cons_succ]
          refine takeH (i := 22) (v := undef) (some 166) rfl rfl (by kernel_rfl) (by kernel_rfl) (by kernel_rfl) (fun _ _ _ h => h) (Or.inr ⟨by rfl, rfl⟩) hHeld ?_
          try simp only [Act.put, List.setIfInBounds_toArray, List.set_cons_zero, List.set_cons_succ]
          refine takeH (i := 23) (v := undef) (some 167) rfl rfl (by kernel_rfl) (by kernel_rfl) (by kernel_rfl) (fun _ _ _ h => h) (Or.inr ⟨by rfl, rfl⟩) hHeld ?_
          try simp only [Act.put, List.setIfInBounds_toArray, List.set_cons_zero, List.set_cons_succ]
          refine takeH (i := 24) (v := undef) (some 168) rfl rfl (by kernel_rfl) (by kernel_rfl) (by kernel_rfl) (fun _ _ _ h => h) (Or.inr ⟨by rfl, rfl⟩) hHeld ?_
          try simp only [Act.put, List.setIfInBounds_toArray, List.set_cons_zero, List.set_cons_succ]
          refine takeH (i := 25) (v := undef) (some 169) rfl rfl (by kernel_rfl) (by kernel_rfl) (by kernel_rfl) (fun _ _ _ h => h) (Or.inr ⟨by rfl, rfl⟩) hHeld ?_
          try simp only [Act.put, List.setIfInBounds_toArray, List.set_cons_zero, List.set_cons_succ]
          refine takeH (i := 26) (v := .bool false) (some 170) rfl rfl (by kernel_rfl) (by kernel_rfl) (by kernel_rfl) (fun _ _ _ h => h) (Or.inl ⟨by rfl, ?_⟩) hHeld ?_
          · (intro x hSw; (try dsimp only at hSw); go_simp)
          try simp only [Act.put, List.setIfInBounds_toArray, List.set_cons_zero, List.set_cons_succ]
          refine takeH (i := 27) (v := .bool false) (some 171) rfl rfl (by kernel_rfl) (by kernel_rfl) (by kernel_rfl) (fun _ _ _ h => h) (Or.inl ⟨by rfl, ?_⟩) hHeld ?_
          · (intro x hSw; (try dsimp only at hSw); go_simp)
          try simp only [Act.put, List.setIfInBounds_toArray, List.set_cons_zero, List.set_cons_succ]
          refine wpAnyH_done (by kernel_rfl) ?_ _
          refine NoPanic.normal ?_
          go_wp2_with fail
          go_roundw
          case rel => exact ⟨j + 1, rfl, Lib.hid (by omega), Lib.hid (by first | exact BC.out.drew | exact BC.out)⟩
          case measure => simp [intOf]; omega
      · have HSF := Lib.hid (HSG.out.new HNl.out)
        replace HNF := Lib.hid (HNF.out.then HNl.out)
        have hjz := str_size jl
        obtain ⟨nj, hnj⟩ : ∃ nj, nj = jl.length := ⟨_, rfl⟩
        rw [← hnj] at hjz
        have HNJ := Lib.hid hnj
        have hnj40 : nj ≤ 40 := by rw [hnj]; exact HJZ.out
        clear hnj
        by_cases hj2 : nj < 2
        · have hr := junk_short jl (by rw [← HNJ.out]; exact hj2)
          rw [← HRJ.out] at hr
          subst hr
          obtain rfl : nw = nc := by have := HWX.out; simpa using this
          have HB1 := Lib.hid (spbad_ok P _ wr HSF.out)
          have HL1 := Lib.hid (spleft_ok P _ wr HSF.out)
          go_wp2_with fail
          refine HB1.out.mono ?_
          rintro e w8 ⟨rfl, rfl⟩
          simp only
          go_wp2_with fail
          refine HL1.out.mono ?_
          rintro e w9 ⟨rfl, rfl⟩
          simp only
          rw [← HNJ.out]
          go_wp2_with fail
          go_ret
          exact ⟨rfl, HNF.out.below⟩
        · have hj2i : ¬ (nj : Int) < 2 := by omega
          have hj3 : 2 ≤ jl.length := by rw [← HNJ.out]; omega
          obtain ⟨x0, hx0⟩ : ∃ x, x = jl[0]'(by omega) := ⟨_, rfl⟩
          obtain ⟨x1, hx1⟩ : ∃ x, x = jl[1]'(by omega) := ⟨_, rfl⟩
          obtain ⟨n, hn⟩ : ∃ n, n = headN jl := ⟨_, rfl⟩
          have hnx : n = 256 * x0.toNat + x1.toNat := by rw [hn, hx0, hx1]; exact head_bytes jl hj3
          have hz0 : 0 < (str jl).size := by rw [hjz]; omega
          have G0 : (str jl)[0]'hz0 = x0 := by have h := str_get jl 0 (by omega) x0 hx0; rw [getElem?_pos (str jl) 0 hz0] at h; exact Option.some.inj h
          have hnj0 : 0 < nj := by omega
          have hz1 : 1 < (str jl).size := by rw [hjz]; omega
          have G1 : (str jl)[1]'hz1 = x1 := by have h := str_get jl 1 (by omega) x1 hx1; rw [getElem?_pos (str jl) 1 hz1] at h; exact Option.some.inj h
          have hnj1 : 1 < nj := by omega
          have HNN := Lib.hid hn
          have HX0 := Lib.hid hx0
          have HX1 := Lib.hid hx1
          clear hn hx0 hx1
          go_upto_region 38 with fail
          go_region
          have hw : wrap64 (wrap64 (256 * wrap64 (x0.toNat : Int)) + wrap64 (x1.toNat : Int)) = (n : Int) := by rw [hnx]; exact wrap_two x0 x1
          rw [hw]
          have hnb : n ≤ 65535 := by rw [hnx]; exact two_le x0 x1
          clear hw G0 G1 hz0 hz1 hnx
          obtain ⟨wq, hwq⟩ : ∃ wq, wq = wr.drew := ⟨_, rfl⟩
          rw [← hwq]
          have hqn : New wr wq := by rw [hwq]; exact (New.refl _).drew
          replace HSF := Lib.hid (HSF.out.new hqn)
          replace HNF := Lib.hid (HNF.out.then hqn)
          clear hwq hqn
          by_cases h4 : 4096 < n
          · have h4i : (4096 : Int) < (n : Int) := by omega
            have hr := junk_long jl hj3 (by rw [← HNN.out]; exact h4)
            rw [← HRJ.out] at hr
            subst hr
            obtain rfl : nw = nc := by have := HWX.out; simpa using this
            have HB1 := Lib.hid (spbad_ok P _ wq HSF.out)
            have HL1 := Lib.hid (spleft_ok P _ wq HSF.out)
            go_wp2_with fail
            refine HB1.out.mono ?_
            rintro e w8 ⟨rfl, rfl⟩
            simp only
            go_wp2_with fail
            refine HL1.out.mono ?_
            rintro e w9 ⟨rfl, rfl⟩
            simp only
            go_wp2_with fail
            go_ret
            exact ⟨rfl, HNF.out.below⟩
          · have h4i : ¬ (4096 : Int) < (n : Int) := by omega
            by_cases h5 : nj < 2 + n
            · have h5i : ¬ (2 : Int) + (n : Int) ≤ (nj : Int) := by omega
              have hr := junk_few jl hj3 (by rw [← HNN.out]; omega) (by rw [← HNN.out, ← HNJ.out]; exact h5)
              rw [← HRJ.out] at hr
              subst hr
              obtain rfl : nw = nc := by have := HWX.out; simpa using this
              have HB1 := Lib.hid (spbad_ok P _ wq HSF.out)
              have HL1 := Lib.hid (spleft_ok P _ wq HSF.out)
              go_wp2_with fail
              refine HB1.out.mono ?_
              rintro e w8 ⟨rfl, rfl⟩
              simp only
              go_wp2_with fail
              refine HL1.out.mono ?_
              rintro e w9 ⟨rfl, rfl⟩
              simp only
              rw [← HNJ.out]
              go_wp2_with fail
              go_ret
              exact ⟨rfl, HNF.out.below⟩
            · have h5i : (2 : Int) + (n : Int) ≤ (nj : Int) := by omega
              obtain ⟨n2, hn2⟩ : ∃ n2 : Nat, n2 = 2 + n := ⟨_, rfl⟩
              have hn2i : (2 : Int) + (n : Int) = (n2 : Int) := by omega
              have X : (str jl).extract 2 n2 = str ((jl.take n2).drop 2) := str_mid jl 2 n2
              obtain ⟨pc, hpc⟩ : ∃ pc, pc = (jl.take n2).drop 2 := ⟨_, rfl⟩
              rw [← hpc] at X
              have HPC := Lib.hid hpc
              have HN2 := Lib.hid hn2
              have HDE := Lib.hid (decode_ok pc wq)
              have hx1 : (2 : Int) ≤ (n2 : Int) := by omega
              have hx2 : (n2 : Int) ≤ (nj : Int) := by omega
              clear hpc hn2
              go_wp2_with fail
              refine HDE.out.mono ?_
              rintro e w7 ⟨hn7, ⟨m, v, hd, rfl, hm⟩ | ⟨er, hd, rfl⟩⟩
              · obtain ⟨an, cn, ai, ci, ar, cr, rfl⟩ := hm.shape
                replace HNF := Lib.hid (HNF.out.then hn7)
                clear hm hn7 HDE hd
                simp only [msgC]
                go_wp2_with fail
                go_ret
                exact ⟨rfl, (HNF.out.alloc _).below⟩
              · have hne : ((er : Int) != 0) = true := by have := dec_err hd; rw [bne_iff_ne]; omega
                have hr := junk_err jl hj3 (by rw [← HNN.out]; omega) (by rw [← HNN.out, ← HNJ.out]; omega) er (by rw [← HNN.out, ← HN2.out, ← HPC.out]; exact hd)
                rw [← HRJ.out] at hr
                subst hr
                obtain rfl : nw = nc := by have := HWX.out; simpa using this
                obtain ⟨w8, hw8⟩ : ∃ w8, w8 = w7.alloc (.cells zeroC 30) := ⟨_, rfl⟩
                have h8n : New wq w8 := by rw [hw8]; exact hn7.alloc _
                replace HSF := Lib.hid (HSF.out.new h8n)
                replace HNF := Lib.hid (HNF.out.then h8n)
                have HW8 := Lib.hid hw8
                have HB1 := Lib.hid (spbad_ok P _ w8 HSF.out)
                have HL1 := Lib.hid (spleft_ok P _ w8 HSF.out)
                clear hn7 HDE hd h8n hw8
                simp only [zeroC]
                go_wp2_with fail
                have hwx := HW8.out
                simp only [zeroC] at hwx
                rw [← hwx]
                clear hwx HW8
                refine HB1.out.mono ?_
                rintro e w9 ⟨rfl, rfl⟩
                simp only
                go_wp2_with fail
                refine HL1.out.mono ?_
                rintro e w10 ⟨rfl, rfl⟩
                simp only
                go_wp2_with fail
                go_ret
                exact ⟨rfl, HNF.out.below⟩
end Go.Proofs.Ytebpdnmmcbianaa
