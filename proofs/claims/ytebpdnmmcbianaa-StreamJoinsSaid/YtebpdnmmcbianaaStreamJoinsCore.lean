/-
  StreamJoins: the core.
-/
import Derived.Test.YtebpdnmmcbianaaStrJoin
import Derived.Test.YtebpdnmmcbianaaHeldBy
set_option linter.unusedVariables false
set_option linter.unusedSimpArgs false
set_option maxRecDepth 100000
namespace Go.Proofs.Ytebpdnmmcbianaa
open Go.RowKit

set_option maxHeartbeats 2000000 in
theorem streamJoins_core (s : ByteArray) (l : Value) (qs : List SM) (ct : Int) (W : World) (hs : s.size ≤ maxLen) (hl : SMs W (· < W.heap.size) l qs) (hq : ∀ q ∈ qs, SMOk q) (hct : 0 ≤ ct ∧ ct ≤ 65535) :
    Calls Try.prog 5 #[.string s, l, .int .u16 ct] W fun e W' => e = .returned (.bool true) ∧ Below W.heap.size W W' := by
  obtain ⟨ao, cap, rfl, hcap, hcm⟩ := sms_shape hl
  have HL := Lib.hid hl
  have HQ := Lib.hid hq
  clear hl hq
  go_enter Try.func5, Try.ntmps5
  go_wp2_with fail
  refine (speaks6 W).mono ?_
  rintro e w1 ⟨rfl, hn⟩
  have HN1 := Lib.hid hn
  clear hn
  go_upto_block 0 with fail
  go_cut [7] (fun v7 wr => ∃ fs : List UInt8, v7 = .string (str fs) ∧ Hid (fs.length ≤ 808) ∧ Hid (New W wr))
  case first =>
    go_wp2_with fail
    go_loopw [7, 8] (fun v7 v8 wr => ∃ j : Nat, v7 = .string (str (framesL (qs.take j))) ∧ v8 = .int .i64 j ∧ Hid (j ≤ qs.length ∧ j ≤ 4) ∧ Hid (New W wr)) (fun _ v8 _ => qs.length - (intOf v8).toNat)
    case atStart => exact ⟨0, rfl, rfl, Lib.hid ⟨by omega, by omega⟩, HN1⟩
    case round =>
      obtain ⟨j, rfl, rfl, HJ, HNr⟩ := hrel
      clear HN1
      by_cases hj : j < qs.length ∧ j < 4
      · obtain ⟨hj1, hj2⟩ := hj
        obtain ⟨b, off, rfl, c0, c1, c2⟩ := sms_at (HL.out.below HNr.out.below) j hj1
        obtain ⟨q, hq⟩ : ∃ q, q = qs[j] := ⟨_, rfl⟩
        rw [← hq] at c0 c1 c2
        have HO : Hid (SMOk q) := Lib.hid (HQ.out q (by rw [hq]; exact List.getElem_mem _))
        obtain ⟨fs, hfs⟩ : ∃ fs, fs = framesL (qs.take j) := ⟨_, rfl⟩
        have hfl : fs.length ≤ 808 := by rw [hfs]; have := framesL_len (qs.take j); rw [List.length_take] at this; omega
        have HF2 := Lib.hid (show framesL (qs.take (j + 1)) = fs ++ frameL q.m by rw [framesL_more qs j hj1, hfs, hq])
        rw [← hfs]
        have HFL := Lib.hid hfl
        have HTO := Lib.hid (q.told HO.out wr)
        clear hq hfs hfl
        go_wp2_with fail
        refine HTO.out.mono ?_
        rintro e w2 ⟨an, cn, ai, ci, ar, cr, rfl, hm, hn⟩
        have HN2 := Lib.hid (HNr.out.then hn)
        have HFR := Lib.hid (frame_ok q.m _ _ w2 hm q.wf)
        clear hm hn HTO c0 c1 c2
        go_wp2_with fail
        refine HFR.out.mono ?_
        rintro e w3 ⟨rfl, hn⟩
        rw [q.frame]
        have HN3 := Lib.hid (HN2.out.then hn)
        have A1 : ∀ w, (Op.stringOp .add (str fs) (str (frameL q.m))).run Try.prog w = .ok (.string (str (fs ++ frameL q.m))) w := fun w => sadd _ _ (by have := HFL.out; have := q.flen; omega) w
        have e1 : str (frameL q.m, 0).1 = str (frameL q.m) := rfl
        have e2 : (((frameL q.m, 0) : List UInt8 × Nat).2 : Int) = 0 := rfl
        rw [e1, e2]
        clear hn HFR HN2 HNr e1 e2
        go_wp2_with fail
        go_roundw
        case rel => exact ⟨j + 1, by rw [HF2.out], rfl, Lib.hid ⟨by omega, by omega⟩, HN3⟩
        case measure => simp [intOf]; omega
      · have HOUT : Hid (∃ fs : List UInt8, Value.string (str (framesL (qs.take j))) = .string (str fs) ∧ Hid (fs.length ≤ 808) ∧ Hid (New W wr)) := Lib.hid ⟨_, rfl, Lib.hid (by have := framesL_len (qs.take j); rw [List.length_take] at this; have := HJ.out; omega), HNr⟩
        by_cases hj1 : j < qs.length
        · have hj2 : ¬ j < 4 := by omega
          go_wp2_with fail
          go_meet
          exact HOUT.out
        · go_wp2_with fail
          go_meet
          exact HOUT.out
  case rest =>
    obtain ⟨fs, rfl, HFL, HNr⟩ := hcut
    clear HN1
    have hz : (s.data.toList.take 80).length ≤ 80 := by rw [List.length_take]; omega
    obtain ⟨t, ht⟩ : ∃ t, t = s.data.toList.take 80 := ⟨_, rfl⟩
    rw [← ht] at hz
    have A1 : ∀ w, (Op.stringOp .add (str fs) (str t)).run Try.prog w = .ok (.string (str (fs ++ t))) w := fun w => sadd _ _ (by have := HFL.out; omega) w
    have HT := Lib.hid ht
    have HTL := Lib.hid hz
    clear hz ht
    obtain ⟨wr, hwr⟩ : ∃ x, x = wc := ⟨_, rfl⟩
    subst hwr
    go_upto_region 9 with fail
    go_cut [7] (fun v7 wx => v7 = .string (str (fs ++ t)) ∧ wx = wr)
    case first =>
      by_cases h8 : 80 < (s.size : Int)
      · have X : s.extract 0 80 = str t := by rw [cut_str s 80 80 (by omega), HT.out]
        go_wp2_with fail
        go_meet
        exact ⟨rfl, rfl⟩
      · have X : s.extract 0 s.size = str t := by rw [cut_str s 80 s.size (by omega), HT.out]
        go_wp2_with fail
        go_meet
        exact ⟨rfl, rfl⟩
    case rest =>
    obtain ⟨rfl, rfl⟩ := hcut
    obtain ⟨al, hal⟩ : ∃ al, al = fs ++ t := ⟨_, rfl⟩
    rw [← hal]
    obtain ⟨n, hn⟩ : ∃ n, n = al.length := ⟨_, rfl⟩
    have hn2 : n ≤ 888 := by rw [hn, hal, List.length_append]; have := HFL.out; have := HTL.out; omega
    have hsz : (str al).size = n := by rw [str_size, hn]
    have HAN := Lib.hid hn
    clear hal hn A1 HT HTL HFL
    go_upto_region 11 with fail
    obtain ⟨k, hk⟩ : ∃ k : Nat, ct % ((n : Int) + 1) = (k : Int) := ⟨(ct % ((n : Int) + 1)).toNat, by have := Int.emod_nonneg ct (show (n : Int) + 1 ≠ 0 by omega); omega⟩
    have hkn : k ≤ n := by have := Int.emod_lt_of_pos ct (show (0 : Int) < (n : Int) + 1 by omega); omega
    rw [hk]
    clear hk
    obtain ⟨P, hP⟩ : ∃ P, P = wc.heap.size := ⟨_, rfl⟩
    obtain ⟨w5, hw5⟩ : ∃ w5, w5 = (wc.alloc (.cells Try.zeroCells40 40)).alloc (.cells Try.zeroCells40 40) := ⟨_, rfl⟩
    have hsp : SpIs w5 P ⟨[], 0⟩ := by rw [hw5, hP]; exact (sp_new wc).new ((New.refl _).alloc _)
    have hsq : SpIs w5 (P + 1) ⟨[], 0⟩ := by
      have := sp_new (wc.alloc (.cells Try.zeroCells40 40))
      rw [World.size_alloc, ← hP, ← hw5] at this
      exact this
    have HN5 := Lib.hid (show New W w5 by rw [hw5]; exact (HNr.out.alloc _).alloc _)
    have HP := Lib.hid (show W.heap.size ≤ P by rw [hP]; exact HNr.out.size)
    have HW5 := Lib.hid hw5
    have HPP := Lib.hid hP
    have HSQ := Lib.hid hsq
    have X1 : (str al).extract 0 k = str (al.take k) := str_head al k
    have X2 : (str al).extract k n = str (al.drop k) := by have := str_tail al k; rwa [hsz] at this
    have HTK := Lib.hid (show (al.take k).length ≤ 888 by rw [List.length_take, ← HAN.out]; omega)
    have HDR := Lib.hid (show (al.drop k).length ≤ 888 by rw [List.length_drop, ← HAN.out]; omega)
    obtain ⟨ra, hra⟩ : ∃ ra, ra = runS ⟨[], 0⟩ (al.take k) := ⟨_, rfl⟩
    obtain ⟨rb, hrb⟩ : ∃ rb, rb = runS ra.1 (al.drop k) := ⟨_, rfl⟩
    have HRC := Lib.hid (show runS ⟨[], 0⟩ al = (rb.1, ra.2 ++ rb.2) by
      have := runS_append ⟨[], 0⟩ (al.take k) (al.drop k)
      rw [List.take_append_drop] at this
      rw [this, hrb, hra])
    have HCA := Lib.hid (show Calm ra.1 by rw [hra]; exact runS_calm _ _ calm_new)
    have HFA := Lib.hid (feed_ok P (al.take k) ⟨[], 0⟩ w5 hsp calm_new (by have := HTK.out; omega))
    have HRA := Lib.hid hra
    have HRB := Lib.hid hrb
    clear hw5 hP hsp hsq hra hrb
    have hkn2 : (k : Int) ≤ (n : Int) := by omega
    go_wp2_with fail
    rw [← HW5.out, ← HPP.out]
    clear HW5 HPP X1
    refine HFA.out.mono ?_
    rintro e w6 ⟨va, ma, rfl, hta, hsp, hma, ht⟩
    rw [← HRA.out] at hsp hma
    obtain ⟨aoa, capa, rfl, _, _⟩ := hta.shape
    have HN6 := Lib.hid (new_of_own HN5.out ht HP.out)
    have HZ5 := Lib.hid (show P + 1 < w5.heap.size from HSQ.out.lt)
    replace HSQ := Lib.hid (HSQ.out.tch ht (by omega))
    have HZ6 := Lib.hid (show w5.heap.size ≤ w6.heap.size from ht.size)
    have HTA := Lib.hid hta
    have HMA := Lib.hid hma
    have HFB := Lib.hid (feed_ok P (al.drop k) _ w6 hsp HCA.out (by have := HDR.out; omega))
    clear hta hsp hma ht HFA HRA HN5
    go_wp2_with fail
    clear X2
    refine HFB.out.mono ?_
    rintro e w7 ⟨vb, mb, rfl, htb, hsp, hmb, ht⟩
    rw [← HRB.out] at hsp hmb
    obtain ⟨aob, capb, rfl, _, _⟩ := htb.shape
    have HN7 := Lib.hid (new_of_own HN6.out ht HP.out)
    replace HSQ := Lib.hid (HSQ.out.tch ht (by omega))
    replace HTA := Lib.hid (HTA.out.tch ht (fun b hb e => by have := HZ5.out; omega))
    have HZ7 := Lib.hid (show w6.heap.size ≤ w7.heap.size from ht.size)
    have HTB := Lib.hid htb
    have HMB := Lib.hid hmb
    have HSP := Lib.hid hsp
    have HFC := Lib.hid (feed_ok (P + 1) al _ w7 HSQ.out calm_new (by rw [← HAN.out]; omega))
    clear htb hsp hmb ht HFB HRB HN6 HCA
    go_wp2_with fail
    refine HFC.out.mono ?_
    rintro e w8 ⟨vc, mc, rfl, htc, hsq, hmc, ht⟩
    rw [HRC.out] at hsq hmc
    simp only at hsq hmc
    obtain ⟨aoc, capc, rfl, _, _⟩ := htc.shape
    have HN8 := Lib.hid (new_of_own HN7.out ht (by have := HP.out; omega))
    replace HSP := Lib.hid (HSP.out.tch ht (by omega))
    replace HTA := Lib.hid (HTA.out.tch ht (fun b hb e => by have := HZ5.out; omega))
    replace HTB := Lib.hid (HTB.out.tch ht (fun b hb e => by have := HZ5.out; have := HZ6.out; omega))
    have HTC := Lib.hid htc
    have HMC := Lib.hid (show mc.map (·.1) = ma.map (·.1) ++ mb.map (·.1) by rw [hmc, HMA.out, HMB.out])
    have hlen : ma.length + mb.length = mc.length := by have := congrArg List.length HMC.out; simpa using this.symm
    have hlc : mc.length ≤ 888 := by
      have h1 := runS_count ⟨[], 0⟩ al
      rw [HRC.out] at h1
      have h2 := congrArg List.length hmc
      simp only [List.length_map] at h1 h2
      rw [← HAN.out] at h1
      omega
    have HB1 := Lib.hid (spbad_ok P _ w8 HSP.out)
    have HB2 := Lib.hid (spbad_ok (P + 1) _ w8 hsq)
    have HL1 := Lib.hid (spleft_ok P _ w8 HSP.out)
    have HL2 := Lib.hid (spleft_ok (P + 1) _ w8 hsq)
    obtain ⟨na, hna⟩ : ∃ na, na = ma.length := ⟨_, rfl⟩
    obtain ⟨nb, hnb⟩ : ∃ nb, nb = mb.length := ⟨_, rfl⟩
    obtain ⟨nc, hnc⟩ : ∃ nc, nc = mc.length := ⟨_, rfl⟩
    rw [← hna, ← hnb, ← hnc] at hlen
    rw [← hnc] at hlc
    rw [← hna] at HTA
    rw [← hnb] at HTB
    rw [← hnc] at HTC
    rw [← hna, ← hnb, ← hnc]
    have HA := Lib.hid hna
    have HB := Lib.hid hnb
    have HC := Lib.hid hnc
    have hsum : (na : Int) + (nb : Int) = (nc : Int) := by omega
    clear hna hnb hnc htc hsq hmc ht HFC HN7 HRC HSQ HMA HMB
    go_wp2_with fail
    refine HB1.out.mono ?_
    rintro e w9 ⟨rfl, rfl⟩
    go_wp2_with fail
    refine HB2.out.mono ?_
    rintro e w10 ⟨rfl, rfl⟩
    go_wp2_with fail
    refine HL1.out.mono ?_
    rintro e w11 ⟨rfl, rfl⟩
    go_wp2_with fail
    refine HL2.out.mono ?_
    rintro e w12 ⟨rfl, rfl⟩
    clear HB1 HB2 HL1 HL2
    go_wp2_with fail
    go_loopw [17] (fun v wr => ∃ j : Nat, v = .int .i64 j ∧ Hid (j ≤ nc) ∧ Hid (New w12 wr)) (fun v _ => nc - (intOf v).toNat)
    case atStart => exact ⟨0, rfl, Lib.hid (by omega), Lib.hid (New.refl _)⟩
    case round =>
      obtain ⟨j, rfl, HJ, HNr⟩ := hrel
      by_cases hj : j < nc
      · obtain ⟨gc, m, cn1, cn2, ci1, ci2, cr1, cr2, rfl, hgc, hcm, hmc, c0, c1, c2, c3, c4, c5, c6⟩ := HTC.out.get j (by rw [← HC.out]; exact hj)
        by_cases hja : j < na
        · obtain ⟨ga, m2, an1, an2, ai1, ai2, ar1, ar2, rfl, hga, ham, hma, a0, a1, a2, a3, a4, a5, a6⟩ := HTA.out.get j (by rw [← HA.out]; exact hja)
          obtain rfl : m = m2 := by
            have h1 : (mc.map (·.1))[j]? = some m := by rw [List.getElem?_map, List.getElem?_eq_getElem (by rw [← HC.out]; exact hj), hcm]; rfl
            rw [HMC.out, List.getElem?_append_left (by rw [List.length_map, ← HA.out]; exact hja), List.getElem?_map, List.getElem?_eq_getElem (by rw [← HA.out]; exact hja)] at h1
            simp at h1
            rw [ham, ← h1]
          have d1 : decide ((j : Int) < (na : Int)) = true := dec_ (by omega)
          have d2 : decide ((na : Int) ≤ (j : Int)) = false := decn_ (by omega)
          clear hcm ham
          go_upto_region 20 with fail
          have KEEP : Hid (∀ x, New w12 x → (fun x => x.cell? ⟨ga, j * 7, none⟩ = some (.int .i64 m.kind) ∧ x.cell? ⟨ga, j * 7 + 1, none⟩ = some (.int .i64 m.node) ∧ x.cell? ⟨ga, j * 7 + 2, none⟩ = some (.int .i64 m.walk) ∧ x.cell? ⟨ga, j * 7 + 3, none⟩ = some (.bool m.high) ∧ x.cell? ⟨ga, j * 7 + 4, none⟩ = some (.slice an1 m.nodes.length an2) ∧ x.cell? ⟨ga, j * 7 + 5, none⟩ = some (.slice ai1 m.ids.length ai2) ∧ x.cell? ⟨ga, j * 7 + 6, none⟩ = some (.slice ar1 m.recs.length ar2) ∧ x.cell? ⟨gc, j * 7, none⟩ = some (.int .i64 m.kind) ∧ x.cell? ⟨gc, j * 7 + 1, none⟩ = some (.int .i64 m.node) ∧ x.cell? ⟨gc, j * 7 + 2, none⟩ = some (.int .i64 m.walk) ∧ x.cell? ⟨gc, j * 7 + 3, none⟩ = some (.bool m.high) ∧ x.cell? ⟨gc, j * 7 + 4, none⟩ = some (.slice cn1 m.nodes.length cn2) ∧ x.cell? ⟨gc, j * 7 + 5, none⟩ = some (.slice ci1 m.ids.length ci2) ∧ x.cell? ⟨gc, j * 7 + 6, none⟩ = some (.slice cr1 m.recs.length cr2)) x) := Lib.hid fun x hx => ⟨hx.cell a0, hx.cell a1, hx.cell a2, hx.cell a3, hx.cell a4, hx.cell a5, hx.cell a6, hx.cell c0, hx.cell c1, hx.cell c2, hx.cell c3, hx.cell c4, hx.cell c5, hx.cell c6⟩
          have HMX := Lib.hid (fun (x : World) (hx : New w12 x) => hx.msg hma)
          have HMY := Lib.hid (fun (x : World) (hx : New w12 x) => hx.msg hmc)
          have BC := HNr
          clear a0 a1 a2 a3 a4 a5 a6 c0 c1 c2 c3 c4 c5 c6 hma hmc
          refine wp_region_noPanic ?_
          refine wp_region_held_drew (S := (fun x => x.cell? ⟨ga, j * 7, none⟩ = some (.int .i64 m.kind) ∧ x.cell? ⟨ga, j * 7 + 1, none⟩ = some (.int .i64 m.node) ∧ x.cell? ⟨ga, j * 7 + 2, none⟩ = some (.int .i64 m.walk) ∧ x.cell? ⟨ga, j * 7 + 3, none⟩ = some (.bool m.high) ∧ x.cell? ⟨ga, j * 7 + 4, none⟩ = some (.slice an1 m.nodes.length an2) ∧ x.cell? ⟨ga, j * 7 + 5, none⟩ = some (.slice ai1 m.ids.length ai2) ∧ x.cell? ⟨ga, j * 7 + 6, none⟩ = some (.slice ar1 m.recs.length ar2) ∧ x.cell? ⟨gc, j * 7, none⟩ = some (.int .i64 m.kind) ∧ x.cell? ⟨gc, j * 7 + 1, none⟩ = some (.int .i64 m.node) ∧ x.cell? ⟨gc, j * 7 + 2, none⟩ = some (.int .i64 m.walk) ∧ x.cell? ⟨gc, j * 7 + 3, none⟩ = some (.bool m.high) ∧ x.cell? ⟨gc, j * 7 + 4, none⟩ = some (.slice cn1 m.nodes.length cn2) ∧ x.cell? ⟨gc, j * 7 + 5, none⟩ = some (.slice ci1 m.ids.length ci2) ∧ x.cell? ⟨gc, j * 7 + 6, none⟩ = some (.slice cr1 m.recs.length cr2))) (by kernel_rfl) (KEEP.out _ BC.out.drew) (fun hHeld => ?_)
          refine takeH (i := 0) (v := .int .i64 (j : Int)) (some 89) rfl rfl (by kernel_rfl) (by kernel_rfl) (by kernel_rfl) (fun _ _ _ h => h) (Or.inl ⟨by rfl, ?_⟩) hHeld ?_
          · (intro x hSw; (try dsimp only at hSw); go_simp)
          try simp only [Act.put, List.setIfInBounds_toArray, List.set_cons_zero, List.set_cons_succ]
          refine takeH (i := 1) (v := .slice (some ⟨ga, 0, none⟩) na capa) (some 90) rfl rfl (by kernel_rfl) (by kernel_rfl) (by kernel_rfl) (fun _ _ _ h => h) (Or.inl ⟨by rfl, ?_⟩) hHeld ?_
          · (intro x hSw; (try dsimp only at hSw); go_simp)
          try simp only [Act.put, List.setIfInBounds_toArray, List.set_cons_zero, List.set_cons_succ]
          refine takeH (i := 2) (v := .int .i64 (na : Int)) (some 91) rfl rfl (by kernel_rfl) (by kernel_rfl) (by kernel_rfl) (fun _ _ _ h => h) (Or.inl ⟨by rfl, ?_⟩) hHeld ?_
          · (intro x hSw; (try dsimp only at hSw); go_simp)
          try simp only [Act.put, List.setIfInBounds_toArray, List.set_cons_zero, List.set_cons_succ]
          refine takeH (i := 3) (v := .bool true) (some 92) rfl rfl (by kernel_rfl) (by kernel_rfl) (by kernel_rfl) (fun _ _ _ h => h) (Or.inl ⟨by rfl, ?_⟩) hHeld ?_
          · (intro x hSw; (try dsimp only at hSw); go_simp)
          try simp only [Act.put, List.setIfInBounds_toArray, List.set_cons_zero, List.set_cons_succ]
          refine takeH (i := 4) (v := .bool true) (some 93) rfl rfl (by kernel_rfl) (by kernel_rfl) (by kernel_rfl) (fun _ _ _ h => h) (Or.inl ⟨by rfl, ?_⟩) hHeld ?_
          · (intro x hSw; (try dsimp only at hSw); go_simp)
          try simp only [Act.put, List.setIfInBounds_toArray, List.set_cons_zero, List.set_cons_succ]
          refine takeH (i := 5) (v := .slice (some ⟨ga, 0, none⟩) na capa) (some 94) rfl rfl (by kernel_rfl) (by kernel_rfl) (by kernel_rfl) (fun _ _ _ h => h) (Or.inl ⟨by rfl, ?_⟩) hHeld ?_
          · (intro x hSw; (try dsimp only at hSw); go_simp)
          try simp only [Act.put, List.setIfInBounds_toArray, List.set_cons_zero, List.set_cons_succ]
          refine takeH (i := 6) (v := .int .i64 (j : Int)) (some 95) rfl rfl (by kernel_rfl) (by kernel_rfl) (by kernel_rfl) (fun _ _ _ h => h) (Or.inl ⟨by rfl, ?_⟩) hHeld ?_
          · (intro x hSw; (try dsimp only at hSw); go_simp)
          try simp only [Act.put, List.setIfInBounds_toArray, List.set_cons_zero, List.set_cons_succ]
          refine takeH (i := 7) (v := .pointer (some ⟨ga, j * 7, none⟩)) (some 96) rfl rfl (by kernel_rfl) (by kernel_rfl) (by kernel_rfl) (fun _ _ _ h => h) (Or.inl ⟨by rfl, ?_⟩) hHeld ?_
          · (intro x hSw; (try dsimp only at hSw); go_simp)
          try simp only [Act.put, List.setIfInBounds_toArray, List.set_cons_zero, List.set_cons_succ]
          refine takeH (i := 8) (v := .agg #[.int .i64 m.kind, .int .i64 m.node, .int .i64 m.walk, .bool m.high, .slice an1 m.nodes.length an2, .slice ai1 m.ids.length ai2, .slice ar1 m.recs.length ar2]) (some 97) rfl rfl (by kernel_rfl) (by kernel_rfl) (by kernel_rfl) (fun _ _ _ h => h) (Or.inl ⟨by rfl, ?_⟩) hHeld ?_
          · (intro x hSw; (try dsimp only at hSw); go_simp)
          try simp only [Act.put, List.setIfInBounds_toArray, List.set_cons_zero, List.set_cons_succ]
          refine takeH (i := 9) (v := .slice (some ⟨gc, 0, none⟩) nc capc) (some 98) rfl rfl (by kernel_rfl) (by kernel_rfl) (by kernel_rfl) (fun _ _ _ h => h) (Or.inl ⟨by rfl, ?_⟩) hHeld ?_
          · (intro x hSw; (try dsimp only at hSw); go_simp)
          try simp only [Act.put, List.setIfInBounds_toArray, List.set_cons_zero, List.set_cons_succ]
          refine takeH (i := 10) (v := .int .i64 (j : Int)) (some 99) rfl rfl (by kernel_rfl) (by kernel_rfl) (by kernel_rfl) (fun _ _ _ h => h) (Or.inl ⟨by rfl, ?_⟩) hHeld ?_
          · (intro x hSw; (try dsimp only at hSw); go_simp)
          try simp only [Act.put, List.setIfInBounds_toArray, List.set_cons_zero, List.set_cons_succ]
          refine takeH (i := 11) (v := .pointer (some ⟨gc, j * 7, none⟩)) (some 100) rfl rfl (by kernel_rfl) (by kernel_rfl) (by kernel_rfl) (fun _ _ _ h => h) (Or.inl ⟨by rfl, ?_⟩) hHeld ?_
          · (intro x hSw; (try dsimp only at hSw); go_simp)
          try simp only [Act.put, List.setIfInBounds_toArray, List.set_cons_zero, List.set_cons_succ]
          refine takeH (i := 12) (v := .agg #[.int .i64 m.kind, .int .i64 m.node, .int .i64 m.walk, .bool m.high, .slice cn1 m.nodes.length cn2, .slice ci1 m.ids.length ci2, .slice cr1 m.recs.length cr2]) (some 101) rfl rfl (by kernel_rfl) (by kernel_rfl) (by kernel_rfl) (fun _ _ _ h => h) (Or.inl ⟨by rfl, ?_⟩) hHeld ?_
          · (intro x hSw; (try dsimp only at hSw); go_simp)
          try simp only [Act.put, List.setIfInBounds_toArray, List.set_cons_zero, List.set_cons_succ]
          refine wpAnyH_ready (rs := [13]) (by kernel_rfl) (by simp) (AllReadyH.cons rfl (fun K hK => ?_) AllReadyH.nil)
          go_simp
          refine (same_ok m m ⟨.slice an1 m.nodes.length an2, .slice ai1 m.ids.length ai2, .slice ar1 m.recs.length ar2⟩ ⟨.slice cn1 m.nodes.length cn2, .slice ci1 m.ids.length ci2, .slice cr1 m.recs.length cr2⟩ (fun _ => True) (fun _ => True) _ (by exact HMX.out _ (by first | exact BC.out.drew | exact BC.out)) (by exact HMY.out _ (by first | exact BC.out.drew | exact BC.out))).mono ?_
          rintro e x1 ⟨⟨bb, rfl, hbb⟩, hnn⟩
          obtain rfl : bb = true := hbb.2 rfl
          replace BC := Lib.hid ((by first | exact BC.out.drew | exact BC.out : New w12 _).then hnn)
          clear hbb hnn
          go_wp2_with fail
          refine hK.out _ _ (KEEP.out _ (by first | exact BC.out.drew | exact BC.out)) (fun hHeld => ?_)
          clear hK K
          try simp only [Act.put, List.setIfInBounds_toArray, List.set_cons_zero, List.set_cons_succ]
          refine takeH (i := 14) (v := .bool false) (some 103) rfl rfl (by kernel_rfl) (by kernel_rfl) (by kernel_rfl) (fun _ _ _ h => h) (Or.inl ⟨by rfl, ?_⟩) hHeld ?_
          · (intro x hSw; (try dsimp only at hSw); go_simp)
          try simp only [Act.put, List.setIfInBounds_toArray, List.set_cons_zero, List.set_cons_succ]
          refine takeH (i := 15) (v := .bool false) (some 104) rfl rfl (by kernel_rfl) (by kernel_rfl) (by kernel_rfl) (fun _ _ _ h => h) (Or.inl ⟨by rfl, ?_⟩) hHeld ?_
          · (intro x hSw; (try dsimp only at hSw); go_simp)
          try simp only [Act.put, List.setIfInBounds_toArray, List.set_cons_zero, List.set_cons_succ]
          refine takeH (i := 16) (v := .bool false) (some 105) rfl rfl (by kernel_rfl) (by kernel_rfl) (by kernel_rfl) (fun _ _ _ h => h) (Or.inl ⟨by rfl, ?_⟩) hHeld ?_
          · (intro x hSw; (try dsimp only at hSw); go_simp)
          try simp only [Act.put, List.setIfInBounds_toArray, List.set_cons_zero, List.set_cons_succ]
          refine takeH (i := 17) (v := .int .i64 (j : Int)) (some 106) rfl rfl (by kernel_rfl) (by kernel_rfl) (by kernel_rfl) (fun _ _ _ h => h) (Or.inl ⟨by rfl, ?_⟩) hHeld ?_
          · (intro x hSw; (try dsimp only at hSw); go_simp)
          try simp only [Act.put, List.setIfInBounds_toArray, List.set_cons_zero, List.set_cons_succ]
          refine takeH (i := 18) (v := .slice (some ⟨ga, 0, none⟩) na capa) (some 107) rfl rfl (by kernel_rfl) (by kernel_rfl) (by kernel_rfl) (fun _ _ _ h => h) (Or.inl ⟨by rfl, ?_⟩) hHeld ?_
          · (intro x hSw; (try dsimp only at hSw); go_simp)
          try simp only [Act.put, List.setIfInBounds_toArray, List.set_cons_zero, List.set_cons_succ]
          refine takeH (i := 19) (v := .int .i64 (na : Int)) (some 108) rfl rfl (by kernel_rfl) (by kernel_rfl) (by kernel_rfl) (fun _ _ _ h => h) (Or.inl ⟨by rfl, ?_⟩) hHeld ?_
          · (intro x hSw; (try dsimp only at hSw); go_simp)
          try simp only [Act.put, List.setIfInBounds_toArray, List.set_cons_zero, List.set_cons_succ]
          refine takeH (i := 20) (v := .bool false) (some 109) rfl rfl (by kernel_rfl) (by kernel_rfl) (by kernel_rfl) (fun _ _ _ h => h) (Or.inl ⟨by rfl, ?_⟩) hHeld ?_
          · (intro x hSw; (try dsimp only at hSw); go_simp)
          try simp only [Act.put, List.setIfInBounds_toArray, List.set_cons_zero, List.set_cons_succ]
          refine takeH (i := 21) (v := .bool false) (some 110) rfl rfl (by kernel_rfl) (by kernel_rfl) (by kernel_rfl) (fun _ _ _ h => h) (Or.inl ⟨by rfl, ?_⟩) hHeld ?_
          · (intro x hSw; (try dsimp only at hSw); go_simp)
          try simp only [Act.put, List.setIfInBounds_toArray, List.set_cons_zero, List.set_cons_succ]
          refine takeH (i := 22) (v := undef) (some 111) rfl rfl (by kernel_rfl) (by kernel_rfl) (by kernel_rfl) (fun _ _ _ h => h) (Or.inr ⟨by rfl, rfl⟩) hHeld ?_
          try simp only [Act.put, List.setIfInBounds_toArray, List.set_cons_zero, List.set_cons_succ]
          refine takeH (i := 23) (v := undef) (some 112) rfl rfl (by kernel_rfl) (by kernel_rfl) (by kernel_rfl) (fun _ _ _ h => h) (Or.inr ⟨by rfl, rfl⟩) hHeld ?_
          try simp only [Act.put, List.setIfInBounds_toArray, List.set_cons_zero, List.set_cons_succ]
          refine takeH (i := 24) (v := undef) (some 113) rfl rfl (by kernel_rfl) (by kernel_rfl) (by kernel_rfl) (fun _ _ _ h => h) (Or.inr ⟨by rfl, rfl⟩) hHeld ?_
          try simp only [Act.put, List.setIfInBounds_toArray, List.set_cons_zero, List.set_cons_succ]
          refine takeH (i := 25) (v := undef) (some 114) rfl rfl (by kernel_rfl) (by kernel_rfl) (by kernel_rfl) (fun _ _ _ h => h) (Or.inr ⟨by rfl, rfl⟩) hHeld ?_
          try simp only [Act.put, List.setIfInBounds_toArray, List.set_cons_zero, List.set_cons_succ]
          refine takeH (i := 26) (v := undef) (some 115) rfl rfl (by kernel_rfl) (by kernel_rfl) (by kernel_rfl) (fun _ _ _ h => h) (Or.inr ⟨by rfl, rfl⟩) hHeld ?_
          try simp only [Act.put, List.setIfInBounds_toArray, List.set_cons_zero, List.set_cons_succ]
          refine takeH (i := 27) (v := undef) (some 116) rfl rfl (by kernel_rfl) (by kernel_rfl) (by kernel_rfl) (fun _ _ _ h => h) (Or.inr ⟨by rfl, rfl⟩) hHeld ?_
          try simp only [Act.put, List.setIfInBounds_toArray, List.set_cons_zero, List.set_cons_succ]
          refine takeH (i := 28) (v := undef) (some 117) rfl rfl (by kernel_rfl) (by kernel_rfl) (by kernel_rfl) (fun _ _ _ h => h) (Or.inr ⟨by rfl, rfl⟩) hHeld ?_
          try simp only [Act.put, List.setIfInBounds_toArray, List.set_cons_zero, List.set_cons_succ]
          refine takeH (i := 29) (v := undef) (some 118) rfl rfl (by kernel_rfl) (by kernel_rfl) (by kernel_rfl) (fun _ _ _ h => h) (Or.inr ⟨by rfl, rfl⟩) hHeld ?_
          try simp only [Act.put, List.setIfInBounds_toArray, List.set_cons_zero, List.set_cons_succ]
          refine takeH (i := 30) (v := undef) (some 119) rfl rfl (by kernel_rfl) (by kernel_rfl) (by kernel_rfl) (fun _ _ _ h => h) (Or.inr ⟨by rfl, rfl⟩) hHeld ?_
          try simp only [Act.put, List.setIfInBounds_toArray, List.set_cons_zero, List.set_cons_succ]
          refine takeH (i := 31) (v := undef) (some 120) rfl rfl (by kernel_rfl) (by kernel_rfl) (by kernel_rfl) (fun _ _ _ h => h) (Or.inr ⟨by rfl, rfl⟩) hHeld ?_
          try simp only [Act.put, List.setIfInBounds_toArray, List.set_cons_zero, List.set_cons_succ]
          refine takeH (i := 32) (v := undef) (some 121) rfl rfl (by kernel_rfl) (by kernel_rfl) (by kernel_rfl) (fun _ _ _ h => h) (Or.inr ⟨by rfl, rfl⟩) hHeld ?_
          try simp only [Act.put, List.setIfInBounds_toArray, List.set_cons_zero, List.set_cons_succ]
          refine takeH (i := 33) (v := undef) (some 122) rfl rfl (by kernel_rfl) (by kernel_rfl) (by kernel_rfl) (fun _ _ _ h => h) (Or.inr ⟨by rfl, rfl⟩) hHeld ?_
          try simp only [Act.put, List.setIfInBounds_toArray, List.set_cons_zero, List.set_cons_succ]
          refine takeH (i := 34) (v := undef) (some 123) rfl rfl (by kernel_rfl) (by kernel_rfl) (by kernel_rfl) (fun _ _ _ h => h) (Or.inr ⟨by rfl, rfl⟩) hHeld ?_
          try simp only [Act.put, List.setIfInBounds_toArray, List.set_cons_zero, List.set_cons_succ]
          refine takeH (i := 35) (v := .bool false) (some 124) rfl rfl (by kernel_rfl) (by kernel_rfl) (by kernel_rfl) (fun _ _ _ h => h) (Or.inl ⟨by rfl, ?_⟩) hHeld ?_
          · (intro x hSw; (try dsimp only at hSw); go_simp)
          try simp only [Act.put, List.setIfInBounds_toArray, List.set_cons_zero, List.set_cons_succ]
          refine takeH (i := 36) (v := .bool false) (some 125) rfl rfl (by kernel_rfl) (by kernel_rfl) (by kernel_rfl) (fun _ _ _ h => h) (Or.inl ⟨by rfl, ?_⟩) hHeld ?_
          · (intro x hSw; (try dsimp only at hSw); go_simp)
          try simp only [Act.put, List.setIfInBounds_toArray, List.set_cons_zero, List.set_cons_succ]
          refine wpAnyH_done (by kernel_rfl) ?_ _
          refine NoPanic.normal ?_
          go_wp2_with fail
          go_roundw
          case rel => exact ⟨j + 1, rfl, Lib.hid (by omega), Lib.hid (by first | exact BC.out.drew | exact BC.out)⟩
          case measure => simp [intOf]; omega
        · obtain ⟨jb, hjb⟩ : ∃ jb, jb = j - na := ⟨_, rfl⟩
          have hjb2 : jb < nb := by omega
          obtain ⟨gb, m2, bn1, bn2, bi1, bi2, br1, br2, rfl, hgb, hbm, hmb, b0, b1, b2, b3, b4, b5, b6⟩ := HTB.out.get jb (by rw [← HB.out]; exact hjb2)
          obtain rfl : m = m2 := by
            have h1 : (mc.map (·.1))[j]? = some m := by rw [List.getElem?_map, List.getElem?_eq_getElem (by rw [← HC.out]; exact hj), hcm]; rfl
            rw [HMC.out, List.getElem?_append_right (by rw [List.length_map, ← HA.out]; omega), List.length_map, ← HA.out, ← hjb, List.getElem?_map, List.getElem?_eq_getElem (by rw [← HB.out]; exact hjb2)] at h1
            simp at h1
            rw [hbm, ← h1]
          have d1 : decide ((j : Int) < (na : Int)) = false := decn_ (by omega)
          have d2 : decide ((na : Int) ≤ (j : Int)) = true := dec_ (by omega)
          have d3 : IntKind.i64.wrap (jb : Int) = (jb : Int) := by rw [IntKind.wrap_i64]; omega
          have d4 : (j : Int) - (na : Int) = (jb : Int) := by omega
          have hge : na ≤ j := by omega
          clear hcm hbm hjb
          go_upto_region 20 with fail
          have KEEP : Hid (∀ x, New w12 x → (fun x => x.cell? ⟨gb, jb * 7, none⟩ = some (.int .i64 m.kind) ∧ x.cell? ⟨gb, jb * 7 + 1, none⟩ = some (.int .i64 m.node) ∧ x.cell? ⟨gb, jb * 7 + 2, none⟩ = some (.int .i64 m.walk) ∧ x.cell? ⟨gb, jb * 7 + 3, none⟩ = some (.bool m.high) ∧ x.cell? ⟨gb, jb * 7 + 4, none⟩ = some (.slice bn1 m.nodes.length bn2) ∧ x.cell? ⟨gb, jb * 7 + 5, none⟩ = some (.slice bi1 m.ids.length bi2) ∧ x.cell? ⟨gb, jb * 7 + 6, none⟩ = some (.slice br1 m.recs.length br2) ∧ x.cell? ⟨gc, j * 7, none⟩ = some (.int .i64 m.kind) ∧ x.cell? ⟨gc, j * 7 + 1, none⟩ = some (.int .i64 m.node) ∧ x.cell? ⟨gc, j * 7 + 2, none⟩ = some (.int .i64 m.walk) ∧ x.cell? ⟨gc, j * 7 + 3, none⟩ = some (.bool m.high) ∧ x.cell? ⟨gc, j * 7 + 4, none⟩ = some (.slice cn1 m.nodes.length cn2) ∧ x.cell? ⟨gc, j * 7 + 5, none⟩ = some (.slice ci1 m.ids.length ci2) ∧ x.cell? ⟨gc, j * 7 + 6, none⟩ = some (.slice cr1 m.recs.length cr2)) x) := Lib.hid fun x hx => ⟨hx.cell b0, hx.cell b1, hx.cell b2, hx.cell b3, hx.cell b4, hx.cell b5, hx.cell b6, hx.cell c0, hx.cell c1, hx.cell c2, hx.cell c3, hx.cell c4, hx.cell c5, hx.cell c6⟩
          have HMX := Lib.hid (fun (x : World) (hx : New w12 x) => hx.msg hmb)
          have HMY := Lib.hid (fun (x : World) (hx : New w12 x) => hx.msg hmc)
          have BC := HNr
          clear b0 b1 b2 b3 b4 b5 b6 c0 c1 c2 c3 c4 c5 c6 hmb hmc
          refine wp_region_noPanic ?_
          refine wp_region_held_drew (S := (fun x => x.cell? ⟨gb, jb * 7, none⟩ = some (.int .i64 m.kind) ∧ x.cell? ⟨gb, jb * 7 + 1, none⟩ = some (.int .i64 m.node) ∧ x.cell? ⟨gb, jb * 7 + 2, none⟩ = some (.int .i64 m.walk) ∧ x.cell? ⟨gb, jb * 7 + 3, none⟩ = some (.bool m.high) ∧ x.cell? ⟨gb, jb * 7 + 4, none⟩ = some (.slice bn1 m.nodes.length bn2) ∧ x.cell? ⟨gb, jb * 7 + 5, none⟩ = some (.slice bi1 m.ids.length bi2) ∧ x.cell? ⟨gb, jb * 7 + 6, none⟩ = some (.slice br1 m.recs.length br2) ∧ x.cell? ⟨gc, j * 7, none⟩ = some (.int .i64 m.kind) ∧ x.cell? ⟨gc, j * 7 + 1, none⟩ = some (.int .i64 m.node) ∧ x.cell? ⟨gc, j * 7 + 2, none⟩ = some (.int .i64 m.walk) ∧ x.cell? ⟨gc, j * 7 + 3, none⟩ = some (.bool m.high) ∧ x.cell? ⟨gc, j * 7 + 4, none⟩ = some (.slice cn1 m.nodes.length cn2) ∧ x.cell? ⟨gc, j * 7 + 5, none⟩ = some (.slice ci1 m.ids.length ci2) ∧ x.cell? ⟨gc, j * 7 + 6, none⟩ = some (.slice cr1 m.recs.length cr2))) (by kernel_rfl) (KEEP.out _ BC.out.drew) (fun hHeld => ?_)
          refine takeH (i := 0) (v := .int .i64 (j : Int)) (some 89) rfl rfl (by kernel_rfl) (by kernel_rfl) (by kernel_rfl) (fun _ _ _ h => h) (Or.inl ⟨by rfl, ?_⟩) hHeld ?_
          · (intro x hSw; (try dsimp only at hSw); go_simp)
          try simp only [Act.put, List.setIfInBounds_toArray, List.set_cons_zero, List.set_cons_succ]
          refine takeH (i := 1) (v := .slice aoa na capa) (some 90) rfl rfl (by kernel_rfl) (by kernel_rfl) (by kernel_rfl) (fun _ _ _ h => h) (Or.inl ⟨by rfl, ?_⟩) hHeld ?_
          · (intro x hSw; (try dsimp only at hSw); go_simp)
          try simp only [Act.put, List.setIfInBounds_toArray, List.set_cons_zero, List.set_cons_succ]
          refine takeH (i := 2) (v := .int .i64 (na : Int)) (some 91) rfl rfl (by kernel_rfl) (by kernel_rfl) (by kernel_rfl) (fun _ _ _ h => h) (Or.inl ⟨by rfl, ?_⟩) hHeld ?_
          · (intro x hSw; (try dsimp only at hSw); go_simp)
          try simp only [Act.put, List.setIfInBounds_toArray, List.set_cons_zero, List.set_cons_succ]
          refine takeH (i := 3) (v := .bool false) (some 92) rfl rfl (by kernel_rfl) (by kernel_rfl) (by kernel_rfl) (fun _ _ _ h => h) (Or.inl ⟨by rfl, ?_⟩) hHeld ?_
          · (intro x hSw; (try dsimp only at hSw); go_simp)
          try simp only [Act.put, List.setIfInBounds_toArray, List.set_cons_zero, List.set_cons_succ]
          refine takeH (i := 4) (v := .bool false) (some 93) rfl rfl (by kernel_rfl) (by kernel_rfl) (by kernel_rfl) (fun _ _ _ h => h) (Or.inl ⟨by rfl, ?_⟩) hHeld ?_
          · (intro x hSw; (try dsimp only at hSw); go_simp)
          try simp only [Act.put, List.setIfInBounds_toArray, List.set_cons_zero, List.set_cons_succ]
          refine takeH (i := 5) (v := undef) (some 94) rfl rfl (by kernel_rfl) (by kernel_rfl) (by kernel_rfl) (fun _ _ _ h => h) (Or.inr ⟨by rfl, rfl⟩) hHeld ?_
          try simp only [Act.put, List.setIfInBounds_toArray, List.set_cons_zero, List.set_cons_succ]
          refine takeH (i := 6) (v := undef) (some 95) rfl rfl (by kernel_rfl) (by kernel_rfl) (by kernel_rfl) (fun _ _ _ h => h) (Or.inr ⟨by rfl, rfl⟩) hHeld ?_
          try simp only [Act.put, List.setIfInBounds_toArray, List.set_cons_zero, List.set_cons_succ]
          refine takeH (i := 7) (v := undef) (some 96) rfl rfl (by kernel_rfl) (by kernel_rfl) (by kernel_rfl) (fun _ _ _ h => h) (Or.inr ⟨by rfl, rfl⟩) hHeld ?_
          try simp only [Act.put, List.setIfInBounds_toArray, List.set_cons_zero, List.set_cons_succ]
          refine takeH (i := 8) (v := undef) (some 97) rfl rfl (by kernel_rfl) (by kernel_rfl) (by kernel_rfl) (fun _ _ _ h => h) (Or.inr ⟨by rfl, rfl⟩) hHeld ?_
          try simp only [Act.put, List.setIfInBounds_toArray, List.set_cons_zero, List.set_cons_succ]
          refine takeH (i := 9) (v := undef) (some 98) rfl rfl (by kernel_rfl) (by kernel_rfl) (by kernel_rfl) (fun _ _ _ h => h) (Or.inr ⟨by rfl, rfl⟩) hHeld ?_
          try simp only [Act.put, List.setIfInBounds_toArray, List.set_cons_zero, List.set_cons_succ]
          refine takeH (i := 10) (v := undef) (some 99) rfl rfl (by kernel_rfl) (by kernel_rfl) (by kernel_rfl) (fun _ _ _ h => h) (Or.inr ⟨by rfl, rfl⟩) hHeld ?_
          try simp only [Act.put, List.setIfInBounds_toArray, List.set_cons_zero, List.set_cons_succ]
          refine takeH (i := 11) (v := undef) (some 100) rfl rfl (by kernel_rfl) (by kernel_rfl) (by kernel_rfl) (fun _ _ _ h => h) (Or.inr ⟨by rfl, rfl⟩) hHeld ?_
          try simp only [Act.put, List.setIfInBounds_toArray, List.set_cons_zero, List.set_cons_succ]
          refine takeH (i := 12) (v := undef) (some 101) rfl rfl (by kernel_rfl) (by kernel_rfl) (by kernel_rfl) (fun _ _ _ h => h) (Or.inr ⟨by rfl, rfl⟩) hHeld ?_
          try simp only [Act.put, List.setIfInBounds_toArray, List.set_cons_zero, List.set_cons_succ]
          refine takeH (i := 13) (v := undef) (some 102) rfl rfl (by kernel_rfl) (by kernel_rfl) (by kernel_rfl) (fun _ _ _ h => h) (Or.inr ⟨by rfl, rfl⟩) hHeld ?_
          try simp only [Act.put, List.setIfInBounds_toArray, List.set_cons_zero, List.set_cons_succ]
          refine takeH (i := 14) (v := undef) (some 103) rfl rfl (by kernel_rfl) (by kernel_rfl) (by kernel_rfl) (fun _ _ _ h => h) (Or.inr ⟨by rfl, rfl⟩) hHeld ?_
          try simp only [Act.put, List.setIfInBounds_toArray, List.set_cons_zero, List.set_cons_succ]
          refine takeH (i := 15) (v := .bool false) (some 104) rfl rfl (by kernel_rfl) (by kernel_rfl) (by kernel_rfl) (fun _ _ _ h => h) (Or.inl ⟨by rfl, ?_⟩) hHeld ?_
          · (intro x hSw; (try dsimp only at hSw); go_simp)
          try simp only [Act.put, List.setIfInBounds_toArray, List.set_cons_zero, List.set_cons_succ]
          refine takeH (i := 16) (v := .bool false) (some 105) rfl rfl (by kernel_rfl) (by kernel_rfl) (by kernel_rfl) (fun _ _ _ h => h) (Or.inl ⟨by rfl, ?_⟩) hHeld ?_
          · (intro x hSw; (try dsimp only at hSw); go_simp)
          try simp only [Act.put, List.setIfInBounds_toArray, List.set_cons_zero, List.set_cons_succ]
          refine takeH (i := 17) (v := .int .i64 (j : Int)) (some 106) rfl rfl (by kernel_rfl) (by kernel_rfl) (by kernel_rfl) (fun _ _ _ h => h) (Or.inl ⟨by rfl, ?_⟩) hHeld ?_
          · (intro x hSw; (try dsimp only at hSw); go_simp)
          try simp only [Act.put, List.setIfInBounds_toArray, List.set_cons_zero, List.set_cons_succ]
          refine takeH (i := 18) (v := .slice aoa na capa) (some 107) rfl rfl (by kernel_rfl) (by kernel_rfl) (by kernel_rfl) (fun _ _ _ h => h) (Or.inl ⟨by rfl, ?_⟩) hHeld ?_
          · (intro x hSw; (try dsimp only at hSw); go_simp)
          try simp only [Act.put, List.setIfInBounds_toArray, List.set_cons_zero, List.set_cons_succ]
          refine takeH (i := 19) (v := .int .i64 (na : Int)) (some 108) rfl rfl (by kernel_rfl) (by kernel_rfl) (by kernel_rfl) (fun _ _ _ h => h) (Or.inl ⟨by rfl, ?_⟩) hHeld ?_
          · (intro x hSw; (try dsimp only at hSw); go_simp)
          try simp only [Act.put, List.setIfInBounds_toArray, List.set_cons_zero, List.set_cons_succ]
          refine takeH (i := 20) (v := .bool true) (some 109) rfl rfl (by kernel_rfl) (by kernel_rfl) (by kernel_rfl) (fun _ _ _ h => h) (Or.inl ⟨by rfl, ?_⟩) hHeld ?_
          · (intro x hSw; (try dsimp only at hSw); go_simp)
          try simp only [Act.put, List.setIfInBounds_toArray, List.set_cons_zero, List.set_cons_succ]
          refine takeH (i := 21) (v := .bool true) (some 110) rfl rfl (by kernel_rfl) (by kernel_rfl) (by kernel_rfl) (fun _ _ _ h => h) (Or.inl ⟨by rfl, ?_⟩) hHeld ?_
          · (intro x hSw; (try dsimp only at hSw); go_simp)
          try simp only [Act.put, List.setIfInBounds_toArray, List.set_cons_zero, List.set_cons_succ]
          refine takeH (i := 22) (v := .slice (some ⟨gb, 0, none⟩) nb capb) (some 111) rfl rfl (by kernel_rfl) (by kernel_rfl) (by kernel_rfl) (fun _ _ _ h => h) (Or.inl ⟨by rfl, ?_⟩) hHeld ?_
          · (intro x hSw; (try dsimp only at hSw); go_simp)
          try simp only [Act.put, List.setIfInBounds_toArray, List.set_cons_zero, List.set_cons_succ]
          refine takeH (i := 23) (v := .int .i64 (j : Int)) (some 112) rfl rfl (by kernel_rfl) (by kernel_rfl) (by kernel_rfl) (fun _ _ _ h => h) (Or.inl ⟨by rfl, ?_⟩) hHeld ?_
          · (intro x hSw; (try dsimp only at hSw); go_simp)
          try simp only [Act.put, List.setIfInBounds_toArray, List.set_cons_zero, List.set_cons_succ]
          refine takeH (i := 24) (v := .slice aoa na capa) (some 113) rfl rfl (by kernel_rfl) (by kernel_rfl) (by kernel_rfl) (fun _ _ _ h => h) (Or.inl ⟨by rfl, ?_⟩) hHeld ?_
          · (intro x hSw; (try dsimp only at hSw); go_simp)
          try simp only [Act.put, List.setIfInBounds_toArray, List.set_cons_zero, List.set_cons_succ]
          refine takeH (i := 25) (v := .int .i64 (na : Int)) (some 114) rfl rfl (by kernel_rfl) (by kernel_rfl) (by kernel_rfl) (fun _ _ _ h => h) (Or.inl ⟨by rfl, ?_⟩) hHeld ?_
          · (intro x hSw; (try dsimp only at hSw); go_simp)
          try simp only [Act.put, List.setIfInBounds_toArray, List.set_cons_zero, List.set_cons_succ]
          refine takeH (i := 26) (v := .int .i64 (jb : Int)) (some 115) rfl rfl (by kernel_rfl) (by kernel_rfl) (by kernel_rfl) (fun _ _ _ h => h) (Or.inl ⟨by rfl, ?_⟩) hHeld ?_
          · (intro x hSw; (try dsimp only at hSw); go_simp)
          try simp only [Act.put, List.setIfInBounds_toArray, List.set_cons_zero, List.set_cons_succ]
          refine takeH (i := 27) (v := .pointer (some ⟨gb, jb * 7, none⟩)) (some 116) rfl rfl (by kernel_rfl) (by kernel_rfl) (by kernel_rfl) (fun _ _ _ h => h) (Or.inl ⟨by rfl, ?_⟩) hHeld ?_
          · (intro x hSw; (try dsimp only at hSw); go_simp)
          try simp only [Act.put, List.setIfInBounds_toArray, List.set_cons_zero, List.set_cons_succ]
          refine takeH (i := 28) (v := .agg #[.int .i64 m.kind, .int .i64 m.node, .int .i64 m.walk, .bool m.high, .slice bn1 m.nodes.length bn2, .slice bi1 m.ids.length bi2, .slice br1 m.recs.length br2]) (some 117) rfl rfl (by kernel_rfl) (by kernel_rfl) (by kernel_rfl) (fun _ _ _ h => h) (Or.inl ⟨by rfl, ?_⟩) hHeld ?_
          · (intro x hSw; (try dsimp only at hSw); go_simp)
          try simp only [Act.put, List.setIfInBounds_toArray, List.set_cons_zero, List.set_cons_succ]
          refine takeH (i := 29) (v := .slice (some ⟨gc, 0, none⟩) nc capc) (some 118) rfl rfl (by kernel_rfl) (by kernel_rfl) (by kernel_rfl) (fun _ _ _ h => h) (Or.inl ⟨by rfl, ?_⟩) hHeld ?_
          · (intro x hSw; (try dsimp only at hSw); go_simp)
          try simp only [Act.put, List.setIfInBounds_toArray, List.set_cons_zero, List.set_cons_succ]
          refine takeH (i := 30) (v := .int .i64 (j : Int)) (some 119) rfl rfl (by kernel_rfl) (by kernel_rfl) (by kernel_rfl) (fun _ _ _ h => h) (Or.inl ⟨by rfl, ?_⟩) hHeld ?_
          · (intro x hSw; (try dsimp only at hSw); go_simp)
          try simp only [Act.put, List.setIfInBounds_toArray, List.set_cons_zero, List.set_cons_succ]
          refine takeH (i := 31) (v := .pointer (some ⟨gc, j * 7, none⟩)) (some 120) rfl rfl (by kernel_rfl) (by kernel_rfl) (by kernel_rfl) (fun _ _ _ h => h) (Or.inl ⟨by rfl, ?_⟩) hHeld ?_
          · (intro x hSw; (try dsimp only at hSw); go_simp)
          try simp only [Act.put, List.setIfInBounds_toArray, List.set_cons_zero, List.set_cons_succ]
          refine takeH (i := 32) (v := .agg #[.int .i64 m.kind, .int .i64 m.node, .int .i64 m.walk, .bool m.high, .slice cn1 m.nodes.length cn2, .slice ci1 m.ids.length ci2, .slice cr1 m.recs.length cr2]) (some 121) rfl rfl (by kernel_rfl) (by kernel_rfl) (by kernel_rfl) (fun _ _ _ h => h) (Or.inl ⟨by rfl, ?_⟩) hHeld ?_
          · (intro x hSw; (try dsimp only at hSw); go_simp)
          try simp only [Act.put, List.setIfInBounds_toArray, List.set_cons_zero, List.set_cons_succ]
          refine wpAnyH_ready (rs := [33]) (by kernel_rfl) (by simp) (AllReadyH.cons rfl (fun K hK => ?_) AllReadyH.nil)
          go_simp
          refine (same_ok m m ⟨.slice bn1 m.nodes.length bn2, .slice bi1 m.ids.length bi2, .slice br1 m.recs.length br2⟩ ⟨.slice cn1 m.nodes.length cn2, .slice ci1 m.ids.length ci2, .slice cr1 m.recs.length cr2⟩ (fun _ => True) (fun _ => True) _ (by exact HMX.out _ (by first | exact BC.out.drew | exact BC.out)) (by exact HMY.out _ (by first | exact BC.out.drew | exact BC.out))).mono ?_
          rintro e x1 ⟨⟨bb, rfl, hbb⟩, hnn⟩
          obtain rfl : bb = true := hbb.2 rfl
          replace BC := Lib.hid ((by first | exact BC.out.drew | exact BC.out : New w12 _).then hnn)
          clear hbb hnn
          go_wp2_with fail
          refine hK.out _ _ (KEEP.out _ (by first | exact BC.out.drew | exact BC.out)) (fun hHeld => ?_)
          clear hK K
          try simp only [Act.put, List.setIfInBounds_toArray, List.set_cons_zero, List.set_cons_succ]
          refine takeH (i := 34) (v := .bool false) (some 123) rfl rfl (by kernel_rfl) (by kernel_rfl) (by kernel_rfl) (fun _ _ _ h => h) (Or.inl ⟨by rfl, ?_⟩) hHeld ?_
          · (intro x hSw; (try dsimp only at hSw); go_simp)
          try simp only [Act.put, List.setIfInBounds_toArray, List.set_cons_zero, List.set_cons_succ]
          refine takeH (i := 35) (v := .bool false) (some 124) rfl rfl (by kernel_rfl) (by kernel_rfl) (by kernel_rfl) (fun _ _ _ h => h) (Or.inl ⟨by rfl, ?_⟩) hHeld ?_
          · (intro x hSw; (try dsimp only at hSw); go_simp)
          try simp only [Act.put, List.setIfInBounds_toArray, List.set_cons_zero, List.set_cons_succ]
          refine takeH (i := 36) (v := .bool false) (some 125) rfl rfl (by kernel_rfl) (by kernel_rfl) (by kernel_rfl) (fun _ _ _ h => h) (Or.inl ⟨by rfl, ?_⟩) hHeld ?_
          · (intro x hSw; (try dsimp only at hSw); go_simp)
          try simp only [Act.put, List.setIfInBounds_toArray, List.set_cons_zero, List.set_cons_succ]
          refine wpAnyH_done (by kernel_rfl) ?_ _
          refine NoPanic.normal ?_
          go_wp2_with fail
          go_roundw
          case rel => exact ⟨j + 1, rfl, Lib.hid (by omega), Lib.hid (by first | exact BC.out.drew | exact BC.out)⟩
          case measure => simp [intOf]; omega
      · go_wp2_with fail
        go_ret
        exact ⟨rfl, (HN8.out.then HNr.out).below⟩
end Go.Proofs.Ytebpdnmmcbianaa
