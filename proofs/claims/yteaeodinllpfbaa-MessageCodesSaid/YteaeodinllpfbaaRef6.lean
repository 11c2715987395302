/-
  The document's messages: Encode.
-/
import Derived.Test.YteaeodinllpfbaaRef5
set_option linter.unusedVariables false
set_option linter.unusedSimpArgs false
set_option maxRecDepth 100000
namespace Go.Proofs.Yteaeodinllpfbaa
open Go.RowKit

theorem num5 {n k : Nat} (w : World) (hk : 1 ≤ k ∧ k ≤ 8) (hn : n < 256 ^ k) (h64 : n ≤ 18446744073709551615) : Calls Try.prog 26 #[.int .u64 n, .int .i64 k] w (NumR (beL k n) w) := by
  refine (refnum n k w hk h64).mono ?_
  rintro e w' h
  rw [if_pos hn] at h
  exact h

theorem sadd (l r : List UInt8) (h : l.length + r.length ≤ 100000) (w : World) : (Op.stringOp .add (str l) (str r)).run Try.prog w = .ok (.string (str (l ++ r))) w := by
  have h1 := str_size l
  have h2 := str_size r
  rw [← str_app]
  exact run_string_add w _ _ (by omega) (by omega)

set_option maxHeartbeats 4000000 in
theorem rencode_ok (m : MsgA) (v : MsgV) (S : Nat → Prop) (w : World) (h : MsgIs w S m v) (hw : Wf m) :
    Calls Try.prog 12 #[.agg (msgC m v)] w (EncR m w) := by
  obtain ⟨an, cn, ai, ci, ar, cr, rfl⟩ := h.shape
  obtain ⟨hn, hi, hr⟩ := h
  obtain ⟨w1, hw1⟩ : ∃ w1, w1 = w.alloc (.cells (msgC m ⟨.slice an m.nodes.length cn, .slice ai m.ids.length ci, .slice ar m.recs.length cr⟩) 34) := ⟨_, rfl⟩
  have hn1 : New w w1 := by rw [hw1]; exact (New.refl w).alloc _
  have bX : Bk w1 w.heap.size 34 (msgC m ⟨.slice an m.nodes.length cn, .slice ai m.ids.length ci, .slice ar m.recs.length cr⟩) := by rw [hw1]; exact Bk.made w _ _
  have hmay := rmay_ok m ⟨.slice an m.nodes.length cn, .slice ai m.ids.length ci, .slice ar m.recs.length cr⟩ S w1 ⟨hn1.slk hn, hn1.slk hi, hn1.slk hr⟩
  simp only [msgC] at hmay
  have HMY := Lib.hid hmay
  have HNn := Lib.hid (hn1.slk hn)
  have HNi := Lib.hid (hn1.slk hi)
  have HNr := Lib.hid (hn1.slk hr)
  have HN1 := Lib.hid hn1
  have HX := Lib.hid bX
  have HW1 := Lib.hid hw1
  have HWF := Lib.hid hw
  clear hn hi hr hn1 bX hw1 hmay hw
  simp only [msgC]
  go_enter Try.func12, Try.ntmps12
  go_wp2_with fail
  have hwx := HW1.out
  simp only [msgC] at hwx
  rw [← hwx]
  clear hwx HW1
  refine HMY.out.mono ?_
  rintro e w2 ⟨rfl, hn2⟩
  have HN2 := Lib.hid (HN1.out.then hn2)
  have HX2 := Lib.hid (hn2.bk HX.out)
  have HNn2 := Lib.hid (hn2.slk HNn.out)
  have HNi2 := Lib.hid (hn2.slk HNi.out)
  have HNr2 := Lib.hid (hn2.slk HNr.out)
  clear hn2 HMY HNn HNi HNr HN1 HX
  by_cases hm : May m
  · rw [dec_ hm]
    have hmr := may_r hm HWF.out
    obtain ⟨r1, r2, r3, ⟨r4, r4'⟩, ⟨r5, r5'⟩, ⟨r6, r6'⟩⟩ := hmr
    obtain ⟨k1, ek1, hk1, tk1⟩ := inB_nat r1
    obtain ⟨k2, ek2, hk2, tk2⟩ := inB_nat r2
    obtain ⟨k3, ek3, hk3, tk3⟩ := inB_nat r3
    have p1 : (256 : Nat) ^ 1 = 256 := by decide
    have p2 : (256 : Nat) ^ 2 = 65536 := by decide
    have u1 := u64_nat ek1 (by omega)
    have u2 := u64_nat ek2 (by omega)
    have u3 := u64_nat ek3 (by omega)
    have u4 := u64_nat (n := (m.nodes.length : Int)) rfl (by omega)
    have HK := Lib.hid (show (k1 < 256 ^ 1 ∧ k2 < 256 ^ 2 ∧ k3 < 256 ^ 1) ∧ m.kind.toNat = k1 ∧ m.node.toNat = k2 ∧ m.walk.toNat = k3 from ⟨⟨hk1, hk2, hk3⟩, tk1, tk2, tk3⟩)
    have R4 := Lib.hid r4'
    have R5 := Lib.hid r5'
    have R6 := Lib.hid r6'
    have HM := Lib.hid hm
    have s1 : (str (beL 1 k1)).size = 1 := by rw [str_size, beL_length]
    have s2 : (str (beL 2 k2)).size = 2 := by rw [str_size, beL_length]
    have s3 : (str (beL 1 k3)).size = 1 := by rw [str_size, beL_length]
    have s4 : (str (encB m.high)).size = 1 := by rw [str_size, encB, beL_length]
    have s5 : (str (beL 1 m.nodes.length)).size = 1 := by rw [str_size, beL_length]
    have hln : m.nodes.length ≤ 64 := r4
    have hli : m.ids.length ≤ 64 := r5
    have hlr : m.recs.length ≤ 16 := r6
    clear hm r1 r2 r3 r4 r4' r5 r5' r6 r6' ek1 ek2 ek3 hk1 hk2 hk3 tk1 tk2 tk3 p1 p2
    have x0 := HX2.out.cell 0
    have x1 := HX2.out.cell 1
    have x2 := HX2.out.cell 2
    have x3 := HX2.out.cell 3
    have x4 := HX2.out.cell 4
    simp [msgC] at x0 x1 x2 x3 x4
    obtain ⟨hd, hhd⟩ : ∃ hd, hd = beL 1 k1 ++ beL 2 k2 ++ beL 1 k3 ++ encB m.high ++ beL 1 m.nodes.length := ⟨_, rfl⟩
    have HHD := Lib.hid hhd
    have HHS := Lib.hid (show str (beL 1 k1) ++ str (beL 2 k2) ++ str (beL 1 k3) ++ str (encB m.high) ++ str (beL 1 m.nodes.length) = str hd by rw [hhd, str_app, str_app, str_app, str_app])
    have hdl : hd.length = 6 := by rw [hhd]; simp [beL_length, encB]
    clear hhd
    go_upto_region 3 with fail
    go_cut [4] (fun vs wx => vs = .string (str hd) ∧ Hid (New w2 wx))
    case first =>
      have KEEP : Hid (∀ z, New w2 z → z.cell? ⟨w.heap.size, 0, none⟩ = some (.int .i64 m.kind) ∧ z.cell? ⟨w.heap.size, 1, none⟩ = some (.int .i64 m.node) ∧ z.cell? ⟨w.heap.size, 2, none⟩ = some (.int .i64 m.walk) ∧ z.cell? ⟨w.heap.size, 3, none⟩ = some (.bool m.high) ∧ z.cell? ⟨w.heap.size, 4, none⟩ = some (.slice an m.nodes.length cn)) := Lib.hid fun z hz => ⟨hz.cell x0, hz.cell x1, hz.cell x2, hz.cell x3, hz.cell x4⟩
      have BC := Lib.hid (New.refl w2)
      have tok1 : True := trivial
      go_region_held3 (fun z => z.cell? ⟨w.heap.size, 0, none⟩ = some (.int .i64 m.kind) ∧ z.cell? ⟨w.heap.size, 1, none⟩ = some (.int .i64 m.node) ∧ z.cell? ⟨w.heap.size, 2, none⟩ = some (.int .i64 m.walk) ∧ z.cell? ⟨w.heap.size, 3, none⟩ = some (.bool m.high) ∧ z.cell? ⟨w.heap.size, 4, none⟩ = some (.slice an m.nodes.length cn))
        ((refine KEEP.out _ ?_; first | exact BC.out.drew | exact BC.out))
        (first
          | (have _t := tok1; go_at_call 26; refine (num5 (n := k1) (k := 1) _ (by omega) (by exact HK.out.1.1) (by have := HK.out.1.1; omega)).mono ?_; rintro e y1 ⟨rfl, ht1⟩; replace BC : Hid (New w2 y1) := Lib.hid ((by first | exact BC.out.drew | exact BC.out : New w2 _).then ht1); clear ht1 tok1; have tok2 : True := trivial)
          | (have _t := tok2; go_at_call 26; refine (num5 (n := k2) (k := 2) _ (by omega) (by exact HK.out.1.2.1) (by have := HK.out.1.2.1; omega)).mono ?_; rintro e y2 ⟨rfl, ht1⟩; replace BC : Hid (New w2 y2) := Lib.hid (BC.out.then ht1); clear ht1 tok2; have tok3 : True := trivial)
          | (have _t := tok3; go_at_call 26; refine (num5 (n := k3) (k := 1) _ (by omega) (by exact HK.out.1.2.2) (by have := HK.out.1.2.2; omega)).mono ?_; rintro e y3 ⟨rfl, ht1⟩; replace BC : Hid (New w2 y3) := Lib.hid (BC.out.then ht1); clear ht1 tok3; have tok4 : True := trivial)
          | (go_at_call 27; refine (bit_ok m.high _).mono ?_; rintro e y4 ⟨rfl, rfl⟩)
          | (have _t := tok4; go_at_call 26; refine (num5 (n := m.nodes.length) (k := 1) _ (by omega) (by omega) (by omega)).mono ?_; rintro e y5 ⟨rfl, ht1⟩; replace BC : Hid (New w2 y5) := Lib.hid (BC.out.then ht1); clear ht1 tok4))
      all_goals
        go_wp2_with fail
        go_meet
        exact ⟨congrArg Value.string HHS.out, BC⟩
    case rest =>
      obtain ⟨rfl, HN3⟩ := hcut
      obtain ⟨w3, rfl⟩ : ∃ z, z = wc := ⟨_, rfl⟩
      clear x0 x1 x2 x3 x4 s1 s2 s3 s4 s5 u1 u2 u3 u4
      have x4 := (HN3.out.bk HX2.out).cell 4
      simp [msgC] at x4
      go_wp2_with fail
      go_loopw [4, 5] (fun vs vj wr => ∃ (j : Nat) (sA : List UInt8), vs = .string (str sA) ∧ vj = .int .i64 j ∧ j ≤ m.nodes.length ∧ Hid (sA = hd ++ (m.nodes.take j).flatMap encNode) ∧ Hid (New w2 wr)) (fun _ vj _ => m.nodes.length - (intOf vj).toNat)
      case atStart => exact ⟨0, hd, rfl, rfl, by omega, Lib.hid (by simp), HN3⟩
      case round =>
        obtain ⟨j, sA, rfl, rfl, hj, HSA, HNr⟩ := hrel
        have x4 := (HNr.out.bk HX2.out).cell 4
        simp [msgC] at x4
        have hfl := flat_take (enc := encNode) (c := 2) m.nodes (fun y _ => by simp [encNode, beL_length]) j
        have hsl : sA.length ≤ 200 := by rw [HSA.out, List.length_append]; omega
        have hsz : (str sA).size ≤ 200 := by rw [str_size]; exact hsl
        clear hfl hsl
        by_cases hlt : j < m.nodes.length
        · obtain ⟨y, hy⟩ : ∃ y, y = m.nodes[j] := ⟨_, rfl⟩
          obtain ⟨b, off, rfl, _, hbl, hc⟩ := (HNr.out.slk HNn2.out).at_ (by omega)
          have c0 := hc j hlt 0 (.int .i64 y) (by rw [← hy]; rfl)
          simp only [Nat.mul_one, Nat.add_zero] at c0
          obtain ⟨kx, ex, hkx, tx⟩ := inB_nat (R4.out y (by rw [hy]; exact List.getElem_mem _))
          have hkx2 : kx < 65536 := hkx
          have ux := Lib.hid (u64_nat ex (by omega))
          have HNX := Lib.hid (flat_next (enc := encNode) m.nodes j hlt y hy)
          have HKX := Lib.hid hkx
          have TX := Lib.hid tx
          have sz2 : (str (beL 2 kx)).size = 2 := by rw [str_size, beL_length]
          clear hkx tx ex hc hy
          go_wp2_with fail
          rw [ux.out]
          refine (num5 (n := kx) (k := 2) _ (by omega) HKX.out (by omega)).mono ?_
          rintro e y1 ⟨rfl, ht1⟩
          have HT1 := Lib.hid (HNr.out.then ht1)
          clear ht1
          go_wp2_with fail
          go_roundw
          case rel => exact ⟨j + 1, sA ++ beL 2 kx, by rw [str_app], by go_num, by omega, Lib.hid (by rw [HNX.out, HSA.out, encNode, TX.out, List.append_assoc]), HT1⟩
          case measure => simp [intOf]; omega
        · obtain rfl : j = m.nodes.length := by omega
          have hsa := HSA.out
          rw [List.take_of_length_le (Nat.le_refl _)] at hsa
          obtain ⟨sB, hsB⟩ : ∃ sB, sB = sA ++ beL 1 m.ids.length := ⟨_, rfl⟩
          have HSB := Lib.hid (show sB = hd ++ m.nodes.flatMap encNode ++ beL 1 m.ids.length by rw [hsB, hsa])
          have HSB1 := Lib.hid (show str sA ++ str (beL 1 m.ids.length) = str sB by rw [hsB, str_app])
          have hbl : sB.length ≤ 201 := by rw [hsB, List.length_append, beL_length]; rw [str_size] at hsz; omega
          have sz1 : (str (beL 1 m.ids.length)).size = 1 := by rw [str_size, beL_length]
          obtain ⟨w4, rfl⟩ : ∃ z, z = wr := ⟨_, rfl⟩
          have x5 := (HNr.out.bk HX2.out).cell 5
          simp [msgC] at x5
          clear hsa hsB HSA
          go_wp2_with fail
          refine (num5 (n := m.ids.length) (k := 1) _ (by omega) (by omega) (by omega)).mono ?_
          rintro e w5 ⟨rfl, ht5⟩
          have HN5 := Lib.hid (HNr.out.then ht5)
          have x5' := (HN5.out.bk HX2.out).cell 5
          simp [msgC] at x5'
          clear ht5 HNr
          go_upto_region 9 with fail
          rw [HSB1.out]
          clear sz1 hsz x4 x5 HSB1
          go_wp2_with fail
          go_loopw [4, 6] (fun vs vj wr => ∃ (j : Nat) (sA : List UInt8), vs = .string (str sA) ∧ vj = .int .i64 j ∧ j ≤ m.ids.length ∧ Hid (sA = sB ++ (m.ids.take j).flatMap encI) ∧ Hid (New w2 wr)) (fun _ vj _ => m.ids.length - (intOf vj).toNat)
          case atStart => exact ⟨0, sB, rfl, rfl, by omega, Lib.hid (by simp), HN5⟩
          case round =>
            obtain ⟨j, sA, rfl, rfl, hj, HSA, HNr⟩ := hrel
            have x5 := (HNr.out.bk HX2.out).cell 5
            simp [msgC] at x5
            have hfl := flat_take (enc := encI) (c := 73) m.ids (fun y hy => encI_len y (R5.out y hy)) j
            have hsl : sA.length ≤ 5000 := by rw [HSA.out, List.length_append]; omega
            have hsz : (str sA).size ≤ 5000 := by rw [str_size]; exact hsl
            clear hfl hsl
            by_cases hlt : j < m.ids.length
            · obtain ⟨y, hy⟩ : ∃ y, y = m.ids[j] := ⟨_, rfl⟩
              obtain ⟨b, off, rfl, _, hbl, hc⟩ := (HNr.out.slk HNi2.out).at_ (by omega)
              have c0 := hc j hlt 0 (.string (str y.key)) (by rw [← hy]; rfl)
              have c1 := hc j hlt 1 (.int .u64 y.ver) (by rw [← hy]; rfl)
              simp only [Nat.add_zero] at c0
              obtain ⟨ry1, ry2⟩ := R5.out y (by rw [hy]; exact List.getElem_mem _)
              have HRY := Lib.hid (show y.key.length ≤ 64 ∧ y.ver < 18446744073709551616 from ⟨ry1, ry2⟩)
              have HNX := Lib.hid (flat_next (enc := encI) m.ids j hlt y hy)
              have le1 : (encT y.key).length ≤ 65 := by simp [encT]; omega
              have le2 : (beL 8 y.ver).length = 8 := beL_length _ _
              have E1 := sadd (encT y.key) (beL 8 y.ver) (by omega)
              have E2 := sadd sA (encT y.key ++ beL 8 y.ver) (by rw [List.length_append]; rw [str_size] at hsz; omega)
              have hji : (j : Int) < (m.ids.length : Int) := by omega
              clear hc hy ry1 ry2 le1 le2 hsz
              go_upto_region 12 with fail
              have KEEP : Hid (∀ z, New wr z → z.cell? ⟨w.heap.size, 5, none⟩ = some (.slice (some ⟨b, off, none⟩) m.ids.length ci) ∧ z.cell? ⟨b, off + j * 2, none⟩ = some (.string (str y.key)) ∧ z.cell? ⟨b, off + j * 2 + 1, none⟩ = some (.int .u64 y.ver)) := Lib.hid fun z hz => ⟨hz.cell x5, hz.cell c0, hz.cell c1⟩
              have BC := Lib.hid (New.refl wr)
              have tok1 : True := trivial
              go_region_held3 (fun z => z.cell? ⟨w.heap.size, 5, none⟩ = some (.slice (some ⟨b, off, none⟩) m.ids.length ci) ∧ z.cell? ⟨b, off + j * 2, none⟩ = some (.string (str y.key)) ∧ z.cell? ⟨b, off + j * 2 + 1, none⟩ = some (.int .u64 y.ver))
                ((refine KEEP.out _ ?_; first | exact BC.out.drew | exact BC.out))
                (first
                  | (have _t := tok1; go_at_call 28; refine (text5_ok y.key _ (by have := HRY.out.1; omega)).mono ?_; rintro e y1 ⟨rfl, ht1⟩; replace BC : Hid (New wr y1) := Lib.hid ((by first | exact BC.out.drew | exact BC.out : New wr _).then ht1); clear ht1 tok1; have tok2 : True := trivial)
                  | (have _t := tok2; go_at_call 26; refine (num5 (n := y.ver) (k := 8) _ (by omega) (by have := HRY.out.2; omega) (by have := HRY.out.2; omega)).mono ?_; rintro e y2 ⟨rfl, ht1⟩; replace BC : Hid (New wr y2) := Lib.hid (BC.out.then ht1); clear ht1 tok2))
              all_goals
                go_wp2_with fail
                go_roundw
                case rel => exact ⟨j + 1, sA ++ encI y, rfl, by go_num, by omega, Lib.hid (by rw [HNX.out, HSA.out, List.append_assoc]), Lib.hid (HNr.out.then BC.out)⟩
                case measure => simp [intOf]; omega
            · obtain rfl : j = m.ids.length := by omega
              have hsa := HSA.out
              rw [List.take_of_length_le (Nat.le_refl _)] at hsa
              obtain ⟨sC, hsC⟩ : ∃ sC, sC = sA ++ beL 1 m.recs.length := ⟨_, rfl⟩
              have HSC := Lib.hid (show sC = sB ++ m.ids.flatMap encI ++ beL 1 m.recs.length by rw [hsC, hsa])
              have HSC1 := Lib.hid (show str sA ++ str (beL 1 m.recs.length) = str sC by rw [hsC, str_app])
              have hcl : sC.length ≤ 5001 := by rw [hsC, List.length_append, beL_length]; rw [str_size] at hsz; omega
              have sz1 : (str (beL 1 m.recs.length)).size = 1 := by rw [str_size, beL_length]
              obtain ⟨w6, rfl⟩ : ∃ z, z = wr := ⟨_, rfl⟩
              have x6 := (HNr.out.bk HX2.out).cell 6
              simp [msgC] at x6
              clear hsa hsC HSA
              go_wp2_with fail
              refine (num5 (n := m.recs.length) (k := 1) _ (by omega) (by omega) (by omega)).mono ?_
              rintro e w7 ⟨rfl, ht7⟩
              have HN7 := Lib.hid (HNr.out.then ht7)
              have x6' := (HN7.out.bk HX2.out).cell 6
              simp [msgC] at x6'
              clear ht7 HNr
              go_upto_region 14 with fail
              rw [HSC1.out]
              clear sz1 hsz x5 x6 HSC1
              go_wp2_with fail
              go_loopw [4, 7] (fun vs vj wr => ∃ (j : Nat) (sA : List UInt8), vs = .string (str sA) ∧ vj = .int .i64 j ∧ j ≤ m.recs.length ∧ Hid (sA = sC ++ (m.recs.take j).flatMap encR) ∧ Hid (New w2 wr)) (fun _ vj _ => m.recs.length - (intOf vj).toNat)
              case atStart => exact ⟨0, sC, rfl, rfl, by omega, Lib.hid (by simp), HN7⟩
              case round =>
                obtain ⟨j, sA, rfl, rfl, hj, HSA, HNr⟩ := hrel
                have x6 := (HNr.out.bk HX2.out).cell 6
                simp [msgC] at x6
                have hfl := flat_take (enc := encR) (c := 143) m.recs (fun y hy => encR_len y (R6.out y hy)) j
                have hsl : sA.length ≤ 9000 := by rw [HSA.out, List.length_append]; omega
                have hsz : (str sA).size ≤ 9000 := by rw [str_size]; exact hsl
                clear hfl hsl
                by_cases hlt : j < m.recs.length
                · obtain ⟨y, hy⟩ : ∃ y, y = m.recs[j] := ⟨_, rfl⟩
                  obtain ⟨b, off, rfl, _, hbl, hc⟩ := (HNr.out.slk HNr2.out).at_ (by omega)
                  have c0 := hc j hlt 0 (.string (str y.id.key)) (by rw [← hy]; rfl)
                  have c1 := hc j hlt 1 (.int .u64 y.id.ver) (by rw [← hy]; rfl)
                  have c2 := hc j hlt 2 (.int .i64 y.origin) (by rw [← hy]; rfl)
                  have c3 := hc j hlt 3 (.int .i64 y.age) (by rw [← hy]; rfl)
                  have c4 := hc j hlt 4 (.bool y.gone) (by rw [← hy]; rfl)
                  have c5 := hc j hlt 5 (.string (str y.data)) (by rw [← hy]; rfl)
                  simp only [Nat.add_zero] at c0
                  obtain ⟨⟨ry1, ry2⟩, ry3, ry4, ry5⟩ := R6.out y (by rw [hy]; exact List.getElem_mem _)
                  obtain ⟨ko, eo, hko, tq⟩ := inB_nat ry3
                  obtain ⟨ka, ea, hka, ta⟩ := inB_nat ry4
                  have p2 : (256 : Nat) ^ 2 = 65536 := by decide
                  have uo := u64_nat eo (by omega)
                  have ua := u64_nat ea (by omega)
                  have HRY := Lib.hid (show (y.id.key.length ≤ 64 ∧ y.id.ver < 18446744073709551616) ∧ ko < 256 ^ 2 ∧ ka < 256 ^ 2 ∧ y.data.length ≤ 64 from ⟨⟨ry1, ry2⟩, hko, hka, ry5⟩)
                  have HNX := Lib.hid (flat_next (enc := encR) m.recs j hlt y hy)
                  have le1 : (encT y.id.key).length ≤ 65 := by simp [encT]; omega
                  have le2 : (encT y.data).length ≤ 65 := by simp [encT]; omega
                  have LB : ∀ (k n : Nat), (beL k n).length = k := beL_length
                  have LG : (encB y.gone).length = 1 := by simp [encB, beL_length]
                  have E1 : ∀ w : World, _ := fun w => sadd (encT y.id.key) (beL 8 y.id.ver) (by rw [LB]; omega) w
                  have K1 : (encT y.id.key ++ beL 8 y.id.ver).length ≤ 73 := by rw [List.length_append, LB]; omega
                  obtain ⟨l1, hl1⟩ : ∃ l, l = encT y.id.key ++ beL 8 y.id.ver := ⟨_, rfl⟩
                  rw [← hl1] at E1 K1
                  have E2 : ∀ w : World, _ := fun w => sadd l1 (beL 2 ko) (by rw [LB]; omega) w
                  have K2 : (l1 ++ beL 2 ko).length ≤ 75 := by rw [List.length_append, LB]; omega
                  obtain ⟨l2, hl2⟩ : ∃ l, l = l1 ++ beL 2 ko := ⟨_, rfl⟩
                  rw [← hl2] at E2 K2
                  have E3 : ∀ w : World, _ := fun w => sadd l2 (beL 2 ka) (by rw [LB]; omega) w
                  have K3 : (l2 ++ beL 2 ka).length ≤ 77 := by rw [List.length_append, LB]; omega
                  obtain ⟨l3, hl3⟩ : ∃ l, l = l2 ++ beL 2 ka := ⟨_, rfl⟩
                  rw [← hl3] at E3 K3
                  have E4 : ∀ w : World, _ := fun w => sadd l3 (encB y.gone) (by rw [LG]; omega) w
                  have K4 : (l3 ++ encB y.gone).length ≤ 78 := by rw [List.length_append, LG]; omega
                  obtain ⟨l4, hl4⟩ : ∃ l, l = l3 ++ encB y.gone := ⟨_, rfl⟩
                  rw [← hl4] at E4 K4
                  have E5 : ∀ w : World, _ := fun w => sadd l4 (encT y.data) (by omega) w
                  have K5 : (l4 ++ encT y.data).length ≤ 143 := by rw [List.length_append]; omega
                  obtain ⟨l5, hl5⟩ : ∃ l, l = l4 ++ encT y.data := ⟨_, rfl⟩
                  rw [← hl5] at E5 K5
                  have E6 : ∀ w : World, _ := fun w => sadd sA l5 (by rw [str_size] at hsz; omega) w
                  obtain ⟨l6, hl6⟩ : ∃ l, l = sA ++ l5 := ⟨_, rfl⟩
                  rw [← hl6] at E6
                  have HJ := Lib.hid (show l6 = sA ++ encR y by
                    rw [hl6, hl5, hl4, hl3, hl2, hl1, encR, encI, tq, ta]
                    simp only [List.append_assoc])
                  clear LB LG K1 K2 K3 K4 K5 hl1 hl2 hl3 hl4 hl5 hl6
                  clear hc hy ry1 ry2 ry3 ry4 ry5 eo ea hko hka tq ta p2 le1 le2 hsz
                  go_upto_region 18 with fail
                  obtain ⟨wy, hwy⟩ : ∃ wy, wy = wr.alloc (.cells #[.string (str y.id.key), .int .u64 y.id.ver, .int .i64 y.origin, .int .i64 y.age, .bool y.gone, .string (str y.data)] 75) := ⟨_, rfl⟩
                  have hny : New wr wy := by rw [hwy]; exact (New.refl wr).alloc _
                  have bY : Bk wy wr.heap.size 75 #[.string (str y.id.key), .int .u64 y.id.ver, .int .i64 y.origin, .int .i64 y.age, .bool y.gone, .string (str y.data)] := by rw [hwy]; exact Bk.made wr _ _
                  rw [← hwy]
                  have HNY := Lib.hid (HNr.out.then hny)
                  have d0 := bY.cell 0
                  have d1 := bY.cell 1
                  have d2 := bY.cell 2
                  have d3 := bY.cell 3
                  have d4 := bY.cell 4
                  have d5 := bY.cell 5
                  simp at d0 d1 d2 d3 d4 d5
                  clear hwy hny bY c0 c1 c2 c3 c4 c5 x6
                  have KEEP : Hid (∀ z, New wy z → z.cell? ⟨wr.heap.size, 0, none⟩ = some (.string (str y.id.key)) ∧ z.cell? ⟨wr.heap.size, 1, none⟩ = some (.int .u64 y.id.ver) ∧ z.cell? ⟨wr.heap.size, 2, none⟩ = some (.int .i64 y.origin) ∧ z.cell? ⟨wr.heap.size, 3, none⟩ = some (.int .i64 y.age) ∧ z.cell? ⟨wr.heap.size, 4, none⟩ = some (.bool y.gone) ∧ z.cell? ⟨wr.heap.size, 5, none⟩ = some (.string (str y.data))) := Lib.hid fun z hz => ⟨hz.cell d0, hz.cell d1, hz.cell d2, hz.cell d3, hz.cell d4, hz.cell d5⟩
                  have BC := Lib.hid (New.refl wy)
                  have tok1 : True := trivial
                  go_region_held3 (fun z => z.cell? ⟨wr.heap.size, 0, none⟩ = some (.string (str y.id.key)) ∧ z.cell? ⟨wr.heap.size, 1, none⟩ = some (.int .u64 y.id.ver) ∧ z.cell? ⟨wr.heap.size, 2, none⟩ = some (.int .i64 y.origin) ∧ z.cell? ⟨wr.heap.size, 3, none⟩ = some (.int .i64 y.age) ∧ z.cell? ⟨wr.heap.size, 4, none⟩ = some (.bool y.gone) ∧ z.cell? ⟨wr.heap.size, 5, none⟩ = some (.string (str y.data)))
                    ((refine KEEP.out _ ?_; first | exact BC.out.drew | exact BC.out))
                    (first
                      | (have _t := tok1; go_at_call 28; refine (text5_ok y.id.key _ (by have := HRY.out.1.1; omega)).mono ?_; rintro e y1 ⟨rfl, ht1⟩; replace BC : Hid (New wy y1) := Lib.hid ((by first | exact BC.out.drew | exact BC.out : New wy _).then ht1); clear ht1 tok1; have tok2 : True := trivial)
                      | (have _t := tok2; go_at_call 26; refine (num5 (n := y.id.ver) (k := 8) _ (by omega) (by have := HRY.out.1.2; omega) (by have := HRY.out.1.2; omega)).mono ?_; rintro e y2 ⟨rfl, ht1⟩; replace BC : Hid (New wy y2) := Lib.hid (BC.out.then ht1); clear ht1 tok2; have tok3 : True := trivial)
                      | (have _t := tok3; go_at_call 26; refine (num5 (n := ko) (k := 2) _ (by omega) (by exact HRY.out.2.1) (by have := HRY.out.2.1; omega)).mono ?_; rintro e y3 ⟨rfl, ht1⟩; replace BC : Hid (New wy y3) := Lib.hid (BC.out.then ht1); clear ht1 tok3; have tok4 : True := trivial)
                      | (have _t := tok4; go_at_call 26; refine (num5 (n := ka) (k := 2) _ (by omega) (by exact HRY.out.2.2.1) (by have := HRY.out.2.2.1; omega)).mono ?_; rintro e y4 ⟨rfl, ht1⟩; replace BC : Hid (New wy y4) := Lib.hid (BC.out.then ht1); clear ht1 tok4; have tok5 : True := trivial)
                      | (go_at_call 27; refine (bit_ok y.gone _).mono ?_; rintro e y5 ⟨rfl, rfl⟩)
                      | (have _t := tok5; go_at_call 28; refine (text5_ok y.data _ (by have := HRY.out.2.2.2; omega)).mono ?_; rintro e y6 ⟨rfl, ht1⟩; replace BC : Hid (New wy y6) := Lib.hid (BC.out.then ht1); clear ht1 tok5))
                  all_goals
                    go_wp2_with fail
                    go_roundw
                    case rel => exact ⟨j + 1, sA ++ encR y, by rw [← HJ.out], by go_num, by omega, Lib.hid (by rw [HNX.out, HSA.out, List.append_assoc]), Lib.hid (HNY.out.then BC.out)⟩
                    case measure => simp [intOf]; omega
                · obtain rfl : j = m.recs.length := by omega
                  have hsa := HSA.out
                  rw [List.take_of_length_le (Nat.le_refl _)] at hsa
                  have HE := Lib.hid (show sA = encM m by
                    rw [hsa, HSC.out, HSB.out, HHD.out, encM, encL, encL, encL, HK.out.2.1, HK.out.2.2.1, HK.out.2.2.2]
                    simp only [List.append_assoc])
                  have HSZ := Lib.hid (str_size sA)
                  clear hsa HSA
                  by_cases hl : sA.length ≤ 4096
                  · have HR := Lib.hid (show encE m = (sA, 0) by rw [HE.out]; exact encE_ok HM.out (by rw [← HE.out]; exact hl))
                    have hl2 : ¬ (4096 : Int) < ((str sA).size : Int) := by have := HSZ.out; omega
                    clear hl
                    go_wp2_with fail
                    go_ret2
                    exact ⟨by rw [HR.out]; rfl, HN2.out.then HNr.out⟩
                  · have HR := Lib.hid (show encE m = ([], 3) by simp [encE, HM.out, ← HE.out, hl])
                    have hl2 : (4096 : Int) < ((str sA).size : Int) := by have := HSZ.out; omega
                    clear hl
                    go_wp2_with fail
                    go_ret2
                    exact ⟨by rw [HR.out]; rfl, HN2.out.then HNr.out⟩
  · rw [decn_ hm]
    have HR := Lib.hid (show encE m = ([], 1) by simp [encE, hm])
    clear hm
    go_wp2_with fail
    go_ret2
    exact ⟨by rw [HR.out]; rfl, HN2.out⟩
end Go.Proofs.Yteaeodinllpfbaa
