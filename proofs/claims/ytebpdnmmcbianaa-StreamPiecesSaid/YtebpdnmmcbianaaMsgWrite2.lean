/-
  Package message: write, whole.
-/
import Derived.Test.YtebpdnmmcbianaaMsgWrite
set_option linter.unusedVariables false
set_option maxRecDepth 100000
namespace Go.Proofs.Ytebpdnmmcbianaa
open Go.RowKit

theorem flat_le {α : Type} {enc : α → List UInt8} {c : Nat} : ∀ (l : List α), (∀ x ∈ l, (enc x).length ≤ c) → (l.flatMap enc).length ≤ l.length * c
  | [], _ => by simp
  | a :: l, h => by
    have := flat_le l (fun x hx => h x (by simp [hx]))
    have h1 := h a (by simp)
    rw [List.flatMap_cons, List.length_append, List.length_cons, Nat.add_mul]
    omega
theorem flat_take {α : Type} {enc : α → List UInt8} {c : Nat} (l : List α) (h : ∀ x ∈ l, (enc x).length ≤ c) (j : Nat) : ((l.take j).flatMap enc).length ≤ l.length * c := by
  have h1 := flat_le (l.take j) (fun x hx => h x (List.mem_of_mem_take hx))
  have h2 : (l.take j).length * c ≤ l.length * c := Nat.mul_le_mul_right _ (by rw [List.length_take]; omega)
  omega
theorem flat_next {α : Type} {enc : α → List UInt8} (l : List α) (j : Nat) (h : j < l.length) (x : α) (hx : x = l[j]) : (l.take (j + 1)).flatMap enc = (l.take j).flatMap enc ++ enc x := by
  rw [List.take_add_one, List.getElem?_eq_getElem h, ← hx]
  simp
theorem encI_len (i : IdA) (h : IdR i) : (encI i).length ≤ 73 := by simp [encI, encT, beL_length]; have := h.1; omega
theorem encR_len (x : RecA) (h : RecR x) : (encR x).length ≤ 143 := by
  have h1 := encI_len x.id h.1
  have h2 := h.2.2.2
  simp [encR, encT, beL_length, encB]
  omega
theorem inB_nat {k : Nat} {n : Int} (h : InB k n) : ∃ a : Nat, n = a ∧ a < 256 ^ k ∧ n.toNat = a := by
  obtain ⟨a, ha⟩ := Int.eq_ofNat_of_zero_le h.1
  refine ⟨a, ha, ?_, by omega⟩
  have := h.2
  rw [ha, ← pow_i] at this
  exact Int.ofNat_lt.1 this

set_option maxHeartbeats 4000000 in
theorem write_ok (m : MsgA) (v : MsgV) (W N : Nat) (vw : Value) (S : Nat → Prop) (w : World) (hm : MsgIs w S m v) (hS : ∀ b, S b → b < N ∧ b ≠ W) (hr : MsgR m) (h : WrIs w W N vw []) :
    Calls Try.prog 50 #[.agg (msgC m v), .pointer (some ⟨W, 0, none⟩)] w (RawU W N [] (encM m) w) := by
  obtain ⟨vn, vi, vr⟩ := v
  obtain ⟨hn, hi, hrr⟩ := hm
  obtain ⟨an, cn, rfl, hn1, hn2⟩ := hn.shape
  obtain ⟨ai, ci, rfl, hi1, hi2⟩ := hi.shape
  obtain ⟨ar, cr, rfl, hr1, hr2⟩ := hrr.shape
  obtain ⟨r1, r2, r3, ⟨r4, r4'⟩, ⟨r5, r5'⟩, ⟨r6, r6'⟩⟩ := hr
  obtain ⟨k1, ek1, hk1, tk1⟩ := inB_nat r1
  obtain ⟨k2, ek2, hk2, tk2⟩ := inB_nat r2
  obtain ⟨k3, ek3, hk3, tk3⟩ := inB_nat r3
  have p1 : (256 : Nat) ^ 1 = 256 := by decide
  have p2 : (256 : Nat) ^ 2 = 65536 := by decide
  have u1 := Lib.hid (u64_nat ek1 (by omega))
  have u2 := Lib.hid (u64_nat ek2 (by omega))
  have u3 := Lib.hid (u64_nat ek3 (by omega))
  have u4 := Lib.hid (u64_nat (n := (m.nodes.length : Int)) rfl (by omega))
  have u5 := Lib.hid (u64_nat (n := (m.ids.length : Int)) rfl (by omega))
  have u6 := Lib.hid (u64_nat (n := (m.recs.length : Int)) rfl (by omega))
  have hW := h.1.lt
  obtain ⟨w1, hw1⟩ : ∃ w1, w1 = w.alloc (.cells #[.int .i64 m.kind, .int .i64 m.node, .int .i64 m.walk, .bool m.high, .slice an m.nodes.length cn, .slice ai m.ids.length ci, .slice ar m.recs.length cr] 30) := ⟨_, rfl⟩
  have hnw : New w w1 := by rw [hw1]; exact (New.refl w).alloc _
  have hb : Bk w1 w.heap.size 30 #[.int .i64 m.kind, .int .i64 m.node, .int .i64 m.walk, .bool m.high, .slice an m.nodes.length cn, .slice ai m.ids.length ci, .slice ar m.recs.length cr] := by rw [hw1]; exact Bk.made w _ _
  have HB := Lib.hid hb
  have H1 := Lib.hid (h.new hnw)
  have hu : TchU W N w w1 := by rw [hw1]; exact (TchU.refl W N w).alloc _
  have HU := Lib.hid hu
  have HW1 := Lib.hid hw1
  have HNn := Lib.hid hn
  have HNi := Lib.hid hi
  have HNr := Lib.hid hrr
  have HS := Lib.hid (show ∀ b, S b → ¬ (fun w b => b = W ∨ (N ≤ b ∧ U8 w b)) w b from fun b hb h => by have := hS b hb; rcases h with h | ⟨h, _⟩ <;> omega)
  have hbW : w.heap.size ≠ W := by omega
  have HBW := Lib.hid hbW
  have HK1 := Lib.hid hk1
  have HK2 := Lib.hid hk2
  have HK3 := Lib.hid hk3
  have E1 := Lib.hid tk1
  have E2 := Lib.hid tk2
  have E3 := Lib.hid tk3
  have R4 := Lib.hid r4'
  have R5 := Lib.hid r5'
  have R6 := Lib.hid r6'
  have hcn : m.nodes.length ≤ 64 := r4
  clear h hnw hb hu hw1 hn hi hrr hn1 hn2 hi1 hi2 hr1 hr2 r1 r2 r3 r4' r5' r6' ek1 ek2 ek3 hk1 hk2 hk3 tk1 tk2 tk3 hS hW hbW p1 p2
  simp only [msgC]
  go_enter Try.func50, Try.ntmps50
  go_wp2_with fail
  rw [← HW1.out, u1.out]
  refine (numU_ok W N vw [] k1 1 w1 H1.out (by omega) HK1.out (by simp) (by have := HK1.out; omega)).mono ?_
  rintro e w2 ⟨rfl, ⟨v2, hv2⟩, ht2⟩
  have hb2 := ht2.bk HB.out HBW.out (by decide)
  have HB2 := Lib.hid hb2
  have HV2 := Lib.hid hv2
  have HT2 := Lib.hid (HU.out.then ht2)
  have d := hb2.cell 1
  simp at d
  clear hb2 hv2 ht2
  go_wp2_with fail
  rw [u2.out]
  refine (numU_ok W N v2 _ k2 2 _ HV2.out (by omega) HK2.out (by simp [beL_length]) (by have := HK2.out; omega)).mono ?_
  rintro e w3 ⟨rfl, ⟨v3, hv3⟩, ht3⟩
  have hb3 := ht3.bk HB2.out HBW.out (by decide)
  have HB3 := Lib.hid hb3
  have HV3 := Lib.hid hv3
  have HT3 := Lib.hid (HT2.out.then ht3)
  clear d
  have d := hb3.cell 2
  simp at d
  clear hb3 hv3 ht3
  go_wp2_with fail
  rw [u3.out]
  refine (numU_ok W N v3 _ k3 1 _ HV3.out (by omega) HK3.out (by simp [beL_length]) (by have := HK3.out; omega)).mono ?_
  rintro e w4 ⟨rfl, ⟨v4, hv4⟩, ht4⟩
  have hb4 := ht4.bk HB3.out HBW.out (by decide)
  have HB4 := Lib.hid hb4
  have HV4 := Lib.hid hv4
  have HT4 := Lib.hid (HT3.out.then ht4)
  clear d
  have d := hb4.cell 3
  simp at d
  clear hb4 hv4 ht4
  go_wp2_with fail
  refine (writeFlag_ok W N v4 _ m.high _ HV4.out (by simp [beL_length])).mono ?_
  rintro e w5 ⟨rfl, ⟨v5, hv5⟩, ht5⟩
  have hb5 := ht5.bk HB4.out HBW.out (by decide)
  have HB5 := Lib.hid hb5
  have HV5 := Lib.hid hv5
  have HT5 := Lib.hid (HT4.out.then ht5)
  clear d
  have d := hb5.cell 4
  simp at d
  clear hb5 hv5 ht5
  go_wp2_with fail
  refine (numU_ok W N v5 _ m.nodes.length 1 _ HV5.out (by omega) (by omega) (by simp [beL_length, encB]) (by omega)).mono ?_
  rintro e w6 ⟨rfl, ⟨v6, hv6⟩, ht6⟩
  have hb6 := ht6.bk HB5.out HBW.out (by decide)
  have HB6 := Lib.hid hb6
  obtain ⟨a6, ha6⟩ : ∃ a, a = [] ++ beL 1 k1 ++ beL 2 k2 ++ beL 1 k3 ++ encB m.high ++ beL 1 m.nodes.length := ⟨_, rfl⟩
  rw [← ha6] at hv6
  have hl6 : a6.length = 6 := by rw [ha6]; simp [beL_length, encB]
  have HV6 := Lib.hid hv6
  have HA6 := Lib.hid ha6
  have HT6 := Lib.hid (HT5.out.then ht6)
  clear d
  have d := hb6.cell 4
  simp at d
  clear hb6 hv6 ht6 ha6
  go_wp2_with fail
  go_loopw [38] (fun vi wr => ∃ (j : Nat) (vv : Value), j ≤ m.nodes.length ∧ vi = .int .i64 j ∧ Hid (WrIs wr W N vv (a6 ++ (m.nodes.take j).flatMap encNode)) ∧ Hid (TchU W N w6 wr)) (fun vi _ => m.nodes.length - (intOf vi).toNat)
  case atStart => exact ⟨0, v6, by omega, rfl, Lib.hid (by simpa using HV6.out), Lib.hid (TchU.refl _ _ _)⟩
  case round =>
    obtain ⟨j, vv, hj, rfl, HV, HT⟩ := hrel
    by_cases hlt : j < m.nodes.length
    · obtain ⟨x, hx⟩ : ∃ x, x = m.nodes[j] := ⟨_, rfl⟩
      obtain ⟨b, off, rfl, _, hbl, hc⟩ := (HNn.out.tch (HT6.out.then HT.out) HS.out).at_ (by omega)
      have hcj := hc j hlt 0 (.int .i64 x) (by rw [← hx]; rfl)
      simp only [Nat.mul_one, Nat.add_zero] at hcj
      obtain ⟨kx, ex, hkx, tx⟩ := inB_nat (R4.out x (by rw [hx]; exact List.getElem_mem _))
      have ux := Lib.hid (u64_nat ex (by have : (256 : Nat) ^ 2 = 65536 := by decide
                                         omega))
      have hnx := flat_next (enc := encNode) m.nodes j hlt x hx
      have HNX := Lib.hid hnx
      have HKX := Lib.hid hkx
      have TX := Lib.hid tx
      have hfl := flat_take (enc := encNode) (c := 2) m.nodes (fun y _ => by simp [encNode, beL_length]) j
      clear hnx hkx tx ex hc hx
      go_wp2_with fail
      rw [ux.out]
      refine (numU_ok W N vv _ kx 2 _ HV.out (by omega) HKX.out (by rw [List.length_append]; omega) (by have := HKX.out; omega)).mono ?_
      rintro e wz ⟨rfl, ⟨vz, hvz⟩, htz⟩
      have HVZ := Lib.hid hvz
      have HTZ := Lib.hid (HT.out.then htz)
      clear hvz htz
      go_wp2_with fail
      go_roundw
      case rel => exact ⟨j + 1, vz, by omega, by go_num, Lib.hid (by rw [HNX.out, ← List.append_assoc, encNode, TX.out]; exact HVZ.out), HTZ⟩
      case measure => simp [intOf]; omega
    · obtain rfl : j = m.nodes.length := by omega
      have hv7 := HV.out
      rw [List.take_of_length_le (Nat.le_refl _)] at hv7
      have hb7 := HT.out.bk HB6.out HBW.out (by decide)
      have HB7 := Lib.hid hb7
      have HV7 := Lib.hid hv7
      have HT7 := Lib.hid (HT6.out.then HT.out)
      have hfl := flat_take (enc := encNode) (c := 2) m.nodes (fun y _ => by simp [encNode, beL_length]) m.nodes.length
      rw [List.take_of_length_le (Nat.le_refl _)] at hfl
      clear d
      have d := hb7.cell 5
      simp at d
      clear hv7 hb7
      go_wp2_with fail
      refine (numU_ok W N vv _ m.ids.length 1 _ HV7.out (by omega) (by omega) (by rw [List.length_append]; omega) (by omega)).mono ?_
      rintro e w8 ⟨rfl, ⟨v8, hv8⟩, ht8⟩
      have hb8 := ht8.bk HB7.out HBW.out (by decide)
      have HB8 := Lib.hid hb8
      obtain ⟨a8, ha8⟩ : ∃ a, a = a6 ++ m.nodes.flatMap encNode ++ beL 1 m.ids.length := ⟨_, rfl⟩
      rw [← ha8] at hv8
      have hl8 : a8.length ≤ 200 := by rw [ha8]; simp only [List.length_append, beL_length]; omega
      have HV8 := Lib.hid hv8
      have HA8 := Lib.hid ha8
      have HT8 := Lib.hid (HT7.out.then ht8)
      clear d
      have d := hb8.cell 5
      simp at d
      clear hb8 hv8 ht8 ha8 hfl
      go_wp2_with fail
      obtain ⟨wo, hwo⟩ : ∃ x, x = wr := ⟨_, rfl⟩
      clear HT HV
      go_loopw [56] (fun vi wr => ∃ (j : Nat) (vv : Value), j ≤ m.ids.length ∧ vi = .int .i64 j ∧ Hid (WrIs wr W N vv (a8 ++ (m.ids.take j).flatMap encI)) ∧ Hid (TchU W N w8 wr)) (fun vi _ => m.ids.length - (intOf vi).toNat)
      case atStart => exact ⟨0, v8, by omega, rfl, Lib.hid (by simpa using HV8.out), Lib.hid (TchU.refl _ _ _)⟩
      case round =>
        obtain ⟨j, vv, hj, rfl, HV, HT⟩ := hrel
        by_cases hlt : j < m.ids.length
        · obtain ⟨x, hx⟩ : ∃ x, x = m.ids[j] := ⟨_, rfl⟩
          obtain ⟨b, off, rfl, _, hbl, hc⟩ := (HNi.out.tch (HT8.out.then HT.out) HS.out).at_ (by omega)
          have hc0 := hc j hlt 0 (.string (str x.key)) (by rw [← hx]; rfl)
          have hc1 := hc j hlt 1 (.int .u64 x.ver) (by rw [← hx]; rfl)
          simp only [Nat.add_zero] at hc0
          have hix := R5.out x (by rw [hx]; exact List.getElem_mem _)
          have HIX := Lib.hid hix
          have hnx := flat_next (enc := encI) m.ids j hlt x hx
          have HNX := Lib.hid hnx
          have hfl := flat_take (enc := encI) (c := 73) m.ids (fun y hy => encI_len y (R5.out y hy)) j
          clear hnx hix hc hx
          go_wp2_with fail
          refine (writeId_ok W N vv _ x _ (HV.out.new ((New.refl _).alloc _)) HIX.out (by rw [List.length_append]; omega)).mono ?_
          rintro e wz ⟨rfl, ⟨vz, hvz⟩, htz⟩
          have HVZ := Lib.hid hvz
          have HTZ := Lib.hid ((HT.out.alloc _).then htz)
          clear hvz htz
          go_wp2_with fail
          go_roundw
          case rel => exact ⟨j + 1, vz, by omega, by go_num, Lib.hid (by rw [HNX.out, ← List.append_assoc]; exact HVZ.out), HTZ⟩
          case measure => simp [intOf]; omega
        · obtain rfl : j = m.ids.length := by omega
          have hv9 := HV.out
          rw [List.take_of_length_le (Nat.le_refl _)] at hv9
          have hb9 := HT.out.bk HB8.out HBW.out (by decide)
          have HB9 := Lib.hid hb9
          have HV9 := Lib.hid hv9
          have HT9 := Lib.hid (HT8.out.then HT.out)
          have hfl := flat_take (enc := encI) (c := 73) m.ids (fun y hy => encI_len y (R5.out y hy)) m.ids.length
          rw [List.take_of_length_le (Nat.le_refl _)] at hfl
          clear d
          have d := hb9.cell 6
          simp at d
          clear hv9 hb9
          go_wp2_with fail
          refine (numU_ok W N vv _ m.recs.length 1 _ HV9.out (by omega) (by omega) (by rw [List.length_append]; omega) (by omega)).mono ?_
          rintro e wa ⟨rfl, ⟨va, hva⟩, hta⟩
          have hba := hta.bk HB9.out HBW.out (by decide)
          have HBa := Lib.hid hba
          obtain ⟨aa, haa⟩ : ∃ a, a = a8 ++ m.ids.flatMap encI ++ beL 1 m.recs.length := ⟨_, rfl⟩
          rw [← haa] at hva
          have hla : aa.length ≤ 10000 := by rw [haa]; simp only [List.length_append, beL_length]; omega
          have HVa := Lib.hid hva
          have HAa := Lib.hid haa
          have HTa := Lib.hid (HT9.out.then hta)
          clear d
          have d := hba.cell 6
          simp at d
          clear hba hva hta haa hfl
          go_wp2_with fail
          obtain ⟨wp, hwp⟩ : ∃ x, x = wr := ⟨_, rfl⟩
          clear HT HV
          go_loopw [73] (fun vi wr => ∃ (j : Nat) (vv : Value), j ≤ m.recs.length ∧ vi = .int .i64 j ∧ Hid (WrIs wr W N vv (aa ++ (m.recs.take j).flatMap encR)) ∧ Hid (TchU W N wa wr)) (fun vi _ => m.recs.length - (intOf vi).toNat)
          case atStart => exact ⟨0, va, by omega, rfl, Lib.hid (by simpa using HVa.out), Lib.hid (TchU.refl _ _ _)⟩
          case round =>
            obtain ⟨j, vv, hj, rfl, HV, HT⟩ := hrel
            by_cases hlt : j < m.recs.length
            · obtain ⟨x, hx⟩ : ∃ x, x = m.recs[j] := ⟨_, rfl⟩
              obtain ⟨b, off, rfl, _, hbl, hc⟩ := (HNr.out.tch (HTa.out.then HT.out) HS.out).at_ (by omega)
              have hc0 := hc j hlt 0 (.string (str x.id.key)) (by rw [← hx]; rfl)
              have hc1 := hc j hlt 1 (.int .u64 x.id.ver) (by rw [← hx]; rfl)
              have hc2 := hc j hlt 2 (.int .i64 x.origin) (by rw [← hx]; rfl)
              have hc3 := hc j hlt 3 (.int .i64 x.age) (by rw [← hx]; rfl)
              have hc4 := hc j hlt 4 (.bool x.gone) (by rw [← hx]; rfl)
              have hc5 := hc j hlt 5 (.string (str x.data)) (by rw [← hx]; rfl)
              simp only [Nat.add_zero] at hc0
              have hix := R6.out x (by rw [hx]; exact List.getElem_mem _)
              have HIX := Lib.hid hix
              have hnx := flat_next (enc := encR) m.recs j hlt x hx
              have HNX := Lib.hid hnx
              have hfl := flat_take (enc := encR) (c := 143) m.recs (fun y hy => encR_len y (R6.out y hy)) j
              clear hnx hix hc hx
              go_wp2_with fail
              refine (writeRec_ok W N vv _ x _ (HV.out.new ((New.refl _).alloc _)) HIX.out (by rw [List.length_append]; omega)).mono ?_
              rintro e wz ⟨rfl, ⟨vz, hvz⟩, htz⟩
              have HVZ := Lib.hid hvz
              have HTZ := Lib.hid ((HT.out.alloc _).then htz)
              clear hvz htz
              go_wp2_with fail
              go_roundw
              case rel => exact ⟨j + 1, vz, by omega, by go_num, Lib.hid (by rw [HNX.out, ← List.append_assoc]; exact HVZ.out), HTZ⟩
              case measure => simp [intOf]; omega
            · obtain rfl : j = m.recs.length := by omega
              have hvb := HV.out
              rw [List.take_of_length_le (Nat.le_refl _)] at hvb
              have HVb := Lib.hid hvb
              have HTb := Lib.hid (HTa.out.then HT.out)
              clear hvb
              go_wp2_with fail
              go_end0
              refine ⟨rfl, ⟨vv, ?_⟩, HTb.out⟩
              have e : [] ++ encM m = aa ++ m.recs.flatMap encR := by
                rw [HAa.out, HA8.out, HA6.out, encM, encL, encL, encL, E1.out, E2.out, E3.out]
                simp only [List.append_assoc, List.nil_append]
              rw [e]
              exact HVb.out
end Go.Proofs.Ytebpdnmmcbianaa
