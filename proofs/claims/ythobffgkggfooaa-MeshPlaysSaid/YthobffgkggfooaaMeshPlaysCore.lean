/-
  MeshPlays: the core.
-/
import Derived.Test.YthobffgkggfooaaMesAct
import Derived.Test.YthobffgkggfooaaMesNeWay
import Derived.Test.YthobffgkggfooaaMesSpk
import Derived.Test.YthobffgkggfooaaMActs
import Derived.Test.YthobffgkggfooaaMesPArm3
import Derived.Test.YthobffgkggfooaaMesPArm4
import Derived.Test.YthobffgkggfooaaMesPArm5
import Derived.Test.YthobffgkggfooaaMesPArm6
import Derived.Test.YthobffgkggfooaaMesPArms
import Derived.BigRegion
import Derived.BigQuiet
import Derived.Deep.CutBlock
import Derived.Deep.DeepCutAuto
import Derived.Deep.RegionHeld3
set_option linter.unusedVariables false
set_option linter.unusedSimpArgs false
set_option maxRecDepth 100000
namespace Go.Proofs.Ythobffgkggfooaa
open Go.RowKit Go.Maps

theorem macs4 {w : World} {S : Nat → Prop} {ao : Option Addr} {n cap : Nat} {l : List MAc} (h : MAcs w S (.slice ao n cap) l) (j : Nat) (hj : j < l.length) :
    ∃ b off, ao = some ⟨b, off, none⟩ ∧ (w.cell? ⟨b, off + j * 4, none⟩ = some (.int .i64 l[j].what) ∧ w.cell? ⟨b, off + j * 4 + 1, none⟩ = some (.int .i64 l[j].a) ∧ w.cell? ⟨b, off + j * 4 + 2, none⟩ = some (.int .i64 l[j].b) ∧ w.cell? ⟨b, off + j * 4 + 3, none⟩ = some (.string l[j].text)) ∧ S b ∧ b < w.heap.size := by
  obtain ⟨ao', cap', e, _, _, hc⟩ := h
  injection e with e1 _ _
  subst e1
  obtain ⟨b, off, e, hs, hb, hcc⟩ := hc (by omega)
  exact ⟨b, off, e, hcc j hj, hs, hb⟩
set_option maxHeartbeats 4000000 in
theorem meshPlays_core (hnodes : NodesGive) (hways : WaysGive) (ac : List MAc) (ao : Option Addr) (la ca : Nat) (W : World) (hs : MAcs W (· < W.heap.size) (.slice ao la ca) ac) (hok : ∀ q ∈ ac, MAcOk q) :
    Calls Try.prog 9 #[.slice ao la ca] W fun e W' => e = .returned (.bool true) ∧ Below W.heap.size W W' := by
  have HNODES := Lib.hid hnodes
  have HWAYS := Lib.hid hways
  clear hnodes hways
  have HSL := Lib.hid hs
  have HOK := Lib.hid hok
  have hla : la = ac.length := by obtain ⟨ao', cap', e, _⟩ := hs; injection e
  subst hla
  clear hs hok
  obtain ⟨i0, hi, hz0, hz1, hz2⟩ := info_parts info_int
  go_enter Try.func9, Try.ntmps9
  go_wp2_with fail
  refine (speaks8 W).mono ?_
  rintro e w1 ⟨rfl, hnw⟩
  have HN1 := Lib.hid hnw
  clear hnw
  go_wp2_with fail
  refine (newA w1).mono ?_
  rintro e w2 ⟨rfl, hm, hnw⟩
  obtain ⟨M, hM⟩ : ∃ M, M = w1.heap.size + 1 + 1 := ⟨_, rfl⟩
  obtain ⟨B, hB⟩ : ∃ B, B = w1.heap.size := ⟨_, rfl⟩
  rw [← hM] at hm ⊢
  rw [← hB] at hm
  have HM2 := Lib.hid hm
  have HN2 := Lib.hid (HN1.out.then hnw)
  have HB := Lib.hid (show W.heap.size ≤ B by rw [hB]; exact HN1.out.size)
  clear hM hB hm hnw HN1
  go_wp2_with fail
  go_loopw [4, 6] (fun vl v wr => ∃ j : Nat, v = .int .i64 (1 + j) ∧ Hid (j ≤ 3) ∧ Hid (MeshA wr M B j (([1, 2, 3] : List Int).take j) (fun _ => [])) ∧ Hid (wr.ownsRow W.heap.size 3 1 vl j (ints (([1, 2, 3] : List Int).take j))) ∧ Hid (New W wr)) (fun _ v _ => 5 - (intOf v).toNat)
  case atStart => exact ⟨0, rfl, Lib.hid (by omega), HM2, Lib.hid (World.ownsRow_nil _ _ _ _), HN2⟩
  case round =>
    clear HM2 HN2
    obtain ⟨j, rfl, HJ, HM, HR, HN⟩ := hrel
    have hjb := HJ.out
    by_cases hj : j < 3
    · have hj2 : (1 : Int) + j ≤ 3 := by omega
      have HU := Lib.hid (upA M B j (([1, 2, 3] : List Int).take j) _ (1 + j) wr HM.out ⟨by omega, by omega⟩ (by omega))
      have e1 : upL (([1, 2, 3] : List Int).take j) (1 + j) = ([1, 2, 3] : List Int).take (j + 1) := by
        match j, hj with
        | 0, _ => decide
        | 1, _ => decide
        | 2, _ => decide
      have e2 : ints (([1, 2, 3] : List Int).take j) ++ [.int .i64 (1 + (j : Int))] = ints (([1, 2, 3] : List Int).take (j + 1)) := by
        match j, hj with
        | 0, _ => rfl
        | 1, _ => rfl
        | 2, _ => rfl
      have E2 := Lib.hid e2
      rw [e1] at HU
      clear e1 e2
      go_wp2_with fail
      refine HU.out.mono ?_
      rintro e w6 ⟨rfl, hm, ht⟩
      have HM6 := Lib.hid hm
      have HN6 := Lib.hid (MT.new HN.out ht HB.out)
      have HR6 := Lib.hid (own_tch (MT.own ht HR.out) (Tch.alloc (Tch.refl (fun _ => False) _) (.cells #[.int .i64 (1 + (j : Int))] 3)) (by simp))
      clear hm ht HU
      have hm1 : j + 1 ≤ maxLen := Nat.le_trans (show j + 1 ≤ 4 by omega) (by decide)
      have hm2 : (j + 1) * 8 ≤ 140737488355328 := by omega
      have hbs : W.heap.size ≤ (w6.alloc (.cells #[.int .i64 (1 + (j : Int))] 3)).heap.size := by have := HN6.out.size; simp; omega
      go_wp2_with (at_builtin; refine list_app rfl (.tmp 35) (.tmp 37) 26 rfl W.heap.size 3 i0 (.int .i64 0) 8 Try.underlying26 hi hz0 hz1 hz2 rfl _ j (ints (([1, 2, 3] : List Int).take j)) rfl HR6.out (some ⟨w6.heap.size, 0, none⟩) 1 1 [.int .i64 (1 + (j : Int))] rfl rfl (by simp) (by simp) (fun _ => ⟨_, rfl, cells_one w6 _ _⟩) (by intro u hu; simp at hu; subst hu; rfl) hm1 hm2 hbs ?_; intro vb wb hownb hgrowb)
      have HM7 := Lib.hid (MeshA.grown (HM6.out.new ((New.refl w6).alloc _)) HR6.out hgrowb.out)
      have HN7 := Lib.hid (show New W wb from Tch.grown (HN6.out.alloc _) hgrowb.out (fun k hk _ => (own_base HR6.out hk).1))
      have HR7 := Lib.hid (show wb.ownsRow W.heap.size 3 1 vb (j + 1) (ints (([1, 2, 3] : List Int).take (j + 1))) by rw [← E2.out]; exact hownb.out)
      clear hownb hgrowb hm1 hm2 hbs HM6 HN6 HR6
      go_wp2_with fail
      go_roundw
      case rel => exact ⟨j + 1, by simp [Int.add_assoc], Lib.hid (by omega), HM7, HR7, HN7⟩
      case measure => simp [intOf]; omega
    · obtain rfl : j = 3 := by omega
      have hj2 : ¬ (1 : Int) + (3 : Nat) ≤ 3 := by decide
      have HP0 := Lib.hid (show PlJ W wr M B 3 0 (fun _ => []) u4 [1, 2, 3] [1, 2, 3] (.slice none 0 0) [] from
        ⟨⟨HM.out, own_sl HR.out, List.Perm.refl _, ⟨Slk.nil, by simp⟩, RefIt.nil, HN.out, HB.out⟩, InBox.nil, by unfold In4; simp, by omega, by simp, by simp⟩)
      clear HM HR HN HJ
      go_upto_block 2 with fail
      go_cut [4, 5] (fun vl vw wx => ∃ (N i : Nat) (it : Ways) (ls lv : List Int) (l : List RW), Hid (PlJ W wx M B N i it vl ls lv vw l) ∧ Hid (i ≤ 120))
      case first =>
        go_wp2_with fail
        go_loopw [4, 5, 7] (fun vl vw v wr => ∃ (i N : Nat) (it : Ways) (ls lv : List Int) (l : List RW), v = .int .i64 i ∧ Hid (i ≤ ac.length ∧ i ≤ 120) ∧ Hid (PlJ W wr M B N i it vl ls lv vw l)) (fun _ _ v _ => 120 - (intOf v).toNat)
        case atStart => exact ⟨0, _, _, _, _, _, rfl, Lib.hid (by omega), HP0⟩
        case round =>
          clear HP0
          obtain ⟨i, N, it, ls, lv, l, rfl, HI, HP⟩ := hrel
          obtain ⟨vl, hvl⟩ : ∃ x, x = u4 := ⟨_, rfl⟩
          subst hvl
          obtain ⟨vw, hvw⟩ : ∃ x, x = u5 := ⟨_, rfl⟩
          subst hvw
          have hib := HI.out
          by_cases hi1 : i < ac.length ∧ i < 120
          · have hi2 : (i : Int) < ac.length := by omega
            have hi3 : (i : Int) < 120 := by omega
            have HQ4 := Lib.hid (HOK.out (ac[i]) (List.getElem_mem _))
            obtain ⟨bo, off, rfl, hcc, hbw, hbo⟩ := macs4 (HSL.out.below HP.out.play.new.below) i hi1.1
            obtain ⟨q, hq⟩ : ∃ q, q = ac[i] := ⟨_, rfl⟩
            rw [← hq] at hcc HQ4
            clear hq
            have HCC := Lib.hid hcc
            obtain ⟨c0, c1, c2, c3⟩ := hcc
            go_upto_region 14 with fail
            go_quiet (fail)
            obtain ⟨wq, hwq⟩ : ∃ x, x = wr.drewN nq := ⟨_, rfl⟩
            have hnq : New wr wq := by rw [hwq]; exact (New.refl _).drewN _
            rw [← hwq]
            replace HP := Lib.hid (HP.out.later hnq)
            replace c0 := hnq.cell c0
            replace c3 := hnq.cell c3
            clear c1 c2 hwq hnq
            obtain ⟨a, ha⟩ : ∃ a, a = q.a.tmod 5 := ⟨_, rfl⟩
            have HA4 := Lib.hid (show In4 a by rw [ha]; exact tmod5 _)
            obtain ⟨b, hb⟩ : ∃ b, b = q.b.tmod 5 := ⟨_, rfl⟩
            have HB4 := Lib.hid (show In4 b by rw [hb]; exact tmod5 _)
            have HAI := Lib.hid (PlJ.i64 HA4.out)
            have HBI := Lib.hid (PlJ.i64 HB4.out)
            rw [← ha, ← hb]
            clear ha hb
            have HBO := Lib.hid hbo
            clear hbo hbw
            obtain ⟨tx, htx⟩ : ∃ tx, tx = q.text := ⟨_, rfl⟩
            rw [← htx] at c3
            clear htx
            have C0 := Lib.hid c0
            clear c0
            go_upto_region 15 with fail
            go_cut [10] (fun vs wx => ∃ s, vs = .string s ∧ Hid (New wq wx))
            case first =>
              as_aux_lemma =>
                go_region
                go_wp2_with fail
                go_meet
                exact ⟨_, rfl, Lib.hid (New.refl _).drew⟩
            case rest =>
              as_aux_lemma =>
                clear c3
                obtain ⟨s, rfl, hnx⟩ := hcut
                obtain ⟨wx, hwx⟩ : ∃ x, x = wc := ⟨_, rfl⟩
                rw [← hwx] at hnx ⊢
                clear hwx
                replace HP := Lib.hid (HP.out.later hnx.out)
                have c0 := hnx.out.cell C0.out
                clear hnx C0
                have HAS := Lib.hid (fun (n : Int) (wy : World) (h : Sl wy (W.heap.size ≤ ·) vl (ints ls)) => show Calls Try.prog 34 #[vl, .int .i64 n] wy (fun e w' => e = .returned (.bool (decide (n ∈ lv))) ∧ w' = wy) by
                  have := has_ref vl ls n wy h (by have := HP.out.lsl; omega)
                  rw [contains_iff HP.out.play.same n] at this
                  exact this)
                go_upto_region 16 with fail
                go_cut [11] (fun v wy => v = .bool (decide (a ∈ lv ∧ b ∈ lv ∧ a ≠ b)) ∧ wy = wx)
                case first =>
                  as_aux_lemma =>
                    have HHA := Lib.hid (HAS.out a wx HP.out.play.live)
                    have HHB := Lib.hid (HAS.out b wx HP.out.play.live)
                    by_cases ha : a ∈ lv
                    · rw [dec_ ha] at HHA
                      go_wp2_with fail
                      refine HHA.out.mono ?_
                      rintro e w9 ⟨rfl, rfl⟩
                      by_cases hb : b ∈ lv
                      · rw [dec_ hb] at HHB
                        go_wp2_with fail
                        refine HHB.out.mono ?_
                        rintro e w9 ⟨rfl, rfl⟩
                        by_cases hab : a = b
                        · have tab : (a != b) = false := by simp [hab]
                          have HE := Lib.hid (show decide (a ∈ lv ∧ b ∈ lv ∧ a ≠ b) = false from decn_ fun h => h.2.2 hab)
                          clear ha hb hab
                          go_wp2_with fail
                          go_meet
                          exact ⟨by rw [HE.out], rfl⟩
                        · have tab : (a != b) = true := by simp [hab]
                          have HE := Lib.hid (show decide (a ∈ lv ∧ b ∈ lv ∧ a ≠ b) = true from dec_ ⟨ha, hb, hab⟩)
                          clear ha hb hab
                          go_wp2_with fail
                          go_meet
                          exact ⟨by rw [HE.out], rfl⟩
                      · rw [decn_ hb] at HHB
                        have HE := Lib.hid (show decide (a ∈ lv ∧ b ∈ lv ∧ a ≠ b) = false from decn_ fun h => hb h.2.1)
                        clear ha hb
                        go_wp2_with fail
                        refine HHB.out.mono ?_
                        rintro e w9 ⟨rfl, rfl⟩
                        go_wp2_with fail
                        go_meet
                        exact ⟨by rw [HE.out], rfl⟩
                    · rw [decn_ ha] at HHA
                      have HE := Lib.hid (show decide (a ∈ lv ∧ b ∈ lv ∧ a ≠ b) = false from decn_ fun h => ha h.1)
                      clear ha
                      go_wp2_with fail
                      refine HHA.out.mono ?_
                      rintro e w9 ⟨rfl, rfl⟩
                      go_wp2_with fail
                      go_meet
                      exact ⟨by rw [HE.out], rfl⟩
                case rest =>
                  as_aux_lemma =>
                    obtain ⟨rfl, hwy⟩ := hcut
                    rw [hwy]
                    clear hwy
                    obtain ⟨th, hth⟩ : ∃ th, th = decide (a ∈ lv ∧ b ∈ lv ∧ a ≠ b) := ⟨_, rfl⟩
                    rw [← hth]
                    have HTH := Lib.hid hth
                    clear hth
                    have hk7 := kind7 q.what
                    obtain ⟨t, ht⟩ : ∃ t, t = q.what % 7 := ⟨_, rfl⟩
                    rw [← ht] at hk7
                    clear ht
                    have HNL := Lib.hid (show N ≤ 100 + 200 * i ∧ l.length ≤ 20 * i ∧ ls.length ≤ 3 + i ∧ lv.length ≤ 3 + i ∧ i < 120 from ⟨HP.out.n, HP.out.few, HP.out.lsl, HP.out.lvl, hi1.2⟩)
                    go_upto_block 4 with fail
                    go_cut [4, 5] (fun vl2 vw2 wy => ∃ (N2 : Nat) (it2 : Ways) (ls2 lv2 : List Int) (l2 : List RW), Hid (PlJ W wy M B N2 (i + 1) it2 vl2 ls2 lv2 vw2 l2))
                    case first J2 K2 hR2 hK2 =>
                      by_cases q3 : t = 3
                      · have t3 := beq_ q3
                        clear q3
                        exact mp_arm3 hi hz0 hz1 hz2 HNODES HB HA4 HB4 HAI HBI HP HTH HNL HAS t3 hR2 hK2
                      · have t3 := bne_ q3
                        clear q3
                        by_cases q4 : t = 4
                        · have t4 := beq_ q4
                          clear q4
                          exact mp_arm4 hi hz0 hz1 hz2 HNODES HB HA4 HB4 HAI HBI HP HTH HNL HAS t3 t4 hR2 hK2
                        · have t4 := bne_ q4
                          clear q4
                          by_cases q5 : t = 5
                          · have t5 := beq_ q5
                            clear q5
                            exact mp_arm5 hi hz0 hz1 hz2 HNODES HB HA4 HB4 HAI HBI HP HTH HNL HAS t3 t4 t5 hR2 hK2
                          · have t5 := bne_ q5
                            clear q5
                            by_cases q6 : t = 6
                            · have t6 := beq_ q6
                              clear q6
                              exact mp_arm6 hi hz0 hz1 hz2 HNODES HB HA4 HB4 HAI HBI HP HTH HNL HAS t3 t4 t5 t6 hR2 hK2
                            · have t6 := bne_ q6
                              clear q6
                              exact mp_arms hi hz0 hz1 hz2 HNODES HB HA4 HB4 HAI HBI HP HTH HNL HAS t3 t4 t5 t6 hR2 hK2
                    case rest =>
                      clear HP HAS HTH HNL c0 hk7
                      obtain ⟨N2, it2, ls2, lv2, l2, HP⟩ := hcut
                      obtain ⟨vl2, hvl2⟩ : ∃ x, x = u4 := ⟨_, rfl⟩
                      subst hvl2
                      obtain ⟨vw2, hvw2⟩ : ∃ x, x = u5 := ⟨_, rfl⟩
                      subst hvw2
                      obtain ⟨wz, hwz⟩ : ∃ x, x = wc := ⟨_, rfl⟩
                      subst hwz
                      have HNL2 := Lib.hid (show l2.length ≤ 3000 ∧ ls2.length ≤ 200 ∧ lv2.length ≤ 200 from by have h1 := HP.out.few; have h2 := HP.out.lsl; have h3 := HP.out.lvl; omega)
                      have HNO := Lib.hid (HNODES.out M B N2 lv2 it2 wz HP.out.play.mesh (by have := HNL2.out; omega))
                      go_wp2_with fail
                      refine HNO.out.mono ?_
                      rintro e w3 ⟨v3, ss, rfl, hp3, ho3, hs3, hn3⟩
                      have HP3 := Lib.hid (HP.out.later hn3)
                      have HSO := Lib.hid (sorted_ref vl2 ls2 w3 HP3.out.play.live (by have := HNL2.out; omega))
                      have HS3 := Lib.hid hs3
                      have HO3 := Lib.hid ho3
                      have HQ3 := Lib.hid hp3
                      clear HNO hp3 ho3 hs3 hn3 HP
                      go_wp2_with fail
                      refine HSO.out.mono ?_
                      rintro e w4 ⟨v4, L, rfl, hs4, hp4, ho4, hb4⟩
                      have hn4 : New w3 w4 := Tch.of_below hb4
                      have HP4 := Lib.hid (HP3.out.later hn4)
                      have HSM := Lib.hid (same_ref v3 v4 ss L w4 (HS3.out.keep hn4.size (fun b hb _ => hn4.block b hb (by omega))) hs4 (by rw [HQ3.out.length_eq]; have := HNL2.out; omega) (by rw [hp4.length_eq]; have := HNL2.out; omega))
                      rw [dec_ (int_order (HQ3.out.trans (hp4.trans HP3.out.play.same).symm) HO3.out ho4)] at HSM
                      clear HSO hs4 hp4 ho4 hb4 hn4 HP3 HS3 HO3 HQ3
                      go_wp2_with fail
                      refine HSM.out.mono ?_
                      rintro e w5 ⟨rfl, qn, hw5⟩
                      have HP5 := Lib.hid (show PlJ W w5 M B N2 (i + 1) it2 vl2 ls2 lv2 vw2 l2 from by rw [hw5]; exact HP4.out.later ((New.refl _).drewN _))
                      have HLE := Lib.hid (lenA M B N2 lv2 it2 a b w5 HP5.out.play.mesh HAI.out HBI.out)
                      have HGE := Lib.hid (rget_ok (W.heap.size ≤ ·) vw2 l2 a b w5 HP5.out.play.ref (by have := HNL2.out; omega))
                      have hsl := HP5.out.play.ref.get (a, b)
                      rw [HP5.out.play.it (a, b)] at hsl
                      obtain ⟨ao3, cap3, he3, _, _⟩ := hsl.shape
                      rw [he3] at HGE
                      obtain ⟨nn, hnn⟩ : ∃ nn, nn = (it2 (a, b)).length := ⟨_, rfl⟩
                      rw [← hnn] at HLE HGE
                      clear hw5 HSM HP4 hsl he3 hnn
                      go_wp2_with fail
                      refine HLE.out.mono ?_
                      rintro e w6 ⟨rfl, hw⟩
                      rw [hw]
                      clear hw
                      go_wp2_with fail
                      refine HGE.out.mono ?_
                      rintro e w6 ⟨rfl, hw⟩
                      rw [hw]
                      clear hw HLE HGE
                      go_wp2_with fail
                      go_roundw
                      case rel => exact ⟨i + 1, _, _, _, _, _, rfl, Lib.hid (by omega), HP5⟩
                      case measure => simp [intOf]; omega
          · have HX := Lib.hid (show i ≤ 120 from hib.2)
            go_wp2_with fail
            all_goals
              go_meet
              exact ⟨_, _, _, _, _, _, HP, HX⟩
      case rest =>
        obtain ⟨N, i, it, ls, lv, l, HP, HI⟩ := hcut
        obtain ⟨vl, hvl⟩ : ∃ x, x = u4 := ⟨_, rfl⟩
        subst hvl
        obtain ⟨vw, hvw⟩ : ∃ x, x = u5 := ⟨_, rfl⟩
        subst hvw
        obtain ⟨wd, hwd⟩ : ∃ x, x = wc := ⟨_, rfl⟩
        subst hwd
        have HNL := Lib.hid (show l.length ≤ 3000 from by have h1 := HP.out.few; have h2 := HI.out; omega)
        obtain ⟨i2, hi2, hzz0, hzz1, hzz2⟩ := info_parts way_info
        clear HI HNODES
        as_aux_lemma =>
          go_wp2_with fail
          go_loopw [20, 21] (fun vq va wr => ∃ x : Nat, va = .int .i64 (-4 + x) ∧ Hid (x ≤ 9) ∧ Hid (wr.ownsRow wd.heap.size 90 2 vq (wantL it x).length ((wantL it x).flatMap wC)) ∧ Hid (New wd wr)) (fun _ va _ => (5 - intOf va).toNat)
          case atStart => exact ⟨0, rfl, Lib.hid (by omega), Lib.hid (World.ownsRow_nil _ _ _ _), Lib.hid (New.refl _)⟩
          case round =>
            obtain ⟨x, rfl, HX, HO, HN⟩ := hrel
            obtain ⟨vq, hvq⟩ : ∃ x, x = u20 := ⟨_, rfl⟩
            subst hvq
            have hxb := HX.out
            obtain ⟨ka, hka⟩ : ∃ k : Int, k = -4 + (x : Int) := ⟨_, rfl⟩
            have HKA := Lib.hid hka
            rw [← hka]
            by_cases hx9 : x < 9
            · have hk5 : ka < 5 := by omega
              have hkn : IntKind.i64.wrap (ka + 1) = -4 + ((x + 1 : Nat) : Int) := by
                rw [hka]
                simp only [IntKind.wrap, IntKind.bits, IntKind.signed]
                simp
                omega
              clear hka
              obtain ⟨pre, hpre⟩ : ∃ pre, pre = wantL it x := ⟨_, rfl⟩
              have HPRE := Lib.hid hpre
              have HPL := Lib.hid (show pre.length ≤ 81 from by rw [hpre]; have := wantL_len9 it x; omega)
              rw [← hpre] at HO
              clear hpre
              go_wp2_with fail
              go_loopw [20, 22] (fun vq2 vb wr => ∃ y : Nat, vb = .int .i64 (-4 + y) ∧ Hid (y ≤ 9) ∧ Hid (wr.ownsRow wd.heap.size 90 2 vq2 (pre ++ wantRow it ka y).length ((pre ++ wantRow it ka y).flatMap wC)) ∧ Hid (New wd wr)) (fun _ vb _ => (5 - intOf vb).toNat)
              case atStart => exact ⟨0, rfl, Lib.hid (by omega), by rw [show wantRow it ka 0 = [] from rfl, List.append_nil]; exact HO, HN⟩
              case round =>
                clear HO HN
                obtain ⟨y, rfl, HY, HO, HN⟩ := hrel
                obtain ⟨vq2, hvq2⟩ : ∃ x, x = u20 := ⟨_, rfl⟩
                subst hvq2
                have hyb := HY.out
                obtain ⟨kb, hkb⟩ : ∃ k : Int, k = -4 + (y : Int) := ⟨_, rfl⟩
                have HKB := Lib.hid hkb
                rw [← hkb]
                by_cases hy9 : y < 9
                · have hkb5 : kb < 5 := by omega
                  have hkbn : IntKind.i64.wrap (kb + 1) = -4 + ((y + 1 : Nat) : Int) := by
                    rw [hkb]
                    simp only [IntKind.wrap, IntKind.bits, IntKind.signed]
                    simp
                    omega
                  clear hkb
                  have HW := Lib.hid ((HP.out.later HN.out).play.ref)
                  have HGE := Lib.hid (rget_ok (W.heap.size ≤ ·) vw l ka kb wr HW.out (by have := HNL.out; omega))
                  have hsl := HW.out.get (ka, kb)
                  rw [HP.out.play.it (ka, kb)] at hsl
                  obtain ⟨ao3, cap3, he3, _, _⟩ := hsl.shape
                  rw [he3] at HGE
                  have HST := Lib.hid (show wantRow it ka (y + 1) = wantRow it ka y ++ (if it (ka, kb) ≠ [] then [(ka, kb)] else []) from by rw [wantRow_step, show small y = kb from HKB.out.symm])
                  have HRL := Lib.hid (wantRow_len it ka y)
                  clear hsl he3
                  by_cases hem : it (ka, kb) = []
                  · rw [hem] at HGE
                    rw [if_neg (fun h => h hem), List.append_nil] at HST
                    clear hem
                    go_wp2_with fail
                    refine HGE.out.mono ?_
                    rintro e w6 ⟨rfl, hw⟩
                    rw [hw]
                    clear hw HGE
                    go_wp2_with fail
                    go_roundw
                    case rel => exact ⟨y + 1, by first | rw [hkbn] | rfl, Lib.hid (by omega), by rw [HST.out]; exact HO, HN⟩
                    case measure => have := HKB.out; simp [intOf]; omega
                  · rw [if_pos hem] at HST
                    obtain ⟨nn, hnn⟩ : ∃ nn, nn = (it (ka, kb)).length := ⟨_, rfl⟩
                    have hn0 : (0 : Int) < nn := by
                      have : (it (ka, kb)).length ≠ 0 := fun h => hem (List.eq_nil_of_length_eq_zero h)
                      omega
                    rw [← hnn] at HGE
                    clear hem hnn
                    have HO1 := Lib.hid (own_tch HO.out (Tch.alloc (Tch.refl (fun _ => False) _) (.cells #[.int .i64 ka, .int .i64 kb] 90)) (by simp))
                    go_wp2_with fail
                    refine HGE.out.mono ?_
                    rintro e w6 ⟨rfl, hw⟩
                    rw [hw]
                    clear hw HGE
                    go_wp2_with (at_builtin; refine list_appK rfl (.tmp 301) (.tmp 305) 89 rfl wd.heap.size 90 i2 (.agg #[.int .i64 0, .int .i64 0]) 2 16 Try.underlying89 hi2 hzz0 hzz1 hzz2 rfl (by omega) _ (pre ++ wantRow it ka y).length _ rfl HO1.out (some ⟨wr.heap.size, 0, none⟩) 1 1 (wC (ka, kb)) rfl rfl (by simp) (by simp) (fun _ => ⟨_, rfl, fun jj u hu => by rw [Addr.add_lit, Nat.zero_add, (Bk.made wr _ _).cell, List.getElem?_toArray]; exact hu⟩) (fun u hu => wC_one [(ka, kb)] u (by simpa using hu)) (Nat.le_trans (show (pre ++ wantRow it ka y).length + 1 ≤ 1000 from by have h1 := HPL.out; have h2 := HRL.out; rw [List.length_append]; omega) (by decide)) (by have h1 := HPL.out; have h2 := HRL.out; rw [List.length_append]; omega) (by have := HN.out.size; simp; omega) ?_; intro v7 w7 HO7 HG7)
                    have HN7 := Lib.hid (show New wd w7 from Tch.grown (HN.out.alloc _) HG7.out (fun k hk _ => (own_base HO.out hk).1))
                    have HR7 := Lib.hid (show w7.ownsRow wd.heap.size 90 2 v7 (pre ++ wantRow it ka (y + 1)).length ((pre ++ wantRow it ka (y + 1)).flatMap wC) by
                      have := HO7.out
                      rw [HST.out, ← List.append_assoc, List.length_append, List.flatMap_append]
                      simpa using this)
                    clear HO7 HG7 HO1
                    go_wp2_with fail
                    go_roundw
                    case rel => exact ⟨y + 1, by first | rw [hkbn] | rfl, Lib.hid (by omega), HR7, HN7⟩
                    case measure => have := HKB.out; simp [intOf]; omega
                · obtain rfl : y = 9 := by omega
                  have hkb5 : ¬ kb < 5 := by omega
                  clear hkb
                  have HST := Lib.hid (show wantL it (x + 1) = pre ++ wantRow it ka 9 from by rw [wantL_step, HPRE.out, show small x = ka from HKA.out.symm])
                  go_wp2_with fail
                  go_roundw
                  case rel => exact ⟨x + 1, by first | rw [hkn] | rfl, Lib.hid (by omega), by rw [HST.out]; exact HO, HN⟩
                  case measure => have := HKA.out; simp [intOf]; omega
            · obtain rfl : x = 9 := by omega
              have hk5 : ¬ ka < 5 := by omega
              clear hka
              have HPW := Lib.hid (HP.out.later HN.out)
              have HWS := Lib.hid (HWAYS.out M B N lv it wr HPW.out.play.mesh HPW.out.box)
              have hsw : Slk wC 2 wr (wd.heap.size ≤ ·) vq (wantL it 9) := own_slk wC_len HO.out
              obtain ⟨wl, hwl⟩ : ∃ wl, wl = wantL it 9 := ⟨_, rfl⟩
              rw [← hwl] at HWS hsw
              have HWL := Lib.hid (show wl.length ≤ 81 from by rw [hwl]; exact wantL_len it)
              have HIB := Lib.hid (show ∀ q ∈ wl, I64 q.1 ∧ I64 q.2 from fun q hq => by
                rw [hwl] at hq
                have := HP.out.box q ((wantL_all HP.out.box).1 hq)
                exact ⟨PlJ.i64 this.1, PlJ.i64 this.2⟩)
              have HSW := Lib.hid hsw
              clear hwl HO hsw
              go_wp2_with fail
              refine HWS.out.mono ?_
              rintro e w8 ⟨ao8, cap8, rfl, hs8, hn8⟩
              have HS8 := Lib.hid hs8
              have HP8 := Lib.hid (HPW.out.later hn8)
              have HV8 := Lib.hid (hn8.slk HSW.out)
              obtain ⟨aoq, capq, heq, _, _⟩ := HV8.out.shape
              subst heq
              clear hs8 hn8 HWS HPW HSW
              go_wp2_with fail
              go_loopw [24] (fun vj wr => ∃ j : Nat, vj = .int .i64 j ∧ Hid (j ≤ wl.length) ∧ Hid (New w8 wr)) (fun vj _ => wl.length - (intOf vj).toNat)
              case atStart => exact ⟨0, rfl, Lib.hid (by omega), Lib.hid (New.refl _)⟩
              case round =>
                obtain ⟨j, rfl, HJ, HNJ⟩ := hrel
                have hjb := HJ.out
                have hj81 := HWL.out
                by_cases hj : j < wl.length
                · have hj2 : (j : Int) < wl.length := by omega
                  obtain ⟨b1, rfl, hc1⟩ := HS8.out (by omega)
                  obtain ⟨b2, o2, rfl, _, hb2, hc2⟩ := (HNJ.out.slk HV8.out).at_ (by omega)
                  obtain ⟨k1, k2, hk12⟩ : ∃ k1 k2, wl[j] = (k1, k2) := ⟨_, _, rfl⟩
                  have a1 := HNJ.out.cell (hc1 j hj).1
                  have a2 := HNJ.out.cell (hc1 j hj).2
                  rw [hk12] at a1 a2
                  have d1 := hc2 j hj 0 (.int .i64 k1) (by rw [hk12]; rfl)
                  have d2 := hc2 j hj 1 (.int .i64 k2) (by rw [hk12]; rfl)
                  rw [Nat.add_zero] at d1
                  have HKI := Lib.hid (HIB.out (k1, k2) (by rw [← hk12]; exact List.getElem_mem _))
                  have KEEP : Hid (∀ x, New wr x → (x.cell? ⟨b1, j * 2, none⟩ = some (.int .i64 k1) ∧ x.cell? ⟨b1, j * 2 + 1, none⟩ = some (.int .i64 k2)) ∧ x.cell? ⟨b2, o2 + j * 2, none⟩ = some (.int .i64 k1) ∧ x.cell? ⟨b2, o2 + j * 2 + 1, none⟩ = some (.int .i64 k2)) :=
                    fun x hx => ⟨⟨hx.cell a1, hx.cell a2⟩, hx.cell d1, hx.cell d2⟩
                  have HPJ := Lib.hid (HP8.out.later HNJ.out)
                  have HLE := Lib.hid (fun (y : World) (h : New wr y) => lenA M B N lv it k1 k2 y (HPJ.out.later h).play.mesh HKI.out.1 HKI.out.2)
                  obtain ⟨vi, hvi⟩ : ∃ vi, vi = getV l (k1, k2) := ⟨_, rfl⟩
                  have hsl := HPJ.out.play.ref.get (k1, k2)
                  rw [HP.out.play.it (k1, k2), ← hvi] at hsl
                  have HGE := Lib.hid (fun (y : World) (h : New wr y) => rget_ok (W.heap.size ≤ ·) vw l k1 k2 y (HPJ.out.later h).play.ref (by have := HNL.out; omega))
                  rw [← hvi] at HGE
                  obtain ⟨ao3, cap3, he3, _, _⟩ := hsl.shape
                  subst he3
                  obtain ⟨nn, hnn⟩ : ∃ nn, nn = (it (k1, k2)).length := ⟨_, rfl⟩
                  rw [← hnn] at HLE HGE
                  have hne := fun w => neWay k1 k2 w
                  have BC := Lib.hid (show New wr wr.drew from (New.refl _).drew)
                  clear a1 a2 d1 d2 hc1 hc2 hk12 hvi hsl hnn
                  go_upto_region 74 with fail
                  go_region_held3 (fun x => (x.cell? ⟨b1, j * 2, none⟩ = some (.int .i64 k1) ∧ x.cell? ⟨b1, j * 2 + 1, none⟩ = some (.int .i64 k2)) ∧ x.cell? ⟨b2, o2 + j * 2, none⟩ = some (.int .i64 k1) ∧ x.cell? ⟨b2, o2 + j * 2 + 1, none⟩ = some (.int .i64 k2))
                    ((refine KEEP.out _ ?_; first | exact BC.out | exact BC.out.drew | exact BC.out.drewN _))
                    (first
                     | (go_at_call 45; refine (HLE.out _ (by first | exact BC.out | exact BC.out.drew)).mono ?_; rintro e w6 ⟨rfl, hw⟩; rw [hw]; clear hw)
                     | (go_at_call 36; refine (HGE.out _ (by first | exact BC.out | exact BC.out.drew)).mono ?_; rintro e w6 ⟨rfl, hw⟩; rw [hw]; clear hw))
                  all_goals
                    have HN9 := Lib.hid (HNJ.out.then BC.out)
                    go_wp2_with fail
                    go_roundw
                    case rel => exact ⟨j + 1, rfl, Lib.hid (by omega), HN9⟩
                    case measure => simp [intOf]; omega
                · have hj2 : ¬ (j : Int) < wl.length := by omega
                  have HBL := Lib.hid ((HP8.out.later HNJ.out).play.new.below)
                  go_wp2_with fail
                  go_ret
                  exact ⟨rfl, HBL.out⟩
end Go.Proofs.Ythobffgkggfooaa
