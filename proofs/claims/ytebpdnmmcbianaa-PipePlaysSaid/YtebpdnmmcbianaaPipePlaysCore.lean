/-
  PipePlays: the core.
-/
import Derived.Test.YtebpdnmmcbianaaPipRef
import Derived.BigRegion
import Derived.BigQuiet
import Derived.Deep.CutBlock
import Derived.Deep.DeepCutAuto
set_option linter.unusedVariables false
set_option linter.unusedSimpArgs false
set_option maxRecDepth 100000
namespace Go.Proofs.Ytebpdnmmcbianaa
open Go.RowKit

theorem sl_get {w : World} {S : Nat → Prop} {ao : Option Addr} {n cap : Nat} {xs : List Value} (h : Sl w S (.slice ao n cap) xs) (j : Nat) (hj : j < xs.length) :
    ∃ b off, ao = some ⟨b, off, none⟩ ∧ w.cell? ⟨b, off + j, none⟩ = some xs[j] := by
  obtain ⟨ao', cap', e, _, _, _, h4⟩ := h
  injection e with e1 _ _
  subst e1
  obtain ⟨b, off, e, _, _, hc⟩ := h4 (by omega)
  exact ⟨b, off, e, hc j hj⟩
/-- The pipe and the model of it. -/
structure PlI (w wr : World) (P c B : Nat) (vm : Value) (l : List ItA) : Prop where
  row : Slk itC 2 wr (fun b => B ≤ b) vm l
  pip : PipIs wr P c l
  new : New w wr
  le : B ≤ wr.heap.size
theorem PlI.step {w wr wx : World} {P c B : Nat} {vm : Value} {l l2 : List ItA} (h : PlI w wr P c B vm l) (hp : PipIs wx P c l2) (ht : Tch (· = c) wr wx) (hc : w.heap.size ≤ c) : New w wx := new_of_ch h.new ht hc
theorem PlI.more {w wr wx : World} {P c B : Nat} {vm : Value} {l : List ItA} (h : PlI w wr P c B vm l) (hn : New wr wx) : PlI w wx P c B vm l :=
  ⟨hn.slk h.row, h.pip.new hn, h.new.then hn, Nat.le_trans h.le hn.size⟩
set_option maxHeartbeats 2000000 in
theorem pipePlays_core (v : Value) (acts : List Int) (tv : Value) (txs : List ByteArray) (W : World) (hv : Sl W (· < W.heap.size) v (acts.map (Value.int .u8))) (hact : ∀ a ∈ acts, 0 ≤ a ∧ a ≤ 255) (htv : Sl W (· < W.heap.size) tv (txs.map Value.string)) :
    Calls Try.prog 6 #[v, tv] W fun e W' => e = .returned (.bool true) ∧ Below W.heap.size W W' := by
  have HV := Lib.hid hv
  have HTV := Lib.hid htv
  have HAC := Lib.hid hact
  obtain ⟨aov, capv, rfl, _, _, _, _⟩ := hv
  obtain ⟨aot, capt, rfl, _, _, _, _⟩ := htv
  rw [List.length_map] at HV HTV
  simp only [List.length_map]
  clear hact
  obtain ⟨i0, hi, hz0, hz1, hz2⟩ := info_parts rit_info
  go_enter Try.func6, Try.ntmps6
  go_wp2_with fail
  refine (speaks7 W).mono ?_
  rintro e w1 ⟨rfl, hn⟩
  have HN1 := Lib.hid hn
  clear hn
  go_wp2_with fail
  refine (newp_ok w1).mono ?_
  rintro e w2 ⟨rfl, hp, hn⟩
  obtain ⟨c, hc⟩ : ∃ c, c = w1.heap.size := ⟨_, rfl⟩
  obtain ⟨P, hP⟩ : ∃ P, P = w1.heap.size + 1 := ⟨_, rfl⟩
  rw [← hP] at hp ⊢
  rw [← hc] at hp
  obtain ⟨B, hB⟩ : ∃ B, B = w2.heap.size := ⟨_, rfl⟩
  have HCW := Lib.hid (show W.heap.size ≤ c by rw [hc]; exact HN1.out.size)
  have HCB := Lib.hid (show c < B ∧ P < B by rw [hB]; exact ⟨hp.ch.lt, hp.bk.lt⟩)
  have HO := Lib.hid (show PlI W w2 P c B (.slice none 0 0) [] from ⟨Slk.nil, hp, HN1.out.then hn, by omega⟩)
  clear hc hP hp hn hB HN1
  go_wp2_with fail
  go_loopw [6, 7] (fun vm vi wr => ∃ (i : Nat) (l : List ItA), vi = .int .i64 i ∧ Hid (i ≤ acts.length ∧ i ≤ 150) ∧ Hid (PlI W wr P c B vm l)) (fun _ vi _ => acts.length - (intOf vi).toNat)
  case atStart => exact ⟨0, [], rfl, Lib.hid ⟨by omega, by omega⟩, HO⟩
  case round =>
    clear HO
    obtain ⟨i, l, rfl, HI, HO⟩ := hrel
    by_cases hi1 : i < acts.length
    · by_cases hi2 : i < 150
      · obtain ⟨b, off, rfl, c0⟩ := sl_get (HV.out.below HO.out.new.below) i (by simpa using hi1)
        simp only [List.getElem_map] at c0
        obtain ⟨t, ht⟩ : ∃ t, t = acts[i] := ⟨_, rfl⟩
        have hb := HAC.out t (by rw [ht]; exact List.getElem_mem _)
        rw [← ht] at c0
        clear ht
        obtain ⟨aom, capm, hvm, hcm, hcx⟩ := HO.out.row.shape
        subst hvm
        have hl64 := HO.out.pip.len
        go_upto_block 2 with fail
        go_cut [6] (fun vm wx => ∃ l2 : List ItA, Hid (PlI W wx P c B vm l2))
        case first =>
          by_cases q4 : t % 7 = 4
          · have t4 := beq_ q4
            clear q4
            as_aux_lemma =>
              rcases l with _ | ⟨x, l⟩
              · have HTK := Lib.hid (take_none P c _ HO.out.pip)
                go_wp2_with fail
                refine HTK.out.mono ?_
                rintro e w3 ⟨rfl, hp, ht⟩
                have HX := Lib.hid (show PlI W (w3.alloc (.cells #[.bool false, .string ⟨#[]⟩] 57)) P c B (.slice aom ([] : List ItA).length capm) [] from
                  PlI.more (wr := w3) ⟨HO.out.row.tch ht (fun b hb e => by have := HCB.out; omega), hp, new_of_ch HO.out.new ht HCW.out, Nat.le_trans HO.out.le ht.size⟩ ((New.refl _).alloc _))
                have hne := fun w => neItP zeroI w
                simp only [zeroI] at hne
                clear hp ht HTK
                simp only [itV, zeroI]
                go_upto_region 18 with fail
                go_quiet (fail)
                go_wp2_with fail
                go_meet
                exact ⟨[], Lib.hid (HX.out.more ((New.refl _).drewN _))⟩
              · have HTK := Lib.hid (take_some P c x l _ HO.out.pip)
                obtain ⟨b2, off2, rfl, hb2, hbl, hcells⟩ := HO.out.row.at_ (by simp)
                have hd0 := hcells 0 (by simp) 0 (.bool x.broken) rfl
                have hd1 := hcells 0 (by simp) 1 (.string x.text) rfl
                simp at hd0 hd1
                have HD0 := Lib.hid hd0
                have HD1 := Lib.hid hd1
                clear hcells hd0 hd1
                go_wp2_with fail
                refine HTK.out.mono ?_
                rintro e w3 ⟨rfl, hp, ht⟩
                have hz3 : b2 < w3.heap.size := Nat.lt_of_lt_of_le hbl ht.size
                have c0' := (ht.cell (p := ⟨b2, off2, none⟩) hbl (by show ¬ b2 = c; have := HCB.out; omega)).trans HD0.out
                have c1' := (ht.cell (p := ⟨b2, off2 + 1, none⟩) hbl (by show ¬ b2 = c; have := HCB.out; omega)).trans HD1.out
                have HR3 := Lib.hid (HO.out.row.tch ht (fun b hb e => by have := HCB.out; omega))
                have HP3 := Lib.hid hp
                have HN3 := Lib.hid (new_of_ch HO.out.new ht HCW.out)
                have HL3 := Lib.hid (Nat.le_trans HO.out.le ht.size)
                have hne := fun w => neItR x w
                have hlp : (0 : Int) < (l.length : Int) + 1 := by omega
                clear hp ht HTK
                simp only [itV, List.length_cons]
                go_upto_region 18 with fail
                go_quiet (fail)
                obtain ⟨w4, hw4⟩ : ∃ w4, w4 = (w3.alloc (.cells #[.bool x.broken, .string x.text] 57)).drewN nq := ⟨_, rfl⟩
                rw [← hw4]
                have hn4 : New w3 w4 := by rw [hw4]; exact ((New.refl _).alloc _).drewN _
                have HR4 := Lib.hid (hn4.slk HR3.out)
                have HP4 := Lib.hid (HP3.out.new hn4)
                have HN4 := Lib.hid (HN3.out.then hn4)
                have HL4 := Lib.hid (Nat.le_trans HL3.out hn4.size)
                simp only [List.length_cons] at HR4
                clear hw4 hn4 HR3 HP3 HN3 HL3 c0' c1' hne HD0 HD1
                simp only [List.length_cons] at hcx hcm hl64
                have hl1 : l.length ≤ 63 := by omega
                have h1c : 1 ≤ capm := by omega
                have hsrc : Hid (0 < l.length → ∃ ad, (if capm = 1 then some (⟨b2, off2, none⟩ : Addr) else some ⟨b2, off2 + 1 * 2, none⟩) = some ad ∧ ∀ (j : Nat) (u : Value), (l.flatMap itC)[j]? = some u → (w4.alloc (.cells #[] 60)).cell? (ad.add j) = some u) := Lib.hid fun h0 =>
                  ⟨⟨b2, off2 + 1 * 2, none⟩, if_neg (by omega), fun j u hu => ((((New.refl w4).alloc _).slk HR4.out).tail (n := 1) (m2 := l.length) (c2 := capm - 1) (by omega) (by omega) (by omega) (by omega)).flat itC_len j u hu⟩
                go_wp2_with (at_builtin; go_loud (refine list_appK rfl (.tmp 90) (.tmp 92) 55 rfl w4.heap.size 60 i0 (.agg #[.bool false, .string ⟨#[]⟩]) 2 24 Try.underlying55 hi hz0 hz1 hz2 rfl (by omega) (.slice (some ⟨w4.heap.size, 0, none⟩) 0 0) 0 [] (by simp [Act.eval, Act.put]) (World.ownsRow_made w4 #[] 0 (Nat.le_refl _) (Nat.zero_le _) rfl) (if capm = 1 then some ⟨b2, off2, none⟩ else some ⟨b2, off2 + 1 * 2, none⟩) l.length (capm - 1) (l.flatMap itC) (by simp [Act.eval, Act.put]) (flat_lengthK itC_len l) (by split <;> simp) (by split <;> simp) hsrc.out (itC_one l) (Nat.le_trans (show 0 + l.length ≤ 64 by omega) (by decide)) (by omega) (by simp) ?_); intro v1 w5 HO5 HG5)
                all_goals
                  have HX := Lib.hid (show PlI W w5 P c B v1 l from by
                    have hn : New w4 w5 := (((New.refl w4).alloc _) : Tch _ _ _).trans (Tch.of_grown HG5.out) (fun b hb e => by have e2 : b = w4.heap.size := (by simpa [Value.ownBlock] using e); omega)
                    have ho : w5.ownsRow w4.heap.size 60 2 v1 l.length (l.flatMap itC) := by simpa using HO5.out
                    exact ⟨(own_slk itC_len ho).more (fun b _ h => by have := HL4.out; omega), HP4.out.new hn, HN4.out.then hn, Nat.le_trans HL4.out hn.size⟩)
                  go_meet
                  exact ⟨l, HX⟩
          · have t4 := bne_ q4
            clear q4
            by_cases q5 : t % 7 = 5
            · have t5 := beq_ q5
              clear q5
              as_aux_lemma =>
                have HBR := Lib.hid (pbreak_ok P c l _ HO.out.pip)
                go_wp2_with fail
                refine HBR.out.mono ?_
                rintro e w3 ⟨rfl, hp, ht⟩
                have HX := Lib.hid (show PlI W (w3.alloc (.cells #[.bool true, .string ⟨#[]⟩] 60)) P c B (.slice (some ⟨w3.heap.size, 0, none⟩) 1 1) [⟨true, ⟨#[]⟩⟩] from by
                  refine ⟨⟨_, 1, rfl, by simp, by decide, (fun h => by cases h), fun _ => ⟨w3.heap.size, 0, rfl, by have := HO.out.le; have := ht.size; omega, by simp, ?_⟩⟩, hp.new ((New.refl _).alloc _), (new_of_ch HO.out.new ht HCW.out).alloc _, by have := HO.out.le; have := ht.size; simp; omega⟩
                  intro j hj cc u hu
                  obtain rfl : j = 0 := by simpa using hj
                  have e0 : 0 + 0 * 2 + cc = cc := by omega
                  rw [e0, (Bk.made _ _ _).cell]
                  simpa [itC] using hu)
                clear hp ht HBR
                go_wp2_with fail
                go_meet
                exact ⟨_, HX⟩
            · have t5 := bne_ q5
              clear q5
              by_cases q6 : t % 7 = 6
              · have t6 := beq_ q6
                clear q6
                as_aux_lemma =>
                  have HBR := Lib.hid (pclear_ok P c l _ HO.out.pip)
                  go_wp2_with fail
                  refine HBR.out.mono ?_
                  rintro e w3 ⟨rfl, hp, ht⟩
                  have HX := Lib.hid (show PlI W w3 P c B (.slice none 0 0) [] from ⟨Slk.nil, hp, new_of_ch HO.out.new ht HCW.out, Nat.le_trans HO.out.le ht.size⟩)
                  clear hp ht HBR
                  go_wp2_with fail
                  go_meet
                  exact ⟨_, HX⟩
              · have t6 := bne_ q6
                clear q6
                as_aux_lemma =>
                  go_upto_if 34 with (fail)
                  go_cut [10] (fun vs wx => ∃ s, vs = .string s ∧ Hid (PlI W wx P c B (.slice aom l.length capm) l))
                  case first =>
                    by_cases hit : i < txs.length
                    · obtain ⟨bt, ot, rfl, ct⟩ := sl_get (HTV.out.below HO.out.new.below) i (by simpa using hit)
                      simp only [List.getElem_map] at ct
                      obtain ⟨tx, htx⟩ : ∃ tx, tx = txs[i] := ⟨_, rfl⟩
                      rw [← htx] at ct
                      clear htx
                      go_upto_region 11 with fail
                      go_region
                      obtain ⟨mm, hmm⟩ : ∃ mm, mm = (if 10 < (tx.size : Int) then 10 else (tx.size : Int)) := ⟨_, rfl⟩
                      rw [← hmm]
                      clear hmm
                      go_wp2_with fail
                      go_meet
                      exact ⟨_, rfl, Lib.hid (HO.out.more (New.refl _).drew)⟩
                    · go_wp2_with fail
                      go_meet
                      exact ⟨_, rfl, HO⟩
                  case rest =>
                    clear HO
                    obtain ⟨s, rfl, HO⟩ := hcut
                    obtain ⟨wy, hwy⟩ : ∃ x, x = wc := ⟨_, rfl⟩
                    subst hwy
                    have HRS := Lib.hid (rsend_ok _ l s _ wy HO.out.row hl64)
                    go_wp2_with fail
                    refine HRS.out.mono ?_
                    rintro e w3 ⟨v3, rfl, hr, hn⟩
                    have HR3 := Lib.hid (hr.more (T := fun b => B ≤ b) (fun b _ h => by have := HO.out.le; rcases h with h | h <;> omega))
                    have HO3 := Lib.hid (HO.out.more hn)
                    obtain ⟨bb, hbb⟩ : ∃ bb, bb = decide (l.length < 64) := ⟨_, rfl⟩
                    rw [← hbb]
                    have HSE := Lib.hid (psend_ok P c s l w3 HO3.out.pip)
                    rw [← hbb] at HSE
                    clear hr hn HRS hbb
                    go_wp2_with fail
                    refine HSE.out.mono ?_
                    rintro e w4 ⟨rfl, hp, ht⟩
                    have HX := Lib.hid (show PlI W w4 P c B v3 (putL l ⟨false, s⟩) from ⟨HR3.out.tch ht (fun b hb e => by have := HCB.out; omega), hp, new_of_ch HO3.out.new ht HCW.out, Nat.le_trans HO3.out.le ht.size⟩)
                    clear hp ht HSE
                    go_wp2_with fail
                    go_meet
                    exact ⟨_, HX⟩
        case rest =>
          clear HO hcm
          obtain ⟨l2, HO⟩ := hcut
          obtain ⟨aon, capn, hvn, _, _⟩ := HO.out.row.shape
          subst hvn
          have HLE := Lib.hid (plen_ok P c l2 _ HO.out.pip)
          go_wp2_with fail
          refine HLE.out.mono ?_
          rintro e w5 ⟨rfl, rfl⟩
          go_wp2_with fail
          go_roundw
          case rel => exact ⟨i + 1, l2, rfl, Lib.hid ⟨by omega, by omega⟩, HO⟩
          case measure => simp [intOf]; omega
      · go_wp2_with fail
        go_ret
        exact ⟨rfl, HO.out.new.below⟩
    · go_wp2_with fail
      go_ret
      exact ⟨rfl, HO.out.new.below⟩
end Go.Proofs.Ytebpdnmmcbianaa
