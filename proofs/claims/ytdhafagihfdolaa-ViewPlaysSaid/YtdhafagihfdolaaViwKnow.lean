/-
  Views: Know.
-/
import Derived.Test.YtdhafagihfdolaaViwOps
set_option linter.unusedVariables false
set_option linter.unusedSimpArgs false
set_option maxRecDepth 100000
namespace Go.Proofs.Ytdhafagihfdolaa
open Go.RowKit Go.Lib Go.Sort Go.Shelf

theorem set_ne_draw : (30 : TypeId) ≠ 141 := by decide
def ViwRD (x : VA) (ds : List Int) (dv : Value) (D : Option Nat) (g : Nat) (w : World) (e : Ending) (w' : World) : Prop :=
  ∃ sa sp, e = .returned (viwV x sa sp) ∧ ViwS w' x sa sp ∧ DrawP w' dv D g ds ∧ VT D w w'
theorem viw_find {w w1 w2 : World} {x : VA} {sa sp : Value} {dv : Value} {D : Option Nat} {g : Nat} {ds ds0 : List Int} (hs : ViwS w1 x sa sp) (hd : DrawP w1 dv D g ds) (h0 : DrawP w dv D g ds0) (hn : VT D w w1) (hg : 0 < ds.length → g < w.heap.size) (ht : OT w w1 w2) :
    ViwS w2 x sa sp ∧ DrawP w2 dv D g ds ∧ VT D w w2 := ⟨ht.viw hs, hd.ot h0 ht hg, ht.vt hn⟩
theorem DrawP.gl {w : World} {dv : Value} {D : Option Nat} {g : Nat} {ds : List Int} (h : DrawP w dv D g ds) (h0 : 0 < ds.length) : g < w.heap.size := by
  rcases h with ⟨_, _, e⟩ | ⟨d, _, _, h3⟩
  · rw [e] at h0; cases h0
  · exact h3.glt h0
theorem belowT_le (ds : List Int) (n : Int) (h : 0 < (belowT ds n).length) : 0 < ds.length := by
  unfold belowT at h
  split at h
  · simp at h; omega
  · exact h
set_option maxHeartbeats 4000000 in
theorem know_ok (x : VA) (sa sp : Value) (n : Int) (dv : Value) (D : Option Nat) (g : Nat) (ds : List Int) (w : World) (h : ViwS w x sa sp) (hd : DrawP w dv D g ds) :
    Calls Try.prog 17 #[viwV x sa sp, .int .i64 n, dv] w (ViwRD (knowV x n ds).1 (knowV x n ds).2 dv D g w) := by
  obtain ⟨⟨ao, al, ac, rfl⟩, po, pl, pc, rfl⟩ := h.slices
  obtain ⟨self, A, P, act, pas⟩ := x
  obtain ⟨w0, hw0⟩ : ∃ w0, w0 = (w.alloc (.cells #[.int .i64 self, .int .i64 A, .slice ao al ac, .int .i64 P, .slice po pl pc] 30)).alloc (.cells zV 30) := ⟨_, rfl⟩
  have hn0 : New w w0 := by rw [hw0]; exact ((New.refl w).alloc _).alloc _
  have hk0 : Bk w0 w.heap.size 30 #[.int .i64 self, .int .i64 A, .slice ao al ac, .int .i64 P, .slice po pl pc] ∧ Bk w0 (w.heap.size + 1) 30 zV := by
    have := start2 w #[.int .i64 self, .int .i64 A, .slice ao al ac, .int .i64 P, .slice po pl pc] w0 (by rw [hw0]; exact New.refl _)
    exact ⟨this.1, this.2.1⟩
  have H := Lib.hid h
  have HD := Lib.hid hd
  have HN0 := Lib.hid hn0
  have HK0 := Lib.hid hk0.1
  have HK1 := Lib.hid hk0.2
  have HHA := Lib.hid (fun (wx : World) (k : New w wx) => has_lay A (.slice ao al ac) act n wx (h.new k).seta)
  have HHP := Lib.hid (fun (wx : World) (k : New w wx) => has_lay P (.slice po pl pc) pas n wx (h.new k).setp)
  have HFU := Lib.hid (fun (wx : World) (k : New w wx) => full_lay P (.slice po pl pc) pas wx (h.new k).setp)
  have HAL := Lib.hid (fun (wx : World) (k : New w wx) => all_lay P (.slice po pl pc) pas wx (h.new k).setp)
  clear h hd hn0 hk0
  unfold viwV
  simp only
  go_enter Try.func17, Try.ntmps17
  go_upto_region 1 with fail
  try unfold zV at hw0
  rw [← hw0]
  clear hw0
  obtain ⟨BAD, hBAD⟩ : ∃ B : Prop, B = (n < 1 ∨ 65535 < n ∨ n = self ∨ n ∈ act ∨ n ∈ pas) := ⟨_, rfl⟩
  obtain ⟨bad, hbad⟩ : ∃ b : Bool, b = decide (n < 1 ∨ 65535 < n ∨ n = self ∨ n ∈ act ∨ n ∈ pas) := ⟨_, rfl⟩
  have HB := Lib.hid hbad
  clear hbad hBAD BAD
  go_cut [32] (fun v wx => v = .bool bad ∧ Hid (New w0 wx))
  case first =>
    obtain ⟨⟨a0, a1, a2, a3, a4⟩, a5, a6, a7, a8, a9⟩ := HK0.out.five
    by_cases h1 : n < 1
    · have HE := Lib.hid (show bad = true from HB.out.trans (dec_ (.inl h1)))
      go_wp2_with fail
      go_meet
      exact ⟨by rw [HE.out], New.refl _⟩
    · by_cases h2 : 65535 < n
      · have HE := Lib.hid (show bad = true from HB.out.trans (dec_ (.inr (.inl h2))))
        go_wp2_with fail
        go_meet
        exact ⟨by rw [HE.out], New.refl _⟩
      · by_cases h3 : n = self
        · have t3 : (n == self) = true := by simp [h3]
          have HE := Lib.hid (show bad = true from HB.out.trans (dec_ (.inr (.inr (.inl h3)))))
          clear h3
          go_wp2_with fail
          go_meet
          exact ⟨by rw [HE.out], New.refl _⟩
        · have t3 : (n == self) = false := by simp [h3]
          have hca := HHA.out w0 HN0.out
          by_cases h4 : n ∈ act
          · have HE := Lib.hid (show bad = true from HB.out.trans (dec_ (.inr (.inr (.inr (.inl h4))))))
            rw [dec_ h4] at hca
            clear h3 h4
            go_wp2_with fail
            refine hca.mono ?_
            rintro e w1 ⟨rfl, hn1⟩
            go_wp2_with fail
            go_meet
            exact ⟨by rw [HE.out], hn1⟩
          · rw [decn_ h4] at hca
            by_cases h5 : n ∈ pas
            · have HE := Lib.hid (show bad = true from HB.out.trans (dec_ (.inr (.inr (.inr (.inr h5))))))
              have HT5 := Lib.hid (dec_ h5)
              clear h3 h4 h5
              go_wp2_with fail
              refine hca.mono ?_
              rintro e w1 ⟨rfl, hn1⟩
              obtain ⟨⟨b0, b1, b2, b3, b4⟩, b5, b6, b7, b8, b9⟩ := (hn1.out.bk HK0.out).five
              have hcp := HHP.out w1 (HN0.out.then hn1.out)
              rw [HT5.out] at hcp
              clear hca a0 a1 a2 a3 a4 a5 a6 a7 a8 a9
              go_wp2_with fail
              refine hcp.mono ?_
              rintro e w2 ⟨rfl, hn2⟩
              go_wp2_with fail
              go_meet
              exact ⟨by rw [HE.out], hn1.out.then hn2.out⟩
            · have HE := Lib.hid (show bad = false from HB.out.trans (decn_ (by
                rintro (e | e | e | e | e)
                · exact h1 e
                · exact h2 e
                · exact h3 e
                · exact h4 e
                · exact h5 e)))
              have HT5 := Lib.hid (decn_ h5)
              clear h3 h4 h5
              go_wp2_with fail
              refine hca.mono ?_
              rintro e w1 ⟨rfl, hn1⟩
              obtain ⟨⟨b0, b1, b2, b3, b4⟩, b5, b6, b7, b8, b9⟩ := (hn1.out.bk HK0.out).five
              have hcp := HHP.out w1 (HN0.out.then hn1.out)
              rw [HT5.out] at hcp
              clear hca a0 a1 a2 a3 a4 a5 a6 a7 a8 a9
              go_wp2_with fail
              refine hcp.mono ?_
              rintro e w2 ⟨rfl, hn2⟩
              go_wp2_with fail
              go_meet
              exact ⟨by rw [HE.out], hn1.out.then hn2.out⟩
  case rest =>
    obtain ⟨rfl, hnc⟩ := hcut
    obtain ⟨w1, hw1⟩ : ∃ x, x = wc := ⟨_, rfl⟩
    subst hw1
    have HN1 := Lib.hid (HN0.out.then hnc.out)
    have HKA := Lib.hid (hnc.out.bk HK0.out)
    have HKB := Lib.hid (show Bk w1 (w.heap.size + 1) 30 #[.int .i64 0, .int .i64 0, .slice none 0 0, .int .i64 0, .slice none 0 0] from hnc.out.bk HK1.out)
    clear hnc HHA HHP HK0 HK1
    have HSTAY := Lib.hid (fun (wy wz : World) (k : New w wy) (ht : OT w wy wz) (e : knowV ⟨self, A, P, act, pas⟩ n ds = (⟨self, A, P, act, pas⟩, ds)) => show ViwRD (knowV ⟨self, A, P, act, pas⟩ n ds).1 (knowV ⟨self, A, P, act, pas⟩ n ds).2 dv D g w (.returned (viwV ⟨self, A, P, act, pas⟩ (.slice ao al ac) (.slice po pl pc))) wz by
      rw [e]
      exact ⟨_, _, rfl, viw_find (H.out.new k) (HD.out.new k) HD.out (VT.of k) HD.out.gl ht⟩)
    cases bad with
    | true =>
      obtain ⟨⟨a0, a1, a2, a3, a4⟩, a5, a6, a7, a8, a9⟩ := HKA.out.five
      obtain ⟨⟨b0, b1, b2, b3, b4⟩, b5, b6, b7, b8, b9⟩ := HKB.out.five
      have HE := Lib.hid (show knowV ⟨self, A, P, act, pas⟩ n ds = (⟨self, A, P, act, pas⟩, ds) by
        have := of_decide_eq_true HB.out.symm
        unfold knowV
        rw [if_pos]
        unfold stays
        rcases this with e | e | e | e | e
        · exact Or.inl e
        · exact Or.inr (Or.inl e)
        · exact Or.inr (Or.inr (Or.inl e))
        · exact Or.inr (Or.inr (Or.inr (Or.inl e)))
        · exact Or.inr (Or.inr (Or.inr (Or.inr (Or.inl e)))))
      have X1 := Lib.hid (show w.heap.size ≤ w.heap.size + 1 ∧ ¬ IntB w1 (w.heap.size + 1) from ⟨by omega, not_int HKB.out view_ne_int⟩)
      go_wp2_with fail
      refine bodyPost_ret (v := viwV ⟨self, A, P, act, pas⟩ (.slice ao al ac) (.slice po pl pc)) (by simp [results, Try.results17, go_sem, b0, b1, b2, b3, b4, viwV]) rfl ?_
      refine HSTAY.out w1 _ HN1.out ?_ HE.out
      unfold OT
      repeat (refine Tch.setCell ?_ (fun _ => by exact X1.out) _)
      exact Tch.refl _ _
    | false =>
      have HNB := Lib.hid (of_decide_eq_false HB.out.symm)
      have hfu := HFU.out w1 HN1.out
      obtain ⟨⟨a0, a1, a2, a3, a4⟩, a5, a6, a7, a8, a9⟩ := HKA.out.five
      by_cases hroom : P ≤ pas.length
      · rw [dec_ hroom] at hfu
        go_wp2_with fail
        refine hfu.mono ?_
        rintro e w2 ⟨rfl, hn2⟩
        have HN2 := Lib.hid (HN1.out.then hn2.out)
        have HKA2 := Lib.hid (hn2.out.bk HKA.out)
        have HKB2 := Lib.hid (hn2.out.bk HKB.out)
        have hal := HAL.out w2 HN2.out
        clear hfu hn2 HKA HKB HN1 a0 a1 a2 a3 a4 a5 a6 a7 a8 a9
        obtain ⟨⟨a0, a1, a2, a3, a4⟩, a5, a6, a7, a8, a9⟩ := HKA2.out.five
        go_wp2_with fail
        refine hal.mono ?_
        rintro e w3 ⟨lo, lc, rfl, hs3, hn3⟩
        have HN3 := Lib.hid (HN2.out.then hn3.out)
        have HKA3 := Lib.hid (hn3.out.bk HKA2.out)
        have HKB3 := Lib.hid (hn3.out.bk HKB2.out)
        have HS3 := Lib.hid hs3.out
        have HROOM := Lib.hid hroom
        clear hal hs3 hn3 HKA2 HKB2 HN2 hroom a0 a1 a2 a3 a4 a5 a6 a7 a8 a9
        by_cases hemp : pas = []
        · obtain ⟨⟨a0, a1, a2, a3, a4⟩, a5, a6, a7, a8, a9⟩ := HKA3.out.five
          obtain ⟨⟨b0, b1, b2, b3, b4⟩, b5, b6, b7, b8, b9⟩ := HKB3.out.five
          have HE := Lib.hid (show knowV ⟨self, A, P, act, pas⟩ n ds = (⟨self, A, P, act, pas⟩, ds) by
            have hp0 : P = 0 := by have := HROOM.out; rw [hemp] at this; simpa using this
            unfold knowV
            rw [if_pos]
            unfold stays
            exact Or.inr (Or.inr (Or.inr (Or.inr (Or.inr hp0)))))
          have X1 := Lib.hid (show w.heap.size ≤ w.heap.size + 1 ∧ ¬ IntB w3 (w.heap.size + 1) from ⟨by omega, not_int HKB3.out view_ne_int⟩)
          have hno := none_lay dv lo lc w3
          have hl0 : pas.length = 0 := by rw [hemp]; rfl
          clear hemp
          rw [hl0]
          clear hl0
          go_wp2_with fail
          refine hno.mono ?_
          rintro e w4 ⟨rfl, rfl⟩
          go_wp2_with fail
          refine bodyPost_ret (v := viwV ⟨self, A, P, act, pas⟩ (.slice ao al ac) (.slice po pl pc)) (by simp [results, Try.results17, go_sem, b0, b1, b2, b3, b4, viwV]) rfl ?_
          refine HSTAY.out w4 _ HN3.out ?_ HE.out
          unfold OT
          repeat (refine Tch.setCell ?_ (fun _ => by exact X1.out) _)
          exact Tch.refl _ _
        · have hone := one_lay dv D g ds (.slice lo pas.length lc) pas w3 (HD.out.new HN3.out) HS3.out hemp
          have HE := Lib.hid (show knowV ⟨self, A, P, act, pas⟩ n ds = (⟨self, A, P, act, insL (outL pas (pick pas ds)) n⟩, belowT ds pas.length) by
            have hr := HROOM.out
            have hg := H.out.good.pas.le
            have hp0 : 0 < pas.length := List.length_pos_iff.2 hemp
            have hnb := HNB.out
            unfold knowV
            rw [if_neg, if_neg (by simp only; omega)]
            unfold stays
            rintro (e | e | e | e | e | e)
            · exact hnb (.inl e)
            · exact hnb (.inr (.inl e))
            · exact hnb (.inr (.inr (.inl e)))
            · exact hnb (.inr (.inr (.inr (.inl e))))
            · exact hnb (.inr (.inr (.inr (.inr e))))
            · simp only at e; simp only at hg; omega)
          have HADD := Lib.hid (show addL P (outL pas (pick pas ds)) n = insL (outL pas (pick pas ds)) n by
            have hnb := HNB.out
            have h1 := outL_length_mem H.out.good.pas.asc (pick_mem hemp ds)
            have h2 := H.out.good.pas.le
            simp only at h1 h2
            unfold addL
            rw [if_pos]
            exact ⟨fun e => hnb (.inr (.inr (.inr (.inr ((outL_mem _ _ _).1 e).1)))), ⟨by have : ¬ n < 1 := fun e => hnb (.inl e); omega, by have : ¬ 65535 < n := fun e => hnb (.inr (.inl e)); omega⟩, by omega⟩)
          obtain ⟨y, hy⟩ : ∃ y, y = pick pas ds := ⟨_, rfl⟩
          rw [← hy] at hone HE HADD
          obtain ⟨d2, hd2⟩ : ∃ d2, d2 = belowT ds pas.length := ⟨_, rfl⟩
          have HGL := Lib.hid (show 0 < d2.length → g < w.heap.size from fun e => HD.out.gl (belowT_le ds _ (by rw [← hd2]; exact e)))
          rw [← hd2] at hone HE
          clear hemp hy hd2
          go_wp2_with fail
          refine hone.mono ?_
          rintro e w4 ⟨rfl, hd4, hv4⟩
          have hne : ∀ {b : Nat} {t : TypeId} {cs : Array Value}, Bk w3 b t cs → t ≠ 141 → some b ≠ D := fun hb ht => (HD.out.new HN3.out).ne hb ht
          have HKA4 := Lib.hid (hv4.out.bk HKA3.out (hne HKA3.out set_ne_draw))
          have HKB4 := Lib.hid (hv4.out.bk HKB3.out (hne HKB3.out set_ne_draw))
          have HD4 := Lib.hid hd4.out
          have HV4 := Lib.hid ((VT.of HN3.out).then hv4.out)
          have HS4 := Lib.hid ((HD.out.new HN3.out).viw hv4.out (H.out.new HN3.out))
          have HF := Lib.hid (forget_ok ⟨self, A, P, act, pas⟩ _ _ y w4 HS4.out)
          unfold viwV at HF
          simp only at HF
          clear hone hd4 hv4 hne HKA3 HKB3 HN3 HS3
          obtain ⟨⟨a0, a1, a2, a3, a4⟩, a5, a6, a7, a8, a9⟩ := HKA4.out.five
          go_wp2_with fail
          refine HF.out.mono ?_
          rintro e w5 ⟨sa5, sp5, rfl, hs5, hn5⟩
          obtain ⟨⟨qo, ql, qc, rfl⟩, ro, rl, rc, rfl⟩ := hs5.slices
          have HKA5 := Lib.hid (hn5.bk HKA4.out)
          have HKB5 := Lib.hid (hn5.bk HKB4.out)
          have HS5 := Lib.hid hs5
          have HD5 := Lib.hid (HD4.out.new hn5)
          have HV5 := Lib.hid (HV4.out.then (VT.of hn5))
          clear HF hs5 hn5 HKA4 HKB4 HD4 HV4 HS4 a0 a1 a2 a3 a4 a5 a6 a7 a8 a9
          obtain ⟨⟨a0, a1, a2, a3, a4⟩, a5, a6, a7, a8, a9⟩ := HKA5.out.five
          unfold viwV
          simp only [forgetV]
          go_upto_region 8 with fail
          obtain ⟨w6, hw6⟩ : ∃ w6, w6 = ((((w5.setCell ⟨w.heap.size, 0, none⟩ (.int .i64 self)).setCell ⟨w.heap.size, 1, none⟩ (.int .i64 A)).setCell ⟨w.heap.size, 2, none⟩ (.slice qo ql qc)).setCell ⟨w.heap.size, 3, none⟩ (.int .i64 P)).setCell ⟨w.heap.size, 4, none⟩ (.slice ro rl rc) := ⟨_, rfl⟩
          have X0 := Lib.hid (show w.heap.size ≤ w.heap.size ∧ ¬ IntB w5 w.heap.size from ⟨Nat.le_refl _, not_int HKA5.out view_ne_int⟩)
          have ht6 : OT w w5 w6 := by
            rw [hw6]
            exact (((((Tch.refl _ w5).setCell (fun _ => X0.out) _).setCell (fun _ => X0.out) _).setCell (fun _ => X0.out) _).setCell (fun _ => X0.out) _).setCell (fun _ => X0.out) _
          have HKA6 := Lib.hid (show Bk w6 w.heap.size 30 #[.int .i64 self, .int .i64 A, .slice qo ql qc, .int .i64 P, .slice ro rl rc] by
            rw [hw6]
            exact ((((HKA5.out.store 0 _).store 1 _).store 2 _).store 3 _).store 4 _)
          have HKB6 := Lib.hid (show Bk w6 (w.heap.size + 1) 30 zV by
            rw [hw6]
            refine viw_bk HKB5.out ?_
            exact (((((Tch.refl _ w5).setCell (fun _ => by show w.heap.size ≠ _; omega) _).setCell (fun _ => by show w.heap.size ≠ _; omega) _).setCell (fun _ => by show w.heap.size ≠ _; omega) _).setCell (fun _ => by show w.heap.size ≠ _; omega) _).setCell (fun _ => by show w.heap.size ≠ _; omega) _)
          have HFIN := Lib.hid (viw_find HS5.out HD5.out HD.out HV5.out HGL.out ht6)
          have HADC := Lib.hid (add_lay P (.slice ro rl rc) (outL pas y) n w6 HFIN.out.1.setp)
          rw [HADD.out] at HADC
          rw [← hw6]
          clear hw6 ht6 HKA5 HKB5 HS5 HD5 HV5 X0 a0 a1 a2 a3 a4 a5 a6 a7 a8 a9
          obtain ⟨⟨a0, a1, a2, a3, a4⟩, a5, a6, a7, a8, a9⟩ := HKA6.out.five
          go_wp2_with fail
          refine HADC.out.mono ?_
          rintro e w7 ⟨so, sl, sc, rfl, hs7, hn7⟩
          have HKA7 := Lib.hid (hn7.out.bk HKA6.out)
          have HKB7 := Lib.hid (hn7.out.bk HKB6.out)
          have HS7 := Lib.hid (show ViwS w7 ⟨self, A, P, act, insL (outL pas y) n⟩ (.slice qo ql qc) (.slice so sl sc) from ⟨(HFIN.out.1.new hn7.out).act, hs7.out, by have := knowV_good H.out.good n ds; rw [HE.out] at this; exact this⟩)
          have HD7 := Lib.hid (HFIN.out.2.1.new hn7.out)
          have HV7 := Lib.hid (HFIN.out.2.2.then (VT.of hn7.out))
          clear HADC hs7 hn7 HFIN HKA6 HKB6 a0 a1 a2 a3 a4 a5 a6 a7 a8 a9
          obtain ⟨⟨a0, a1, a2, a3, a4⟩, a5, a6, a7, a8, a9⟩ := HKA7.out.five
          obtain ⟨⟨b0, b1, b2, b3, b4⟩, b5, b6, b7, b8, b9⟩ := (show Bk w7 (w.heap.size + 1) 30 #[.int .i64 0, .int .i64 0, .slice none 0 0, .int .i64 0, .slice none 0 0] from HKB7.out).five
          have X0 := Lib.hid (show w.heap.size ≤ w.heap.size ∧ ¬ IntB w7 w.heap.size from ⟨Nat.le_refl _, not_int HKA7.out view_ne_int⟩)
          have X1 := Lib.hid (show w.heap.size ≤ w.heap.size + 1 ∧ ¬ IntB w7 (w.heap.size + 1) from ⟨by omega, not_int HKB7.out view_ne_int⟩)
          go_wp2_with fail
          rw [HE.out]
          refine bodyPost_ret (v := viwV ⟨self, A, P, act, insL (outL pas y) n⟩ (.slice qo ql qc) (.slice so sl sc)) (by simp [results, Try.results17, go_sem, b0, b1, b2, b3, b4, viwV]) rfl ⟨_, _, rfl, ?_⟩
          refine viw_find HS7.out HD7.out HD.out HV7.out HGL.out ?_
          unfold OT
          repeat (refine Tch.setCell ?_ (fun _ => by first | exact X0.out | exact X1.out) _)
          exact Tch.refl _ _
      · rw [decn_ hroom] at hfu
        have HE := Lib.hid (show knowV ⟨self, A, P, act, pas⟩ n ds = (⟨self, A, P, act, insL pas n⟩, ds) by
          have hnb := HNB.out
          unfold knowV
          rw [if_neg, if_pos (by simp only; omega)]
          unfold stays
          rintro (e | e | e | e | e | e)
          · exact hnb (.inl e)
          · exact hnb (.inr (.inl e))
          · exact hnb (.inr (.inr (.inl e)))
          · exact hnb (.inr (.inr (.inr (.inl e))))
          · exact hnb (.inr (.inr (.inr (.inr e))))
          · simp only at e; omega)
        have HADD := Lib.hid (show addL P pas n = insL pas n by
          have hnb := HNB.out
          unfold addL
          rw [if_pos]
          exact ⟨fun e => hnb (.inr (.inr (.inr (.inr e)))), ⟨by have : ¬ n < 1 := fun e => hnb (.inl e); omega, by have : ¬ 65535 < n := fun e => hnb (.inr (.inl e)); omega⟩, by omega⟩)
        clear hroom
        go_wp2_with fail
        refine hfu.mono ?_
        rintro e w6 ⟨rfl, hn2⟩
        have HN6 := Lib.hid (HN1.out.then hn2.out)
        have HKA6 := Lib.hid (hn2.out.bk HKA.out)
        have HKB6 := Lib.hid (hn2.out.bk HKB.out)
        have HADC := Lib.hid (add_lay P (.slice po pl pc) pas n w6 (H.out.new HN6.out).setp)
        rw [HADD.out] at HADC
        clear hfu hn2 HKA HKB HN1 a0 a1 a2 a3 a4 a5 a6 a7 a8 a9
        obtain ⟨⟨a0, a1, a2, a3, a4⟩, a5, a6, a7, a8, a9⟩ := HKA6.out.five
        go_wp2_with fail
        refine HADC.out.mono ?_
        rintro e w7 ⟨so, sl, sc, rfl, hs7, hn7⟩
        have HKA7 := Lib.hid (hn7.out.bk HKA6.out)
        have HKB7 := Lib.hid (hn7.out.bk HKB6.out)
        have HN7 := Lib.hid (HN6.out.then hn7.out)
        have HS7 := Lib.hid (show ViwS w7 ⟨self, A, P, act, insL pas n⟩ (.slice ao al ac) (.slice so sl sc) from ⟨(H.out.new HN7.out).act, hs7.out, by have := knowV_good H.out.good n ds; rw [HE.out] at this; exact this⟩)
        clear HADC hs7 hn7 HKA6 HKB6 HN6 a0 a1 a2 a3 a4 a5 a6 a7 a8 a9
        obtain ⟨⟨a0, a1, a2, a3, a4⟩, a5, a6, a7, a8, a9⟩ := HKA7.out.five
        obtain ⟨⟨b0, b1, b2, b3, b4⟩, b5, b6, b7, b8, b9⟩ := (show Bk w7 (w.heap.size + 1) 30 #[.int .i64 0, .int .i64 0, .slice none 0 0, .int .i64 0, .slice none 0 0] from HKB7.out).five
        have X0 := Lib.hid (show w.heap.size ≤ w.heap.size ∧ ¬ IntB w7 w.heap.size from ⟨Nat.le_refl _, not_int HKA7.out view_ne_int⟩)
        have X1 := Lib.hid (show w.heap.size ≤ w.heap.size + 1 ∧ ¬ IntB w7 (w.heap.size + 1) from ⟨by omega, not_int HKB7.out view_ne_int⟩)
        go_wp2_with fail
        rw [HE.out]
        refine bodyPost_ret (v := viwV ⟨self, A, P, act, insL pas n⟩ (.slice ao al ac) (.slice so sl sc)) (by simp [results, Try.results17, go_sem, b0, b1, b2, b3, b4, viwV]) rfl ⟨_, _, rfl, ?_⟩
        refine viw_find HS7.out (HD.out.new HN7.out) HD.out (VT.of HN7.out) HD.out.gl ?_
        unfold OT
        repeat (refine Tch.setCell ?_ (fun _ => by first | exact X0.out | exact X1.out) _)
        exact Tch.refl _ _
end Go.Proofs.Ytdhafagihfdolaa
