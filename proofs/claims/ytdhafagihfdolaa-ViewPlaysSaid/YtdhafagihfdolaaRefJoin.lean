/-
  The reference's views: Join.
-/
import Derived.Test.YtdhafagihfdolaaRefEvict
set_option linter.unusedVariables false
set_option linter.unusedSimpArgs false
set_option maxRecDepth 100000
namespace Go.Proofs.Ytdhafagihfdolaa
open Go.RowKit Go.Lib Go.Sort Go.Shelf

set_option maxHeartbeats 4000000 in
theorem rjoin_ok (B : Nat) (x : VA) (ds : List Int) (va vp vd : Value) (n : Int) (w : World) (h : RfS w B x ds va vp vd) (hg : x.Good) (hB : B ≤ w.heap.size) :
    Calls Try.prog 26 #[rfV x va vp vd, .int .i64 n] w (RfRB B (joinV x n) ds (joinB x n) w) := by
  obtain ⟨⟨ao, ac, rfl⟩, ⟨po, pc, rfl⟩, dO, dc, rfl⟩ := h.slices
  obtain ⟨self, A, P, act, pas⟩ := x
  simp only at *
  have hn0 : New w ((w.alloc (.cells #[.int .i64 self, .slice ao act.length ac, .slice po pas.length pc, .int .i64 A, .int .i64 P, .slice dO ds.length dc] 35)).alloc (.cells zR 35)) := ((New.refl w).alloc _).alloc _
  obtain ⟨w1, hw1⟩ : ∃ q, q = ((w.alloc (.cells #[.int .i64 self, .slice ao act.length ac, .slice po pas.length pc, .int .i64 A, .int .i64 P, .slice dO ds.length dc] 35)).alloc (.cells zR 35)) := ⟨_, rfl⟩
  rw [← hw1] at hn0
  have HS := Lib.hid (h.new hn0)
  obtain ⟨k0, k1, _⟩ := rstart2 w #[.int .i64 self, .slice ao act.length ac, .slice po pas.length pc, .int .i64 A, .int .i64 P, .slice dO ds.length dc] w1 (by rw [← hw1]; exact New.refl _)
  have HN := Lib.hid hn0
  have HG := Lib.hid hg
  have K0 := Lib.hid k0
  have K1 := Lib.hid k1
  have X0 := Lib.hid (show w.heap.size ≤ w.heap.size ∧ ¬ IntB w1 w.heap.size from ⟨Nat.le_refl _, not_int k0 rview_ne_int⟩)
  have X1 := Lib.hid (show w.heap.size ≤ w.heap.size + 1 ∧ ¬ IntB w1 (w.heap.size + 1) from ⟨by omega, not_int k1 rview_ne_int⟩)
  obtain ⟨la, hla, hpa⟩ := HS.out.act
  obtain ⟨lp, hlp, hpp⟩ := HS.out.pas
  have HHA := Lib.hid (rhas_ok hla hpa (by have := hg.act.le; have := hg.act.cap; simp only at *; omega) n)
  have h64 : pas.length ≤ 64 := by have := HG.out.pas.cap; have h2 := HG.out.pas.le; simp only at this h2; omega
  have HWO := Lib.hid (without_ref _ lp n w1 hlp (by rw [hpp.length_eq]; show pas.length ≤ 1000; omega))
  have HPP := Lib.hid hpp
  have HLA := Lib.hid (show la.length ≤ 64 ∧ la.length = act.length from ⟨by rw [hpa.length_eq]; show act.length ≤ 64; have := HG.out.act.le; have := HG.out.act.cap; simp only at *; omega, hpa.length_eq⟩)
  have HSA := Lib.hid hla
  have HPA := Lib.hid hpa
  clear h hg hn0 hla hpa hlp hpp k0 k1 h64
  unfold rfV
  simp only
  unfold zR at hw1
  go_enter Try.func26, Try.ntmps26
  go_upto_region 1 with fail
  rw [← hw1]
  clear hw1
  unfold zR at K1
  obtain ⟨⟨a0, a1, a2, a3, a4, a5⟩, f0, f1, f2, f3, f4, f5⟩ := Bk.six K0.out
  go_cut [32] (fun v wy => v = .bool (!joinB ⟨self, A, P, act, pas⟩ n) ∧ wy = w1)
  case first =>
    by_cases c1 : n < 1
    · have hna : n ∉ act := fun h => by have := HG.out.act.node n h; omega
      have HE := Lib.hid (show (!joinB ⟨self, A, P, act, pas⟩ n) = true by unfold joinB addB; rw [decn_ (by rintro (h | h); exact hna h; omega)]; rfl)
      clear hna
      go_wp2_with fail
      go_meet
      exact ⟨by rw [HE.out], rfl⟩
    · by_cases c2 : 65535 < n
      · have hna : n ∉ act := fun h => by have := HG.out.act.node n h; omega
        have HE := Lib.hid (show (!joinB ⟨self, A, P, act, pas⟩ n) = true by unfold joinB addB; rw [decn_ (by rintro (h | h); exact hna h; omega)]; rfl)
        clear hna
        go_wp2_with fail
        go_meet
        exact ⟨by rw [HE.out], rfl⟩
      · by_cases c3 : n = self
        · have HE := Lib.hid (show (!joinB ⟨self, A, P, act, pas⟩ n) = true by unfold joinB; rw [show decide (n = (⟨self, A, P, act, pas⟩ : VA).self) = true from dec_ c3]; simp)
          have t3 := beq_ c3
          clear c3
          go_wp2_with fail
          go_meet
          exact ⟨by rw [HE.out], rfl⟩
        · have t3 := bne_ c3
          have hs3 : (!decide (n = (⟨self, A, P, act, pas⟩ : VA).self)) = true := by rw [show decide (n = (⟨self, A, P, act, pas⟩ : VA).self) = false from decn_ c3]; rfl
          by_cases c5 : n ∈ act
          · have HE := Lib.hid (show (!joinB ⟨self, A, P, act, pas⟩ n) = false by unfold joinB addB; rw [dec_ (.inl c5), hs3]; rfl)
            rw [dec_ c5] at HHA
            clear c3 c5 hs3
            go_wp2_with fail
            refine HHA.out.mono ?_
            rintro e w2 ⟨rfl, rfl⟩
            go_wp2_with fail
            go_meet
            exact ⟨by rw [HE.out], rfl⟩
          · rw [decn_ c5] at HHA
            by_cases c6 : A ≤ act.length
            · have HE := Lib.hid (show (!joinB ⟨self, A, P, act, pas⟩ n) = true by unfold joinB addB; rw [decn_ (by rintro (h | h); exact c5 h; simp only at h; omega)]; rfl)
              have c7 : (A : Int) ≤ act.length := by omega
              clear c3 c5 c6 hs3
              go_wp2_with fail
              refine HHA.out.mono ?_
              rintro e w2 ⟨rfl, rfl⟩
              go_wp2_with fail
              go_meet
              exact ⟨by rw [HE.out], rfl⟩
            · have HE := Lib.hid (show (!joinB ⟨self, A, P, act, pas⟩ n) = false by unfold joinB addB; rw [dec_ (.inr ⟨⟨by omega, by omega⟩, by simp only; omega⟩), hs3]; rfl)
              have c7 : ¬ (A : Int) ≤ act.length := by omega
              clear c3 c5 hs3
              go_wp2_with fail
              refine HHA.out.mono ?_
              rintro e w2 ⟨rfl, rfl⟩
              go_wp2_with fail
              go_meet
              exact ⟨by rw [HE.out], rfl⟩
  case rest =>
    obtain ⟨rfl, hwy⟩ := hcut
    rw [hwy]
    clear hwy HHA
    cases hst : joinB ⟨self, A, P, act, pas⟩ n with
    | false =>
      have HE := Lib.hid (show joinV ⟨self, A, P, act, pas⟩ n = ⟨self, A, P, act, pas⟩ by unfold joinV; rw [hst]; rfl)
      have HJ := Lib.hid hst
      clear hst
      obtain ⟨⟨b0, b1, b2, b3, b4, b5⟩, g0, g1, g2, g3, g4, g5⟩ := Bk.six K1.out
      obtain ⟨w9, hw9⟩ : ∃ q, q = put6 w1 (w.heap.size + 1) (.int .i64 self) (.slice ao act.length ac) (.slice po pas.length pc) (.int .i64 A) (.int .i64 P) (.slice dO ds.length dc) := ⟨_, rfl⟩
      have K9 := Lib.hid (show Bk w9 (w.heap.size + 1) 35 #[.int .i64 self, .slice ao act.length ac, .slice po pas.length pc, .int .i64 A, .int .i64 P, .slice dO ds.length dc] by rw [hw9]; exact bk_put6 K1.out _ _ _ _ _ _)
      have HO9 := Lib.hid (show OT w w1 w9 by rw [hw9]; exact Tch.more (tch_put6 _ _ _ _ _ _ _ _) (fun b _ e => by rw [e]; exact X1.out))
      unfold put6 at hw9
      simp only [Bool.not_false]
      go_wp2_with fail
      rw [← hw9, HE.out, HJ.out]
      clear hw9 a0 a1 a2 a3 a4 a5 f0 f1 f2 f3 f4 f5 b0 b1 b2 b3 b4 b5 g0 g1 g2 g3 g4 g5
      obtain ⟨⟨b0, b1, b2, b3, b4, b5⟩, _⟩ := Bk.six K9.out
      refine bodyPost_ret (v := .tuple #[rfV ⟨self, A, P, act, pas⟩ (.slice ao act.length ac) (.slice po pas.length pc) (.slice dO ds.length dc), .bool false]) (by simp [results, Try.results26, go_sem, b0, b1, b2, b3, b4, b5, rfV]) rfl ⟨_, _, _, rfl, ?_⟩
      exact rf_fin (w1 := w1) HS.out HN.out HO9.out hB
    | true =>
      have HE := Lib.hid (show joinV ⟨self, A, P, act, pas⟩ n = ⟨self, A, P, addL A act n, outL pas n⟩ by unfold joinV; rw [hst]; rfl)
      have HJ := Lib.hid hst
      clear hst
      simp only [Bool.not_true]
      go_wp2_with fail
      refine HWO.out.mono ?_
      rintro e w4 ⟨v4, rfl, ho4, hn4⟩
      have hv4 := own_slr ho4.out
      obtain ⟨vo4, m4, vc4, hvv⟩ : ∃ ao m cap, v4 = .slice ao m cap := slr_slice hv4
      subst hvv
      obtain ⟨w5, hw5⟩ : ∃ q, q = w4.setCell ⟨w.heap.size, 2, none⟩ (.slice vo4 m4 vc4) := ⟨_, rfl⟩
      have k4 : Bk w4 w.heap.size 35 #[.int .i64 self, .slice ao act.length ac, .slice po pas.length pc, .int .i64 A, .int .i64 P, .slice dO ds.length dc] := hn4.out.bk K0.out
      have hO5 : OT w w4 w5 := by rw [hw5]; exact Tch.setCell (Tch.refl _ _) (fun _ => ⟨Nat.le_refl _, not_int k4 rview_ne_int⟩) _
      have K05 := Lib.hid (show Bk w5 w.heap.size 35 #[.int .i64 self, .slice ao act.length ac, .slice vo4 m4 vc4, .int .i64 A, .int .i64 P, .slice dO ds.length dc] by rw [hw5]; exact k4.store 2 _)
      have K15 := Lib.hid (show Bk w5 (w.heap.size + 1) 35 #[.int .i64 0, .slice none 0 0, .slice none 0 0, .int .i64 0, .int .i64 0, .slice none 0 0] by rw [hw5]; exact (hn4.out.bk K1.out).tch ((Tch.refl (· = w.heap.size) w4).setCell (p := ⟨w.heap.size, 2, none⟩) (fun _ => rfl) _) (by omega))
      have HN5 := Lib.hid (hO5.new (HN.out.then hn4.out))
      have HS5 := Lib.hid (show RfS w5 B ⟨self, A, P, act, outL pas n⟩ ds (.slice ao act.length ac) (.slice vo4 m4 vc4) (.slice dO ds.length dc) from by
        have h5 := (HS.out.new hn4.out).ot hO5 hB
        exact ⟨h5.act, ⟨_, hO5.slr hv4, outL_perm HPP.out n⟩, h5.dr, h5.u⟩)
      have HSA5 := Lib.hid (hO5.slr (HSA.out.below hn4.out.below))
      have HHA5 := Lib.hid (rhas_ok HSA5.out HPA.out (by have := HLA.out; omega) n)
      clear hO5 hv4 ho4 HWO a0 a1 a2 a3 a4 a5 f0 f1 f2 f3 f4 f5
      obtain ⟨⟨a0, a1, a2, a3, a4, a5⟩, f0, f1, f2, f3, f4, f5⟩ := Bk.six k4
      clear k4 hn4
      go_upto_region 4 with fail
      rw [← hw5]
      clear hw5 a0 a1 a2 a3 a4 a5 f0 f1 f2 f3 f4 f5
      obtain ⟨⟨a0, a1, a2, a3, a4, a5⟩, f0, f1, f2, f3, f4, f5⟩ := Bk.six K05.out
      by_cases c5 : n ∈ act
      · have HE2 := Lib.hid (show addL A act n = act by unfold addL; rw [if_neg (fun h => h.1 c5)])
        rw [dec_ c5] at HHA5
        clear c5
        obtain ⟨⟨b0, b1, b2, b3, b4, b5⟩, g0, g1, g2, g3, g4, g5⟩ := Bk.six K15.out
        obtain ⟨w9, hw9⟩ : ∃ q, q = put6 w5 (w.heap.size + 1) (.int .i64 self) (.slice ao act.length ac) (.slice vo4 m4 vc4) (.int .i64 A) (.int .i64 P) (.slice dO ds.length dc) := ⟨_, rfl⟩
        have K9 := Lib.hid (show Bk w9 (w.heap.size + 1) 35 #[.int .i64 self, .slice ao act.length ac, .slice vo4 m4 vc4, .int .i64 A, .int .i64 P, .slice dO ds.length dc] by rw [hw9]; exact bk_put6 K15.out _ _ _ _ _ _)
        have HO9 := Lib.hid (show OT w w5 w9 by rw [hw9]; exact Tch.more (tch_put6 _ _ _ _ _ _ _ _) (fun b _ e => by rw [e]; exact ⟨by omega, not_int K15.out rview_ne_int⟩))
        unfold put6 at hw9
        go_wp2_with fail
        refine HHA5.out.mono ?_
        rintro e w2 ⟨rfl, hww⟩
        rw [hww]
        clear hww HHA5
        go_wp2_with fail
        rw [← hw9, HE.out, HJ.out, HE2.out]
        clear hw9 a0 a1 a2 a3 a4 a5 f0 f1 f2 f3 f4 f5 b0 b1 b2 b3 b4 b5 g0 g1 g2 g3 g4 g5
        obtain ⟨⟨b0, b1, b2, b3, b4, b5⟩, _⟩ := Bk.six K9.out
        refine bodyPost_ret (v := .tuple #[rfV ⟨self, A, P, act, outL pas n⟩ (.slice ao act.length ac) (.slice vo4 m4 vc4) (.slice dO ds.length dc), .bool true]) (by simp [results, Try.results26, go_sem, b0, b1, b2, b3, b4, b5, rfV]) rfl ⟨_, _, _, rfl, ?_⟩
        exact rf_fin (w1 := w5) HS5.out HN5.out HO9.out hB
      · have HE2 := Lib.hid (show addL A act n = insL act n by
          have h1 := HJ.out
          unfold joinB addB at h1
          simp only [Bool.and_eq_true, decide_eq_true_eq] at h1
          rcases h1.1 with h2 | h2
          · exact absurd h2 c5
          · unfold addL; rw [if_pos ⟨c5, h2⟩])
        rw [decn_ c5] at HHA5
        clear c5
        go_wp2_with fail
        refine HHA5.out.mono ?_
        rintro e w2 ⟨rfl, hww⟩
        rw [hww]
        clear hww HHA5
        obtain ⟨i0, hi, hz0, hz1, hz2⟩ := info_parts info_intW
        have hlen : la.length = act.length := HLA.out.2
        have hle : act.length ≤ 64 := by have := HLA.out.1; omega
        obtain ⟨ao', cap', e1, hc1, hc2, hc3, hc4⟩ := slr_ints HSA5.out
        injection e1 with e1 e2 e3
        subst e1; subst e3
        have hm1 : 0 + act.length ≤ maxLen := Nat.le_trans (show _ ≤ 64 by omega) (by decide)
        have hm2 : (0 + act.length) * 8 ≤ 140737488355328 := by omega
        have hnews : Hid (0 < act.length → ∃ ad, ao = some ad ∧ ∀ (j : Nat) (u : Value), (ints la)[j]? = some u → (w5.alloc (.cells #[] 3)).cell? (ad.add j) = some u) := Lib.hid fun h0 => by
          obtain ⟨b, off, rfl, _, hb, hc⟩ := hc4 (by omega)
          refine ⟨_, rfl, fun j u hu => ?_⟩
          have hj : j < la.length := by have := (List.getElem?_eq_some_iff.1 hu).1; simpa [ints] using this
          have := hc j hj
          rw [ints_get, List.getElem?_eq_getElem hj] at hu
          injection hu with hu
          rw [show la.getD j 0 = la[j] by simp [List.getD, hj], hu] at this
          rw [Addr.add_lit]
          exact ((New.refl w5).alloc _).cell this
        have hnil : ao = none → ac = 0 := hc3
        have hnil2 : ao = none → act.length = 0 := fun e => by have := hc3 e; omega
        have HLEN := Lib.hid hlen
        have hlt : w.heap.size < w5.heap.size := K05.out.lt
        have hnx : w.heap.size ≠ w5.heap.size := by omega
        clear hc1 hc2 hc3 hc4 e2 hlen
        go_wp2_with (at_builtin; first
          | (refine list_app rfl (.tmp 44) (.tmp 46) 26 rfl w5.heap.size 3 i0 (.int .i64 0) 8 Try.underlying26 hi hz0 hz1 hz2 rfl (.slice (some ⟨w5.heap.size, 0, none⟩) 0 0) 0 [] (by simp [Act.eval, Act.put]) (World.ownsRow_made w5 #[] 0 (Nat.le_refl _) (Nat.zero_le _) rfl) ao act.length ac (ints la) (by simp [Act.eval, Act.put]) (by have := HLEN.out; simp [ints, this]) hnil hnil2 hnews.out (by intro u hu; simp [ints] at hu; obtain ⟨q, _, rfl⟩ := hu; rfl) hm1 hm2 (by simp) ?_; intro v1 w7 HO7 HG7; have HN7 := Lib.hid (show New w5 w7 from (((New.refl w5).alloc _) : Tch _ _ _).trans (Tch.of_grown HG7.out) (fun b hb e => by have e2 : b = w5.heap.size := (by simpa [Value.ownBlock] using e); omega)))
          | (go_loud (refine list_app rfl (.tmp 47) (.tmp 49) 26 rfl w5.heap.size 3 i0 (.int .i64 0) 8 Try.underlying26 hi hz0 hz1 hz2 rfl v1 (0 + act.length) ([] ++ ints la) (by simp [Act.eval, Act.put]) (own_tch HO7.out (Tch.alloc (Tch.refl (fun _ => False) _) (.cells #[.int .i64 n] 3)) (by simp)) (some ⟨w7.heap.size, 0, none⟩) 1 1 [.int .i64 n] rfl rfl (by simp) (by simp) (fun _ => ⟨_, rfl, cells_one w7 _ _⟩) (by intro u hu; simp at hu; subst hu; rfl) (Nat.le_trans (show 0 + act.length + 1 ≤ 65 by omega) (by decide)) (by omega) (by have := HN7.out.size; simp; omega) ?_); intro v2 w8 HO8 HG8; have HN8 := Lib.hid (show New w5 w8 from Tch.grown (HN7.out.alloc _) HG8.out (fun k hk _ => (own_base HO7.out hk).1)); have hs8 := own_slr HO8.out; obtain ⟨vo8, m8, vc8, hv8⟩ : ∃ ao m cap, v2 = .slice ao m cap := slr_slice hs8; subst hv8; have HS8 := Lib.hid hs8; have K08 := Lib.hid (HN8.out.bk K05.out); clear hs8; obtain ⟨⟨p0, p1, p2, p3, p4, p5⟩, r0, r1, r2, r3, r4, r5⟩ := Bk.six K08.out; have K18 := Lib.hid (HN8.out.bk K15.out); obtain ⟨⟨s0, s1, s2, s3, s4, s5⟩, t0, t1, t2, t3, t4, t5⟩ := Bk.six K18.out))
        obtain ⟨w9, hw9⟩ : ∃ q, q = w8.setCell ⟨w.heap.size, 1, none⟩ (.slice vo8 m8 vc8) := ⟨_, rfl⟩
        have K09 : Bk w9 w.heap.size 35 #[.int .i64 self, .slice vo8 m8 vc8, .slice vo4 m4 vc4, .int .i64 A, .int .i64 P, .slice dO ds.length dc] := by rw [hw9]; exact K08.out.store 1 _
        have hO9 : OT w w8 w9 := by rw [hw9]; exact Tch.setCell (Tch.refl _ _) (fun _ => ⟨Nat.le_refl _, not_int K08.out rview_ne_int⟩) _
        have K19 : Bk w9 (w.heap.size + 1) 35 #[.int .i64 0, .slice none 0 0, .slice none 0 0, .int .i64 0, .int .i64 0, .slice none 0 0] := by rw [hw9]; exact K18.out.tch ((Tch.refl (· = w.heap.size) w8).setCell (p := ⟨w.heap.size, 1, none⟩) (fun _ => rfl) _) (by omega)
        obtain ⟨w10, hw10⟩ : ∃ q, q = put6 w9 (w.heap.size + 1) (.int .i64 self) (.slice vo8 m8 vc8) (.slice vo4 m4 vc4) (.int .i64 A) (.int .i64 P) (.slice dO ds.length dc) := ⟨_, rfl⟩
        have K20 := Lib.hid (show Bk w10 (w.heap.size + 1) 35 #[.int .i64 self, .slice vo8 m8 vc8, .slice vo4 m4 vc4, .int .i64 A, .int .i64 P, .slice dO ds.length dc] by rw [hw10]; exact bk_put6 K19 _ _ _ _ _ _)
        have hO10 : OT w w9 w10 := by rw [hw10]; exact Tch.more (tch_put6 _ _ _ _ _ _ _ _) (fun b _ e => by rw [e]; exact ⟨by omega, not_int K19 rview_ne_int⟩)
        have HFIN := Lib.hid (show RfS w10 B ⟨self, A, P, insL act n, outL pas n⟩ ds (.slice vo8 m8 vc8) (.slice vo4 m4 vc4) (.slice dO ds.length dc) ∧ New w w10 from by
          have h8 := HS5.out.new HN8.out
          have h9 := h8.ot hO9 hB
          have hs9 := hO9.slr HS8.out
          have hp : (la ++ [n]).Perm (insL act n) := (List.Perm.append_right [n] HPA.out).trans (insL_perm act n)
          have h9b : RfS w9 B ⟨self, A, P, insL act n, outL pas n⟩ ds (.slice vo8 m8 vc8) (.slice vo4 m4 vc4) (.slice dO ds.length dc) := ⟨⟨la ++ [n], by simpa [ints] using hs9, hp⟩, h9.pas, h9.dr, h9.u⟩
          exact rf_fin h9b (hO9.new (HN5.out.then HN8.out)) hO10 hB)
        unfold put6 at hw10
        rw [hw9] at hw10
        rw [← hw10, HE.out, HJ.out, HE2.out]
        clear hw9 hw10 K09 K19 hO9 hO10 p0 p1 p2 p3 p4 p5 r0 r1 r2 r3 r4 r5 s0 s1 s2 s3 s4 s5 t0 t1 t2 t3 t4 t5 a0 a1 a2 a3 a4 a5 f0 f1 f2 f3 f4 f5
        obtain ⟨⟨b0, b1, b2, b3, b4, b5⟩, _⟩ := Bk.six K20.out
        refine bodyPost_ret (v := .tuple #[rfV ⟨self, A, P, insL act n, outL pas n⟩ (.slice vo8 m8 vc8) (.slice vo4 m4 vc4) (.slice dO ds.length dc), .bool true]) (by simp [results, Try.results26, go_sem, b0, b1, b2, b3, b4, b5, rfV]) rfl ⟨_, _, _, rfl, ?_⟩
        exact HFIN.out
end Go.Proofs.Ytdhafagihfdolaa
