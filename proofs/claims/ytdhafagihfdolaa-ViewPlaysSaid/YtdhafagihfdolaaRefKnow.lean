/-
  The reference's views: Know.
-/
import Derived.Test.YtdhafagihfdolaaRefOne
set_option linter.unusedVariables false
set_option linter.unusedSimpArgs false
set_option maxRecDepth 100000
namespace Go.Proofs.Ytdhafagihfdolaa
open Go.RowKit Go.Lib Go.Sort Go.Shelf

theorem contains_dec {l L : List Int} (h : l.Perm L) (n : Int) : l.contains n = decide (n ∈ L) := by
  have := h.mem_iff (a := n)
  by_cases e : n ∈ L
  · rw [dec_ e]; simpa using this.2 e
  · rw [decn_ e]; simpa using fun h => e (this.1 h)
/-- Has of a list in any order. -/
theorem rhas_ok {w : World} {v : Value} {l L : List Int} (h : Slr w v (ints l)) (hp : l.Perm L) (hl : L.length ≤ 64) (n : Int) :
    Calls Try.prog 66 #[v, .int .i64 n] w fun e w' => e = .returned (.bool (decide (n ∈ L))) ∧ w' = w := by
  rw [← contains_dec hp n]
  exact has_ref v l n w h (by rw [hp.length_eq]; omega)
set_option maxHeartbeats 4000000 in
theorem rknow_ok (B : Nat) (x : VA) (ds : List Int) (va vp vd : Value) (n : Int) (w : World) (h : RfS w B x ds va vp vd) (hg : x.Good) (hB : B ≤ w.heap.size) :
    Calls Try.prog 18 #[rfV x va vp vd, .int .i64 n] w (RfR B (knowV x n ds).1 (knowV x n ds).2 w) := by
  obtain ⟨⟨ao, ac, rfl⟩, ⟨po, pc, rfl⟩, dO, dc, rfl⟩ := h.slices
  obtain ⟨self, A, P, act, pas⟩ := x
  simp only at *
  have hn0 : New w ((w.alloc (.cells #[.int .i64 self, .slice ao act.length ac, .slice po pas.length pc, .int .i64 A, .int .i64 P, .slice dO ds.length dc] 35)).alloc (.cells zR 35)) := ((New.refl w).alloc _).alloc _
  obtain ⟨w1, hw1⟩ : ∃ q, q = ((w.alloc (.cells #[.int .i64 self, .slice ao act.length ac, .slice po pas.length pc, .int .i64 A, .int .i64 P, .slice dO ds.length dc] 35)).alloc (.cells zR 35)) := ⟨_, rfl⟩
  rw [← hw1] at hn0
  have HS := Lib.hid (h.new hn0)
  obtain ⟨k0, k1, _⟩ := rstart2 w #[.int .i64 self, .slice ao act.length ac, .slice po pas.length pc, .int .i64 A, .int .i64 P, .slice dO ds.length dc] w1 (by rw [← hw1]; exact New.refl _)
  have HN := Lib.hid hn0
  have HG := Lib.hid hg
  have K0 := Lib.hid k0
  have K1 := Lib.hid k1
  have X0 := Lib.hid (show w.heap.size ≤ w.heap.size ∧ ¬ IntB w1 w.heap.size from ⟨Nat.le_refl _, not_int k0 rview_ne_int⟩)
  have X1 := Lib.hid (show w.heap.size ≤ w.heap.size + 1 ∧ ¬ IntB w1 (w.heap.size + 1) from ⟨by omega, not_int k1 rview_ne_int⟩)
  obtain ⟨la, hla, hpa⟩ := HS.out.act
  obtain ⟨lp, hlp, hpp⟩ := HS.out.pas
  have HHA := Lib.hid (rhas_ok hla hpa (by have := hg.act.le; have := hg.act.cap; simp only at *; omega) n)
  have HHP := Lib.hid (rhas_ok hlp hpp (by have := hg.pas.le; have := hg.pas.cap; simp only at *; omega) n)
  clear h hg hn0 hla hpa hlp hpp k0 k1
  unfold rfV
  simp only
  unfold zR at hw1
  go_enter Try.func18, Try.ntmps18
  go_upto_region 1 with fail
  rw [← hw1]
  clear hw1
  unfold zR at K1
  obtain ⟨⟨a0, a1, a2, a3, a4, a5⟩, f0, f1, f2, f3, f4, f5⟩ := Bk.six K0.out
  go_cut [35] (fun v wy => v = .bool (decide (stays ⟨self, A, P, act, pas⟩ n)) ∧ wy = w1)
  case first =>
    have yes : stays ⟨self, A, P, act, pas⟩ n → decide (stays ⟨self, A, P, act, pas⟩ n) = true := fun h => dec_ h
    have YES := Lib.hid yes
    clear yes
    by_cases c1 : n < 1
    · have HE := Lib.hid (YES.out (.inl c1))
      go_wp2_with fail
      go_meet
      exact ⟨by rw [HE.out], rfl⟩
    · by_cases c2 : 65535 < n
      · have HE := Lib.hid (YES.out (.inr (.inl c2)))
        go_wp2_with fail
        go_meet
        exact ⟨by rw [HE.out], rfl⟩
      · by_cases c3 : n = self
        · have HE := Lib.hid (YES.out (.inr (.inr (.inl c3))))
          have t3 := beq_ c3
          clear c3
          go_wp2_with fail
          go_meet
          exact ⟨by rw [HE.out], rfl⟩
        · have t3 := bne_ c3
          by_cases c4 : P = 0
          · have HE := Lib.hid (YES.out (.inr (.inr (.inr (.inr (.inr c4))))))
            have t4 : ((P : Int) == 0) = true := beq_ (by omega)
            clear c3 c4
            go_wp2_with fail
            go_meet
            exact ⟨by rw [HE.out], rfl⟩
          · have t4 : ((P : Int) == 0) = false := bne_ (by omega)
            by_cases c5 : n ∈ act
            · have HE := Lib.hid (YES.out (.inr (.inr (.inr (.inl c5)))))
              rw [dec_ c5] at HHA
              clear c3 c4 c5
              go_wp2_with fail
              refine HHA.out.mono ?_
              rintro e w2 ⟨rfl, rfl⟩
              go_wp2_with fail
              go_meet
              exact ⟨by rw [HE.out], rfl⟩
            · by_cases c6 : n ∈ pas
              · have HE := Lib.hid (YES.out (.inr (.inr (.inr (.inr (.inl c6))))))
                rw [decn_ c5] at HHA
                rw [dec_ c6] at HHP
                clear c3 c4 c5 c6
                go_wp2_with fail
                refine HHA.out.mono ?_
                rintro e w2 ⟨rfl, rfl⟩
                go_wp2_with fail
                refine HHP.out.mono ?_
                rintro e w2 ⟨rfl, rfl⟩
                go_wp2_with fail
                go_meet
                exact ⟨by rw [HE.out], rfl⟩
              · have HE := Lib.hid (show decide (stays ⟨self, A, P, act, pas⟩ n) = false from decn_ (by rintro (h | h | h | h | h | h); exact c1 h; exact c2 h; exact c3 h; exact c5 h; exact c6 h; exact c4 h))
                rw [decn_ c5] at HHA
                rw [decn_ c6] at HHP
                clear c3 c4 c5 c6
                go_wp2_with fail
                refine HHA.out.mono ?_
                rintro e w2 ⟨rfl, rfl⟩
                go_wp2_with fail
                refine HHP.out.mono ?_
                rintro e w2 ⟨rfl, rfl⟩
                go_wp2_with fail
                go_meet
                exact ⟨by rw [HE.out], rfl⟩
  case rest =>
    obtain ⟨rfl, hwy⟩ := hcut
    rw [hwy]
    clear hwy HHA HHP
    by_cases hst : stays ⟨self, A, P, act, pas⟩ n
    · have HE := Lib.hid (show knowV ⟨self, A, P, act, pas⟩ n ds = (⟨self, A, P, act, pas⟩, ds) by unfold knowV; rw [if_pos hst])
      rw [dec_ hst]
      clear hst
      obtain ⟨⟨b0, b1, b2, b3, b4, b5⟩, g0, g1, g2, g3, g4, g5⟩ := Bk.six K1.out
      obtain ⟨w9, hw9⟩ : ∃ q, q = put6 w1 (w.heap.size + 1) (.int .i64 self) (.slice ao act.length ac) (.slice po pas.length pc) (.int .i64 A) (.int .i64 P) (.slice dO ds.length dc) := ⟨_, rfl⟩
      have K9 := Lib.hid (show Bk w9 (w.heap.size + 1) 35 #[.int .i64 self, .slice ao act.length ac, .slice po pas.length pc, .int .i64 A, .int .i64 P, .slice dO ds.length dc] by rw [hw9]; exact bk_put6 K1.out _ _ _ _ _ _)
      have HO9 := Lib.hid (show OT w w1 w9 by rw [hw9]; exact Tch.more (tch_put6 _ _ _ _ _ _ _ _) (fun b _ e => by rw [e]; exact X1.out))
      unfold put6 at hw9
      go_wp2_with fail
      rw [← hw9, HE.out]
      clear hw9 a0 a1 a2 a3 a4 a5 f0 f1 f2 f3 f4 f5 b0 b1 b2 b3 b4 b5 g0 g1 g2 g3 g4 g5
      obtain ⟨⟨b0, b1, b2, b3, b4, b5⟩, _⟩ := Bk.six K9.out
      refine bodyPost_ret (v := rfV ⟨self, A, P, act, pas⟩ (.slice ao act.length ac) (.slice po pas.length pc) (.slice dO ds.length dc)) (by simp [results, Try.results18, go_sem, b0, b1, b2, b3, b4, b5, rfV]) rfl ⟨_, _, _, rfl, ?_⟩
      exact rf_fin (w1 := w1) HS.out HN.out HO9.out hB
    · rw [decn_ hst]
      have HST := Lib.hid hst
      clear hst
      go_upto_if 42 with fail
      go_cut [] (fun wx => ∃ (ds1 pas1 : List Int) (ao1 po1 dO1 : Option Addr) (ac1 pc1 dc1 : Nat), Hid (knowV ⟨self, A, P, act, pas⟩ n ds = (⟨self, A, P, act, insL pas1 n⟩, ds1) ∧ pas1.length ≤ 64) ∧ Hid (RfS wx B ⟨self, A, P, act, pas1⟩ ds1 (.slice ao1 act.length ac1) (.slice po1 pas1.length pc1) (.slice dO1 ds1.length dc1)) ∧ Hid (Bk wx w.heap.size 35 #[.int .i64 self, .slice ao1 act.length ac1, .slice po1 pas1.length pc1, .int .i64 A, .int .i64 P, .slice dO1 ds1.length dc1]) ∧ Hid (Bk wx (w.heap.size + 1) 35 #[.int .i64 0, .slice none 0 0, .slice none 0 0, .int .i64 0, .int .i64 0, .slice none 0 0]) ∧ Hid (New w wx))
      case first =>
        by_cases hf : P ≤ pas.length
        · have hf2 : (P : Int) ≤ pas.length := by omega
          have hP0 : P ≠ 0 := fun e => HST.out (.inr (.inr (.inr (.inr (.inr e)))))
          have hne : pas ≠ [] := fun e => by rw [e] at hf; simp at hf; omega
          have h64 : pas.length ≤ 64 := by have := HG.out.pas.cap; have h2 := HG.out.pas.le; simp only at this h2; omega
          obtain ⟨lp, hlp, hpp⟩ := HS.out.pas
          have HONE := Lib.hid (rone_ok B ⟨self, A, P, act, pas⟩ ds _ _ _ _ lp pas w1 HS.out hlp hpp HG.out.pas.asc hne h64 (by have := HN.out.size; omega))
          obtain ⟨k, hk⟩ : ∃ k, k = pick pas ds := ⟨_, rfl⟩
          obtain ⟨ds1, hds1⟩ : ∃ q, q = belowT ds pas.length := ⟨_, rfl⟩
          have HE := Lib.hid (show knowV ⟨self, A, P, act, pas⟩ n ds = (⟨self, A, P, act, insL (outL pas k) n⟩, ds1) ∧ (outL pas k).length ≤ 64 from ⟨by unfold knowV; rw [if_neg HST.out, if_neg (show ¬ pas.length < P by omega), hk, hds1], by have := outL_length pas k; omega⟩)
          rw [← hk, ← hds1] at HONE
          have HKP := Lib.hid (show pas.length ≤ 1000 by omega)
          clear hf hP0 hne h64 hlp hpp hk hds1
          unfold rfV at HONE
          simp only at HONE
          go_wp2_with fail
          refine HONE.out.mono ?_
          rintro e w2 ⟨va2, vp2, vd2, rfl, hs2, hn2⟩
          obtain ⟨⟨ao2, ac2, rfl⟩, ⟨po2, pc2, rfl⟩, dO2, dc2, rfl⟩ := hs2.slices
          simp only at hs2
          obtain ⟨w3, hw3⟩ : ∃ q, q = w2.alloc (.cells #[.int .i64 self, .slice ao2 act.length ac2, .slice po2 pas.length pc2, .int .i64 A, .int .i64 P, .slice dO2 ds1.length dc2] 35) := ⟨_, rfl⟩
          have hn23 : New w2 w3 := by rw [hw3]; exact (New.refl _).alloc _
          have HZ3 := Lib.hid (show Bk w3 w2.heap.size 35 #[.int .i64 self, .slice ao2 act.length ac2, .slice po2 pas.length pc2, .int .i64 A, .int .i64 P, .slice dO2 ds1.length dc2] by rw [hw3]; exact Bk.made _ _ _)
          have HS3 := Lib.hid (hs2.new hn23)
          have HN3 := Lib.hid (hn2.then hn23)
          have HS2 := Lib.hid hs2
          have HNA := Lib.hid hn2
          have HNB := Lib.hid hn23
          obtain ⟨l2, hl2, hp2⟩ := HS3.out.pas
          have HWO := Lib.hid (without_ref _ l2 k w3 hl2 (by rw [hp2.length_eq]; have := HKP.out; (try simp only); omega))
          have HP2 := Lib.hid hp2
          clear HONE hs2 hn2 hn23 hl2 hp2 a0 a1 a2 a3 a4 a5 f0 f1 f2 f3 f4 f5
          unfold rfV
          simp only
          obtain ⟨⟨z0, z1, z2, z3, z4, z5⟩, y0, y1, y2, y3, y4, y5⟩ := Bk.six HZ3.out
          go_upto_region 5 with fail
          rw [← hw3]
          clear hw3
          go_wp2_with fail
          refine HWO.out.mono ?_
          rintro e w4 ⟨v4, rfl, ho4, hn4⟩
          have hv4 := own_slr ho4.out
          obtain ⟨vo4, vc4, rfl, _⟩ := slr_ints hv4
          rw [(outL_perm HP2.out k).length_eq] at hv4 ⊢
          simp only at hv4 ⊢
          obtain ⟨w5, hw5⟩ : ∃ q, q = w4.setCell ⟨w2.heap.size, 2, none⟩ (.slice vo4 (outL pas k).length vc4) := ⟨_, rfl⟩
          have hZ4 : Bk w4 w2.heap.size 35 #[.int .i64 self, .slice ao2 act.length ac2, .slice po2 pas.length pc2, .int .i64 A, .int .i64 P, .slice dO2 ds1.length dc2] := hn4.out.bk HZ3.out
          have hO5 : OT w2 w4 w5 := by rw [hw5]; exact Tch.setCell (Tch.refl _ _) (fun _ => ⟨Nat.le_refl _, not_int hZ4 rview_ne_int⟩) _
          have HZ5 := Lib.hid (show Bk w5 w2.heap.size 35 #[.int .i64 self, .slice ao2 act.length ac2, .slice vo4 (outL pas k).length vc4, .int .i64 A, .int .i64 P, .slice dO2 ds1.length dc2] by rw [hw5]; exact hZ4.store 2 _)
          have hn15 : New w1 w5 := by rw [hw5]; exact New.set (HN3.out.then hn4.out) HNA.out.size _
          have HN15 := Lib.hid hn15
          have HS5 := Lib.hid (show RfS w5 B ⟨self, A, P, act, outL pas k⟩ ds1 (.slice ao2 act.length ac2) (.slice vo4 (outL pas k).length vc4) (.slice dO2 ds1.length dc2) from by
            have h5 := (HS3.out.new hn4.out).ot hO5 (by have := HN.out.size; have := HNA.out.size; omega)
            exact ⟨h5.act, ⟨_, hO5.slr hv4, outL_perm HP2.out k⟩, h5.dr, h5.u⟩)
          have K05 := Lib.hid (hn15.bk K0.out)
          have K15 := Lib.hid (hn15.bk K1.out)
          have hlt0 : w.heap.size ≠ w2.heap.size := by have := K0.out.lt; have := HNA.out.size; omega
          clear hO5 hn15 hv4 ho4 hn4 HWO z0 z1 z2 z3 z4 z5 y0 y1 y2 y3 y4 y5
          obtain ⟨⟨z0, z1, z2, z3, z4, z5⟩, y0, y1, y2, y3, y4, y5⟩ := Bk.six hZ4
          clear hZ4
          go_upto_region 6 with fail
          rw [← hw5]
          clear hw5 z0 z1 z2 z3 z4 z5 y0 y1 y2 y3 y4 y5
          obtain ⟨⟨z0, z1, z2, z3, z4, z5⟩, y0, y1, y2, y3, y4, y5⟩ := Bk.six HZ5.out
          obtain ⟨⟨a0, a1, a2, a3, a4, a5⟩, f0, f1, f2, f3, f4, f5⟩ := Bk.six K05.out
          obtain ⟨w6, hw6⟩ : ∃ q, q = put6 w5 w.heap.size (.int .i64 self) (.slice ao2 act.length ac2) (.slice vo4 (outL pas k).length vc4) (.int .i64 A) (.int .i64 P) (.slice dO2 ds1.length dc2) := ⟨_, rfl⟩
          have hO6 : OT w w5 w6 := by rw [hw6]; exact Tch.more (tch_put6 _ _ _ _ _ _ _ _) (fun b _ e => by rw [e]; exact ⟨Nat.le_refl _, not_int K05.out rview_ne_int⟩)
          have HS6 := Lib.hid (HS5.out.ot hO6 hB)
          have HN6 := Lib.hid (hO6.new (HN.out.then HN15.out))
          have K06 := Lib.hid (show Bk w6 w.heap.size 35 #[.int .i64 self, .slice ao2 act.length ac2, .slice vo4 (outL pas k).length vc4, .int .i64 A, .int .i64 P, .slice dO2 ds1.length dc2] by rw [hw6]; exact bk_put6 K05.out _ _ _ _ _ _)
          have K16 := Lib.hid (show Bk w6 (w.heap.size + 1) 35 #[.int .i64 0, .slice none 0 0, .slice none 0 0, .int .i64 0, .int .i64 0, .slice none 0 0] by rw [hw6]; exact K15.out.tch (tch_put6 _ _ _ _ _ _ _ _) (by omega))
          clear hO6
          unfold put6 at hw6
          go_wp2_with fail
          rw [← hw6]
          go_meet
          exact ⟨_, _, _, _, _, _, _, _, HE, HS6, K06, K16, HN6⟩
        · have hf2 : ¬ (P : Int) ≤ pas.length := by omega
          have HE := Lib.hid (show knowV ⟨self, A, P, act, pas⟩ n ds = (⟨self, A, P, act, insL pas n⟩, ds) ∧ pas.length ≤ 64 from ⟨by unfold knowV; rw [if_neg HST.out, if_pos (show pas.length < P by omega)], by have := HG.out.pas.cap; simp only at this; omega⟩)
          go_wp2_with fail
          go_meet
          exact ⟨_, _, _, _, _, _, _, _, HE, HS, K0, K1, HN⟩
      case rest =>
        obtain ⟨ds1, pas1, ao1, po1, dO1, ac1, pc1, dc1, HE, HS1, K01, K11, HN1⟩ := hcut
        obtain ⟨wx, hwx⟩ : ∃ x, x = wc := ⟨_, rfl⟩
        subst hwx
        clear HS HN K0 K1 X0 X1 a0 a1 a2 a3 a4 a5 f0 f1 f2 f3 f4 f5 HST
        obtain ⟨i0, hi, hz0, hz1, hz2⟩ := info_parts info_intW
        obtain ⟨lp, hlp, hpp⟩ := HS1.out.pas
        have hlen : lp.length = pas1.length := hpp.length_eq
        have hle : pas1.length ≤ 64 := HE.out.2
        obtain ⟨ao', cap', e1, hc1, hc2, hc3, hc4⟩ := slr_ints hlp
        injection e1 with e1 e2 e3
        subst e1; subst e3
        have HPP := Lib.hid hpp
        obtain ⟨⟨a0, a1, a2, a3, a4, a5⟩, f0, f1, f2, f3, f4, f5⟩ := Bk.six K01.out
        have hm1 : 0 + pas1.length ≤ maxLen := Nat.le_trans (show _ ≤ 64 by omega) (by decide)
        have hm2 : (0 + pas1.length) * 8 ≤ 140737488355328 := by omega
        have hnews : Hid (0 < pas1.length → ∃ ad, po1 = some ad ∧ ∀ (j : Nat) (u : Value), (ints lp)[j]? = some u → (wx.alloc (.cells #[] 3)).cell? (ad.add j) = some u) := Lib.hid fun h0 => by
          obtain ⟨b, off, rfl, _, hb, hc⟩ := hc4 (by omega)
          refine ⟨_, rfl, fun j u hu => ?_⟩
          have hj : j < lp.length := by have := (List.getElem?_eq_some_iff.1 hu).1; simpa [ints] using this
          have := hc j hj
          rw [ints_get, List.getElem?_eq_getElem hj] at hu
          injection hu with hu
          rw [show lp.getD j 0 = lp[j] by simp [List.getD, hj], hu] at this
          rw [Addr.add_lit]
          exact ((New.refl wx).alloc _).cell this
        have hnil : po1 = none → pc1 = 0 := hc3
        have hnil2 : po1 = none → pas1.length = 0 := fun e => by have := hc3 e; omega
        have HLEN := Lib.hid hlen
        have hlt : w.heap.size < wx.heap.size := K01.out.lt
        have hnx : w.heap.size ≠ wx.heap.size := by omega
        clear hlp hpp hc1 hc2 hc3 hc4 e2 hlen
        go_wp2_with (at_builtin; first
          | (refine list_app rfl (.tmp 56) (.tmp 58) 26 rfl wx.heap.size 3 i0 (.int .i64 0) 8 Try.underlying26 hi hz0 hz1 hz2 rfl (.slice (some ⟨wx.heap.size, 0, none⟩) 0 0) 0 [] (by simp [Act.eval, Act.put]) (World.ownsRow_made wx #[] 0 (Nat.le_refl _) (Nat.zero_le _) rfl) po1 pas1.length pc1 (ints lp) (by simp [Act.eval, Act.put]) (by have := HLEN.out; simp [ints, this]) hnil hnil2 hnews.out (by intro u hu; simp [ints] at hu; obtain ⟨q, _, rfl⟩ := hu; rfl) hm1 hm2 (by simp) ?_; intro v1 w7 HO7 HG7; have HN7 := Lib.hid (show New wx w7 from (((New.refl wx).alloc _) : Tch _ _ _).trans (Tch.of_grown HG7.out) (fun b hb e => by have e2 : b = wx.heap.size := (by simpa [Value.ownBlock] using e); omega)))
          | (go_loud (refine list_app rfl (.tmp 59) (.tmp 61) 26 rfl wx.heap.size 3 i0 (.int .i64 0) 8 Try.underlying26 hi hz0 hz1 hz2 rfl v1 (0 + pas1.length) ([] ++ ints lp) (by simp [Act.eval, Act.put]) (own_tch HO7.out (Tch.alloc (Tch.refl (fun _ => False) _) (.cells #[.int .i64 n] 3)) (by simp)) (some ⟨w7.heap.size, 0, none⟩) 1 1 [.int .i64 n] rfl rfl (by simp) (by simp) (fun _ => ⟨_, rfl, cells_one w7 _ _⟩) (by intro u hu; simp at hu; subst hu; rfl) (Nat.le_trans (show 0 + pas1.length + 1 ≤ 65 by omega) (by decide)) (by omega) (by have := HN7.out.size; simp; omega) ?_); intro v2 w8 HO8 HG8; have HN8 := Lib.hid (show New wx w8 from Tch.grown (HN7.out.alloc _) HG8.out (fun k hk _ => (own_base HO7.out hk).1)); have hs8 := own_slr HO8.out; obtain ⟨vo8, m8, vc8, hv8⟩ : ∃ ao m cap, v2 = .slice ao m cap := slr_slice hs8; subst hv8; have HS8 := Lib.hid hs8; have K08 := Lib.hid (HN8.out.bk K01.out); clear hs8; obtain ⟨⟨p0, p1, p2, p3, p4, p5⟩, r0, r1, r2, r3, r4, r5⟩ := Bk.six K08.out; have K18 := Lib.hid (HN8.out.bk K11.out); obtain ⟨⟨s0, s1, s2, s3, s4, s5⟩, t0, t1, t2, t3, t4, t5⟩ := Bk.six K18.out))
        obtain ⟨w9, hw9⟩ : ∃ q, q = w8.setCell ⟨w.heap.size, 2, none⟩ (.slice vo8 m8 vc8) := ⟨_, rfl⟩
        have K09 : Bk w9 w.heap.size 35 #[.int .i64 self, .slice ao1 act.length ac1, .slice vo8 m8 vc8, .int .i64 A, .int .i64 P, .slice dO1 ds1.length dc1] := by rw [hw9]; exact K08.out.store 2 _
        have hO9 : OT w w8 w9 := by rw [hw9]; exact Tch.setCell (Tch.refl _ _) (fun _ => ⟨Nat.le_refl _, not_int K08.out rview_ne_int⟩) _
        have K19 : Bk w9 (w.heap.size + 1) 35 #[.int .i64 0, .slice none 0 0, .slice none 0 0, .int .i64 0, .int .i64 0, .slice none 0 0] := by rw [hw9]; exact K18.out.tch ((Tch.refl (· = w.heap.size) w8).setCell (p := ⟨w.heap.size, 2, none⟩) (fun _ => rfl) _) (by omega)
        obtain ⟨w10, hw10⟩ : ∃ q, q = put6 w9 (w.heap.size + 1) (.int .i64 self) (.slice ao1 act.length ac1) (.slice vo8 m8 vc8) (.int .i64 A) (.int .i64 P) (.slice dO1 ds1.length dc1) := ⟨_, rfl⟩
        have K20 := Lib.hid (show Bk w10 (w.heap.size + 1) 35 #[.int .i64 self, .slice ao1 act.length ac1, .slice vo8 m8 vc8, .int .i64 A, .int .i64 P, .slice dO1 ds1.length dc1] by rw [hw10]; exact bk_put6 K19 _ _ _ _ _ _)
        have hO10 : OT w w9 w10 := by rw [hw10]; exact Tch.more (tch_put6 _ _ _ _ _ _ _ _) (fun b _ e => by rw [e]; exact ⟨by omega, not_int K19 rview_ne_int⟩)
        have HFIN := Lib.hid (show RfS w10 B ⟨self, A, P, act, insL pas1 n⟩ ds1 (.slice ao1 act.length ac1) (.slice vo8 m8 vc8) (.slice dO1 ds1.length dc1) ∧ New w w10 from by
          have h8 := HS1.out.new HN8.out
          have h9 := h8.ot hO9 hB
          have hs9 := hO9.slr HS8.out
          have hp : (lp ++ [n]).Perm (insL pas1 n) := (List.Perm.append_right [n] HPP.out).trans (insL_perm pas1 n)
          have h9b : RfS w9 B ⟨self, A, P, act, insL pas1 n⟩ ds1 (.slice ao1 act.length ac1) (.slice vo8 m8 vc8) (.slice dO1 ds1.length dc1) := ⟨h9.act, ⟨lp ++ [n], by simpa [ints] using hs9, hp⟩, h9.dr, h9.u⟩
          exact rf_fin h9b (hO9.new (HN1.out.then HN8.out)) hO10 hB)
        unfold put6 at hw10
        rw [hw9] at hw10
        rw [← hw10, HE.out.1]
        clear hw9 hw10 K09 K19 hO9 hO10 p0 p1 p2 p3 p4 p5 r0 r1 r2 r3 r4 r5 s0 s1 s2 s3 s4 s5 t0 t1 t2 t3 t4 t5 a0 a1 a2 a3 a4 a5 f0 f1 f2 f3 f4 f5
        obtain ⟨⟨b0, b1, b2, b3, b4, b5⟩, _⟩ := Bk.six K20.out
        refine bodyPost_ret (v := rfV ⟨self, A, P, act, insL pas1 n⟩ (.slice ao1 act.length ac1) (.slice vo8 m8 vc8) (.slice dO1 ds1.length dc1)) (by simp [results, Try.results18, go_sem, b0, b1, b2, b3, b4, b5, rfV]) rfl ⟨_, _, _, rfl, ?_⟩
        exact HFIN.out
end Go.Proofs.Ytdhafagihfdolaa
