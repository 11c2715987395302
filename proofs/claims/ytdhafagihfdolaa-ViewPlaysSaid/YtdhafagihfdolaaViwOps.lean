/-
  Views: New, Join, Know.
-/
import Derived.Test.YtdhafagihfdolaaViwDraw
import Derived.Deep.CutBlock
import Derived.Deep.DeepCutAuto
set_option linter.unusedVariables false
set_option linter.unusedSimpArgs false
set_option maxRecDepth 100000
namespace Go.Proofs.Ytdhafagihfdolaa
open Go.RowKit Go.Lib Go.Sort Go.Shelf

theorem viw_bk {w1 w2 : World} {g : Nat} {t : TypeId} {cs : Array Value} (h : Bk w1 g t cs) (ht : Tch (fun b => b ≠ g) w1 w2) : Bk w2 g t cs := h.tch ht (fun e => e rfl)
set_option maxHeartbeats 2000000 in
theorem vnew_ok (self a p : Int) (A P : Nat) (w : World) (ha : -9223372036854775808 ≤ a ∧ a ≤ 9223372036854775807) (hp : -9223372036854775808 ≤ p ∧ p ≤ 9223372036854775807) (hA : (A : Int) = min (max a 0) 64) (hP : (P : Int) = min (max p 0) 64) :
    Calls Try.prog 15 #[.int .i64 self, .int .i64 a, .int .i64 p] w (ViwR ⟨self, A, P, [], []⟩ w) := by
  have HA := Lib.hid hA
  have HPP := Lib.hid hP
  have HA64 := Lib.hid (show A ≤ 64 ∧ P ≤ 64 by omega)
  clear hA hP
  go_enter Try.func15, Try.ntmps15
  go_wp2_with fail
  refine (new_lay a _ ha.1 ha.2 A HA.out).mono ?_
  rintro e w1 ⟨ao1, al1, ac1, rfl, H1, B1⟩
  go_wp2_with fail
  refine (new_lay p _ hp.1 hp.2 P HPP.out).mono ?_
  rintro e w2 ⟨ao2, al2, ac2, rfl, H2, B2⟩
  have hn1 := New.of B1.out
  have hn2 := New.of B2.out
  have k1 : Bk w2 w.heap.size 30 zV := hn2.bk (hn1.bk (Bk.made w _ _))
  have hn : New w w2 := (((New.refl w).alloc _).then hn1).then hn2
  obtain ⟨⟨b0, b1, b2, b3, b4⟩, b5, b6, b7, b8, b9⟩ := (show Bk w2 w.heap.size 30 #[.int .i64 0, .int .i64 0, .slice none 0 0, .int .i64 0, .slice none 0 0] from k1).five
  have X1 := Lib.hid (show w.heap.size ≤ w.heap.size ∧ ¬ IntB w2 w.heap.size from ⟨Nat.le_refl _, not_int k1 view_ne_int⟩)
  have HN := Lib.hid hn
  have HS := Lib.hid (show ViwS w2 ⟨self, A, P, [], []⟩ (.slice ao1 al1 ac1) (.slice ao2 al2 ac2) from by
    obtain ⟨s1, e1, h1, _⟩ := H1.out
    obtain ⟨s2, e2, h2, _⟩ := H2.out
    simp at e1 e2
    subst e1 e2
    exact ⟨h1.below B2.out, h2, ⟨Good.nil HA64.out.1, Good.nil HA64.out.2⟩⟩)
  clear hn1 hn2 k1 hn H1 H2 B1 B2 ha hp
  go_wp2_with fail
  refine bodyPost_ret (v := viwV ⟨self, A, P, [], []⟩ (.slice ao1 al1 ac1) (.slice ao2 al2 ac2)) (by simp [results, Try.results15, go_sem, b0, b1, b2, b3, b4, viwV]) rfl ⟨_, _, rfl, ?_⟩
  refine viw_fin (w1 := w2) HS.out HN.out ?_
  unfold OT
  repeat (refine Tch.setCell ?_ (fun _ => by exact X1.out) _)
  exact Tch.refl _ _
set_option maxHeartbeats 4000000 in
theorem join_ok (x : VA) (sa sp : Value) (n : Int) (w : World) (h : ViwS w x sa sp) :
    Calls Try.prog 25 #[viwV x sa sp, .int .i64 n] w (ViwRB (joinV x n) (joinB x n) w) := by
  obtain ⟨⟨ao, al, ac, rfl⟩, po, pl, pc, rfl⟩ := h.slices
  obtain ⟨self, A, P, act, pas⟩ := x
  have hn0 : New w ((w.alloc (.cells #[.int .i64 self, .int .i64 A, .slice ao al ac, .int .i64 P, .slice po pl pc] 30)).alloc (.cells zV 30)) := ((New.refl w).alloc _).alloc _
  have hcon := add_lay A (.slice ao al ac) act n _ (h.new hn0).seta
  have H := Lib.hid h
  obtain ⟨ok, hok⟩ : ∃ ok, ok = addB A act n := ⟨_, rfl⟩
  rw [← hok] at hcon
  have HOK := Lib.hid hok
  clear h hn0 hok
  unfold viwV
  simp only
  go_enter Try.func25, Try.ntmps25
  go_wp2_with fail
  refine hcon.mono ?_
  rintro e w1 ⟨ao1, al1, ac1, rfl, HS1, HN1⟩
  obtain ⟨k0, k1, hn1⟩ := start2 w _ w1 HN1.out
  obtain ⟨w2, hw2⟩ : ∃ w2, w2 = w1.alloc (.cells #[.int .i64 A, .slice ao1 al1 ac1] 28) := ⟨_, rfl⟩
  have hn2 : New w1 w2 := by rw [hw2]; exact (New.refl _).alloc _
  have k0' := hn2.bk k0
  have k1' := hn2.bk k1
  have k2' : Bk w2 w1.heap.size 28 #[.int .i64 A, .slice ao1 al1 ac1] := by rw [hw2]; exact Bk.made _ _ _
  have hz1 : w.heap.size + 1 < w1.heap.size := k1.lt
  unfold zV at k1'
  obtain ⟨⟨a0, a1, a2, a3, a4⟩, a5, a6, a7, a8, a9⟩ := k0'.five
  obtain ⟨⟨b0, b1, b2, b3, b4⟩, b5, b6, b7, b8, b9⟩ := k1'.five
  obtain ⟨c1, c2, c3, c4⟩ := k2'.two
  have X0 := Lib.hid (show w.heap.size ≤ w.heap.size ∧ ¬ IntB w2 w.heap.size from ⟨Nat.le_refl _, not_int k0' view_ne_int⟩)
  have X1 := Lib.hid (show w.heap.size ≤ w.heap.size + 1 ∧ ¬ IntB w2 (w.heap.size + 1) from ⟨by omega, not_int k1' view_ne_int⟩)
  have HN := Lib.hid (hn1.then hn2)
  have HN12 := Lib.hid hn2
  have K0 := Lib.hid k0'
  have K1 := Lib.hid k1'
  have HZ := Lib.hid hz1
  clear hcon k0 k1 hn1 hn2 k0' k1' k2'
  go_upto_region 2 with fail
  rw [← hw2]
  clear hw2
  have hstay : ∀ b : Bool, joinB ⟨self, A, P, act, pas⟩ n = false → b = false → ViwS w2 (joinV ⟨self, A, P, act, pas⟩ n) (.slice ao al ac) (.slice po pl pc) := fun b hj _ => by
    unfold joinV
    rw [if_neg (by rw [hj]; simp)]
    exact H.out.new HN.out
  have HST := Lib.hid hstay
  clear hstay
  cases ok with
  | false =>
    have HJ := Lib.hid (show joinB ⟨self, A, P, act, pas⟩ n = false by unfold joinB; simp only; rw [← HOK.out]; rfl)
    go_wp2_with fail
    rw [HJ.out]
    have hjv : joinV ⟨self, A, P, act, pas⟩ n = ⟨self, A, P, act, pas⟩ := by unfold joinV; rw [if_neg (by rw [HJ.out]; simp)]
    refine bodyPost_ret (v := .tuple #[viwV ⟨self, A, P, act, pas⟩ (.slice ao al ac) (.slice po pl pc), .bool false]) (by simp [results, Try.results25, go_sem, b0, b1, b2, b3, b4, viwV]) rfl ⟨_, _, by rw [hjv], ?_⟩
    refine viw_fin (w1 := w2) (HST.out false HJ.out rfl) HN.out ?_
    unfold OT
    repeat (refine Tch.setCell ?_ (fun _ => by first | exact X0.out | exact X1.out) _)
    exact Tch.refl _ _
  | true =>
    by_cases hns : n = self
    · have t1 : (n == self) = true := by simp [hns]
      have HJ := Lib.hid (show joinB ⟨self, A, P, act, pas⟩ n = false by unfold joinB; simp only; rw [← HOK.out, dec_ hns]; rfl)
      clear hns
      go_wp2_with fail
      rw [HJ.out]
      have hjv : joinV ⟨self, A, P, act, pas⟩ n = ⟨self, A, P, act, pas⟩ := by unfold joinV; rw [if_neg (by rw [HJ.out]; simp)]
      refine bodyPost_ret (v := .tuple #[viwV ⟨self, A, P, act, pas⟩ (.slice ao al ac) (.slice po pl pc), .bool false]) (by simp [results, Try.results25, go_sem, b0, b1, b2, b3, b4, viwV]) rfl ⟨_, _, by rw [hjv], ?_⟩
      refine viw_fin (w1 := w2) (HST.out false HJ.out rfl) HN.out ?_
      unfold OT
      repeat (refine Tch.setCell ?_ (fun _ => by first | exact X0.out | exact X1.out) _)
      exact Tch.refl _ _
    · have t1 : (n == self) = false := by simp [hns]
      have HJ := Lib.hid (show joinB ⟨self, A, P, act, pas⟩ n = true by unfold joinB; simp only; rw [← HOK.out, decn_ hns]; rfl)
      clear hns
      go_upto_region 5 with fail
      obtain ⟨w3, hw3⟩ : ∃ w3, w3 = (w2.setCell ⟨w.heap.size, 1, none⟩ (.int .i64 A)).setCell ⟨w.heap.size, 2, none⟩ (.slice ao1 al1 ac1) := ⟨_, rfl⟩
      have ht3 : OT w w2 w3 := by
        rw [hw3]
        exact ((Tch.refl _ w2).setCell (fun _ => X0.out) _).setCell (fun _ => X0.out) _
      have k1' : Bk w3 (w.heap.size + 1) 30 #[.int .i64 0, .int .i64 0, .slice none 0 0, .int .i64 0, .slice none 0 0] := by
        rw [hw3]
        exact viw_bk K1.out (((Tch.refl _ w2).setCell (fun _ => by show w.heap.size ≠ _; omega) _).setCell (fun _ => by show w.heap.size ≠ _; omega) _)
      have k0' : Bk w3 w.heap.size 30 #[.int .i64 self, .int .i64 A, .slice ao1 al1 ac1, .int .i64 P, .slice po pl pc] := by
        rw [hw3]
        exact (K0.out.store 1 _).store 2 _
      obtain ⟨⟨f0, f1, f2, f3, f4⟩, f5, f6, f7, f8, f9⟩ := k0'.five
      have hv3 : ViwS w3 ⟨self, A, P, addL A act n, pas⟩ (.slice ao1 al1 ac1) (.slice po pl pc) := ⟨ht3.slr (HS1.out.below HN12.out.below), ht3.slr ((H.out.new HN.out).pas), ⟨addL_good H.out.good.act n, H.out.good.pas⟩⟩
      have HF := Lib.hid (forget_ok ⟨self, A, P, addL A act n, pas⟩ _ _ n w3 hv3)
      have HN3 := Lib.hid (ht3.new HN.out)
      have K13 := Lib.hid k1'
      unfold viwV at HF
      simp only at HF
      rw [← hw3]
      clear hw3 ht3 k0' k1' hv3
      go_wp2_with fail
      refine HF.out.mono ?_
      rintro e w4 ⟨sa4, sp4, rfl, hs4, hn4⟩
      obtain ⟨⟨qo, ql, qc, rfl⟩, ro, rl, rc, rfl⟩ := hs4.slices
      have k4 := hn4.bk K13.out
      obtain ⟨⟨e0, e1, e2, e3, e4⟩, e5, e6, e7, e8, e9⟩ := k4.five
      have X4 := Lib.hid (show w.heap.size ≤ w.heap.size + 1 ∧ ¬ IntB w4 (w.heap.size + 1) from ⟨by omega, not_int k4 view_ne_int⟩)
      have HN4 := Lib.hid (HN3.out.then hn4)
      have HS4 := Lib.hid hs4
      clear k4 hs4 hn4 HF f0 f1 f2 f3 f4 f5 f6 f7 f8 f9 a0 a1 a2 a3 a4 a5 a6 a7 a8 a9 b0 b1 b2 b3 b4 b5 b6 b7 b8 b9 c1 c2 c3 c4
      unfold viwV
      simp only [forgetV]
      go_wp2_with fail
      rw [HJ.out]
      have hjv : joinV ⟨self, A, P, act, pas⟩ n = forgetV ⟨self, A, P, addL A act n, pas⟩ n := by unfold joinV forgetV; rw [if_pos HJ.out]
      refine bodyPost_ret (v := .tuple #[viwV (forgetV ⟨self, A, P, addL A act n, pas⟩ n) (.slice qo ql qc) (.slice ro rl rc), .bool true]) (by simp [results, Try.results25, go_sem, e0, e1, e2, e3, e4, viwV, forgetV]) rfl ⟨_, _, by rw [hjv], ?_⟩
      rw [hjv]
      refine viw_fin (w1 := w4) HS4.out HN4.out ?_
      unfold OT
      repeat (refine Tch.setCell ?_ (fun _ => by exact X4.out) _)
      exact Tch.refl _ _
end Go.Proofs.Ytdhafagihfdolaa
