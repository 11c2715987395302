/-
  Views: Evict.
-/
import Derived.Test.YtdhafagihfdolaaViwLeave
set_option linter.unusedVariables false
set_option linter.unusedSimpArgs false
set_option maxRecDepth 100000
namespace Go.Proofs.Ytdhafagihfdolaa
open Go.RowKit Go.Lib Go.Sort Go.Shelf

theorem evictV_gl {x : VA} {ds : List Int} (h : 0 < (evictV x ds).2.length) : 0 < ds.length := by
  unfold evictV at h
  split at h
  · exact h
  · exact belowT_le ds _ (leaveV_gl h)
set_option maxHeartbeats 4000000 in
theorem evict_ok (x : VA) (sa sp : Value) (dv : Value) (D : Option Nat) (g : Nat) (ds : List Int) (w : World) (h : ViwS w x sa sp) (hd : DrawP w dv D g ds) :
    Calls Try.prog 19 #[viwV x sa sp, dv] w (ViwRDN (evictV x ds).1 (evictN x ds) (!decide (x.act = [])) (evictV x ds).2 dv D g w) := by
  obtain ⟨⟨ao, al, ac, rfl⟩, po, pl, pc, rfl⟩ := h.slices
  obtain ⟨self, A, P, act, pas⟩ := x
  have hn0 : New w ((w.alloc (.cells #[.int .i64 self, .int .i64 A, .slice ao al ac, .int .i64 P, .slice po pl pc] 30)).alloc (.cells zV 30)) := ((New.refl w).alloc _).alloc _
  have hcon := all_lay A (.slice ao al ac) act _ (h.new hn0).seta
  have H := Lib.hid h
  have HD := Lib.hid hd
  clear h hd hn0
  unfold viwV
  simp only
  go_enter Try.func19, Try.ntmps19
  go_wp2_with fail
  refine hcon.mono ?_
  rintro e w1 ⟨lo, lc, rfl, HS1, HN1⟩
  obtain ⟨k0, k1, hn1⟩ := start2 w _ w1 HN1.out
  unfold zV at k1
  have HN := Lib.hid hn1
  have K0 := Lib.hid k0
  have K1 := Lib.hid k1
  clear hcon k0 k1 hn1
  by_cases hemp : act = []
  · obtain ⟨⟨a0, a1, a2, a3, a4⟩, a5, a6, a7, a8, a9⟩ := K0.out.five
    obtain ⟨⟨b0, b1, b2, b3, b4⟩, b5, b6, b7, b8, b9⟩ := K1.out.five
    have X1 := Lib.hid (show w.heap.size ≤ w.heap.size + 1 ∧ ¬ IntB w1 (w.heap.size + 1) from ⟨by omega, not_int K1.out view_ne_int⟩)
    have HE := Lib.hid (show evictV ⟨self, A, P, act, pas⟩ ds = (⟨self, A, P, act, pas⟩, ds) ∧ evictN ⟨self, A, P, act, pas⟩ ds = 0 ∧ (!decide (act = [])) = false by
      unfold evictV evictN
      rw [if_pos hemp, if_pos hemp, dec_ hemp]
      exact ⟨rfl, rfl, rfl⟩)
    have hno := none_lay dv lo lc w1
    have hl0 : act.length = 0 := by rw [hemp]; rfl
    clear hemp
    rw [hl0]
    clear hl0
    go_wp2_with fail
    refine hno.mono ?_
    rintro e w2 ⟨rfl, rfl⟩
    go_wp2_with fail
    rw [HE.out.1, HE.out.2.1, HE.out.2.2]
    refine bodyPost_ret (v := .tuple #[viwV ⟨self, A, P, act, pas⟩ (.slice ao al ac) (.slice po pl pc), .int .i64 0, .bool false]) (by simp [results, Try.results19, go_sem, b0, b1, b2, b3, b4, viwV]) rfl ⟨_, _, rfl, ?_⟩
    refine viw_find (H.out.new HN.out) (HD.out.new HN.out) HD.out (VT.of HN.out) HD.out.gl ?_
    unfold OT
    repeat (refine Tch.setCell ?_ (fun _ => by exact X1.out) _)
    exact Tch.refl _ _
  · have hone := one_lay dv D g ds (.slice lo act.length lc) act w1 (HD.out.new HN.out) HS1.out hemp
    have HE := Lib.hid (show evictV ⟨self, A, P, act, pas⟩ ds = leaveV ⟨self, A, P, act, pas⟩ (pick act ds) true (belowT ds act.length) ∧ evictN ⟨self, A, P, act, pas⟩ ds = pick act ds ∧ (!decide (act = [])) = true by
      unfold evictV evictN
      rw [if_neg hemp, if_neg hemp, decn_ hemp]
      exact ⟨rfl, rfl, rfl⟩)
    have HIN := Lib.hid (pick_mem hemp ds)
    obtain ⟨y, hy⟩ : ∃ y, y = pick act ds := ⟨_, rfl⟩
    rw [← hy] at hone HE HIN
    obtain ⟨d2, hd2⟩ : ∃ d2, d2 = belowT ds act.length := ⟨_, rfl⟩
    have HGL := Lib.hid (show 0 < d2.length → g < w.heap.size from fun e => HD.out.gl (belowT_le ds _ (by rw [← hd2]; exact e)))
    rw [← hd2] at hone HE
    clear hemp hy hd2
    obtain ⟨⟨a0, a1, a2, a3, a4⟩, a5, a6, a7, a8, a9⟩ := K0.out.five
    go_wp2_with fail
    refine hone.mono ?_
    rintro e w4 ⟨rfl, hd4, hv4⟩
    have hne : ∀ {b : Nat} {t : TypeId} {cs : Array Value}, Bk w1 b t cs → t ≠ 141 → some b ≠ D := fun hb ht => (HD.out.new HN.out).ne hb ht
    have K04 := Lib.hid (hv4.out.bk K0.out (hne K0.out set_ne_draw))
    have K14 := Lib.hid (hv4.out.bk K1.out (hne K1.out set_ne_draw))
    have HD4 := Lib.hid hd4.out
    have HV4 := Lib.hid ((VT.of HN.out).then hv4.out)
    have HS4 := Lib.hid ((HD.out.new HN.out).viw hv4.out (H.out.new HN.out))
    have HF := Lib.hid (leave_ok ⟨self, A, P, act, pas⟩ _ _ y true dv D g d2 w4 HS4.out HD4.out)
    have HGL2 := Lib.hid (fun e => HGL.out (leaveV_gl (x := ⟨self, A, P, act, pas⟩) (n := y) (k := true) (ds := d2) e))
    obtain ⟨⟨x2, d3⟩, hx2⟩ : ∃ q, q = leaveV ⟨self, A, P, act, pas⟩ y true d2 := ⟨_, rfl⟩
    rw [← hx2] at HF HGL2 HE
    rw [dec_ HIN.out] at HF
    simp only at HF HGL2 HE
    unfold viwV at HF
    simp only at HF
    clear hone hd4 hv4 hne K0 K1 HN HS1 hx2 a0 a1 a2 a3 a4 a5 a6 a7 a8 a9
    obtain ⟨⟨a0, a1, a2, a3, a4⟩, a5, a6, a7, a8, a9⟩ := K04.out.five
    go_wp2_with fail
    refine HF.out.mono ?_
    rintro e w5 ⟨sa5, sp5, rfl, hs5, hd5, hv5⟩
    obtain ⟨⟨qo, ql, qc, rfl⟩, ro, rl, rc, rfl⟩ := hs5.slices
    have hne : ∀ {b : Nat} {t : TypeId} {cs : Array Value}, Bk w4 b t cs → t ≠ 141 → some b ≠ D := fun hb ht => HD4.out.ne hb ht
    have K05 := Lib.hid (hv5.bk K04.out (hne K04.out set_ne_draw))
    have K15 := Lib.hid (hv5.bk K14.out (hne K14.out set_ne_draw))
    have HS5 := Lib.hid hs5
    have HD5 := Lib.hid hd5
    have HV5 := Lib.hid (HV4.out.then hv5)
    clear HF hs5 hd5 hv5 hne K04 K14 HS4 HD4 HV4 a0 a1 a2 a3 a4 a5 a6 a7 a8 a9
    obtain ⟨self2, A2, P2, act2, pas2⟩ := x2
    obtain ⟨⟨a0, a1, a2, a3, a4⟩, a5, a6, a7, a8, a9⟩ := K05.out.five
    obtain ⟨⟨b0, b1, b2, b3, b4⟩, b5, b6, b7, b8, b9⟩ := K15.out.five
    have X0 := Lib.hid (show w.heap.size ≤ w.heap.size ∧ ¬ IntB w5 w.heap.size from ⟨Nat.le_refl _, not_int K05.out view_ne_int⟩)
    have X1 := Lib.hid (show w.heap.size ≤ w.heap.size + 1 ∧ ¬ IntB w5 (w.heap.size + 1) from ⟨by omega, not_int K15.out view_ne_int⟩)
    unfold viwV
    simp only
    go_wp2_with fail
    rw [HE.out.1, HE.out.2.1, HE.out.2.2]
    refine bodyPost_ret (v := .tuple #[viwV ⟨self2, A2, P2, act2, pas2⟩ (.slice qo ql qc) (.slice ro rl rc), .int .i64 y, .bool true]) (by simp [results, Try.results19, go_sem, b0, b1, b2, b3, b4, viwV]) rfl ⟨_, _, rfl, ?_⟩
    refine viw_find HS5.out HD5.out HD.out HV5.out HGL2.out ?_
    unfold OT
    repeat (refine Tch.setCell ?_ (fun _ => by first | exact X0.out | exact X1.out) _)
    exact Tch.refl _ _
end Go.Proofs.Ytdhafagihfdolaa
