/-
  Views: Leave, Evict.
-/
import Derived.Test.YtdhafagihfdolaaViwKnow
set_option linter.unusedVariables false
set_option linter.unusedSimpArgs false
set_option maxRecDepth 100000
namespace Go.Proofs.Ytdhafagihfdolaa
open Go.RowKit Go.Lib Go.Sort Go.Shelf

def ViwRDB (x : VA) (b : Bool) (ds : List Int) (dv : Value) (D : Option Nat) (g : Nat) (w : World) (e : Ending) (w' : World) : Prop :=
  ∃ sa sp, e = .returned (.tuple #[viwV x sa sp, .bool b]) ∧ ViwS w' x sa sp ∧ DrawP w' dv D g ds ∧ VT D w w'
def ViwRDN (x : VA) (n : Int) (b : Bool) (ds : List Int) (dv : Value) (D : Option Nat) (g : Nat) (w : World) (e : Ending) (w' : World) : Prop :=
  ∃ sa sp, e = .returned (.tuple #[viwV x sa sp, .int .i64 n, .bool b]) ∧ ViwS w' x sa sp ∧ DrawP w' dv D g ds ∧ VT D w w'
theorem knowV_gl {x : VA} {n : Int} {ds : List Int} (h : 0 < (knowV x n ds).2.length) : 0 < ds.length := by
  unfold knowV at h
  split at h
  · exact h
  · split at h
    · exact h
    · exact belowT_le ds _ h
theorem leaveV_gl {x : VA} {n : Int} {k : Bool} {ds : List Int} (h : 0 < (leaveV x n k ds).2.length) : 0 < ds.length := by
  unfold leaveV at h
  split at h
  · split at h
    · exact knowV_gl h
    · exact h
  · exact h
set_option maxHeartbeats 4000000 in
theorem leave_ok (x : VA) (sa sp : Value) (n : Int) (keep : Bool) (dv : Value) (D : Option Nat) (g : Nat) (ds : List Int) (w : World) (h : ViwS w x sa sp) (hd : DrawP w dv D g ds) :
    Calls Try.prog 21 #[viwV x sa sp, .int .i64 n, .bool keep, dv] w (ViwRDB (leaveV x n keep ds).1 (decide (n ∈ x.act)) (leaveV x n keep ds).2 dv D g w) := by
  obtain ⟨⟨ao, al, ac, rfl⟩, po, pl, pc, rfl⟩ := h.slices
  obtain ⟨self, A, P, act, pas⟩ := x
  have hn0 : New w ((w.alloc (.cells #[.int .i64 self, .int .i64 A, .slice ao al ac, .int .i64 P, .slice po pl pc] 30)).alloc (.cells zV 30)) := ((New.refl w).alloc _).alloc _
  have hcon := drop_lay A (.slice ao al ac) act n _ (h.new hn0).seta
  have H := Lib.hid h
  have HD := Lib.hid hd
  obtain ⟨ok, hok⟩ : ∃ ok, ok = act.contains n := ⟨_, rfl⟩
  rw [← hok] at hcon
  have HOK := Lib.hid (show ok = decide (n ∈ act) by rw [hok]; simp)
  clear h hd hn0 hok
  unfold viwV
  simp only
  rw [← HOK.out]
  go_enter Try.func21, Try.ntmps21
  go_wp2_with fail
  refine hcon.mono ?_
  rintro e w1 ⟨ao1, al1, ac1, rfl, HS1, HN1⟩
  obtain ⟨k0, k1, hn1⟩ := start2 w _ w1 HN1.out
  obtain ⟨w2, hw2⟩ : ∃ w2, w2 = w1.alloc (.cells #[.int .i64 A, .slice ao1 al1 ac1] 28) := ⟨_, rfl⟩
  have hn2 : New w1 w2 := by rw [hw2]; exact (New.refl _).alloc _
  have k0' := hn2.bk k0
  have k1' := hn2.bk k1
  have k2' : Bk w2 w1.heap.size 28 #[.int .i64 A, .slice ao1 al1 ac1] := by rw [hw2]; exact Bk.made _ _ _
  have hz1 : w.heap.size + 1 < w1.heap.size := k1.lt
  unfold zV at k1'
  obtain ⟨⟨a0, a1, a2, a3, a4⟩, a5, a6, a7, a8, a9⟩ := k0'.five
  obtain ⟨⟨b0, b1, b2, b3, b4⟩, b5, b6, b7, b8, b9⟩ := k1'.five
  obtain ⟨c1, c2, c3, c4⟩ := k2'.two
  have X0 := Lib.hid (show w.heap.size ≤ w.heap.size ∧ ¬ IntB w2 w.heap.size from ⟨Nat.le_refl _, not_int k0' view_ne_int⟩)
  have X1 := Lib.hid (show w.heap.size ≤ w.heap.size + 1 ∧ ¬ IntB w2 (w.heap.size + 1) from ⟨by omega, not_int k1' view_ne_int⟩)
  have HN := Lib.hid (hn1.then hn2)
  have HN12 := Lib.hid hn2
  have K0 := Lib.hid k0'
  have K1 := Lib.hid k1'
  have HZ := Lib.hid hz1
  clear hcon k0 k1 hn1 hn2 k0' k1' k2'
  go_upto_region 2 with fail
  rw [← hw2]
  clear hw2
  cases ok with
  | false =>
    have hjv : leaveV ⟨self, A, P, act, pas⟩ n keep ds = (⟨self, A, P, act, pas⟩, ds) := by unfold leaveV; rw [if_neg (of_decide_eq_false HOK.out.symm)]
    have HJ := Lib.hid hjv
    clear hjv
    go_wp2_with fail
    rw [HJ.out]
    refine bodyPost_ret (v := .tuple #[viwV ⟨self, A, P, act, pas⟩ (.slice ao al ac) (.slice po pl pc), .bool false]) (by simp [results, Try.results21, go_sem, b0, b1, b2, b3, b4, viwV]) rfl ⟨_, _, rfl, ?_⟩
    refine viw_find (H.out.new HN.out) (HD.out.new HN.out) HD.out (VT.of HN.out) HD.out.gl ?_
    unfold OT
    repeat (refine Tch.setCell ?_ (fun _ => by first | exact X0.out | exact X1.out) _)
    exact Tch.refl _ _
  | true =>
    have HIN := Lib.hid (of_decide_eq_true HOK.out.symm)
    go_upto_region 5 with fail
    obtain ⟨w3, hw3⟩ : ∃ w3, w3 = (w2.setCell ⟨w.heap.size, 1, none⟩ (.int .i64 A)).setCell ⟨w.heap.size, 2, none⟩ (.slice ao1 al1 ac1) := ⟨_, rfl⟩
    have ht3 : OT w w2 w3 := by
      rw [hw3]
      exact ((Tch.refl _ w2).setCell (fun _ => X0.out) _).setCell (fun _ => X0.out) _
    have k1' : Bk w3 (w.heap.size + 1) 30 #[.int .i64 0, .int .i64 0, .slice none 0 0, .int .i64 0, .slice none 0 0] := by
      rw [hw3]
      exact viw_bk K1.out (((Tch.refl _ w2).setCell (fun _ => by show w.heap.size ≠ _; omega) _).setCell (fun _ => by show w.heap.size ≠ _; omega) _)
    have k0' : Bk w3 w.heap.size 30 #[.int .i64 self, .int .i64 A, .slice ao1 al1 ac1, .int .i64 P, .slice po pl pc] := by
      rw [hw3]
      exact (K0.out.store 1 _).store 2 _
    have HS3 := Lib.hid (show ViwS w3 ⟨self, A, P, outL act n, pas⟩ (.slice ao1 al1 ac1) (.slice po pl pc) from ⟨ht3.slr (HS1.out.below HN12.out.below), ht3.slr ((H.out.new HN.out).pas), ⟨H.out.good.act.out n, H.out.good.pas⟩⟩)
    have HN3 := Lib.hid (ht3.new HN.out)
    have K03 := Lib.hid k0'
    have K13 := Lib.hid k1'
    rw [← hw3]
    clear hw3 ht3 k0' k1' a0 a1 a2 a3 a4 a5 a6 a7 a8 a9 b0 b1 b2 b3 b4 b5 b6 b7 b8 b9 c1 c2 c3 c4 X0 X1
    cases keep with
    | false =>
      have hjv : leaveV ⟨self, A, P, act, pas⟩ n false ds = (⟨self, A, P, outL act n, pas⟩, ds) := by unfold leaveV; rw [if_pos HIN.out, if_neg (by simp)]
      have HJ := Lib.hid hjv
      clear hjv
      obtain ⟨⟨a0, a1, a2, a3, a4⟩, a5, a6, a7, a8, a9⟩ := K03.out.five
      obtain ⟨⟨b0, b1, b2, b3, b4⟩, b5, b6, b7, b8, b9⟩ := K13.out.five
      have X1 := Lib.hid (show w.heap.size ≤ w.heap.size + 1 ∧ ¬ IntB w3 (w.heap.size + 1) from ⟨by omega, not_int K13.out view_ne_int⟩)
      go_wp2_with fail
      rw [HJ.out]
      refine bodyPost_ret (v := .tuple #[viwV ⟨self, A, P, outL act n, pas⟩ (.slice ao1 al1 ac1) (.slice po pl pc), .bool true]) (by simp [results, Try.results21, go_sem, b0, b1, b2, b3, b4, viwV]) rfl ⟨_, _, rfl, ?_⟩
      refine viw_find HS3.out (HD.out.new HN3.out) HD.out (VT.of HN3.out) HD.out.gl ?_
      unfold OT
      repeat (refine Tch.setCell ?_ (fun _ => by exact X1.out) _)
      exact Tch.refl _ _
    | true =>
      have HE := Lib.hid (show leaveV ⟨self, A, P, act, pas⟩ n true ds = knowV ⟨self, A, P, outL act n, pas⟩ n ds by unfold leaveV; rw [if_pos HIN.out, if_pos rfl])
      have HKN := Lib.hid (know_ok ⟨self, A, P, outL act n, pas⟩ _ _ n dv D g ds w3 HS3.out (HD.out.new HN3.out))
      have HGL := Lib.hid (fun e => HD.out.gl (knowV_gl (x := ⟨self, A, P, outL act n, pas⟩) (n := n) (ds := ds) e))
      have HGO := Lib.hid (knowV_good (v := ⟨self, A, P, outL act n, pas⟩) ⟨H.out.good.act.out n, H.out.good.pas⟩ n ds)
      obtain ⟨⟨x2, d2⟩, hx2⟩ : ∃ q, q = knowV ⟨self, A, P, outL act n, pas⟩ n ds := ⟨_, rfl⟩
      rw [← hx2] at HKN HGL HGO HE
      simp only at HKN HGL HGO HE
      have HNE := Lib.hid (fun (b : Nat) (t : TypeId) (cs : Array Value) (hb : Bk w3 b t cs) (ht : t ≠ 141) => (HD.out.new HN3.out).ne hb ht)
      clear hx2
      unfold viwV at HKN
      simp only at HKN
      obtain ⟨⟨a0, a1, a2, a3, a4⟩, a5, a6, a7, a8, a9⟩ := K03.out.five
      go_wp2_with fail
      refine HKN.out.mono ?_
      rintro e w4 ⟨sa4, sp4, rfl, hs4, hd4, hv4⟩
      obtain ⟨⟨qo, ql, qc, rfl⟩, ro, rl, rc, rfl⟩ := hs4.slices
      have K04 := Lib.hid (hv4.bk K03.out (HNE.out _ _ _ K03.out set_ne_draw))
      have K14 := Lib.hid (hv4.bk K13.out (HNE.out _ _ _ K13.out set_ne_draw))
      have HS4 := Lib.hid hs4
      have HD4 := Lib.hid hd4
      have HV4 := Lib.hid ((VT.of HN3.out).then hv4)
      clear hs4 hd4 hv4 HKN HNE K03 K13 HS3 HN3 a0 a1 a2 a3 a4 a5 a6 a7 a8 a9
      obtain ⟨self2, A2, P2, act2, pas2⟩ := x2
      obtain ⟨⟨a0, a1, a2, a3, a4⟩, a5, a6, a7, a8, a9⟩ := K04.out.five
      obtain ⟨⟨b0, b1, b2, b3, b4⟩, b5, b6, b7, b8, b9⟩ := K14.out.five
      have X0 := Lib.hid (show w.heap.size ≤ w.heap.size ∧ ¬ IntB w4 w.heap.size from ⟨Nat.le_refl _, not_int K04.out view_ne_int⟩)
      have X1 := Lib.hid (show w.heap.size ≤ w.heap.size + 1 ∧ ¬ IntB w4 (w.heap.size + 1) from ⟨by omega, not_int K14.out view_ne_int⟩)
      unfold viwV
      simp only
      go_wp2_with fail
      rw [HE.out]
      refine bodyPost_ret (v := .tuple #[viwV ⟨self2, A2, P2, act2, pas2⟩ (.slice qo ql qc) (.slice ro rl rc), .bool true]) (by simp [results, Try.results21, go_sem, b0, b1, b2, b3, b4, viwV]) rfl ⟨_, _, rfl, ?_⟩
      refine viw_find HS4.out HD4.out HD.out HV4.out HGL.out ?_
      unfold OT
      repeat (refine Tch.setCell ?_ (fun _ => by first | exact X0.out | exact X1.out) _)
      exact Tch.refl _ _
end Go.Proofs.Ytdhafagihfdolaa
