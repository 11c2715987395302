/-
  Package message: Decode.
-/
import Derived.Test.YtebpdnmmcbianaaMsgRead3
import Derived.Test.YtebpdnmmcbianaaMsgValid
set_option linter.unusedVariables false
set_option linter.unusedSimpArgs false
set_option maxRecDepth 100000
namespace Go.Proofs.Ytebpdnmmcbianaa
open Go.RowKit

/-- The zero message. -/
def zeroC : Array Value := #[.int .i64 0, .int .i64 0, .int .i64 0, .bool false, .slice none 0 0, .slice none 0 0, .slice none 0 0]
def zeroM : MsgA := ⟨0, 0, 0, false, [], [], []⟩
def zeroV : MsgV := ⟨.slice none 0 0, .slice none 0 0, .slice none 0 0⟩
theorem zero_msg : zeroC = msgC zeroM zeroV := rfl
theorem zero_is (w : World) (S : Nat → Prop) : MsgIs w S zeroM zeroV := ⟨Slk.nil, Slk.nil, Slk.nil⟩

theorem dec_e {s : List UInt8} {er : Nat} (hl : ¬ 4096 < s.length) (h : pMsg s = .error er) : dec s = .error er := by simp only [dec, if_neg hl, h]
theorem dec_l {s r : List UInt8} {m : MsgA} (hl : ¬ 4096 < s.length) (h : pMsg s = .ok (m, r)) (hr : r ≠ []) : dec s = .error 3 := by simp only [dec, if_neg hl, h, if_pos hr]
theorem dec_y {s : List UInt8} {m : MsgA} (hl : ¬ 4096 < s.length) (h : pMsg s = .ok (m, [])) (hm : May m) : dec s = .ok m := by simp [dec, if_neg hl, h, hm]
theorem dec_n {s : List UInt8} {m : MsgA} (hl : ¬ 4096 < s.length) (h : pMsg s = .ok (m, [])) (hm : ¬ May m) : dec s = .error 4 := by simp [dec, if_neg hl, h, hm]
/-- How Decode ends. -/
def DecR (s : List UInt8) (w : World) (e : Ending) (w' : World) : Prop :=
  New w w' ∧ ((∃ m v, dec s = .ok m ∧ e = .returned (.tuple #[.agg (msgC m v), .int .i64 0]) ∧ MsgIs w' (fun b => w.heap.size ≤ b) m v) ∨
    (∃ er : Nat, dec s = .error er ∧ e = .returned (.tuple #[.agg zeroC, .int .i64 er])))
set_option maxHeartbeats 4000000 in
theorem decode_ok (s : List UInt8) (w : World) : Calls Try.prog 21 #[.string (str s)] w (DecR s w) := by
  have hsz := str_size s
  have hmf : ∀ (fn : Fn) (first cap : Array Value) (w : World), (Instr.makeFunc fn first cap).run Try.prog w = .ok (.func fn first cap) w := fun _ _ _ _ => rfl
  by_cases hl : 4096 < s.length
  · have hx : dec s = .error 3 := by simp [dec, hl]
    have HX := Lib.hid hx
    have hl2 : (4096 : Int) < ((str s).size : Int) := by omega
    clear hsz hl hx
    go_enter Try.func21, Try.ntmps21
    go_wp2_with fail
    exact bodyPost_ret (v := .tuple #[.agg zeroC, .int .i64 3]) (by simp [results, Try.results21, go_sem, zeroC]) rfl ⟨(New.refl w).alloc _, .inr ⟨3, HX.out, rfl⟩⟩
  · have hl2 : ¬ (4096 : Int) < ((str s).size : Int) := by omega
    have HL := Lib.hid hl
    have hF : ∀ (args : Array Value) (w : World), (callFunc 60 args).run Try.prog w = .ok (.enter 60 args) w := fun _ _ => by simp [go_sem]
    have HF := Lib.hid hF
    obtain ⟨w1, hw1⟩ : ∃ w1, w1 = (w.alloc (.cells zeroC 30)).alloc (.cells zeroC 30) := ⟨_, rfl⟩
    have hn : New w w1 := by rw [hw1]; exact ((New.refl w).alloc _).alloc _
    have hb : Bk w1 w.heap.size 30 zeroC := by rw [hw1]; exact (Bk.made w _ _).alloc _
    have hc : Bk w1 (w.heap.size + 1) 30 zeroC := by
      have := Bk.made (w.alloc (.cells zeroC 30)) 30 zeroC
      rw [hw1]
      simpa using this
    have hs1 : w1.heap.size = w.heap.size + 2 := by rw [hw1]; simp
    have HN := Lib.hid hn
    have HB := Lib.hid hb
    have HC := Lib.hid hc
    have HW1 := Lib.hid hw1
    clear hn hb hc hw1 hF hl hsz
    go_enter Try.func21, Try.ntmps21
    go_wp2_with fail
    have hwx := HW1.out
    simp only [zeroC] at hwx
    rw [← hwx]
    clear hwx
    refine (read_anyF s 60 #[.pointer (some ⟨w.heap.size + 1, 0, none⟩)] #[] (fun b => b = w.heap.size + 1)
      (fun l w2 => ∃ m v, pMsg s = .ok (m, l) ∧ Bk w2 (w.heap.size + 1) 30 (msgC m v) ∧ MsgIs w2 (fun b => w1.heap.size + 1 < b) m v) (fun en w2 => ∃ er : Nat, en = er ∧ pMsg s = .error er) (fun _ _ => False) w1 (fun b hb => by omega) HF.out ?_).mono ?_
    · intro W w2 hW hb2 hr2
      have hP2 := HC.out.tch (Tch.of_below hb2) (by omega)
      have hWl := Bk.lt hr2
      refine (mread_p W (w.heap.size + 1) s w2 hr2 hP2 (by omega)).mono ?_
      rintro e w3 ⟨ht, ⟨m, r, v, h1, rfl, h3, h4, h5⟩ | ⟨er, h1, h0, ⟨rfl, l, h2⟩ | ⟨rfl, h2⟩⟩⟩
      · exact ⟨ht, .inl ⟨r, rfl, h3, m, v, h1, h4, h5.more (fun b _ h => by omega)⟩⟩
      · exact ⟨ht, .inr (.inl ⟨er, l, by omega, rfl, h2, er, rfl, h1⟩)⟩
      · exact ⟨ht, .inr (.inr (.inl ⟨er, er, by omega, rfl, h2, er, rfl, h1⟩))⟩
    · rintro e w3 ⟨ht, w2, hs2, ht2, hcs⟩
      have hn3 : New w w3 := Tch.trans HN.out ht (fun b hb h => by omega)
      have hb3 := HB.out.tch ht (by omega)
      have HN3 := Lib.hid hn3
      have HB3 := Lib.hid hb3
      have f0 := hb3.frozen 0
      have f1 := hb3.frozen 1
      have f2 := hb3.frozen 2
      have f3 := hb3.frozen 3
      have f4 := hb3.frozen 4
      have f5 := hb3.frozen 5
      have f6 := hb3.frozen 6
      have b0 := hb3.cell 0
      have b1 := hb3.cell 1
      have b2 := hb3.cell 2
      have b3 := hb3.cell 3
      have b4 := hb3.cell 4
      have b5 := hb3.cell 5
      have b6 := hb3.cell 6
      simp [zeroC] at b0 b1 b2 b3 b4 b5 b6
      clear hn3 hb3 ht
      rcases hcs with ⟨rfl, m, v, hp, hb, hm⟩ | ⟨l, hl0, rfl, m, v, hp, hb, hm⟩ | ⟨er, her, rfl, er', rfl, hp⟩ | ⟨_, _, h⟩
      · have hb4 := hb.tch ht2 (by omega)
        have hm4 := hm.tch ht2 (fun b hb h => by omega)
        have hv := valid_ok m v (fun b => w.heap.size ≤ b) w3 (hm4.more (fun b _ h => by omega))
        have HP := Lib.hid hp
        obtain ⟨vn, vi, vr⟩ := v
        obtain ⟨an, cn, e1, _, _⟩ := hm.n.shape
        obtain ⟨ai, ci, e2, _, _⟩ := hm.i.shape
        obtain ⟨ar, cr, e3, _, _⟩ := hm.r.shape
        simp only at e1 e2 e3
        subst e1 e2 e3
        have HB4 := Lib.hid hb4
        have HM4 := Lib.hid (hm4.more (T := fun b => w.heap.size + 1 < b) (fun b _ h => by omega))
        have c0 := hb4.cell 0
        have c1 := hb4.cell 1
        have c2 := hb4.cell 2
        have c3 := hb4.cell 3
        have c4 := hb4.cell 4
        have c5 := hb4.cell 5
        have c6 := hb4.cell 6
        simp [msgC] at c0 c1 c2 c3 c4 c5 c6
        simp only [msgC] at hv
        have HV := Lib.hid hv
        clear hv hp hb hm hb4 hm4 ht2 hs2
        go_wp2_with fail
        refine HV.out.mono ?_
        rintro e w4 ⟨rfl, hn4⟩
        have hb5 := hn4.bk HB4.out
        have hb6 := hn4.bk HB3.out
        have HN4 := Lib.hid (HN3.out.then hn4)
        have HM5 := Lib.hid (hn4.msg HM4.out)
        clear c0 c1 c2 c3 c4 c5 c6 b0 b1 b2 b3 b4 b5 b6 f0 f1 f2 f3 f4 f5 f6
        have f0 := hb6.frozen 0
        have f1 := hb6.frozen 1
        have f2 := hb6.frozen 2
        have f3 := hb6.frozen 3
        have f4 := hb6.frozen 4
        have f5 := hb6.frozen 5
        have f6 := hb6.frozen 6
        have b0 := hb6.cell 0
        have b1 := hb6.cell 1
        have b2 := hb6.cell 2
        have b3 := hb6.cell 3
        have b4 := hb6.cell 4
        have b5 := hb6.cell 5
        have b6 := hb6.cell 6
        have c0 := hb5.cell 0
        have c1 := hb5.cell 1
        have c2 := hb5.cell 2
        have c3 := hb5.cell 3
        have c4 := hb5.cell 4
        have c5 := hb5.cell 5
        have c6 := hb5.cell 6
        simp [msgC] at c0 c1 c2 c3 c4 c5 c6
        simp [zeroC] at b0 b1 b2 b3 b4 b5 b6
        clear hb5 hb6 hn4
        by_cases hmay : May m
        · have HX := Lib.hid (dec_y HL.out HP.out hmay)
          rw [dec_ hmay]
          clear hmay
          go_wp2_with fail
          refine bodyPost_ret (v := .tuple #[.agg (msgC m ⟨.slice an m.nodes.length cn, .slice ai m.ids.length ci, .slice ar m.recs.length cr⟩), .int .i64 0]) (by simp [results, Try.results21, go_sem, msgC, b0, b1, b2, b3, b4, b5, b6]) rfl ⟨?_, .inl ⟨m, _, HX.out, rfl, ?_⟩⟩
          · exact ((((((((HN4.out : Tch _ _ _).setCell (fun h => by simp at h) _).setCell (fun h => by simp at h) _).setCell (fun h => by simp at h) _).setCell (fun h => by simp at h) _).setCell (fun h => by simp at h) _).setCell (fun h => by simp at h) _).setCell (fun h => by simp at h) _)
          · exact (HM5.out.tch ((((((((Tch.refl (fun b => b = w.heap.size) w4).setCell (fun _ => rfl) _).setCell (fun _ => rfl) _).setCell (fun _ => rfl) _).setCell (fun _ => rfl) _).setCell (fun _ => rfl) _).setCell (fun _ => rfl) _).setCell (fun _ => rfl) _) (fun b hs e => by omega)).more (fun b _ h => by omega)
        · have HX := Lib.hid (dec_n HL.out HP.out hmay)
          rw [decn_ hmay]
          clear hmay
          go_wp2_with fail
          refine bodyPost_ret (v := .tuple #[.agg zeroC, .int .i64 4]) (by simp [results, Try.results21, go_sem, zeroC, b0, b1, b2, b3, b4, b5, b6]) rfl ⟨?_, .inr ⟨4, HX.out, rfl⟩⟩
          exact ((((((((HN4.out : Tch _ _ _).setCell (fun h => by simp at h) _).setCell (fun h => by simp at h) _).setCell (fun h => by simp at h) _).setCell (fun h => by simp at h) _).setCell (fun h => by simp at h) _).setCell (fun h => by simp at h) _).setCell (fun h => by simp at h) _)
      · have HX := Lib.hid (dec_l HL.out hp hl0)
        clear hp hb hm ht2 hs2 hl0
        go_wp2_with fail
        refine bodyPost_ret (v := .tuple #[.agg zeroC, .int .i64 3]) (by simp [results, Try.results21, go_sem, zeroC, b0, b1, b2, b3, b4, b5, b6]) rfl ⟨?_, .inr ⟨3, HX.out, rfl⟩⟩
        exact ((((((((HN3.out : Tch _ _ _).setCell (fun h => by simp at h) _).setCell (fun h => by simp at h) _).setCell (fun h => by simp at h) _).setCell (fun h => by simp at h) _).setCell (fun h => by simp at h) _).setCell (fun h => by simp at h) _).setCell (fun h => by simp at h) _)
      · have HX := Lib.hid (dec_e HL.out hp)
        have hne : ((er' : Int) == 0) = false := bne_ her
        clear hp ht2 hs2 her
        go_wp2_with fail
        refine bodyPost_ret (v := .tuple #[.agg zeroC, .int .i64 er']) (by simp [results, Try.results21, go_sem, zeroC, b0, b1, b2, b3, b4, b5, b6]) rfl ⟨?_, .inr ⟨er', HX.out, rfl⟩⟩
        exact ((((((((HN3.out : Tch _ _ _).setCell (fun h => by simp at h) _).setCell (fun h => by simp at h) _).setCell (fun h => by simp at h) _).setCell (fun h => by simp at h) _).setCell (fun h => by simp at h) _).setCell (fun h => by simp at h) _).setCell (fun h => by simp at h) _)
      · exact h.elim
end Go.Proofs.Ytebpdnmmcbianaa
