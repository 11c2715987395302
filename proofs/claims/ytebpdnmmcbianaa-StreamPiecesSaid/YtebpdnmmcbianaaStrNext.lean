/-
  Package stream: next.
-/
import Derived.Test.YtebpdnmmcbianaaStrSpl
set_option linter.unusedVariables false
set_option linter.unusedSimpArgs false
set_option maxRecDepth 100000
namespace Go.Proofs.Ytebpdnmmcbianaa
open Go.RowKit

/-- How next ends. -/
def NextR (P : Nat) (h : List UInt8) (w : World) (e : Ending) (w' : World) : Prop :=
  Tch (· = P) w w' ∧ SpIs w' P (settle h).1 ∧
    ((e = .returned (.tuple #[.agg zeroC, .bool false]) ∧ (settle h).2 = []) ∨
      ∃ m v, e = .returned (.tuple #[.agg (msgC m v), .bool true]) ∧ (settle h).2 = [m] ∧ MsgIs w' (fun b => w.heap.size ≤ b) m v)
theorem New.since (P : Nat) {w w' : World} (h : New w w') : Tch (· = P) w w' := Tch.more h fun b hb hs => by omega
theorem SpIs.new {w w' : World} {P : Nat} {st : St} (h : SpIs w P st) (k : New w w') : SpIs w' P st := h.tch k (by have := h.lt; omega)

set_option maxHeartbeats 2000000 in
theorem spnext_ok (P : Nat) (h : List UInt8) (w : World) (hsp : SpIs w P ⟨h, 0⟩) :
    Calls Try.prog 55 #[.pointer (some ⟨P, 0, none⟩)] w (NextR P h w) := by
  obtain ⟨w1, hw1⟩ : ∃ w1, w1 = w.alloc (.cells zeroC 30) := ⟨_, rfl⟩
  have hn1 : New w w1 := by rw [hw1]; exact (New.refl w).alloc _
  have hb1 : Bk w1 w.heap.size 30 zeroC := by rw [hw1]; exact Bk.made w _ _
  have hs1 : w1.heap.size = w.heap.size + 1 := by rw [hw1]; simp
  have hlP := hsp.lt
  have hend := spend_ok P ⟨h, 0⟩ w1 (hsp.new hn1)
  have HSP := Lib.hid (hsp.new hn1)
  have HEND := Lib.hid hend
  have HN1 := Lib.hid hn1
  have HB1 := Lib.hid hb1
  have HW1 := Lib.hid hw1
  obtain ⟨en, hen⟩ : ∃ en, en = endOf h := ⟨_, rfl⟩
  have HEN := Lib.hid hen
  have hen2 : 2 ≤ en := by rw [hen]; unfold endOf; split <;> omega
  clear hend hn1 hb1 hw1 hsp hen
  go_enter Try.func55, Try.ntmps55
  go_wp2_with fail
  have hwx := HW1.out
  simp only [zeroC] at hwx
  rw [← hwx]
  clear hwx HW1
  refine HEND.out.mono ?_
  rintro e w2 ⟨rfl, hn2⟩
  simp only
  rw [← HEN.out]
  have HSP2 := Lib.hid (HSP.out.new hn2)
  have HN2 := Lib.hid (HN1.out.then hn2)
  have hb2 := hn2.bk HB1.out
  have HB2 := Lib.hid hb2
  have hs2 := hn2.size
  obtain ⟨cs, hbs, hcs⟩ := HSP2.out
  have p1 := hbs.cell 4098
  rw [hcs.have_] at p1
  simp only at p1
  have hlen := hcs.len
  have HBS := Lib.hid hbs
  have HCS := Lib.hid hcs
  have f0 := hb2.frozen 0
  have b0 := hb2.cell 0
  have f1 := hb2.frozen 1
  have b1 := hb2.cell 1
  have f2 := hb2.frozen 2
  have b2 := hb2.cell 2
  have f3 := hb2.frozen 3
  have b3 := hb2.cell 3
  have f4 := hb2.frozen 4
  have b4 := hb2.cell 4
  have f5 := hb2.frozen 5
  have b5 := hb2.cell 5
  have f6 := hb2.frozen 6
  have b6 := hb2.cell 6
  simp [zeroC] at b0 b1 b2 b3 b4 b5 b6
  clear hn2 HEND HSP HN1 HB1 hb2 hbs hcs
  by_cases h4 : 4098 < en
  · have HS := Lib.hid (show settle h = (⟨[], 3⟩, []) by unfold settle; rw [← HEN.out, if_pos h4])
    have h4i : (4098 : Int) < (en : Int) := by omega
    have hfl := spfail_ok P 3 ⟨h, 0⟩ w2 HSP2.out
    have HFL := Lib.hid hfl
    clear hfl h4
    go_wp2_with fail
    refine HFL.out.mono ?_
    rintro e w3 ⟨rfl, hsp3, ht3⟩
    have HSP3 := Lib.hid hsp3
    have HT3 := Lib.hid ((HN2.out.since P).then ht3)
    have hb3 := HB2.out.tch ht3 (by omega)
    clear b0 b1 b2 b3 b4 b5 b6 f0 f1 f2 f3 f4 f5 f6
    have f0 := hb3.frozen 0
    have b0 := hb3.cell 0
    have f1 := hb3.frozen 1
    have b1 := hb3.cell 1
    have f2 := hb3.frozen 2
    have b2 := hb3.cell 2
    have f3 := hb3.frozen 3
    have b3 := hb3.cell 3
    have f4 := hb3.frozen 4
    have b4 := hb3.cell 4
    have f5 := hb3.frozen 5
    have b5 := hb3.cell 5
    have f6 := hb3.frozen 6
    have b6 := hb3.cell 6
    simp [zeroC] at b0 b1 b2 b3 b4 b5 b6
    clear hsp3 ht3 hb3
    go_wp2_with fail
    refine bodyPost_ret (v := .tuple #[.agg zeroC, .bool false]) (by simp [results, Try.results55, go_sem, zeroC, b0, b1, b2, b3, b4, b5, b6]) rfl ⟨?_, ?_, .inl ⟨rfl, by rw [HS.out]⟩⟩
    · exact (((((((((HT3.out : Tch _ _ _)).setCell (fun h => by simp at h) _).setCell (fun h => by simp at h) _).setCell (fun h => by simp at h) _).setCell (fun h => by simp at h) _).setCell (fun h => by simp at h) _).setCell (fun h => by simp at h) _).setCell (fun h => by simp at h) _)
    · rw [HS.out]
      exact HSP3.out.tch (((((((((Tch.refl (fun b => b = w.heap.size) w3)).setCell (fun _ => rfl) _).setCell (fun _ => rfl) _).setCell (fun _ => rfl) _).setCell (fun _ => rfl) _).setCell (fun _ => rfl) _).setCell (fun _ => rfl) _).setCell (fun _ => rfl) _) (by omega)
  · have h4i : ¬ (4098 : Int) < (en : Int) := by omega
    by_cases hh : h.length < en
    · have HS := Lib.hid (show settle h = (⟨h, 0⟩, []) by unfold settle; rw [← HEN.out, if_neg h4, if_pos hh])
      have hhi : (h.length : Int) < (en : Int) := by omega
      clear h4 hh
      go_wp2_with fail
      refine bodyPost_ret (v := .tuple #[.agg zeroC, .bool false]) (by simp [results, Try.results55, go_sem, zeroC, b0, b1, b2, b3, b4, b5, b6]) rfl ⟨?_, ?_, .inl ⟨rfl, by rw [HS.out]⟩⟩
      · exact (((((((((HN2.out.since P)).setCell (fun h => by simp at h) _).setCell (fun h => by simp at h) _).setCell (fun h => by simp at h) _).setCell (fun h => by simp at h) _).setCell (fun h => by simp at h) _).setCell (fun h => by simp at h) _).setCell (fun h => by simp at h) _)
      · rw [HS.out]
        exact HSP2.out.tch (((((((((Tch.refl (fun b => b = w.heap.size) w2)).setCell (fun _ => rfl) _).setCell (fun _ => rfl) _).setCell (fun _ => rfl) _).setCell (fun _ => rfl) _).setCell (fun _ => rfl) _).setCell (fun _ => rfl) _).setCell (fun _ => rfl) _) (by omega)
    · have hhi : ¬ (h.length : Int) < (en : Int) := by omega
      obtain ⟨t, ht⟩ : ∃ t, t = (h.take en).drop 2 := ⟨_, rfl⟩
      have htl : t.length = en - 2 := by rw [ht, List.length_drop, List.length_take]; omega
      have hcv : ∀ cap, (convert 23 9 (.slice (some ⟨P, 2, none⟩) (en - 2) cap)).run Try.prog w2 = .ok (.string (str t)) w2 := by
        intro cap
        have := run_convert_bytes_back (P := Try.prog) w2 23 9 5 ⟨P, 2, none⟩ cap t Try.underlying23 Try.underlying5 Try.underlying9 (fun j hj => by
          rw [Addr.add_lit, HBS.out.cell]
          refine HCS.out.byte _ _ ?_
          rw [← List.getElem?_eq_getElem hj, ht, List.getElem?_drop, List.getElem?_take, if_pos (by omega)])
        rw [htl] at this
        exact this
      have HDE := Lib.hid (decode_ok t w2)
      have HSo := Lib.hid (show ∀ m, dec t = .ok m → settle h = (⟨[], 0⟩, [m]) from fun m hm => by unfold settle; rw [← HEN.out, if_neg h4, if_neg hh, ← ht, hm])
      have HSe := Lib.hid (show ∀ e, dec t = .error e → settle h = (⟨[], e⟩, []) from fun e hm => by unfold settle; rw [← HEN.out, if_neg h4, if_neg hh, ← ht, hm])
      have g1 : (2 : Int) ≤ (en : Int) := by omega
      have g2 : (en : Int) ≤ 4098 := by omega
      clear h4 hh ht htl
      go_wp2_with fail
      refine HDE.out.mono ?_
      rintro e w3 ⟨hn3, ⟨m, v, hd, rfl, hm⟩ | ⟨er, hd, rfl⟩⟩
      · have HS := Lib.hid (HSo.out m hd)
        obtain ⟨vn, vi, vr⟩ := v
        obtain ⟨an, cn, e1, _, _⟩ := hm.n.shape
        obtain ⟨ai, ci, e2, _, _⟩ := hm.i.shape
        obtain ⟨ar, cr, e3, _, _⟩ := hm.r.shape
        simp only at e1 e2 e3
        subst e1 e2 e3
        have hbs3 := hn3.bk HBS.out
        have hb3 := hn3.bk HB2.out
        have HBS3 := Lib.hid hbs3
        have HN3 := Lib.hid (HN2.out.then hn3)
        have HM := Lib.hid (hm.more (T := fun b => w1.heap.size ≤ b) (fun b _ h => by omega))
        have hs3 := hn3.size
        have q1 := hbs3.cell 4098
        have f := hbs3.frozen 4098
        rw [HCS.out.have_] at q1
        clear b0 b1 b2 b3 b4 b5 b6 f0 f1 f2 f3 f4 f5 f6 p1
        have f0 := hb3.frozen 0
        have b0 := hb3.cell 0
        have f1 := hb3.frozen 1
        have b1 := hb3.cell 1
        have f2 := hb3.frozen 2
        have b2 := hb3.cell 2
        have f3 := hb3.frozen 3
        have b3 := hb3.cell 3
        have f4 := hb3.frozen 4
        have b4 := hb3.cell 4
        have f5 := hb3.frozen 5
        have b5 := hb3.cell 5
        have f6 := hb3.frozen 6
        have b6 := hb3.cell 6
        simp [zeroC] at b0 b1 b2 b3 b4 b5 b6
        clear hd hm hn3 hb3 hbs3 hcv HDE HSo HSe
        have hPM : P ≠ w3.heap.size := by omega
        have hPM2 : w3.heap.size ≠ P := by omega
        have hPB : w.heap.size ≠ P := by omega
        have hPB2 : P ≠ w.heap.size := by omega
        have hBM : w.heap.size ≠ w3.heap.size := by omega
        have hBM2 : w3.heap.size ≠ w.heap.size := by omega
        have hPl : P < w3.heap.size := by omega
        have hBl : w.heap.size < w3.heap.size := by omega
        simp only [msgC]
        go_wp2_with fail
        refine bodyPost_ret (v := .tuple #[.agg (msgC m ⟨.slice an m.nodes.length cn, .slice ai m.ids.length ci, .slice ar m.recs.length cr⟩), .bool true]) (by simp [results, Try.results55, go_sem, msgC, b0, b1, b2, b3, b4, b5, b6, hPM, hPM2, hPB, hPB2, hBM, hBM2, hPl, hBl]) rfl ⟨?_, ?_, .inr ⟨m, _, rfl, by rw [HS.out], ?_⟩⟩
        · exact (((((((((((HN3.out.since P).setCell (fun _ => rfl) _)).setCell (fun h => by simp at h) _).setCell (fun h => by simp at h) _).setCell (fun h => by simp at h) _).setCell (fun h => by simp at h) _).setCell (fun h => by simp at h) _).setCell (fun h => by simp at h) _).setCell (fun h => by simp at h) _)).alloc _
        · rw [HS.out]
          exact SpIs.tch (w := w3.setCell ⟨P, 4098, none⟩ (.int .i64 0)) ⟨_, HBS3.out.store 4098 _, HCS.out.cleared⟩ (((((((((((Tch.refl (fun b => b = w.heap.size) _)).setCell (fun _ => rfl) _).setCell (fun _ => rfl) _).setCell (fun _ => rfl) _).setCell (fun _ => rfl) _).setCell (fun _ => rfl) _).setCell (fun _ => rfl) _).setCell (fun _ => rfl) _)).alloc _) (by omega)
        · exact (HM.out.tch ((((((((((((Tch.refl (fun b => b = P ∨ b = w.heap.size) w3).setCell (fun _ => .inl rfl) _)).setCell (fun _ => .inr rfl) _).setCell (fun _ => .inr rfl) _).setCell (fun _ => .inr rfl) _).setCell (fun _ => .inr rfl) _).setCell (fun _ => .inr rfl) _).setCell (fun _ => .inr rfl) _).setCell (fun _ => .inr rfl) _)).alloc _) (fun b hs e => by omega)).more (fun b _ h => by omega)
      · have HS := Lib.hid (HSe.out er hd)
        have hne : ((er : Int) != 0) = true := by have := dec_err hd; rw [bne_iff_ne]; omega
        obtain ⟨w4, hw4⟩ : ∃ w4, w4 = w3.alloc (.cells zeroC 30) := ⟨_, rfl⟩
        have hn4 : New w2 w4 := by rw [hw4]; exact hn3.alloc _
        have HFL := Lib.hid (spfail_ok P er ⟨h, 0⟩ w4 (HSP2.out.new hn4))
        have HN4 := Lib.hid (HN2.out.then hn4)
        have HB4 := Lib.hid (hn4.bk HB2.out)
        have HW4 := Lib.hid hw4
        clear hd hn3 hn4 hw4 hcv HDE HSo HSe b0 b1 b2 b3 b4 b5 b6 f0 f1 f2 f3 f4 f5 f6 p1
        simp only [zeroC]
        go_wp2_with fail
        have hwx := HW4.out
        simp only [zeroC] at hwx
        rw [← hwx]
        clear hwx HW4
        refine HFL.out.mono ?_
        rintro e w5 ⟨rfl, hsp5, ht5⟩
        have HSP5 := Lib.hid hsp5
        have HT5 := Lib.hid ((HN4.out.since P).then ht5)
        have hb5 := HB4.out.tch ht5 (by omega)
        have f0 := hb5.frozen 0
        have b0 := hb5.cell 0
        have f1 := hb5.frozen 1
        have b1 := hb5.cell 1
        have f2 := hb5.frozen 2
        have b2 := hb5.cell 2
        have f3 := hb5.frozen 3
        have b3 := hb5.cell 3
        have f4 := hb5.frozen 4
        have b4 := hb5.cell 4
        have f5 := hb5.frozen 5
        have b5 := hb5.cell 5
        have f6 := hb5.frozen 6
        have b6 := hb5.cell 6
        simp [zeroC] at b0 b1 b2 b3 b4 b5 b6
        clear hsp5 ht5 hb5 HFL
        go_wp2_with fail
        refine bodyPost_ret (v := .tuple #[.agg zeroC, .bool false]) (by simp [results, Try.results55, go_sem, zeroC, b0, b1, b2, b3, b4, b5, b6]) rfl ⟨?_, ?_, .inl ⟨rfl, by rw [HS.out]⟩⟩
        · exact (((((((((HT5.out : Tch _ _ _)).setCell (fun h => by simp at h) _).setCell (fun h => by simp at h) _).setCell (fun h => by simp at h) _).setCell (fun h => by simp at h) _).setCell (fun h => by simp at h) _).setCell (fun h => by simp at h) _).setCell (fun h => by simp at h) _)
        · rw [HS.out]
          exact HSP5.out.tch (((((((((Tch.refl (fun b => b = w.heap.size) w5)).setCell (fun _ => rfl) _).setCell (fun _ => rfl) _).setCell (fun _ => rfl) _).setCell (fun _ => rfl) _).setCell (fun _ => rfl) _).setCell (fun _ => rfl) _).setCell (fun _ => rfl) _) (by omega)
end Go.Proofs.Ytebpdnmmcbianaa
