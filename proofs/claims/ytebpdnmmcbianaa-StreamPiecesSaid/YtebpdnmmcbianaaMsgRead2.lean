/-
  Package message: reading an id and a record.
-/
import Derived.Test.YtebpdnmmcbianaaMsgRead
set_option linter.unusedVariables false
set_option linter.unusedSimpArgs false
set_option maxRecDepth 100000
namespace Go.Proofs.Ytebpdnmmcbianaa
open Go.RowKit

theorem RdIs.new {w w' : World} {W : Nat} {l : List UInt8} (h : RdIs w W l) (k : New w w') : RdIs w' W l := k.bk h
theorem RdIs.other {w : World} {W : Nat} {l : List UInt8} (h : RdIs w W l) {p : Addr} (hp : W ≠ p.block) (u : Value) : RdIs (w.setCell p u) W l := Bk.other h hp u
/-- What touches W alone, in a world that was made of an older one, touches in that one W alone. -/
theorem tch_new {W : Nat} {w w1 w2 : World} (h : New w w1) (k : Tch (· = W) w1 w2) : Tch (· = W) w w2 := Tch.then (h.tch _) k

theorem id_p (W : Nat) (l : List UInt8) (w : World) (h : RdIs w W l) :
    Calls Try.prog 91 #[.pointer (some ⟨W, 0, none⟩)] w (RdP W (pId l) (fun i => .agg (idC i).toArray) w) := by
  have hWl := h.lt
  obtain ⟨w1, hw1⟩ : ∃ w1, w1 = (w.alloc (.cells #[.string ⟨#[]⟩, .int .u64 0] 98)).alloc (.cells #[.string ⟨#[]⟩, .int .u64 0] 98) := ⟨_, rfl⟩
  have hn : New w w1 := by rw [hw1]; exact ((New.refl w).alloc _).alloc _
  have hb : Bk w1 w.heap.size 98 #[.string ⟨#[]⟩, .int .u64 0] := by rw [hw1]; exact (Bk.made w _ _).alloc _
  have hc : Bk w1 (w.heap.size + 1) 98 #[.string ⟨#[]⟩, .int .u64 0] := by
    have := Bk.made (w.alloc (.cells #[.string ⟨#[]⟩, .int .u64 0] 98)) 98 #[.string ⟨#[]⟩, .int .u64 0]
    rw [hw1]
    simpa using this
  have HN := Lib.hid hn
  have HB := Lib.hid hb
  have HC := Lib.hid hc
  have H := Lib.hid (h.new hn)
  have HW1 := Lib.hid hw1
  have hW1 : w.heap.size ≠ W := by omega
  have hW2 : w.heap.size + 1 ≠ W := by omega
  clear h hn hb hc hw1
  go_enter Try.func91, Try.ntmps91
  go_wp2_with fail
  have hwx := HW1.out
  rw [show ({ data := #[] } : ByteArray) = ⟨#[]⟩ from rfl] at hwx
  rw [← hwx]
  clear hwx
  refine (txt_p W l 64 w1 H.out (by omega)).mono ?_
  rintro e w2 ⟨ht, ⟨a, r, hp, rfl, hr⟩ | ⟨er, hp, h0, ⟨rfl, hr⟩ | ⟨rfl, hr⟩⟩⟩
  · have hb2 := HB.out.tch ht hW1
    have hc2 := HC.out.tch ht hW2
    have f0 := hc2.frozen 0
    have HB2 := Lib.hid hb2
    have hc3 : Bk (w2.setCell ⟨w.heap.size + 1, 0, none⟩ (.string (str a))) (w.heap.size + 1) 98 #[.string (str a), .int .u64 0] := by simpa using hc2.store 0 (.string (str a))
    have HC3 := Lib.hid hc3
    have HR := Lib.hid (RdIs.other hr (p := ⟨w.heap.size + 1, 0, none⟩) (fun e => hW2 e.symm) (.string (str a)))
    have HT := Lib.hid ((tch_new HN.out ht).setCell (p := ⟨w.heap.size + 1, 0, none⟩) (fun h => by simp at h; omega) (.string (str a)))
    have c0 := hc2.cell 0
    simp at c0
    have hlt := hc2.lt
    clear hb2 hc2 hc3 ht hr
    go_wp2_with fail
    have HP := Lib.hid hp
    refine (num_p W r 8 _ HR.out (by omega)).mono ?_
    rintro e w3 ⟨ht, ⟨n, r2, hp2, rfl, hr⟩ | ⟨er, hp2, h0, ⟨rfl, hr⟩ | ⟨rfl, hr⟩⟩⟩
    · have hx : pId l = .ok (⟨a, n⟩, r2) := by simp [pId, pMap, pPair, hp, hp2]
      have HX := Lib.hid hx
      have hb3 := (HB2.out.other (p := ⟨w.heap.size + 1, 0, none⟩) (by simp) (.string (str a))).tch ht hW1
      have hc3 := HC3.out.tch ht hW2
      have f1 := hc3.frozen 1
      have e0 := hc3.cell 0
      have e1 := hc3.cell 1
      simp at e0 e1
      have HB3 := Lib.hid hb3
      have HC3' := Lib.hid hc3
      have HR3 := Lib.hid hr
      have HT3 := Lib.hid (HT.out.then ht)
      have g0 := hb3.frozen 0
      have g1 := hb3.frozen 1
      have b0 := hb3.cell 0
      have b1 := hb3.cell 1
      simp at b0 b1
      clear hb3 hc3 ht hr hx hp hp2 f0 c0 hlt
      go_wp2_with fail
      refine bodyPost_ret (v := .agg #[.string (str a), .int .u64 n]) (by simp [results, Try.results91, go_sem, b0, b1]) rfl ⟨?_, .inl ⟨⟨a, n⟩, r2, HX.out, rfl, ?_⟩⟩
      · exact ((HT3.out.setCell (fun h => by simp at h; omega) _).setCell (fun h => by simp at h) _).setCell (fun h => by simp at h) _
      · exact ((HR3.out.other (fun e => hW2 e.symm) _).other (fun e => hW1 e.symm) _).other (fun e => hW1 e.symm) _
    · exact ⟨rfl, HT.out.then ht, .inr ⟨er, by simp [pId, pMap, pPair, HP.out, hp2], h0, .inl ⟨rfl, hr⟩⟩⟩
    · exact ⟨rfl, HT.out.then ht, .inr ⟨er, by simp [pId, pMap, pPair, HP.out, hp2], h0, .inr ⟨rfl, hr⟩⟩⟩
  · exact ⟨rfl, tch_new HN.out ht, .inr ⟨er, by simp [pId, pMap, pPair, hp], h0, .inl ⟨rfl, hr⟩⟩⟩
  · exact ⟨rfl, tch_new HN.out ht, .inr ⟨er, by simp [pId, pMap, pPair, hp], h0, .inr ⟨rfl, hr⟩⟩⟩

set_option maxHeartbeats 4000000 in
theorem rec_p (W : Nat) (l : List UInt8) (w : World) (h : RdIs w W l) :
    Calls Try.prog 92 #[.pointer (some ⟨W, 0, none⟩)] w (RdP W (pRec l) (fun x => .agg (recC x).toArray) w) := by
  have hWl := h.lt
  obtain ⟨w1, hw1⟩ : ∃ w1, w1 = (w.alloc (.cells #[.string ⟨#[]⟩, .int .u64 0, .int .i64 0, .int .i64 0, .bool false, .string ⟨#[]⟩] 109)).alloc (.cells #[.string ⟨#[]⟩, .int .u64 0, .int .i64 0, .int .i64 0, .bool false, .string ⟨#[]⟩] 109) := ⟨_, rfl⟩
  have hn : New w w1 := by rw [hw1]; exact ((New.refl w).alloc _).alloc _
  have hb : Bk w1 w.heap.size 109 #[.string ⟨#[]⟩, .int .u64 0, .int .i64 0, .int .i64 0, .bool false, .string ⟨#[]⟩] := by rw [hw1]; exact (Bk.made w _ _).alloc _
  have hc : Bk w1 (w.heap.size + 1) 109 #[.string ⟨#[]⟩, .int .u64 0, .int .i64 0, .int .i64 0, .bool false, .string ⟨#[]⟩] := by
    have := Bk.made (w.alloc (.cells #[.string ⟨#[]⟩, .int .u64 0, .int .i64 0, .int .i64 0, .bool false, .string ⟨#[]⟩] 109)) 109 #[.string ⟨#[]⟩, .int .u64 0, .int .i64 0, .int .i64 0, .bool false, .string ⟨#[]⟩]
    rw [hw1]
    simpa using this
  have HT := Lib.hid (tch_new hn (Tch.refl (· = W) w1))
  have HB := Lib.hid hb
  have HC := Lib.hid hc
  have HR := Lib.hid (h.new hn)
  have HW1 := Lib.hid hw1
  have hW1 : w.heap.size ≠ W := by omega
  have hW2 : w.heap.size + 1 ≠ W := by omega
  clear h hn hb hc hw1
  go_enter Try.func92, Try.ntmps92
  go_wp2_with fail
  rw [← HW1.out]
  refine (id_p W l _ HR.out).mono ?_
  rintro e x0 ⟨ht, ⟨i, r0, hp0, rfl, hr⟩ | ⟨er, hp, h0, hq⟩⟩
  case inr =>
    have hx : pRec l = .error er := by simp [pRec, pMap, pPair, pInt, hp]
    rcases hq with ⟨rfl, hq⟩ | ⟨rfl, hq⟩
    · exact ⟨rfl, HT.out.then ht, .inr ⟨er, hx, h0, .inl ⟨rfl, hq⟩⟩⟩
    · exact ⟨rfl, HT.out.then ht, .inr ⟨er, hx, h0, .inr ⟨rfl, hq⟩⟩⟩
  simp only [idC]
  have HP0 := Lib.hid hp0
  have hc2 := HC.out.tch ht hW2
  have hb2 := HB.out.tch ht hW1
  have f0 := hc2.frozen 0
  have c0 := hc2.cell 0
  have f1 := hc2.frozen 1
  have c1 := hc2.cell 1
  simp at c0 c1
  obtain ⟨y0, hsw⟩ : ∃ y, y = ((x0.setCell ⟨w.heap.size + 1, 0, none⟩ (.string (str i.key))).setCell ⟨w.heap.size + 1, 1, none⟩ (.int .u64 i.ver)) := ⟨_, rfl⟩
  have hc3 : Bk y0 (w.heap.size + 1) 109 #[.string (str i.key), .int .u64 i.ver, .int .i64 0, .int .i64 0, .bool false, .string ⟨#[]⟩] := by rw [hsw]; simpa using ((hc2.store 0 (.string (str i.key))).store 1 (.int .u64 i.ver))
  have hb3 : Bk y0 w.heap.size 109 #[.string ⟨#[]⟩, .int .u64 0, .int .i64 0, .int .i64 0, .bool false, .string ⟨#[]⟩] := by rw [hsw]; exact ((hb2.other (by simp) _).other (by simp) _)
  have hr3 : RdIs y0 W r0 := by rw [hsw]; exact ((hr.other (fun e => hW2 e.symm) _).other (fun e => hW2 e.symm) _)
  have ht3 : Tch (· = W) w y0 := by rw [hsw]; exact (((HT.out.then ht).setCell (fun h => by simp at h; omega) _).setCell (fun h => by simp at h; omega) _)
  have HSW := Lib.hid hsw
  replace HC := Lib.hid hc3
  replace HB := Lib.hid hb3
  replace HR := Lib.hid hr3
  replace HT := Lib.hid ht3
  clear hc2 hb2 hc3 hb3 hr3 ht3 hsw ht hr hp0 
  go_wp2_with fail
  rw [← HSW.out]
  clear f0 c0 f1 c1 HSW
  refine (num_p W r0 2 _ HR.out (by omega)).mono ?_
  rintro e x1 ⟨ht, ⟨o, r1, hp1, rfl, hr⟩ | ⟨er, hp, h0, hq⟩⟩
  case inr =>
    have hx : pRec l = .error er := by simp [pRec, pMap, pPair, pInt, HP0.out, hp]
    rcases hq with ⟨rfl, hq⟩ | ⟨rfl, hq⟩
    · exact ⟨rfl, HT.out.then ht, .inr ⟨er, hx, h0, .inl ⟨rfl, hq⟩⟩⟩
    · exact ⟨rfl, HT.out.then ht, .inr ⟨er, hx, h0, .inr ⟨rfl, hq⟩⟩⟩
  have HP1 := Lib.hid hp1
  have u1 : wrap64 (o : Int) = o := by have := num_lt hp1; have e : (256 : Nat) ^ 2 = 65536 := (by decide); unfold wrap64; omega
  have U1 := Lib.hid u1
  have hc2 := HC.out.tch ht hW2
  have hb2 := HB.out.tch ht hW1
  have f2 := hc2.frozen 2
  have c2 := hc2.cell 2
  simp at c2
  obtain ⟨y1, hsw⟩ : ∃ y, y = (x1.setCell ⟨w.heap.size + 1, 2, none⟩ (.int .i64 o)) := ⟨_, rfl⟩
  have hc3 : Bk y1 (w.heap.size + 1) 109 #[.string (str i.key), .int .u64 i.ver, .int .i64 o, .int .i64 0, .bool false, .string ⟨#[]⟩] := by rw [hsw]; simpa using (hc2.store 2 (.int .i64 o))
  have hb3 : Bk y1 w.heap.size 109 #[.string ⟨#[]⟩, .int .u64 0, .int .i64 0, .int .i64 0, .bool false, .string ⟨#[]⟩] := by rw [hsw]; exact (hb2.other (by simp) _)
  have hr3 : RdIs y1 W r1 := by rw [hsw]; exact (hr.other (fun e => hW2 e.symm) _)
  have ht3 : Tch (· = W) w y1 := by rw [hsw]; exact ((HT.out.then ht).setCell (fun h => by simp at h; omega) _)
  have HSW := Lib.hid hsw
  replace HC := Lib.hid hc3
  replace HB := Lib.hid hb3
  replace HR := Lib.hid hr3
  replace HT := Lib.hid ht3
  clear hc2 hb2 hc3 hb3 hr3 ht3 hsw ht hr hp1 u1
  go_wp2_with fail
  rw [U1.out]
  rw [← HSW.out]
  clear f2 c2 HSW
  refine (num_p W r1 2 _ HR.out (by omega)).mono ?_
  rintro e x2 ⟨ht, ⟨g, r2, hp2, rfl, hr⟩ | ⟨er, hp, h0, hq⟩⟩
  case inr =>
    have hx : pRec l = .error er := by simp [pRec, pMap, pPair, pInt, HP0.out, HP1.out, hp]
    rcases hq with ⟨rfl, hq⟩ | ⟨rfl, hq⟩
    · exact ⟨rfl, HT.out.then ht, .inr ⟨er, hx, h0, .inl ⟨rfl, hq⟩⟩⟩
    · exact ⟨rfl, HT.out.then ht, .inr ⟨er, hx, h0, .inr ⟨rfl, hq⟩⟩⟩
  have HP2 := Lib.hid hp2
  have u2 : wrap64 (g : Int) = g := by have := num_lt hp2; have e : (256 : Nat) ^ 2 = 65536 := (by decide); unfold wrap64; omega
  have U2 := Lib.hid u2
  have hc2 := HC.out.tch ht hW2
  have hb2 := HB.out.tch ht hW1
  have f3 := hc2.frozen 3
  have c3 := hc2.cell 3
  simp at c3
  obtain ⟨y2, hsw⟩ : ∃ y, y = (x2.setCell ⟨w.heap.size + 1, 3, none⟩ (.int .i64 g)) := ⟨_, rfl⟩
  have hc3 : Bk y2 (w.heap.size + 1) 109 #[.string (str i.key), .int .u64 i.ver, .int .i64 o, .int .i64 g, .bool false, .string ⟨#[]⟩] := by rw [hsw]; simpa using (hc2.store 3 (.int .i64 g))
  have hb3 : Bk y2 w.heap.size 109 #[.string ⟨#[]⟩, .int .u64 0, .int .i64 0, .int .i64 0, .bool false, .string ⟨#[]⟩] := by rw [hsw]; exact (hb2.other (by simp) _)
  have hr3 : RdIs y2 W r2 := by rw [hsw]; exact (hr.other (fun e => hW2 e.symm) _)
  have ht3 : Tch (· = W) w y2 := by rw [hsw]; exact ((HT.out.then ht).setCell (fun h => by simp at h; omega) _)
  have HSW := Lib.hid hsw
  replace HC := Lib.hid hc3
  replace HB := Lib.hid hb3
  replace HR := Lib.hid hr3
  replace HT := Lib.hid ht3
  clear hc2 hb2 hc3 hb3 hr3 ht3 hsw ht hr hp2 u2
  go_wp2_with fail
  rw [U2.out]
  rw [← HSW.out]
  clear f3 c3 HSW
  refine (flag_p W r2 _ HR.out).mono ?_
  rintro e x3 ⟨ht, ⟨b, r3, hp3, rfl, hr⟩ | ⟨er, hp, h0, hq⟩⟩
  case inr =>
    have hx : pRec l = .error er := by simp [pRec, pMap, pPair, pInt, HP0.out, HP1.out, HP2.out, hp]
    rcases hq with ⟨rfl, hq⟩ | ⟨rfl, hq⟩
    · exact ⟨rfl, HT.out.then ht, .inr ⟨er, hx, h0, .inl ⟨rfl, hq⟩⟩⟩
    · exact ⟨rfl, HT.out.then ht, .inr ⟨er, hx, h0, .inr ⟨rfl, hq⟩⟩⟩
  have HP3 := Lib.hid hp3
  have hc2 := HC.out.tch ht hW2
  have hb2 := HB.out.tch ht hW1
  have f4 := hc2.frozen 4
  have c4 := hc2.cell 4
  simp at c4
  obtain ⟨y3, hsw⟩ : ∃ y, y = (x3.setCell ⟨w.heap.size + 1, 4, none⟩ (.bool b)) := ⟨_, rfl⟩
  have hc3 : Bk y3 (w.heap.size + 1) 109 #[.string (str i.key), .int .u64 i.ver, .int .i64 o, .int .i64 g, .bool b, .string ⟨#[]⟩] := by rw [hsw]; simpa using (hc2.store 4 (.bool b))
  have hb3 : Bk y3 w.heap.size 109 #[.string ⟨#[]⟩, .int .u64 0, .int .i64 0, .int .i64 0, .bool false, .string ⟨#[]⟩] := by rw [hsw]; exact (hb2.other (by simp) _)
  have hr3 : RdIs y3 W r3 := by rw [hsw]; exact (hr.other (fun e => hW2 e.symm) _)
  have ht3 : Tch (· = W) w y3 := by rw [hsw]; exact ((HT.out.then ht).setCell (fun h => by simp at h; omega) _)
  have HSW := Lib.hid hsw
  replace HC := Lib.hid hc3
  replace HB := Lib.hid hb3
  replace HR := Lib.hid hr3
  replace HT := Lib.hid ht3
  clear hc2 hb2 hc3 hb3 hr3 ht3 hsw ht hr hp3 
  go_wp2_with fail
  rw [← HSW.out]
  clear f4 c4 HSW
  refine (txt_p W r3 64 _ HR.out (by omega)).mono ?_
  rintro e x4 ⟨ht, ⟨d, r4, hp4, rfl, hr⟩ | ⟨er, hp, h0, hq⟩⟩
  case inr =>
    have hx : pRec l = .error er := by simp [pRec, pMap, pPair, pInt, HP0.out, HP1.out, HP2.out, HP3.out, hp]
    rcases hq with ⟨rfl, hq⟩ | ⟨rfl, hq⟩
    · exact ⟨rfl, HT.out.then ht, .inr ⟨er, hx, h0, .inl ⟨rfl, hq⟩⟩⟩
    · exact ⟨rfl, HT.out.then ht, .inr ⟨er, hx, h0, .inr ⟨rfl, hq⟩⟩⟩
  have HP4 := Lib.hid hp4
  have hc2 := HC.out.tch ht hW2
  have hb2 := HB.out.tch ht hW1
  have f5 := hc2.frozen 5
  have c5 := hc2.cell 5
  simp at c5
  obtain ⟨y4, hsw⟩ : ∃ y, y = (x4.setCell ⟨w.heap.size + 1, 5, none⟩ (.string (str d))) := ⟨_, rfl⟩
  have hc3 : Bk y4 (w.heap.size + 1) 109 #[.string (str i.key), .int .u64 i.ver, .int .i64 o, .int .i64 g, .bool b, .string (str d)] := by rw [hsw]; simpa using (hc2.store 5 (.string (str d)))
  have hb3 : Bk y4 w.heap.size 109 #[.string ⟨#[]⟩, .int .u64 0, .int .i64 0, .int .i64 0, .bool false, .string ⟨#[]⟩] := by rw [hsw]; exact (hb2.other (by simp) _)
  have hr3 : RdIs y4 W r4 := by rw [hsw]; exact (hr.other (fun e => hW2 e.symm) _)
  have ht3 : Tch (· = W) w y4 := by rw [hsw]; exact ((HT.out.then ht).setCell (fun h => by simp at h; omega) _)
  have HSW := Lib.hid hsw
  replace HC := Lib.hid hc3
  replace HB := Lib.hid hb3
  replace HR := Lib.hid hr3
  replace HT := Lib.hid ht3
  clear hc2 hb2 hc3 hb3 hr3 ht3 hsw ht hr hp4 
  have c0' := HC.out.cell 0
  have g0 := HB.out.frozen 0
  have b0 := HB.out.cell 0
  have c1' := HC.out.cell 1
  have g1 := HB.out.frozen 1
  have b1 := HB.out.cell 1
  have c2' := HC.out.cell 2
  have g2 := HB.out.frozen 2
  have b2 := HB.out.cell 2
  have c3' := HC.out.cell 3
  have g3 := HB.out.frozen 3
  have b3 := HB.out.cell 3
  have c4' := HC.out.cell 4
  have g4 := HB.out.frozen 4
  have b4 := HB.out.cell 4
  have c5' := HC.out.cell 5
  have g5 := HB.out.frozen 5
  have b5 := HB.out.cell 5
  simp at c0' b0 c1' b1 c2' b2 c3' b3 c4' b4 c5' b5
  go_upto_region 7 with fail
  rw [← HSW.out]
  go_wp2_with fail
  have hx : pRec l = .ok (⟨i, o, g, b, d⟩, r4) := by simp [pRec, pMap, pPair, pInt, HP0.out, HP1.out, HP2.out, HP3.out, HP4.out]
  refine bodyPost_ret (v := .agg #[.string (str i.key), .int .u64 i.ver, .int .i64 o, .int .i64 g, .bool b, .string (str d)]) (by simp [results, Try.results92, go_sem, b0, b1, b2, b3, b4, b5]) rfl ⟨?_, .inl ⟨_, r4, hx, rfl, ?_⟩⟩
  · exact ((((((HT.out.setCell (fun h => by simp at h) _).setCell (fun h => by simp at h) _).setCell (fun h => by simp at h) _).setCell (fun h => by simp at h) _).setCell (fun h => by simp at h) _).setCell (fun h => by simp at h) _)
  · exact ((((((HR.out.other (fun e => hW1 e.symm) _).other (fun e => hW1 e.symm) _).other (fun e => hW1 e.symm) _).other (fun e => hW1 e.symm) _).other (fun e => hW1 e.symm) _).other (fun e => hW1 e.symm) _)
end Go.Proofs.Ytebpdnmmcbianaa
