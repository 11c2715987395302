/-
  Package message: read, whole.
-/
import Derived.Test.YtebpdnmmcbianaaMsgRead2
import Derived.Deep.RegionLaw
import Derived.RegionDies
set_option linter.unusedVariables false
set_option linter.unusedSimpArgs false
set_option maxRecDepth 100000
namespace Go.Proofs.Ytebpdnmmcbianaa
open Go.RowKit

theorem info_int' : (Try.prog.info? 3).map (fun i => (i.zero, i.size, i.bytes)) = some (some (.int .i64 0), 1, 8) := by kernel_rfl
theorem info_id' : (Try.prog.info? 98).map (fun i => (i.zero, i.size, i.bytes)) = some (some (.agg #[.string ⟨#[]⟩, .int .u64 0]), 2, 24) := by kernel_rfl
theorem info_rec' : (Try.prog.info? 109).map (fun i => (i.zero, i.size, i.bytes)) = some (some (.agg #[.string ⟨#[]⟩, .int .u64 0, .int .i64 0, .int .i64 0, .bool false, .string ⟨#[]⟩]), 6, 64) := by kernel_rfl

/-- A reader that reads. -/
def RdY {α : Type} (W : Nat) (a : α) (r : List UInt8) (val : α → Value) (w : World) (e : Ending) (w' : World) : Prop := e = .returned (val a) ∧ RdIs w' W r ∧ Tch (· = W) w w'
theorem RdP.yes {α : Type} {W : Nat} {res : Except Nat (α × List UInt8)} {val : α → Value} {w w' : World} {e : Ending} {a : α} {r : List UInt8} (h : RdP W res val w e w') (k : res = .ok (a, r)) : RdY W a r val w e w' := by
  obtain ⟨ht, ⟨a', r', h1, h2, h3⟩ | ⟨er, h1, _⟩⟩ := h
  · rw [k] at h1
    cases h1
    exact ⟨h2, h3, ht⟩
  · rw [k] at h1
    cases h1
theorem RdP.no {α : Type} {W : Nat} {res : Except Nat (α × List UInt8)} {val : α → Value} {w w' : World} {e : Ending} {er : Nat} (h : RdP W res val w e w') (k : res = .error er) : RdE W er e w' ∧ Tch (· = W) w w' := by
  obtain ⟨ht, ⟨a', r', h1, h2, h3⟩ | ⟨er', h1, h2⟩⟩ := h
  · rw [k] at h1
    cases h1
  · rw [k] at h1
    cases h1
    exact ⟨h2, ht⟩
theorem RdE.pan {W er : Nat} {e : Ending} {w : World} (h : RdE W er e w) : ∃ c, e = .panicked c := by
  obtain ⟨_, ⟨rfl, _⟩ | ⟨rfl, _⟩⟩ := h
  · exact ⟨_, rfl⟩
  · exact ⟨_, rfl⟩
/-- So many more of a list, behind those that were read. -/
theorem reps_next {α : Type} {p : PP α} {n : Nat} {l r : List UInt8} {a : α} (h : p l = .ok (a, r)) : pReps p (n + 1) l = (match pReps p n r with | .ok (xs, r2) => .ok (a :: xs, r2) | .error e => .error e) := by
  simp only [pReps, pMap, pPair, h]
  rcases pReps p n r with e | ⟨xs, r2⟩ <;> rfl
theorem reps_bad {α : Type} {p : PP α} {n : Nat} {l : List UInt8} {er : Nat} (h : p l = .error er) : pReps p (n + 1) l = .error er := by simp only [pReps, pMap, pPair, h]
/-- What is still to be read of a list whose head was. -/
def Rest {α : Type} (p : PP α) (cnt : Nat) (l0 : List UInt8) (xs : List α) (r : List UInt8) : Prop := xs.length ≤ cnt ∧ pReps p cnt l0 = (match pReps p (cnt - xs.length) r with | .ok (bs, r2) => .ok (xs ++ bs, r2) | .error e => .error e)
theorem Rest.start {α : Type} (p : PP α) (cnt : Nat) (l0 : List UInt8) : Rest p cnt l0 [] l0 := by
  refine ⟨Nat.zero_le _, ?_⟩
  simp only [List.length_nil, Nat.sub_zero, List.nil_append]
  rcases pReps p cnt l0 with e | ⟨xs, r2⟩ <;> rfl
theorem Rest.next {α : Type} {p : PP α} {cnt : Nat} {l0 : List UInt8} {xs : List α} {r r2 : List UInt8} {a : α} (h : Rest p cnt l0 xs r) (hl : xs.length < cnt) (hp : p r = .ok (a, r2)) : Rest p cnt l0 (xs ++ [a]) r2 := by
  obtain ⟨h1, h2⟩ := h
  refine ⟨by simp; omega, ?_⟩
  have e : cnt - xs.length = (cnt - (xs ++ [a]).length) + 1 := by simp; omega
  rw [h2, e, reps_next hp]
  rcases pReps p (cnt - (xs ++ [a]).length) r2 with e | ⟨bs, r3⟩
  · rfl
  · simp
theorem Rest.bad {α : Type} {p : PP α} {cnt : Nat} {l0 : List UInt8} {xs : List α} {r : List UInt8} {er : Nat} (h : Rest p cnt l0 xs r) (hl : xs.length < cnt) (hp : p r = .error er) : pReps p cnt l0 = .error er := by
  obtain ⟨h1, h2⟩ := h
  have e : cnt - xs.length = (cnt - xs.length - 1) + 1 := by omega
  rw [h2, e, reps_bad hp]
theorem Rest.end_ {α : Type} {p : PP α} {cnt : Nat} {l0 : List UInt8} {xs : List α} {r : List UInt8} (h : Rest p cnt l0 xs r) (hl : xs.length = cnt) : pReps p cnt l0 = .ok (xs, r) := by
  obtain ⟨h1, h2⟩ := h
  rw [h2, hl, Nat.sub_self]
  simp [pReps]
theorem count_le {m : Nat} {l r : List UInt8} {n : Nat} (h : pCount m l = .ok (n, r)) : n ≤ m := by
  have hc : Inv (pCount m) (beL 1) _ := (Inv.num 1).most id m
  exact (hc.bwd _ _ _ h).1.2

/-- How read ends. -/
def MRead (W P : Nat) (res : Except Nat (MsgA × List UInt8)) (w : World) (e : Ending) (w' : World) : Prop :=
  Tch (fun b => b = W ∨ b = P) w w' ∧ ((∃ m r v, res = .ok (m, r) ∧ e = .returned (.tuple #[]) ∧ RdIs w' W r ∧ Bk w' P 30 (msgC m v) ∧ MsgIs w' (fun b => w.heap.size ≤ b) m v) ∨ (∃ er, res = .error er ∧ RdE W er e w'))

theorem num_y {W : Nat} {l : List UInt8} {n : Nat} {w : World} {a : Nat} {r : List UInt8} (h : RdIs w W l) (hn : 1 ≤ n ∧ n ≤ 8) (hp : pNum n l = .ok (a, r)) :
    Calls Try.prog 86 #[.pointer (some ⟨W, 0, none⟩), .int .i64 n] w (RdY W a r (fun a => .int .u64 a) w) := (num_p W l n w h hn).mono fun e w' h => h.yes hp
theorem num_n {W : Nat} {l : List UInt8} {n : Nat} {w : World} {er : Nat} (h : RdIs w W l) (hn : 1 ≤ n ∧ n ≤ 8) (hp : pNum n l = .error er) :
    Calls Try.prog 86 #[.pointer (some ⟨W, 0, none⟩), .int .i64 n] w (fun e w' => RdE W er e w' ∧ Tch (· = W) w w') := (num_p W l n w h hn).mono fun e w' h => h.no hp
theorem id_y {W : Nat} {l : List UInt8} {w : World} {a : IdA} {r : List UInt8} (h : RdIs w W l) (hp : pId l = .ok (a, r)) :
    Calls Try.prog 91 #[.pointer (some ⟨W, 0, none⟩)] w (RdY W a r (fun i => .agg (idC i).toArray) w) := (id_p W l w h).mono fun e w' h => h.yes hp
theorem id_n {W : Nat} {l : List UInt8} {w : World} {er : Nat} (h : RdIs w W l) (hp : pId l = .error er) :
    Calls Try.prog 91 #[.pointer (some ⟨W, 0, none⟩)] w (fun e w' => RdE W er e w' ∧ Tch (· = W) w w') := (id_p W l w h).mono fun e w' h => h.no hp
theorem rec_y {W : Nat} {l : List UInt8} {w : World} {a : RecA} {r : List UInt8} (h : RdIs w W l) (hp : pRec l = .ok (a, r)) :
    Calls Try.prog 92 #[.pointer (some ⟨W, 0, none⟩)] w (RdY W a r (fun i => .agg (recC i).toArray) w) := (rec_p W l w h).mono fun e w' h => h.yes hp
theorem rec_n {W : Nat} {l : List UInt8} {w : World} {er : Nat} (h : RdIs w W l) (hp : pRec l = .error er) :
    Calls Try.prog 92 #[.pointer (some ⟨W, 0, none⟩)] w (fun e w' => RdE W er e w' ∧ Tch (· = W) w w') := (rec_p W l w h).mono fun e w' h => h.no hp

theorem msg_eq {l r0 r1 r2 r3 : List UInt8} {a0 a1 a2 : Nat} {a3 : Bool} (h0 : pNum 1 l = .ok (a0, r0)) (h1 : pNum 2 r0 = .ok (a1, r1)) (h2 : pNum 1 r1 = .ok (a2, r2)) (h3 : pFlag r2 = .ok (a3, r3)) :
    pMsg l = (match pList 64 (pInt 2) r3 with | .error e => .error e | .ok (ns, r4) => match pList 64 pId r4 with | .error e => .error e | .ok (is, r5) => match pList 16 pRec r5 with | .error e => .error e | .ok (rs, r6) => .ok (⟨a0, a1, a2, a3, ns, is, rs⟩, r6)) := by
  have g0 : pInt 1 l = .ok ((a0 : Int), r0) := by simp only [pInt, pMap, h0]
  have g1 : pInt 2 r0 = .ok ((a1 : Int), r1) := by simp only [pInt, pMap, h1]
  have g2 : pInt 1 r1 = .ok ((a2 : Int), r2) := by simp only [pInt, pMap, h2]
  simp only [pMsg, pMap, pPair, g0, g1, g2, h3]
  rcases pList 64 (pInt 2) r3 with e | ⟨ns, r4⟩
  · rfl
  · simp only
    rcases pList 64 pId r4 with e | ⟨is, r5⟩
    · rfl
    · simp only
      rcases pList 16 pRec r5 with e | ⟨rs, r6⟩ <;> rfl
theorem list_cnt {α : Type} {p : PP α} {m n : Nat} {l r : List UInt8} (h : pCount m l = .ok (n, r)) : pList m p l = pReps p n r := by simp only [pList, h]
theorem list_bad {α : Type} {p : PP α} {m er : Nat} {l : List UInt8} (h : pCount m l = .error er) : pList m p l = .error er := by simp only [pList, h]

set_option maxHeartbeats 8000000 in
theorem mread_p (W P : Nat) (l : List UInt8) (w : World) (h : RdIs w W l) (hP : Bk w P 30 #[.int .i64 0, .int .i64 0, .int .i64 0, .bool false, .slice none 0 0, .slice none 0 0, .slice none 0 0]) (hWP : P ≠ W) :
    Calls Try.prog 60 #[.pointer (some ⟨P, 0, none⟩), .pointer (some ⟨W, 0, none⟩)] w (MRead W P (pMsg l) w) := by
  obtain ⟨in0, hin, hnz0, hnz1, hnz2⟩ := info_parts info_int'
  have HT : Hid (Tch (fun b => b = W ∨ b = P) w w) := Lib.hid (Tch.refl _ _)
  have HB := Lib.hid hP
  have HR := Lib.hid h
  have HWP := Lib.hid hWP
  have HWl := Lib.hid h.lt
  have HPl := Lib.hid hP.lt
  clear h hP hWP
  have bad : ∀ (er : Nat) (e : Ending) (wa wb : World), Tch (fun b => b = W ∨ b = P) w wa → Tch (· = W) wa wb → pMsg l = .error er → RdE W er e wb → MRead W P (pMsg l) w e wb :=
    fun er e wa wb h1 h2 h3 h4 => ⟨h1.then (h2.more (fun b _ h => .inl h)), .inr ⟨er, h3, h4⟩⟩
  have BAD := Lib.hid bad
  clear bad
  go_enter Try.func60, Try.ntmps60
  go_wp2_with fail
  refine (num_p W l 1 _ HR.out (by omega)).mono ?_
  rintro e x0 ⟨ht, ⟨a0, r0, hp0, rfl, hr⟩ | ⟨er, hp, hq⟩⟩
  case inr =>
    have hx : pMsg l = .error er := by simp [pMsg, pMap, pPair, pInt, hp]
    have hy := BAD.out er e _ _ HT.out ht hx hq
    obtain ⟨_, ⟨rfl, _⟩ | ⟨rfl, _⟩⟩ := hq
    · exact ⟨rfl, hy⟩
    · exact ⟨rfl, hy⟩
  have HP0 := Lib.hid hp0
  have u0 : wrap64 (a0 : Int) = a0 := by have := num_lt hp0; have e : (256 : Nat) ^ 1 = 256 := (by decide); unfold wrap64; omega
  have U0 := Lib.hid u0
  have hb2 := HB.out.tch ht HWP.out
  have f0 := hb2.frozen 0
  have c0 := hb2.cell 0
  simp at c0
  obtain ⟨y0, hsw⟩ : ∃ y, y = x0.setCell ⟨P, 0, none⟩ (.int .i64 a0) := ⟨_, rfl⟩
  have hb3 : Bk y0 P 30 #[.int .i64 a0, .int .i64 0, .int .i64 0, .bool false, .slice none 0 0, .slice none 0 0, .slice none 0 0] := by rw [hsw]; simpa using hb2.store 0 (.int .i64 a0)
  have hr3 : RdIs y0 W r0 := by rw [hsw]; exact hr.other (fun e => HWP.out e.symm) _
  have ht3 : Tch (fun b => b = W ∨ b = P) w y0 := by rw [hsw]; exact (HT.out.then (ht.more (fun b _ h => .inl h))).setCell (fun _ => .inr rfl) _
  have HSW := Lib.hid hsw
  replace HB := Lib.hid hb3
  replace HR := Lib.hid hr3
  replace HT := Lib.hid ht3
  clear hb2 hb3 hr3 ht3 hsw ht hr hp0 u0
  go_wp2_with fail
  rw [U0.out]
  rw [← HSW.out]
  clear f0 c0 HSW
  refine (num_p W r0 2 _ HR.out (by omega)).mono ?_
  rintro e x1 ⟨ht, ⟨a1, r1, hp1, rfl, hr⟩ | ⟨er, hp, hq⟩⟩
  case inr =>
    have hx : pMsg l = .error er := by simp [pMsg, pMap, pPair, pInt, HP0.out, hp]
    have hy := BAD.out er e _ _ HT.out ht hx hq
    obtain ⟨_, ⟨rfl, _⟩ | ⟨rfl, _⟩⟩ := hq
    · exact ⟨rfl, hy⟩
    · exact ⟨rfl, hy⟩
  have HP1 := Lib.hid hp1
  have u1 : wrap64 (a1 : Int) = a1 := by have := num_lt hp1; have e : (256 : Nat) ^ 2 = 65536 := (by decide); unfold wrap64; omega
  have U1 := Lib.hid u1
  have hb2 := HB.out.tch ht HWP.out
  have f1 := hb2.frozen 1
  have c1 := hb2.cell 1
  simp at c1
  obtain ⟨y1, hsw⟩ : ∃ y, y = x1.setCell ⟨P, 1, none⟩ (.int .i64 a1) := ⟨_, rfl⟩
  have hb3 : Bk y1 P 30 #[.int .i64 a0, .int .i64 a1, .int .i64 0, .bool false, .slice none 0 0, .slice none 0 0, .slice none 0 0] := by rw [hsw]; simpa using hb2.store 1 (.int .i64 a1)
  have hr3 : RdIs y1 W r1 := by rw [hsw]; exact hr.other (fun e => HWP.out e.symm) _
  have ht3 : Tch (fun b => b = W ∨ b = P) w y1 := by rw [hsw]; exact (HT.out.then (ht.more (fun b _ h => .inl h))).setCell (fun _ => .inr rfl) _
  have HSW := Lib.hid hsw
  replace HB := Lib.hid hb3
  replace HR := Lib.hid hr3
  replace HT := Lib.hid ht3
  clear hb2 hb3 hr3 ht3 hsw ht hr hp1 u1
  go_wp2_with fail
  rw [U1.out]
  rw [← HSW.out]
  clear f1 c1 HSW
  refine (num_p W r1 1 _ HR.out (by omega)).mono ?_
  rintro e x2 ⟨ht, ⟨a2, r2, hp2, rfl, hr⟩ | ⟨er, hp, hq⟩⟩
  case inr =>
    have hx : pMsg l = .error er := by simp [pMsg, pMap, pPair, pInt, HP0.out, HP1.out, hp]
    have hy := BAD.out er e _ _ HT.out ht hx hq
    obtain ⟨_, ⟨rfl, _⟩ | ⟨rfl, _⟩⟩ := hq
    · exact ⟨rfl, hy⟩
    · exact ⟨rfl, hy⟩
  have HP2 := Lib.hid hp2
  have u2 : wrap64 (a2 : Int) = a2 := by have := num_lt hp2; have e : (256 : Nat) ^ 1 = 256 := (by decide); unfold wrap64; omega
  have U2 := Lib.hid u2
  have hb2 := HB.out.tch ht HWP.out
  have f2 := hb2.frozen 2
  have c2 := hb2.cell 2
  simp at c2
  obtain ⟨y2, hsw⟩ : ∃ y, y = x2.setCell ⟨P, 2, none⟩ (.int .i64 a2) := ⟨_, rfl⟩
  have hb3 : Bk y2 P 30 #[.int .i64 a0, .int .i64 a1, .int .i64 a2, .bool false, .slice none 0 0, .slice none 0 0, .slice none 0 0] := by rw [hsw]; simpa using hb2.store 2 (.int .i64 a2)
  have hr3 : RdIs y2 W r2 := by rw [hsw]; exact hr.other (fun e => HWP.out e.symm) _
  have ht3 : Tch (fun b => b = W ∨ b = P) w y2 := by rw [hsw]; exact (HT.out.then (ht.more (fun b _ h => .inl h))).setCell (fun _ => .inr rfl) _
  have HSW := Lib.hid hsw
  replace HB := Lib.hid hb3
  replace HR := Lib.hid hr3
  replace HT := Lib.hid ht3
  clear hb2 hb3 hr3 ht3 hsw ht hr hp2 u2
  go_wp2_with fail
  rw [U2.out]
  rw [← HSW.out]
  clear f2 c2 HSW
  refine (flag_p W r2 _ HR.out).mono ?_
  rintro e x3 ⟨ht, ⟨a3, r3, hp3, rfl, hr⟩ | ⟨er, hp, hq⟩⟩
  case inr =>
    have hx : pMsg l = .error er := by simp [pMsg, pMap, pPair, pInt, HP0.out, HP1.out, HP2.out, hp]
    have hy := BAD.out er e _ _ HT.out ht hx hq
    obtain ⟨_, ⟨rfl, _⟩ | ⟨rfl, _⟩⟩ := hq
    · exact ⟨rfl, hy⟩
    · exact ⟨rfl, hy⟩
  have HP3 := Lib.hid hp3
  have hb2 := HB.out.tch ht HWP.out
  have f3 := hb2.frozen 3
  have c3 := hb2.cell 3
  simp at c3
  obtain ⟨y3, hsw⟩ : ∃ y, y = x3.setCell ⟨P, 3, none⟩ (.bool a3) := ⟨_, rfl⟩
  have hb3 : Bk y3 P 30 #[.int .i64 a0, .int .i64 a1, .int .i64 a2, .bool a3, .slice none 0 0, .slice none 0 0, .slice none 0 0] := by rw [hsw]; simpa using hb2.store 3 (.bool a3)
  have hr3 : RdIs y3 W r3 := by rw [hsw]; exact hr.other (fun e => HWP.out e.symm) _
  have ht3 : Tch (fun b => b = W ∨ b = P) w y3 := by rw [hsw]; exact (HT.out.then (ht.more (fun b _ h => .inl h))).setCell (fun _ => .inr rfl) _
  have HSW := Lib.hid hsw
  replace HB := Lib.hid hb3
  replace HR := Lib.hid hr3
  replace HT := Lib.hid ht3
  clear hb2 hb3 hr3 ht3 hsw ht hr hp3 
  go_wp2_with fail
  rw [← HSW.out]
  clear f3 c3 HSW
  have HM := Lib.hid (msg_eq HP0.out HP1.out HP2.out HP3.out)
  clear HP0 HP1 HP2 HP3 U0 U1 U2
  obtain ⟨id0, hid0, hiz0, hiz1, hiz2⟩ := info_parts info_id'
  obtain ⟨rd0, hrd0, hrz0, hrz1, hrz2⟩ := info_parts info_rec'
  refine (count_p W r3 64 _ HR.out (by omega)).mono ?_
  rintro e z0 ⟨ht, ⟨n0, s0, hp, rfl, hr⟩ | ⟨er, hp, hq⟩⟩
  case inr =>
    have hx : pMsg l = .error er := by rw [HM.out, list_bad hp]
    have hy := BAD.out er e _ _ HT.out ht hx hq
    obtain ⟨_, ⟨rfl, _⟩ | ⟨rfl, _⟩⟩ := hq
    · exact ⟨rfl, hy⟩
    · exact ⟨rfl, hy⟩
  have hn0 := count_le hp
  have hL := list_cnt (p := (pInt 2)) hp
  have HL := Lib.hid hL
  have HBz := Lib.hid (HB.out.tch ht HWP.out)
  have HRz := Lib.hid hr
  have HTz := Lib.hid (HT.out.then (ht.more (T := fun b => b = W ∨ b = P) (fun b _ h => .inl h)))
  have HWz := Lib.hid (show W < z0.heap.size from Nat.lt_of_lt_of_le HWl.out HTz.out.size)
  have HPz := Lib.hid (show P < z0.heap.size from Nat.lt_of_lt_of_le HPl.out HTz.out.size)
  clear hp hr ht hL HB HR HT
  go_wp2_with fail
  go_loopw [29] (fun vi wr => ∃ (xs : List Int) (r : List UInt8) (v : Value), vi = .int .i64 xs.length ∧ xs.length ≤ n0 ∧ Hid (Rest (pInt 2) n0 s0 xs r) ∧ Hid (RdIs wr W r) ∧ Hid (wr.ownsRow z0.heap.size 3 1 v xs.length (xs.flatMap nodeC)) ∧ Hid (Bk wr P 30 #[.int .i64 a0, .int .i64 a1, .int .i64 a2, .bool a3, v, .slice none 0 0, .slice none 0 0]) ∧ Hid (Tch (fun b => b = W ∨ b = P) z0 wr)) (fun vi _ => n0 - (intOf vi).toNat)
  case atStart => exact ⟨[], s0, .slice none 0 0, rfl, by simp, Lib.hid (Rest.start _ _ _), HRz, Lib.hid (World.ownsRow_nil _ _ _ _), HBz, Lib.hid (Tch.refl _ _)⟩
  case round =>
    obtain ⟨xs, r, v, rfl, hxl, HREST, HRr, HO, HBr, HTr⟩ := hrel
    have hWl := HWz.out
    have hPl := HPz.out
    have hsz := HTr.out.size
    by_cases hlt : xs.length < n0
    · have hsl := own_slk nodeC_len HO.out
      obtain ⟨av, cv, rfl, _, _⟩ := hsl.shape
      have c4 := HBr.out.cell 4
      have f4 := HBr.out.frozen 4
      simp at c4
      rcases hp : pNum 2 r with er | ⟨a, r'⟩
      · have HPA := Lib.hid hp
        have hx : pMsg l = .error er := by
          have h1 : (pInt 2) r = .error er := by simp only [pInt, pMap, hp]
          rw [HM.out, HL.out, HREST.out.bad hlt h1]
        have HX := Lib.hid hx
        clear hp hx hsl
        go_wp2_with fail
        go_region_dies
        all_goals
          refine (num_n (by exact HRr.out) (by omega) HPA.out).mono ?_
          rintro e w2 ⟨hq, ht2⟩
          have hy := BAD.out er e _ _ (HTz.out.then HTr.out.drew) ht2 HX.out hq
          obtain ⟨_, ⟨rfl, _⟩ | ⟨rfl, _⟩⟩ := hq
          · exact ⟨rfl, hy⟩
          · exact ⟨rfl, hy⟩
      · have hal := num_lt hp
        have e2 : (256 : Nat) ^ 2 = 65536 := by decide
        have hw1 : IntKind.i64.wrap (a : Int) = a := IntWalk.i64_in _ (by omega)
        have HPA := Lib.hid hp
        clear hp hal e2 hsl
        go_wp2_with fail
        go_region_law (first
          | (refine step_appK rfl (.tmp 35) (.tmp 39) 26 rfl z0.heap.size 3 in0 (.int .i64 0) 1 8 Try.underlying26 hin hnz0 hnz1 hnz2 rfl (by omega) (.slice av xs.length cv) xs.length _ (by simp [Act.eval]) (HO2.out.alloc _) (some ⟨w2.heap.size, 0, none⟩) 1 1 (nodeC a) (by simp [Act.eval]) rfl (by simp) (by simp) (fun _ => ⟨_, rfl, fun j u hu => by rw [Addr.add_lit, Nat.zero_add]; exact ((Bk.made w2 3 (nodeC a).toArray).cell j).trans (by simpa using hu)⟩) (by intro u hu; simp [nodeC] at hu; rcases hu with rfl <;> rfl) (Nat.le_trans (show xs.length + 1 ≤ 65 by omega) (by decide : 65 ≤ maxLen)) (by omega) (by have := HTz2.out; simp at this ⊢; omega) ?_
             intro v1 w3 HO3 HG3
             obtain ⟨av1, cv1, rfl, _, _⟩ := (own_slk (enc := nodeC) (l := xs ++ [(a : Int)]) nodeC_len (by simpa [nodeC] using HO3.out)).shape
             have ht3 := (HT2.out.alloc (.cells (nodeC a).toArray 3)).grown HG3.out (fun k hk hlt => .inr (own_base HO.out hk).1)
             have hb3 := HBr.out.tch ht3 (by rintro (h | h); exact HWP.out h; omega)
             have c43 := hb3.cell 4
             have f43 := hb3.frozen 4
             simp at c43)
          | (go_simp; go_at_call 86; refine (num_y (by exact HRr.out) (by omega) HPA.out).mono ?_; rintro e w2 ⟨rfl, hr2, ht2⟩; have HO2 := Lib.hid (own_tch (S := (· = W)) (by exact HO.out) ht2 (fun b hb hs => by have := (own_base HO.out hb).1; omega)); have HT2 := Lib.hid (Tch.more (T := fun b => b = W ∨ z0.heap.size ≤ b) (Tch.then (Tch.refl _ wr).drew (by exact ht2)) (fun b _ h => .inl h)); have HTz2 := Lib.hid ht2.size; have c42 := (HBr.out.tch HT2.out (by rintro (h | h); exact HWP.out h; omega)).cell 4; simp at c42; have hP2 : P < w2.heap.size := (by have := ht2.size; simp at this; omega); have HR2 := Lib.hid hr2; have HT2W := Lib.hid ht2; clear hr2 ht2))
        all_goals
          go_wp2_with fail
          go_roundw
          case rel =>
            have ho : w3.ownsRow z0.heap.size 3 1 (.slice av1 (xs.length + 1) cv1) (xs ++ [(a : Int)]).length ((xs ++ [(a : Int)]).flatMap nodeC) := by
              rw [List.length_append, List.flatMap_append]
              simpa [nodeC] using HO3.out
            refine ⟨xs ++ [(a : Int)], r', _, by first | (simp; done) | (simp; omega), by simp; omega, Lib.hid (HREST.out.next hlt (by simp only [pInt, pMap, HPA.out])), Lib.hid ?_, Lib.hid ?_, Lib.hid (by simpa using hb3.store 4 _), Lib.hid ?_⟩
            · exact RdIs.other (Bk.tch (Bk.alloc HR2.out _) (Tch.of_grown HG3.out) (fun h => by have := (own_base HO.out h.symm).1; omega)) (fun h => HWP.out h.symm) _
            · exact own_tch (S := fun b => b = P) ho ((Tch.refl (fun b => b = P) w3).setCell (p := ⟨P, 4, none⟩) (fun _ => rfl) _) (fun b hb hs => by have := (own_base ho hb).1; omega)
            · exact (Tch.trans HTr.out ht3 (fun b hb h => by rcases h with h | h; exact .inl h; omega)).setCell (fun _ => .inr rfl) _
          case measure => simp [intOf]; omega
    · have hxe : xs.length = n0 := by omega
      have hle := HREST.out.end_ hxe
      have hl2 : pList 64 (pInt 2) r3 = .ok (xs, r) := by rw [HL.out, hle]
      have hsl := own_slk nodeC_len HO.out
      have HS0 := Lib.hid (hsl.more (T := fun b => w.heap.size ≤ b) (fun b _ h => Nat.le_trans HTz.out.size h))
      obtain ⟨xs0, rfl⟩ : ∃ x, x = xs := ⟨_, rfl⟩
      obtain ⟨r4, rfl⟩ : ∃ x, x = r := ⟨_, rfl⟩
      obtain ⟨v0, rfl⟩ : ∃ x, x = v := ⟨_, rfl⟩
      obtain ⟨y4, rfl⟩ : ∃ x, x = wr := ⟨_, rfl⟩
      have HB := HBr
      have HR := HRr
      have HT := Lib.hid (HTz.out.then HTr.out)
      replace HM := Lib.hid (show pMsg l = (match pList 64 pId r4 with | .error e => .error e | .ok (is, r5) => match pList 16 pRec r5 with | .error e => .error e | .ok (rs, r6) => .ok (⟨a0, a1, a2, a3, xs0, is, rs⟩, r6)) from by rw [HM.out, hl2])
      clear hle hl2 hsl HL HREST HO HBz HRz HTz HWz HPz hWl hPl hsz hlt hxl HBr HRr HTr
      go_wp2_with fail
      refine (count_p W r4 64 _ HR.out (by omega)).mono ?_
      rintro e z1 ⟨ht, ⟨n1, s1, hp, rfl, hr⟩ | ⟨er, hp, hq⟩⟩
      case inr =>
        have hx : pMsg l = .error er := by rw [HM.out, list_bad hp]
        have hy := BAD.out er e _ _ HT.out ht hx hq
        obtain ⟨_, ⟨rfl, _⟩ | ⟨rfl, _⟩⟩ := hq
        · exact ⟨rfl, hy⟩
        · exact ⟨rfl, hy⟩
      have hn1 := count_le hp
      have hL := list_cnt (p := pId) hp
      have HL := Lib.hid hL
      have HBz := Lib.hid (HB.out.tch ht HWP.out)
      have HRz := Lib.hid hr
      have HTz := Lib.hid (HT.out.then (ht.more (T := fun b => b = W ∨ b = P) (fun b _ h => .inl h)))
      replace HS0 := Lib.hid (HS0.out.tch ht (fun b hb h => by have := HWl.out; omega))
      have HWz := Lib.hid (show W < z1.heap.size from Nat.lt_of_lt_of_le HWl.out HTz.out.size)
      have HPz := Lib.hid (show P < z1.heap.size from Nat.lt_of_lt_of_le HPl.out HTz.out.size)
      clear hp hr ht hL HB HR HT
      go_wp2_with fail
      go_loopw [46] (fun vi wr => ∃ (xs : List IdA) (r : List UInt8) (v : Value), vi = .int .i64 xs.length ∧ xs.length ≤ n1 ∧ Hid (Rest pId n1 s1 xs r) ∧ Hid (RdIs wr W r) ∧ Hid (wr.ownsRow z1.heap.size 98 2 v xs.length (xs.flatMap idC)) ∧ Hid (Bk wr P 30 #[.int .i64 a0, .int .i64 a1, .int .i64 a2, .bool a3, v0, v, .slice none 0 0]) ∧ Hid (Tch (fun b => b = W ∨ b = P) z1 wr)) (fun vi _ => n1 - (intOf vi).toNat)
      case atStart => exact ⟨[], s1, .slice none 0 0, rfl, by simp, Lib.hid (Rest.start _ _ _), HRz, Lib.hid (World.ownsRow_nil _ _ _ _), HBz, Lib.hid (Tch.refl _ _)⟩
      case round =>
        obtain ⟨xs, r, v, rfl, hxl, HREST, HRr, HO, HBr, HTr⟩ := hrel
        have hWl := HWz.out
        have hPl := HPz.out
        have hsz := HTr.out.size
        by_cases hlt : xs.length < n1
        · have hsl := own_slk idC_len HO.out
          obtain ⟨av, cv, rfl, _, _⟩ := hsl.shape
          have c4 := HBr.out.cell 5
          have f4 := HBr.out.frozen 5
          simp at c4
          rcases hp : pId r with er | ⟨a, r'⟩
          · have HPA := Lib.hid hp
            have hx : pMsg l = .error er := by
              have h1 : pId r = .error er := hp
              rw [HM.out, HL.out, HREST.out.bad hlt h1]
            have HX := Lib.hid hx
            clear hp hx hsl
            go_wp2_with fail
            go_region_dies
            all_goals
              refine (id_n (by exact HRr.out) HPA.out).mono ?_
              rintro e w2 ⟨hq, ht2⟩
              have hy := BAD.out er e _ _ (HTz.out.then HTr.out.drew) ht2 HX.out hq
              obtain ⟨_, ⟨rfl, _⟩ | ⟨rfl, _⟩⟩ := hq
              · exact ⟨rfl, hy⟩
              · exact ⟨rfl, hy⟩
          · skip
            skip
            skip
            have HPA := Lib.hid hp
            clear hp  hsl
            go_wp2_with fail
            go_region_law (first
              | (refine step_appK rfl (.tmp 52) (.tmp 55) 27 rfl z1.heap.size 98 id0 (.agg #[.string ⟨#[]⟩, .int .u64 0]) 2 24 Try.underlying27 hid0 hiz0 hiz1 hiz2 rfl (by omega) (.slice av xs.length cv) xs.length _ (by simp [Act.eval]) (HO2.out.alloc _) (some ⟨w2.heap.size, 0, none⟩) 1 1 (idC a) (by simp [Act.eval]) rfl (by simp) (by simp) (fun _ => ⟨_, rfl, fun j u hu => by rw [Addr.add_lit, Nat.zero_add]; exact ((Bk.made w2 98 (idC a).toArray).cell j).trans (by simpa using hu)⟩) (by intro u hu; simp [idC] at hu; rcases hu with rfl | rfl <;> rfl) (Nat.le_trans (show xs.length + 1 ≤ 65 by omega) (by decide : 65 ≤ maxLen)) (by omega) (by have := HTz2.out; simp at this ⊢; omega) ?_
                 intro v1 w3 HO3 HG3
                 obtain ⟨av1, cv1, rfl, _, _⟩ := (own_slk (enc := idC) (l := xs ++ [a]) idC_len (by simpa [idC] using HO3.out)).shape
                 have ht3 := (HT2.out.alloc (.cells (idC a).toArray 98)).grown HG3.out (fun k hk hlt => .inr (own_base HO.out hk).1)
                 have hb3 := HBr.out.tch ht3 (by rintro (h | h); exact HWP.out h; omega)
                 have c43 := hb3.cell 5
                 have f43 := hb3.frozen 5
                 simp at c43)
              | (go_simp; go_at_call 91; refine (id_y (by exact HRr.out) HPA.out).mono ?_; rintro e w2 ⟨rfl, hr2, ht2⟩; simp only [idC]; have HO2 := Lib.hid (own_tch (S := (· = W)) (by exact HO.out) ht2 (fun b hb hs => by have := (own_base HO.out hb).1; omega)); have HT2 := Lib.hid (Tch.more (T := fun b => b = W ∨ z1.heap.size ≤ b) (Tch.then (Tch.refl _ wr).drew (by exact ht2)) (fun b _ h => .inl h)); have HTz2 := Lib.hid ht2.size; have c42 := (HBr.out.tch HT2.out (by rintro (h | h); exact HWP.out h; omega)).cell 5; simp at c42; have hP2 : P < w2.heap.size := (by have := ht2.size; simp at this; omega); have HR2 := Lib.hid hr2; have HT2W := Lib.hid ht2; clear hr2 ht2))
            all_goals
              go_wp2_with fail
              go_roundw
              case rel =>
                have ho : w3.ownsRow z1.heap.size 98 2 (.slice av1 (xs.length + 1) cv1) (xs ++ [a]).length ((xs ++ [a]).flatMap idC) := by
                  rw [List.length_append, List.flatMap_append]
                  simpa [idC] using HO3.out
                refine ⟨xs ++ [a], r', _, by first | (simp; done) | (simp; omega), by simp; omega, Lib.hid (HREST.out.next hlt (by exact HPA.out)), Lib.hid ?_, Lib.hid ?_, Lib.hid (by simpa using hb3.store 5 _), Lib.hid ?_⟩
                · exact RdIs.other (Bk.tch (Bk.alloc HR2.out _) (Tch.of_grown HG3.out) (fun h => by have := (own_base HO.out h.symm).1; omega)) (fun h => HWP.out h.symm) _
                · exact own_tch (S := fun b => b = P) ho ((Tch.refl (fun b => b = P) w3).setCell (p := ⟨P, 5, none⟩) (fun _ => rfl) _) (fun b hb hs => by have := (own_base ho hb).1; omega)
                · exact (Tch.trans HTr.out ht3 (fun b hb h => by rcases h with h | h; exact .inl h; omega)).setCell (fun _ => .inr rfl) _
              case measure => simp [intOf]; omega
        · have hxe : xs.length = n1 := by omega
          have hle := HREST.out.end_ hxe
          have hl2 : pList 64 pId r4 = .ok (xs, r) := by rw [HL.out, hle]
          have hsl := own_slk idC_len HO.out
          have HS1 := Lib.hid (hsl.more (T := fun b => w.heap.size ≤ b) (fun b _ h => Nat.le_trans HTz.out.size h))
          replace HS0 := Lib.hid (HS0.out.tch HTr.out (fun b hb h => by have := HWl.out; have := HPl.out; omega))
          obtain ⟨xs1, rfl⟩ : ∃ x, x = xs := ⟨_, rfl⟩
          obtain ⟨r5, rfl⟩ : ∃ x, x = r := ⟨_, rfl⟩
          obtain ⟨v1, rfl⟩ : ∃ x, x = v := ⟨_, rfl⟩
          obtain ⟨y5, rfl⟩ : ∃ x, x = wr := ⟨_, rfl⟩
          have HB := HBr
          have HR := HRr
          have HT := Lib.hid (HTz.out.then HTr.out)
          replace HM := Lib.hid (show pMsg l = (match pList 16 pRec r5 with | .error e => .error e | .ok (rs, r6) => .ok (⟨a0, a1, a2, a3, xs0, xs1, rs⟩, r6)) from by rw [HM.out, hl2])
          clear hle hl2 hsl HL HREST HO HBz HRz HTz HWz HPz hWl hPl hsz hlt hxl HBr HRr HTr
          go_wp2_with fail
          refine (count_p W r5 16 _ HR.out (by omega)).mono ?_
          rintro e z2 ⟨ht, ⟨n2, s2, hp, rfl, hr⟩ | ⟨er, hp, hq⟩⟩
          case inr =>
            have hx : pMsg l = .error er := by rw [HM.out, list_bad hp]
            have hy := BAD.out er e _ _ HT.out ht hx hq
            obtain ⟨_, ⟨rfl, _⟩ | ⟨rfl, _⟩⟩ := hq
            · exact ⟨rfl, hy⟩
            · exact ⟨rfl, hy⟩
          have hn2 := count_le hp
          have hL := list_cnt (p := pRec) hp
          have HL := Lib.hid hL
          have HBz := Lib.hid (HB.out.tch ht HWP.out)
          have HRz := Lib.hid hr
          have HTz := Lib.hid (HT.out.then (ht.more (T := fun b => b = W ∨ b = P) (fun b _ h => .inl h)))
          replace HS0 := Lib.hid (HS0.out.tch ht (fun b hb h => by have := HWl.out; omega))
          replace HS1 := Lib.hid (HS1.out.tch ht (fun b hb h => by have := HWl.out; omega))
          have HWz := Lib.hid (show W < z2.heap.size from Nat.lt_of_lt_of_le HWl.out HTz.out.size)
          have HPz := Lib.hid (show P < z2.heap.size from Nat.lt_of_lt_of_le HPl.out HTz.out.size)
          clear hp hr ht hL HB HR HT
          go_wp2_with fail
          go_loopw [62] (fun vi wr => ∃ (xs : List RecA) (r : List UInt8) (v : Value), vi = .int .i64 xs.length ∧ xs.length ≤ n2 ∧ Hid (Rest pRec n2 s2 xs r) ∧ Hid (RdIs wr W r) ∧ Hid (wr.ownsRow z2.heap.size 109 6 v xs.length (xs.flatMap recC)) ∧ Hid (Bk wr P 30 #[.int .i64 a0, .int .i64 a1, .int .i64 a2, .bool a3, v0, v1, v]) ∧ Hid (Tch (fun b => b = W ∨ b = P) z2 wr)) (fun vi _ => n2 - (intOf vi).toNat)
          case atStart => exact ⟨[], s2, .slice none 0 0, rfl, by simp, Lib.hid (Rest.start _ _ _), HRz, Lib.hid (World.ownsRow_nil _ _ _ _), HBz, Lib.hid (Tch.refl _ _)⟩
          case round =>
            obtain ⟨xs, r, v, rfl, hxl, HREST, HRr, HO, HBr, HTr⟩ := hrel
            have hWl := HWz.out
            have hPl := HPz.out
            have hsz := HTr.out.size
            by_cases hlt : xs.length < n2
            · have hsl := own_slk recC_len HO.out
              obtain ⟨av, cv, rfl, _, _⟩ := hsl.shape
              have c4 := HBr.out.cell 6
              have f4 := HBr.out.frozen 6
              simp at c4
              rcases hp : pRec r with er | ⟨a, r'⟩
              · have HPA := Lib.hid hp
                have hx : pMsg l = .error er := by
                  have h1 : pRec r = .error er := hp
                  rw [HM.out, HL.out, HREST.out.bad hlt h1]
                have HX := Lib.hid hx
                clear hp hx hsl
                go_wp2_with fail
                go_region_dies
                all_goals
                  refine (rec_n (by exact HRr.out) HPA.out).mono ?_
                  rintro e w2 ⟨hq, ht2⟩
                  have hy := BAD.out er e _ _ (HTz.out.then HTr.out.drew) ht2 HX.out hq
                  obtain ⟨_, ⟨rfl, _⟩ | ⟨rfl, _⟩⟩ := hq
                  · exact ⟨rfl, hy⟩
                  · exact ⟨rfl, hy⟩
              · skip
                skip
                skip
                have HPA := Lib.hid hp
                clear hp  hsl
                go_wp2_with fail
                go_region_law (first
                  | (refine step_appK rfl (.tmp 68) (.tmp 71) 28 rfl z2.heap.size 109 rd0 (.agg #[.string ⟨#[]⟩, .int .u64 0, .int .i64 0, .int .i64 0, .bool false, .string ⟨#[]⟩]) 6 64 Try.underlying28 hrd0 hrz0 hrz1 hrz2 rfl (by omega) (.slice av xs.length cv) xs.length _ (by simp [Act.eval]) (HO2.out.alloc _) (some ⟨w2.heap.size, 0, none⟩) 1 1 (recC a) (by simp [Act.eval]) rfl (by simp) (by simp) (fun _ => ⟨_, rfl, fun j u hu => by rw [Addr.add_lit, Nat.zero_add]; exact ((Bk.made w2 109 (recC a).toArray).cell j).trans (by simpa using hu)⟩) (by intro u hu; simp [recC] at hu; rcases hu with rfl | rfl | rfl | rfl | rfl | rfl <;> rfl) (Nat.le_trans (show xs.length + 1 ≤ 65 by omega) (by decide : 65 ≤ maxLen)) (by omega) (by have := HTz2.out; simp at this ⊢; omega) ?_
                     intro v1 w3 HO3 HG3
                     obtain ⟨av1, cv1, rfl, _, _⟩ := (own_slk (enc := recC) (l := xs ++ [a]) recC_len (by simpa [recC] using HO3.out)).shape
                     have ht3 := (HT2.out.alloc (.cells (recC a).toArray 109)).grown HG3.out (fun k hk hlt => .inr (own_base HO.out hk).1)
                     have hb3 := HBr.out.tch ht3 (by rintro (h | h); exact HWP.out h; omega)
                     have c43 := hb3.cell 6
                     have f43 := hb3.frozen 6
                     simp at c43)
                  | (go_simp; go_at_call 92; refine (rec_y (by exact HRr.out) HPA.out).mono ?_; rintro e w2 ⟨rfl, hr2, ht2⟩; simp only [recC]; have HO2 := Lib.hid (own_tch (S := (· = W)) (by exact HO.out) ht2 (fun b hb hs => by have := (own_base HO.out hb).1; omega)); have HT2 := Lib.hid (Tch.more (T := fun b => b = W ∨ z2.heap.size ≤ b) (Tch.then (Tch.refl _ wr).drew (by exact ht2)) (fun b _ h => .inl h)); have HTz2 := Lib.hid ht2.size; have c42 := (HBr.out.tch HT2.out (by rintro (h | h); exact HWP.out h; omega)).cell 6; simp at c42; have hP2 : P < w2.heap.size := (by have := ht2.size; simp at this; omega); have HR2 := Lib.hid hr2; have HT2W := Lib.hid ht2; clear hr2 ht2))
                all_goals
                  go_wp2_with fail
                  go_roundw
                  case rel =>
                    have ho : w3.ownsRow z2.heap.size 109 6 (.slice av1 (xs.length + 1) cv1) (xs ++ [a]).length ((xs ++ [a]).flatMap recC) := by
                      rw [List.length_append, List.flatMap_append]
                      simpa [recC] using HO3.out
                    refine ⟨xs ++ [a], r', _, by first | (simp; done) | (simp; omega), by simp; omega, Lib.hid (HREST.out.next hlt (by exact HPA.out)), Lib.hid ?_, Lib.hid ?_, Lib.hid (by simpa using hb3.store 6 _), Lib.hid ?_⟩
                    · exact RdIs.other (Bk.tch (Bk.alloc HR2.out _) (Tch.of_grown HG3.out) (fun h => by have := (own_base HO.out h.symm).1; omega)) (fun h => HWP.out h.symm) _
                    · exact own_tch (S := fun b => b = P) ho ((Tch.refl (fun b => b = P) w3).setCell (p := ⟨P, 6, none⟩) (fun _ => rfl) _) (fun b hb hs => by have := (own_base ho hb).1; omega)
                    · exact (Tch.trans HTr.out ht3 (fun b hb h => by rcases h with h | h; exact .inl h; omega)).setCell (fun _ => .inr rfl) _
                  case measure => simp [intOf]; omega
            · have hxe : xs.length = n2 := by omega
              have hle := HREST.out.end_ hxe
              have hl2 : pList 16 pRec r5 = .ok (xs, r) := by rw [HL.out, hle]
              have hsl := own_slk recC_len HO.out
              have HS2 := Lib.hid (hsl.more (T := fun b => w.heap.size ≤ b) (fun b _ h => Nat.le_trans HTz.out.size h))
              replace HS0 := Lib.hid (HS0.out.tch HTr.out (fun b hb h => by have := HWl.out; have := HPl.out; omega))
              replace HS1 := Lib.hid (HS1.out.tch HTr.out (fun b hb h => by have := HWl.out; have := HPl.out; omega))
              obtain ⟨xs2, rfl⟩ : ∃ x, x = xs := ⟨_, rfl⟩
              obtain ⟨r6, rfl⟩ : ∃ x, x = r := ⟨_, rfl⟩
              obtain ⟨v2, rfl⟩ : ∃ x, x = v := ⟨_, rfl⟩
              obtain ⟨y6, rfl⟩ : ∃ x, x = wr := ⟨_, rfl⟩
              have HB := HBr
              have HR := HRr
              have HT := Lib.hid (HTz.out.then HTr.out)
              replace HM := Lib.hid (show pMsg l = .ok (⟨a0, a1, a2, a3, xs0, xs1, xs2⟩, r6) from by rw [HM.out, hl2])
              clear hle hl2 hsl HL HREST HO HBz HRz HTz HWz HPz hWl hPl hsz hlt hxl HBr HRr HTr
              go_wp2_with fail
              go_end0
              exact ⟨HT.out, .inl ⟨_, r6, ⟨v0, v1, v2⟩, HM.out, rfl, HR.out, HB.out, ⟨HS0.out, HS1.out, HS2.out⟩⟩⟩
end Go.Proofs.Ytebpdnmmcbianaa
