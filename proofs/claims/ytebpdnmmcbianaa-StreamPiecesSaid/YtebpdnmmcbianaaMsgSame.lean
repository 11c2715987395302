/-
  Package message: Same.
-/
import Derived.Test.YtebpdnmmcbianaaMsgVal
import Derived.BigQuiet
import Derived.Deep.QuietTactic
import Derived.Laws.StructEq
set_option linter.unusedVariables false
set_option linter.unusedSimpArgs false
set_option maxRecDepth 100000
namespace Go.Proofs.Ytebpdnmmcbianaa
open Go.RowKit

theorem str_iff (a b : List UInt8) : str a = str b ↔ a = b := ⟨str_inj, fun h => by rw [h]⟩
instance : DecidableEq IdA := fun a b => decidable_of_iff (a.key = b.key ∧ a.ver = b.ver) (by
  obtain ⟨a1, a2⟩ := a
  obtain ⟨b1, b2⟩ := b
  simp)
instance : DecidableEq RecA := fun a b => decidable_of_iff (a.id = b.id ∧ a.origin = b.origin ∧ a.age = b.age ∧ a.gone = b.gone ∧ a.data = b.data) (by
  obtain ⟨a1, a2, a3, a4, a5⟩ := a
  obtain ⟨b1, b2, b3, b4, b5⟩ := b
  simp)
theorem sb (a b : List UInt8) : ((str a).toList == (str b).toList) = decide (a = b) := by
  by_cases h : a = b
  · rw [str_eq (by rw [h]), dec_ h]
  · rw [str_ne (fun e => h (str_inj e)), decn_ h]
theorem ib (a b : Int) : (a == b) = decide (a = b) := rfl
theorem eqId (d : Nat) (x y : IdA) (w : World) : (Op.equalIn (d + 2) 98 (.agg #[.string (str x.key), .int .u64 x.ver]) (.agg #[.string (str y.key), .int .u64 y.ver])).run Try.prog w = .ok (decide (x = y)) w := by
  have hS : Try.prog.underlying 98 = some (.struct (Try.prog.fieldsOf 98)) := by kernel_rfl
  have hp : Try.prog.stoodInHeld 98 = false := by kernel_rfl
  have u1 := Try.underlying9
  have u2 := Try.underlying96
  rw [run_equalIn_agg w (d + 1) _ _ _ hS hp]
  clear hS hp
  simp only [Program.fieldsOf, Try.underlying98]
  go_simp
  obtain ⟨x1, x2⟩ := x
  obtain ⟨y1, y2⟩ := y
  by_cases h1 : x1 = y1
  · by_cases h2 : x2 = y2
    · simp [h1, h2]
    · have h3 : ¬ (x2 : Int) = y2 := by omega
      simp [h1, h2, h3]
  · have h3 : ¬ (str x1).toList = (str y1).toList := fun e => h1 (str_inj (toList_inj e))
    simp [h1, h3]
theorem neId (x y : IdA) (w : World) : (binOp .neq 98 (.agg #[.string (str x.key), .int .u64 x.ver]) (.agg #[.string (str y.key), .int .u64 y.ver])).run Try.prog w = .ok (.bool (!decide (x = y))) w := by
  rw [run_neq_struct, show (10000 : Nat) = 9998 + 2 from rfl, eqId]
  rfl
theorem neRec (x y : RecA) (w : World) : (binOp .neq 109 (.agg #[.string (str x.id.key), .int .u64 x.id.ver, .int .i64 x.origin, .int .i64 x.age, .bool x.gone, .string (str x.data)]) (.agg #[.string (str y.id.key), .int .u64 y.id.ver, .int .i64 y.origin, .int .i64 y.age, .bool y.gone, .string (str y.data)])).run Try.prog w = .ok (.bool (!decide (x = y))) w := by
  have hS2 : Try.prog.underlying 109 = some (.struct (Try.prog.fieldsOf 109)) := by kernel_rfl
  have hp2 : Try.prog.stoodInHeld 109 = false := by kernel_rfl
  have u1 := Try.underlying9
  have u3 := Try.underlying3
  have u4 := Try.underlying4
  have hI := fun w => eqId 9997 x.id y.id w
  simp only [show (9997 : Nat) + 2 = 9999 from rfl] at hI
  rw [run_neq_struct, show (10000 : Nat) = 9999 + 1 from rfl, run_equalIn_agg w 9999 _ _ _ hS2 hp2]
  clear hS2 hp2
  simp only [Program.fieldsOf, Try.underlying109]
  go_simp
  obtain ⟨x1, x2, x3, x4, x5⟩ := x
  obtain ⟨y1, y2, y3, y4, y5⟩ := y
  by_cases h1 : x1 = y1 <;> by_cases h2 : x2 = y2 <;> by_cases h3 : x3 = y3 <;> by_cases h4 : x4 = y4 <;> by_cases h5 : x5 = y5
  all_goals first
    | (have h6 : ¬ (str x5).toList = (str y5).toList := fun e => h5 (str_inj (toList_inj e)); simp [h1, h2, h3, h4, h5, h6])
    | simp [h1, h2, h3, h4, h5]
theorem take_next {α : Type} (l r : List α) (j : Nat) (hl : j < l.length) (hr : j < r.length) (h : l.take j = r.take j) (e : l[j] = r[j]) : l.take (j + 1) = r.take (j + 1) := by
  rw [List.take_add_one, List.take_add_one, List.getElem?_eq_getElem hl, List.getElem?_eq_getElem hr, h, e]

theorem nodeEqual_ok (l r : List Int) (v u : Value) (S T : Nat → Prop) (w : World) (hl : Slk nodeC 1 w S v l) (hr : Slk nodeC 1 w T u r) :
    Calls Try.prog 56 #[v, u] w fun e w' => (∃ b, e = .returned (.bool b) ∧ (b = true ↔ l = r)) ∧ New w w' := by
  obtain ⟨ao, ca, rfl, ha1, ha2⟩ := hl.shape
  obtain ⟨bo, cb, rfl, hb1, hb2⟩ := hr.shape
  have hca : ca ≤ 9223372036854775807 := Nat.le_trans ha2 (by decide)
  have hcb : cb ≤ 9223372036854775807 := Nat.le_trans hb2 (by decide)
  have HL := Lib.hid hl
  have HR := Lib.hid hr
  clear hl hr ha2 hb2
  have hne := True.intro
  have hgd : Try.prog.eqGuardType Try.prog.depth 3 = false := by kernel_rfl
  go_enter Try.func56, Try.ntmps56
  by_cases hlen : l.length = r.length
  · have HLEN := Lib.hid hlen
    rw [hlen]
    rw [hlen] at HL ha1
    clear hlen
    go_wp2_with fail
    go_loopw [13] (fun vi wr => ∃ j : Nat, j ≤ r.length ∧ vi = .int .i64 j ∧ Hid (l.take j = r.take j) ∧ Hid (New w wr)) (fun vi _ => r.length - (intOf vi).toNat)
    case atStart => exact ⟨0, by omega, rfl, Lib.hid (by simp), Lib.hid (New.refl _)⟩
    case round =>
      obtain ⟨j, hj, rfl, HP, HN⟩ := hrel
      by_cases hlt : j < r.length
      · have hlt2 : j < l.length := by rw [HLEN.out]; exact hlt
        obtain ⟨x, hx⟩ : ∃ x, x = l[j] := ⟨_, rfl⟩
        obtain ⟨y, hy⟩ : ∃ y, y = r[j] := ⟨_, rfl⟩
        obtain ⟨b1, o1, rfl, _, hbl, hc⟩ := (HN.out.slk HL.out).at_ (by omega)
        obtain ⟨b2, o2, rfl, _, hbl2, hd⟩ := (HN.out.slk HR.out).at_ (by omega)
        have hcj := hc j hlt2
        have hdj := hd j hlt
        rw [← hx] at hcj
        rw [← hy] at hdj
        have c0 := hcj 0 _ rfl
        have d0 := hdj 0 _ rfl
        simp only [Nat.mul_one, Nat.add_zero] at c0 d0
        have HX := Lib.hid hx
        have HY := Lib.hid hy
        clear hc hd hcj hdj hx hy
        have hji : (j : Int) < (r.length : Int) := by omega
        go_wp2_with fail
        go_quiet (fail)
        obtain ⟨wq, hwq⟩ : ∃ wq, wq = wr.drewN nq := ⟨_, rfl⟩
        have HNQ : Hid (New w wq) := by rw [hwq]; exact HN.out.drewN _
        rw [← hwq]
        clear hwq
        by_cases hxy : x = y
        · have e1 : (x != y) = false := by simp [hxy]
          rw [e1]
          have HXY := Lib.hid hxy
          clear e1 hxy
          go_wp2_with fail
          go_roundw
          case rel => exact ⟨j + 1, by omega, by go_num, Lib.hid (take_next l r j hlt2 hlt HP.out (by rw [← HX.out, ← HY.out]; exact HXY.out)), HNQ⟩
          case measure => simp [intOf]; omega
        · have e1 : (x != y) = true := by simp [hxy]
          rw [e1]
          have HXY := Lib.hid hxy
          clear e1 hxy
          go_wp2_with fail
          go_ret
          exact ⟨⟨false, rfl, by simp; intro h; exact HXY.out (by rw [HX.out, HY.out]; simp [h])⟩, HNQ.out⟩
      · obtain rfl : j = r.length := by omega
        have hp := HP.out
        rw [List.take_of_length_le (by rw [HLEN.out]; exact Nat.le_refl _), List.take_of_length_le (Nat.le_refl _)] at hp
        have HPP := Lib.hid hp
        clear hp
        go_wp2_with fail
        go_ret
        exact ⟨⟨true, rfl, by simp [HPP.out]⟩, HN.out⟩
  · have hne : (l.length : Int) ≠ (r.length : Int) := by omega
    have hne2 : ((l.length : Int) != (r.length : Int)) = true := by rw [bne_iff_ne]; exact hne
    have HNE := Lib.hid hlen
    clear hlen
    go_wp2_with fail
    go_ret
    exact ⟨⟨false, rfl, by simp; intro h; exact HNE.out (by rw [h])⟩, New.refl _⟩

theorem idEqual_ok (l r : List IdA) (v u : Value) (S T : Nat → Prop) (w : World) (hl : Slk idC 2 w S v l) (hr : Slk idC 2 w T u r) :
    Calls Try.prog 57 #[v, u] w fun e w' => (∃ b, e = .returned (.bool b) ∧ (b = true ↔ l = r)) ∧ New w w' := by
  obtain ⟨ao, ca, rfl, ha1, ha2⟩ := hl.shape
  obtain ⟨bo, cb, rfl, hb1, hb2⟩ := hr.shape
  have hca : ca ≤ 9223372036854775807 := Nat.le_trans ha2 (by decide)
  have hcb : cb ≤ 9223372036854775807 := Nat.le_trans hb2 (by decide)
  have HL := Lib.hid hl
  have HR := Lib.hid hr
  clear hl hr ha2 hb2
  have hne := neId
  have hgd : Try.prog.eqGuardType Try.prog.depth 98 = false := by kernel_rfl
  go_enter Try.func57, Try.ntmps57
  by_cases hlen : l.length = r.length
  · have HLEN := Lib.hid hlen
    rw [hlen]
    rw [hlen] at HL ha1
    clear hlen
    go_wp2_with fail
    go_loopw [13] (fun vi wr => ∃ j : Nat, j ≤ r.length ∧ vi = .int .i64 j ∧ Hid (l.take j = r.take j) ∧ Hid (New w wr)) (fun vi _ => r.length - (intOf vi).toNat)
    case atStart => exact ⟨0, by omega, rfl, Lib.hid (by simp), Lib.hid (New.refl _)⟩
    case round =>
      obtain ⟨j, hj, rfl, HP, HN⟩ := hrel
      by_cases hlt : j < r.length
      · have hlt2 : j < l.length := by rw [HLEN.out]; exact hlt
        obtain ⟨x, hx⟩ : ∃ x, x = l[j] := ⟨_, rfl⟩
        obtain ⟨y, hy⟩ : ∃ y, y = r[j] := ⟨_, rfl⟩
        obtain ⟨b1, o1, rfl, _, hbl, hc⟩ := (HN.out.slk HL.out).at_ (by omega)
        obtain ⟨b2, o2, rfl, _, hbl2, hd⟩ := (HN.out.slk HR.out).at_ (by omega)
        have hcj := hc j hlt2
        have hdj := hd j hlt
        rw [← hx] at hcj
        rw [← hy] at hdj
        have c0 := hcj 0 _ rfl
        have d0 := hdj 0 _ rfl
        have c1 := hcj 1 _ rfl
        have d1 := hdj 1 _ rfl
        simp only [Nat.mul_one, Nat.add_zero] at c0 d0
        have HX := Lib.hid hx
        have HY := Lib.hid hy
        clear hc hd hcj hdj hx hy
        have hji : (j : Int) < (r.length : Int) := by omega
        go_wp2_with fail
        go_quiet (fail)
        obtain ⟨wq, hwq⟩ : ∃ wq, wq = wr.drewN nq := ⟨_, rfl⟩
        have HNQ : Hid (New w wq) := by rw [hwq]; exact HN.out.drewN _
        rw [← hwq]
        clear hwq
        by_cases hxy : x = y
        · have e1 : decide (x = y) = true := by simp [hxy]
          rw [e1]
          have HXY := Lib.hid hxy
          clear e1 hxy
          go_wp2_with fail
          go_roundw
          case rel => exact ⟨j + 1, by omega, by go_num, Lib.hid (take_next l r j hlt2 hlt HP.out (by rw [← HX.out, ← HY.out]; exact HXY.out)), HNQ⟩
          case measure => simp [intOf]; omega
        · have e1 : decide (x = y) = false := by simp [hxy]
          rw [e1]
          have HXY := Lib.hid hxy
          clear e1 hxy
          go_wp2_with fail
          go_ret
          exact ⟨⟨false, rfl, by simp; intro h; exact HXY.out (by rw [HX.out, HY.out]; simp [h])⟩, HNQ.out⟩
      · obtain rfl : j = r.length := by omega
        have hp := HP.out
        rw [List.take_of_length_le (by rw [HLEN.out]; exact Nat.le_refl _), List.take_of_length_le (Nat.le_refl _)] at hp
        have HPP := Lib.hid hp
        clear hp
        go_wp2_with fail
        go_ret
        exact ⟨⟨true, rfl, by simp [HPP.out]⟩, HN.out⟩
  · have hne : (l.length : Int) ≠ (r.length : Int) := by omega
    have hne2 : ((l.length : Int) != (r.length : Int)) = true := by rw [bne_iff_ne]; exact hne
    have HNE := Lib.hid hlen
    clear hlen
    go_wp2_with fail
    go_ret
    exact ⟨⟨false, rfl, by simp; intro h; exact HNE.out (by rw [h])⟩, New.refl _⟩

theorem recEqual_ok (l r : List RecA) (v u : Value) (S T : Nat → Prop) (w : World) (hl : Slk recC 6 w S v l) (hr : Slk recC 6 w T u r) :
    Calls Try.prog 58 #[v, u] w fun e w' => (∃ b, e = .returned (.bool b) ∧ (b = true ↔ l = r)) ∧ New w w' := by
  obtain ⟨ao, ca, rfl, ha1, ha2⟩ := hl.shape
  obtain ⟨bo, cb, rfl, hb1, hb2⟩ := hr.shape
  have hca : ca ≤ 9223372036854775807 := Nat.le_trans ha2 (by decide)
  have hcb : cb ≤ 9223372036854775807 := Nat.le_trans hb2 (by decide)
  have HL := Lib.hid hl
  have HR := Lib.hid hr
  clear hl hr ha2 hb2
  have hne := neRec
  have hgd : Try.prog.eqGuardType Try.prog.depth 109 = false := by kernel_rfl
  go_enter Try.func58, Try.ntmps58
  by_cases hlen : l.length = r.length
  · have HLEN := Lib.hid hlen
    rw [hlen]
    rw [hlen] at HL ha1
    clear hlen
    go_wp2_with fail
    go_loopw [13] (fun vi wr => ∃ j : Nat, j ≤ r.length ∧ vi = .int .i64 j ∧ Hid (l.take j = r.take j) ∧ Hid (New w wr)) (fun vi _ => r.length - (intOf vi).toNat)
    case atStart => exact ⟨0, by omega, rfl, Lib.hid (by simp), Lib.hid (New.refl _)⟩
    case round =>
      obtain ⟨j, hj, rfl, HP, HN⟩ := hrel
      by_cases hlt : j < r.length
      · have hlt2 : j < l.length := by rw [HLEN.out]; exact hlt
        obtain ⟨x, hx⟩ : ∃ x, x = l[j] := ⟨_, rfl⟩
        obtain ⟨y, hy⟩ : ∃ y, y = r[j] := ⟨_, rfl⟩
        obtain ⟨b1, o1, rfl, _, hbl, hc⟩ := (HN.out.slk HL.out).at_ (by omega)
        obtain ⟨b2, o2, rfl, _, hbl2, hd⟩ := (HN.out.slk HR.out).at_ (by omega)
        have hcj := hc j hlt2
        have hdj := hd j hlt
        rw [← hx] at hcj
        rw [← hy] at hdj
        have c0 := hcj 0 _ rfl
        have d0 := hdj 0 _ rfl
        have c1 := hcj 1 _ rfl
        have d1 := hdj 1 _ rfl
        have c2 := hcj 2 _ rfl
        have d2 := hdj 2 _ rfl
        have c3 := hcj 3 _ rfl
        have d3 := hdj 3 _ rfl
        have c4 := hcj 4 _ rfl
        have d4 := hdj 4 _ rfl
        have c5 := hcj 5 _ rfl
        have d5 := hdj 5 _ rfl
        simp only [Nat.mul_one, Nat.add_zero] at c0 d0
        have HX := Lib.hid hx
        have HY := Lib.hid hy
        clear hc hd hcj hdj hx hy
        have hji : (j : Int) < (r.length : Int) := by omega
        go_wp2_with fail
        go_quiet (fail)
        obtain ⟨wq, hwq⟩ : ∃ wq, wq = wr.drewN nq := ⟨_, rfl⟩
        have HNQ : Hid (New w wq) := by rw [hwq]; exact HN.out.drewN _
        rw [← hwq]
        clear hwq
        by_cases hxy : x = y
        · have e1 : decide (x = y) = true := by simp [hxy]
          rw [e1]
          have HXY := Lib.hid hxy
          clear e1 hxy
          go_wp2_with fail
          go_roundw
          case rel => exact ⟨j + 1, by omega, by go_num, Lib.hid (take_next l r j hlt2 hlt HP.out (by rw [← HX.out, ← HY.out]; exact HXY.out)), HNQ⟩
          case measure => simp [intOf]; omega
        · have e1 : decide (x = y) = false := by simp [hxy]
          rw [e1]
          have HXY := Lib.hid hxy
          clear e1 hxy
          go_wp2_with fail
          go_ret
          exact ⟨⟨false, rfl, by simp; intro h; exact HXY.out (by rw [HX.out, HY.out]; simp [h])⟩, HNQ.out⟩
      · obtain rfl : j = r.length := by omega
        have hp := HP.out
        rw [List.take_of_length_le (by rw [HLEN.out]; exact Nat.le_refl _), List.take_of_length_le (Nat.le_refl _)] at hp
        have HPP := Lib.hid hp
        clear hp
        go_wp2_with fail
        go_ret
        exact ⟨⟨true, rfl, by simp [HPP.out]⟩, HN.out⟩
  · have hne : (l.length : Int) ≠ (r.length : Int) := by omega
    have hne2 : ((l.length : Int) != (r.length : Int)) = true := by rw [bne_iff_ne]; exact hne
    have HNE := Lib.hid hlen
    clear hlen
    go_wp2_with fail
    go_ret
    exact ⟨⟨false, rfl, by simp; intro h; exact HNE.out (by rw [h])⟩, New.refl _⟩

/-- How Same ends. -/
def SameR (m n : MsgA) (w : World) (e : Ending) (w' : World) : Prop := (∃ b, e = .returned (.bool b) ∧ (b = true ↔ m = n)) ∧ New w w'
theorem SameR.yes {m n : MsgA} {w w' : World} (h : m = n) (k : New w w') : SameR m n w (.returned (.bool true)) w' := ⟨⟨true, rfl, by simp [h]⟩, k⟩
theorem SameR.no {m n : MsgA} {w w' : World} (h : m ≠ n) (k : New w w') : SameR m n w (.returned (.bool false)) w' := ⟨⟨false, rfl, by simp [h]⟩, k⟩
/-- Same. -/
theorem same_ok (m n : MsgA) (v u : MsgV) (S T : Nat → Prop) (w : World) (h : MsgIs w S m v) (k : MsgIs w T n u) :
    Calls Try.prog 20 #[.agg (msgC m v), .agg (msgC n u)] w (SameR m n w) := by
  obtain ⟨vn, vi, vr⟩ := v
  obtain ⟨un, ui, ur⟩ := u
  obtain ⟨hn, hi, hr⟩ := h
  obtain ⟨kn, ki, kr⟩ := k
  obtain ⟨an, cn, rfl, _, _⟩ := hn.shape
  obtain ⟨ai, ci, rfl, _, _⟩ := hi.shape
  obtain ⟨ar, cr, rfl, _, _⟩ := hr.shape
  obtain ⟨bn, dn, rfl, _, _⟩ := kn.shape
  obtain ⟨bi, di, rfl, _, _⟩ := ki.shape
  obtain ⟨br, dr, rfl, _, _⟩ := kr.shape
  obtain ⟨w1, hw1⟩ : ∃ w1, w1 = (w.alloc (.cells (msgC m ⟨.slice an m.nodes.length cn, .slice ai m.ids.length ci, .slice ar m.recs.length cr⟩) 30)).alloc (.cells (msgC n ⟨.slice bn n.nodes.length dn, .slice bi n.ids.length di, .slice br n.recs.length dr⟩) 30) := ⟨_, rfl⟩
  have h1 : New w w1 := by rw [hw1]; exact ((New.refl w).alloc _).alloc _
  have hb : Bk w1 w.heap.size 30 (msgC m ⟨.slice an m.nodes.length cn, .slice ai m.ids.length ci, .slice ar m.recs.length cr⟩) := by rw [hw1]; exact (Bk.made w _ _).alloc _
  have hc : Bk w1 (w.heap.size + 1) 30 (msgC n ⟨.slice bn n.nodes.length dn, .slice bi n.ids.length di, .slice br n.recs.length dr⟩) := by
    have := Bk.made (w.alloc (.cells (msgC m ⟨.slice an m.nodes.length cn, .slice ai m.ids.length ci, .slice ar m.recs.length cr⟩) 30)) 30 (msgC n ⟨.slice bn n.nodes.length dn, .slice bi n.ids.length di, .slice br n.recs.length dr⟩)
    rw [hw1]
    simpa using this
  have H1 := Lib.hid h1
  have HB := Lib.hid hb
  have HC := Lib.hid hc
  have HW1 := Lib.hid hw1
  have HNn := Lib.hid (h1.slk hn)
  have HNi := Lib.hid (h1.slk hi)
  have HNr := Lib.hid (h1.slk hr)
  have KNn := Lib.hid (h1.slk kn)
  have KNi := Lib.hid (h1.slk ki)
  have KNr := Lib.hid (h1.slk kr)
  clear hn hi hr kn ki kr hb hc hw1 h1
  simp only [msgC]
  by_cases h0 : m.kind = n.kind
  · by_cases h1 : m.node = n.node
    · by_cases h2 : m.walk = n.walk
      · by_cases h3 : m.high = n.high
        · by_cases h4 : m.nodes = n.nodes
          · by_cases h5 : m.ids = n.ids
            · by_cases h6 : m.recs = n.recs
              · have heq : m = n := by
                  cases m; cases n
                  simp only at h0 h1 h2 h3 h4 h5 h6
                  simp [h0, h1, h2, h3, h4, h5, h6]
                have e0 : (m.kind == n.kind) = true := by simp [h0]
                have e1 : (m.node == n.node) = true := by simp [h1]
                have e2 : (m.walk == n.walk) = true := by simp [h2]
                have e3 : (m.high == n.high) = true := by simp [h3]
                have E5 := Lib.hid h4
                have E6 := Lib.hid h5
                have E7 := Lib.hid h6
                have HEQ := Lib.hid heq
                clear heq h0 h1 h2 h3 h4 h5 h6
                go_enter Try.func20, Try.ntmps20
                go_wp2_with fail
                have hwx := HW1.out
                simp only [msgC] at hwx
                rw [← hwx]
                clear hwx
                refine (nodeEqual_ok m.nodes n.nodes _ _ S T _ HNn.out KNn.out).mono ?_
                rintro e x0 ⟨⟨b, rfl, hb⟩, hn⟩
                obtain rfl : b = true := hb.2 E5.out
                replace H1 := Lib.hid (H1.out.then hn)
                replace HB := Lib.hid (hn.bk HB.out)
                replace HC := Lib.hid (hn.bk HC.out)
                replace HNi := Lib.hid (hn.slk HNi.out)
                replace KNi := Lib.hid (hn.slk KNi.out)
                replace HNr := Lib.hid (hn.slk HNr.out)
                replace KNr := Lib.hid (hn.slk KNr.out)
                have b01 := HB.out.cell 5
                have c01 := HC.out.cell 5
                simp [msgC] at b01 c01
                have b02 := HB.out.cell 6
                have c02 := HC.out.cell 6
                simp [msgC] at b02 c02
                clear hn hb
                go_wp2_with fail
                refine (idEqual_ok m.ids n.ids _ _ S T _ HNi.out KNi.out).mono ?_
                rintro e x1 ⟨⟨b, rfl, hb⟩, hn⟩
                obtain rfl : b = true := hb.2 E6.out
                replace H1 := Lib.hid (H1.out.then hn)
                replace HB := Lib.hid (hn.bk HB.out)
                replace HC := Lib.hid (hn.bk HC.out)
                replace HNr := Lib.hid (hn.slk HNr.out)
                replace KNr := Lib.hid (hn.slk KNr.out)
                have b12 := HB.out.cell 6
                have c12 := HC.out.cell 6
                simp [msgC] at b12 c12
                clear hn hb
                go_wp2_with fail
                refine (recEqual_ok m.recs n.recs _ _ S T _ HNr.out KNr.out).mono ?_
                rintro e x2 ⟨⟨b, rfl, hb⟩, hn⟩
                obtain rfl : b = true := hb.2 E7.out
                replace H1 := Lib.hid (H1.out.then hn)
                replace HB := Lib.hid (hn.bk HB.out)
                replace HC := Lib.hid (hn.bk HC.out)
                clear hn hb
                go_wp2_with fail
                go_ret
                exact SameR.yes HEQ.out H1.out
              · have heq : m ≠ n := by intro h; exact h6 (by rw [h])
                have e0 : (m.kind == n.kind) = true := by simp [h0]
                have e1 : (m.node == n.node) = true := by simp [h1]
                have e2 : (m.walk == n.walk) = true := by simp [h2]
                have e3 : (m.high == n.high) = true := by simp [h3]
                have E5 := Lib.hid h4
                have E6 := Lib.hid h5
                have E7 := Lib.hid h6
                have HEQ := Lib.hid heq
                clear heq h0 h1 h2 h3 h4 h5 h6
                go_enter Try.func20, Try.ntmps20
                go_wp2_with fail
                have hwx := HW1.out
                simp only [msgC] at hwx
                rw [← hwx]
                clear hwx
                refine (nodeEqual_ok m.nodes n.nodes _ _ S T _ HNn.out KNn.out).mono ?_
                rintro e x0 ⟨⟨b, rfl, hb⟩, hn⟩
                obtain rfl : b = true := hb.2 E5.out
                replace H1 := Lib.hid (H1.out.then hn)
                replace HB := Lib.hid (hn.bk HB.out)
                replace HC := Lib.hid (hn.bk HC.out)
                replace HNi := Lib.hid (hn.slk HNi.out)
                replace KNi := Lib.hid (hn.slk KNi.out)
                replace HNr := Lib.hid (hn.slk HNr.out)
                replace KNr := Lib.hid (hn.slk KNr.out)
                have b01 := HB.out.cell 5
                have c01 := HC.out.cell 5
                simp [msgC] at b01 c01
                have b02 := HB.out.cell 6
                have c02 := HC.out.cell 6
                simp [msgC] at b02 c02
                clear hn hb
                go_wp2_with fail
                refine (idEqual_ok m.ids n.ids _ _ S T _ HNi.out KNi.out).mono ?_
                rintro e x1 ⟨⟨b, rfl, hb⟩, hn⟩
                obtain rfl : b = true := hb.2 E6.out
                replace H1 := Lib.hid (H1.out.then hn)
                replace HB := Lib.hid (hn.bk HB.out)
                replace HC := Lib.hid (hn.bk HC.out)
                replace HNr := Lib.hid (hn.slk HNr.out)
                replace KNr := Lib.hid (hn.slk KNr.out)
                have b12 := HB.out.cell 6
                have c12 := HC.out.cell 6
                simp [msgC] at b12 c12
                clear hn hb
                go_wp2_with fail
                refine (recEqual_ok m.recs n.recs _ _ S T _ HNr.out KNr.out).mono ?_
                rintro e x2 ⟨⟨b, rfl, hb⟩, hn⟩
                obtain rfl : b = false := (by cases b; rfl; exact absurd (hb.1 rfl) E7.out)
                replace H1 := Lib.hid (H1.out.then hn)
                replace HB := Lib.hid (hn.bk HB.out)
                replace HC := Lib.hid (hn.bk HC.out)
                clear hn hb
                go_wp2_with fail
                go_ret
                exact SameR.no HEQ.out H1.out
            · have heq : m ≠ n := by intro h; exact h5 (by rw [h])
              have e0 : (m.kind == n.kind) = true := by simp [h0]
              have e1 : (m.node == n.node) = true := by simp [h1]
              have e2 : (m.walk == n.walk) = true := by simp [h2]
              have e3 : (m.high == n.high) = true := by simp [h3]
              have E5 := Lib.hid h4
              have E6 := Lib.hid h5
              have HEQ := Lib.hid heq
              clear heq h0 h1 h2 h3 h4 h5
              go_enter Try.func20, Try.ntmps20
              go_wp2_with fail
              have hwx := HW1.out
              simp only [msgC] at hwx
              rw [← hwx]
              clear hwx
              refine (nodeEqual_ok m.nodes n.nodes _ _ S T _ HNn.out KNn.out).mono ?_
              rintro e x0 ⟨⟨b, rfl, hb⟩, hn⟩
              obtain rfl : b = true := hb.2 E5.out
              replace H1 := Lib.hid (H1.out.then hn)
              replace HB := Lib.hid (hn.bk HB.out)
              replace HC := Lib.hid (hn.bk HC.out)
              replace HNi := Lib.hid (hn.slk HNi.out)
              replace KNi := Lib.hid (hn.slk KNi.out)
              replace HNr := Lib.hid (hn.slk HNr.out)
              replace KNr := Lib.hid (hn.slk KNr.out)
              have b01 := HB.out.cell 5
              have c01 := HC.out.cell 5
              simp [msgC] at b01 c01
              have b02 := HB.out.cell 6
              have c02 := HC.out.cell 6
              simp [msgC] at b02 c02
              clear hn hb
              go_wp2_with fail
              refine (idEqual_ok m.ids n.ids _ _ S T _ HNi.out KNi.out).mono ?_
              rintro e x1 ⟨⟨b, rfl, hb⟩, hn⟩
              obtain rfl : b = false := (by cases b; rfl; exact absurd (hb.1 rfl) E6.out)
              replace H1 := Lib.hid (H1.out.then hn)
              replace HB := Lib.hid (hn.bk HB.out)
              replace HC := Lib.hid (hn.bk HC.out)
              replace HNr := Lib.hid (hn.slk HNr.out)
              replace KNr := Lib.hid (hn.slk KNr.out)
              have b12 := HB.out.cell 6
              have c12 := HC.out.cell 6
              simp [msgC] at b12 c12
              clear hn hb
              go_wp2_with fail
              go_ret
              exact SameR.no HEQ.out H1.out
          · have heq : m ≠ n := by intro h; exact h4 (by rw [h])
            have e0 : (m.kind == n.kind) = true := by simp [h0]
            have e1 : (m.node == n.node) = true := by simp [h1]
            have e2 : (m.walk == n.walk) = true := by simp [h2]
            have e3 : (m.high == n.high) = true := by simp [h3]
            have E5 := Lib.hid h4
            have HEQ := Lib.hid heq
            clear heq h0 h1 h2 h3 h4
            go_enter Try.func20, Try.ntmps20
            go_wp2_with fail
            have hwx := HW1.out
            simp only [msgC] at hwx
            rw [← hwx]
            clear hwx
            refine (nodeEqual_ok m.nodes n.nodes _ _ S T _ HNn.out KNn.out).mono ?_
            rintro e x0 ⟨⟨b, rfl, hb⟩, hn⟩
            obtain rfl : b = false := (by cases b; rfl; exact absurd (hb.1 rfl) E5.out)
            replace H1 := Lib.hid (H1.out.then hn)
            replace HB := Lib.hid (hn.bk HB.out)
            replace HC := Lib.hid (hn.bk HC.out)
            replace HNi := Lib.hid (hn.slk HNi.out)
            replace KNi := Lib.hid (hn.slk KNi.out)
            replace HNr := Lib.hid (hn.slk HNr.out)
            replace KNr := Lib.hid (hn.slk KNr.out)
            have b01 := HB.out.cell 5
            have c01 := HC.out.cell 5
            simp [msgC] at b01 c01
            have b02 := HB.out.cell 6
            have c02 := HC.out.cell 6
            simp [msgC] at b02 c02
            clear hn hb
            go_wp2_with fail
            go_ret
            exact SameR.no HEQ.out H1.out
        · have heq : m ≠ n := by intro h; exact h3 (by rw [h])
          have e0 : (m.kind == n.kind) = true := by simp [h0]
          have e1 : (m.node == n.node) = true := by simp [h1]
          have e2 : (m.walk == n.walk) = true := by simp [h2]
          have e3 : (m.high == n.high) = false := by simp [h3]
          have HEQ := Lib.hid heq
          clear heq h0 h1 h2 h3
          go_enter Try.func20, Try.ntmps20
          go_wp2_with fail
          go_ret
          exact SameR.no HEQ.out (((New.refl w).alloc _).alloc _)
      · have heq : m ≠ n := by intro h; exact h2 (by rw [h])
        have e0 : (m.kind == n.kind) = true := by simp [h0]
        have e1 : (m.node == n.node) = true := by simp [h1]
        have e2 : (m.walk == n.walk) = false := by simp [h2]
        have HEQ := Lib.hid heq
        clear heq h0 h1 h2
        go_enter Try.func20, Try.ntmps20
        go_wp2_with fail
        go_ret
        exact SameR.no HEQ.out (((New.refl w).alloc _).alloc _)
    · have heq : m ≠ n := by intro h; exact h1 (by rw [h])
      have e0 : (m.kind == n.kind) = true := by simp [h0]
      have e1 : (m.node == n.node) = false := by simp [h1]
      have HEQ := Lib.hid heq
      clear heq h0 h1
      go_enter Try.func20, Try.ntmps20
      go_wp2_with fail
      go_ret
      exact SameR.no HEQ.out (((New.refl w).alloc _).alloc _)
  · have heq : m ≠ n := by intro h; exact h0 (by rw [h])
    have e0 : (m.kind == n.kind) = false := by simp [h0]
    have HEQ := Lib.hid heq
    clear heq h0
    go_enter Try.func20, Try.ntmps20
    go_wp2_with fail
    go_ret
    exact SameR.no HEQ.out (((New.refl w).alloc _).alloc _)
end Go.Proofs.Ytebpdnmmcbianaa
