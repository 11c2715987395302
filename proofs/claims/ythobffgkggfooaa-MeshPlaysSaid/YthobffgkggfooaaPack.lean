/-
  Package pack: the runs (check, note, fail, the deferred end).
-/
import Derived.Test.YthobffgkggfooaaProg
import Derived.Test.YthobffgkggfooaaMem
import Derived.Lib.Hide
import Derived.LaidEqlPtr
import Derived.Lib.Builder
import Derived.Recover
set_option linter.unusedVariables false
namespace Go.Proofs.Ythobffgkggfooaa
open Go.RowKit

theorem note_new (b : Nat) (en : Int) (w : World) (hc : w.cell? ⟨b, 2, none⟩ = some (.int .i64 0)) (hz : w.frozen? ⟨b, 2, none⟩ = false) :
    Calls Try.prog 107 #[.pointer (some ⟨b, 0, none⟩), .int .i64 en] w fun e w' => e = .returned (.tuple #[]) ∧ w' = w.setCell ⟨b, 2, none⟩ (.int .i64 en) := by
  go_enter Try.func107, Try.ntmps107
  go_wp2
  go_end0
  exact ⟨rfl, rfl⟩
theorem note_old (b : Nat) (er en : Int) (w : World) (hc : w.cell? ⟨b, 2, none⟩ = some (.int .i64 er)) (he : (er == 0) = false) :
    Calls Try.prog 107 #[.pointer (some ⟨b, 0, none⟩), .int .i64 en] w fun e w' => e = .returned (.tuple #[]) ∧ w = w' := by
  go_enter Try.func107, Try.ntmps107
  go_wp2
  go_end0
  exact ⟨rfl, rfl⟩

theorem info_run : (Try.prog.info? 144).map (fun i => (i.zero, i.size, i.bytes)) = some (some (.agg #[.pointer none, .bool false, .int .i64 0]), 3, 24) := by kernel_rfl
theorem check_ok (b : Nat) (w : World) (hc : w.cell? ⟨b, 0, none⟩ = some (.pointer (some ⟨b, 0, none⟩))) :
    Calls Try.prog 82 #[.pointer (some ⟨b, 0, none⟩)] w fun e w' => e = .returned (.tuple #[]) ∧ w = w' := by
  obtain ⟨j, hj, _⟩ := info_parts info_run
  have hne := fun (w : World) (a : Addr) => Lib.run_neq_ptr_same (P := Try.prog) (w := w) (tp := 142) (te := 144) a Try.underlying142 hj
  go_enter Try.func82, Try.ntmps82
  go_wp2
  go_end0
  exact ⟨rfl, rfl⟩

/-- The panic that ends an f. -/
def stopE (of : Value) (en : Int) : PanicEntry := { v := .iface 167 (.agg #[of, .int .i64 en]), recovered := false }

theorem fail_ok (b : Nat) (en : Int) (w : World) (he : w.cell? ⟨b, 1, none⟩ = some (.bool false)) (hc : w.cell? ⟨b, 2, none⟩ = some (.int .i64 0)) (hz : w.frozen? ⟨b, 2, none⟩ = false) :
    Calls Try.prog 84 #[.pointer (some ⟨b, 0, none⟩), .int .i64 en] w fun e w' => e = .panicked [stopE (.pointer (some ⟨b, 0, none⟩)) en] ∧ w' = w.setCell ⟨b, 2, none⟩ (.int .i64 en) := by
  go_enter Try.func84, Try.ntmps84
  go_wp2_with (go_at_call 107; refine (note_new _ _ _ hc hz).mono ?_; rintro e w' ⟨rfl, rfl⟩)
  exact ⟨rfl, rfl, rfl⟩
/-- Refuse. -/
theorem refuse_ok (en : Int) (w : World) :
    Calls Try.prog 110 #[.int .i64 en] w fun e w' => e = .panicked [stopE (.pointer none) (if en = 0 then 4 else en)] ∧ w = w' := by
  by_cases h : en = 0
  · subst h
    go_enter Try.func110, Try.ntmps110
    go_wp2
    exact ⟨rfl, rfl, rfl⟩
  · rw [if_neg h]
    have h' := bne_ h
    go_enter Try.func110, Try.ntmps110
    go_wp2
    exact ⟨rfl, rfl, rfl⟩

/-- What the deferred end leaves of the run at p (a block of type T, whose fourth cell is x). -/
def EndR (T : TypeId) (p : Nat) (er : Int) (x : Value) (w w' : World) : Prop := Bk w' p T #[.pointer (some ⟨p, 0, none⟩), .bool true, .int .i64 er, x] ∧ Tch (· = p) w w'

/-- The deferred end, where f has returned. -/
theorem end_ret (T : TypeId) (B p : Nat) (er : Int) (x : Value) (w : World) (hb : Bk w p T #[.pointer (some ⟨p, 0, none⟩), .bool false, .int .i64 er, x]) (hpB : B ≠ p) (hB : w.cell? ⟨B, 0, none⟩ = some (.pointer (some ⟨p, 0, none⟩))) :
    CallsD Try.prog 106 #[.pointer (some ⟨B, 0, none⟩)] .returning w fun e u' w' =>
      e = .returned (.tuple #[]) ∧ u' = .returning ∧ EndR T p er x w w' := by
  have c1 := hb.cell 1
  have f1 := hb.frozen 1
  simp at c1
  have HB := Lib.hid hb
  have HB0 := Lib.hid hB
  clear hb
  refine callsD_of_wpS Try.func106 rfl fun c₀ cs hu => ?_
  apply wpS_seq
  refine wpS_of_wp ?_
  simp only [Try.ntmps106, List.size_toArray, List.length_cons, List.length_nil, Nat.reduceAdd, Nat.reduceSub, Array.replicate_succ, Array.replicate_zero, List.push_toArray, List.append_toArray, List.nil_append, List.cons_append]
  go_wp2
  simp only [Exit.thenS]
  apply wpS_seq
  apply wpS_region
  simp [wpOpsS, go_sem, recoverD, hu, Exit.thenS]
  refine wpS_of_wp ?_
  go_wp2
  exact ⟨rfl, .returning, by cases c₀; simp_all, _, results_none rfl _ _ _, rfl, rfl, by simpa using HB.out.store 1 (.bool true), (Tch.refl (· = p) w).setCell (p := ⟨p, 1, none⟩) (fun _ => rfl) _⟩

theorem ta_stop (x : Value) (w : World) : (Instr.typeAssert (.iface 167 x) 20 167 true).run Try.prog w = .ok (.tuple #[x, .bool true]) w := by kernel_rfl
theorem ta_str (x : Value) (w : World) : (Instr.typeAssert (.iface 9 x) 20 167 true).run Try.prog w = .ok (.tuple #[.agg #[.pointer none, .int .i64 0], .bool false]) w := by kernel_rfl

theorem end_new (T : TypeId) (B p : Nat) (en : Int) (x : Value) (older : List PanicEntry) (w : World) (hb : Bk w p T #[.pointer (some ⟨p, 0, none⟩), .bool false, .int .i64 0, x]) (hpB : B ≠ p) (hB : w.cell? ⟨B, 0, none⟩ = some (.pointer (some ⟨p, 0, none⟩))) :
    CallsD Try.prog 106 #[.pointer (some ⟨B, 0, none⟩)] (.panicking (stopE (.pointer none) en :: older)) w fun e u' w' =>
      e = .returned (.tuple #[]) ∧ u' = .panicking ({ stopE (.pointer none) en with recovered := true } :: older) ∧ EndR T p en x w w' := by
  have c1 := hb.cell 1
  have c2 := hb.cell 2
  have f1 := hb.frozen 1
  have f2 := hb.frozen 2
  have hpl := hb.lt
  simp at c1 c2
  have HB := Lib.hid hb
  have HB0 := Lib.hid hB
  have hbl := World.block_lt_of_cell? w _ hB
  simp only at hbl
  have hta := ta_stop
  have hta2 := ta_str
  clear hb
  refine callsD_of_wpS Try.func106 rfl fun c₀ cs hu => ?_
  apply wpS_seq
  refine wpS_of_wp ?_
  simp only [Try.ntmps106, List.size_toArray, List.length_cons, List.length_nil, Nat.reduceAdd, Nat.reduceSub, Array.replicate_succ, Array.replicate_zero, List.push_toArray, List.append_toArray, List.nil_append, List.cons_append]
  go_wp2
  simp only [Exit.thenS]
  apply wpS_seq
  apply wpS_region
  simp [wpOpsS, go_sem, recoverD, hu, Exit.thenS, stopE]
  refine wpS_of_wp ?_
  go_wp2_with fail
  refine (note_new p en _ (by rw [World.cell?_alloc_lt _ _ _ (by simpa using hpl), World.cell?_setCell_other _ _ _ _ (by simp)]; exact c2) (by rw [World.frozen?_alloc_old _ _ _ (by show ¬ p = _; simp; omega), World.frozen?_setCell]; exact f2)).mono ?_
  rintro e w' ⟨rfl, rfl⟩
  go_wp2_with fail
  exact ⟨rfl, _, rfl, _, results_none rfl _ _ _, rfl, rfl, by simpa using ((HB.out.store 1 (.bool true)).store 2 (.int .i64 en)).alloc _, (((Tch.refl (· = p) w).setCell (p := ⟨p, 1, none⟩) (fun _ => rfl) _).setCell (p := ⟨p, 2, none⟩) (fun _ => rfl) _).alloc _⟩

theorem end_old (T : TypeId) (B p : Nat) (en er : Int) (x : Value) (older : List PanicEntry) (w : World) (hb : Bk w p T #[.pointer (some ⟨p, 0, none⟩), .bool false, .int .i64 er, x]) (her : (er == 0) = false) (hpB : B ≠ p) (hB : w.cell? ⟨B, 0, none⟩ = some (.pointer (some ⟨p, 0, none⟩))) :
    CallsD Try.prog 106 #[.pointer (some ⟨B, 0, none⟩)] (.panicking (stopE (.pointer (some ⟨p, 0, none⟩)) en :: older)) w fun e u' w' =>
      e = .returned (.tuple #[]) ∧ u' = .panicking ({ stopE (.pointer (some ⟨p, 0, none⟩)) en with recovered := true } :: older) ∧ EndR T p er x w w' := by
  obtain ⟨j, hj, _⟩ := info_parts info_run
  have hne := fun (w : World) (a : Addr) => Lib.run_neq_ptr_same (P := Try.prog) (w := w) (tp := 142) (te := 144) a Try.underlying142 hj
  have c1 := hb.cell 1
  have c2 := hb.cell 2
  have f1 := hb.frozen 1
  have f2 := hb.frozen 2
  have hpl := hb.lt
  simp at c1 c2
  have HB := Lib.hid hb
  have HB0 := Lib.hid hB
  have hbl := World.block_lt_of_cell? w _ hB
  simp only at hbl
  have hta := ta_stop
  have hta2 := ta_str
  clear hb
  refine callsD_of_wpS Try.func106 rfl fun c₀ cs hu => ?_
  apply wpS_seq
  refine wpS_of_wp ?_
  simp only [Try.ntmps106, List.size_toArray, List.length_cons, List.length_nil, Nat.reduceAdd, Nat.reduceSub, Array.replicate_succ, Array.replicate_zero, List.push_toArray, List.append_toArray, List.nil_append, List.cons_append]
  go_wp2
  simp only [Exit.thenS]
  apply wpS_seq
  apply wpS_region
  simp [wpOpsS, go_sem, recoverD, hu, Exit.thenS, stopE]
  refine wpS_of_wp ?_
  go_wp2_with fail
  refine (note_old p er en _ (by rw [World.cell?_alloc_lt _ _ _ (by simpa using hpl), World.cell?_setCell_other _ _ _ _ (by simp)]; exact c2) her).mono ?_
  rintro e w' ⟨rfl, rfl⟩
  go_wp2_with fail
  exact ⟨rfl, _, rfl, _, results_none rfl _ _ _, rfl, rfl, by simpa using (HB.out.store 1 (.bool true)).alloc _, ((Tch.refl (· = p) w).setCell (p := ⟨p, 1, none⟩) (fun _ => rfl) _).alloc _⟩

theorem end_str (T : TypeId) (B p : Nat) (er : Int) (s x : Value) (older : List PanicEntry) (w : World) (hb : Bk w p T #[.pointer (some ⟨p, 0, none⟩), .bool false, .int .i64 er, x]) (hpB : B ≠ p) (hB : w.cell? ⟨B, 0, none⟩ = some (.pointer (some ⟨p, 0, none⟩))) :
    CallsD Try.prog 106 #[.pointer (some ⟨B, 0, none⟩)] (.panicking ({ v := .iface 9 s, recovered := false } :: older)) w fun e u' w' =>
      e = .panicked [{ v := .iface 9 s, recovered := false }] ∧ u' = .panicking ({ v := .iface 9 s, recovered := true } :: older) ∧ EndR T p er x w w' := by
  have c1 := hb.cell 1
  have c2 := hb.cell 2
  have f1 := hb.frozen 1
  have f2 := hb.frozen 2
  have hpl := hb.lt
  simp at c1 c2
  have HB := Lib.hid hb
  have HB0 := Lib.hid hB
  have hbl := World.block_lt_of_cell? w _ hB
  simp only at hbl
  have hta := ta_stop
  have hta2 := ta_str
  clear hb
  refine callsD_of_wpS Try.func106 rfl fun c₀ cs hu => ?_
  apply wpS_seq
  refine wpS_of_wp ?_
  simp only [Try.ntmps106, List.size_toArray, List.length_cons, List.length_nil, Nat.reduceAdd, Nat.reduceSub, Array.replicate_succ, Array.replicate_zero, List.push_toArray, List.append_toArray, List.nil_append, List.cons_append]
  go_wp2
  simp only [Exit.thenS]
  apply wpS_seq
  apply wpS_region
  simp [wpOpsS, go_sem, recoverD, hu, Exit.thenS]
  refine wpS_of_wp ?_
  go_wp2_with fail
  exact ⟨rfl, _, rfl, rfl, rfl, by simpa using HB.out.store 1 (.bool true), (Tch.refl (· = p) w).setCell (p := ⟨p, 1, none⟩) (fun _ => rfl) _⟩

/-- How an f may end, which was called in the world w1 with the run at p: of the old blocks it may have turned those of S. -/
def FOut (T : TypeId) (p : Nat) (S : Nat → Prop) (Q : Int → Value → World → Prop) (QS : Value → World → Prop) (w1 : World) (e : Ending) (w2 : World) : Prop :=
  Tch S w1 w2 ∧
    ((∃ x, e = .returned (.tuple #[]) ∧ Bk w2 p T #[.pointer (some ⟨p, 0, none⟩), .bool false, .int .i64 0, x] ∧ Q 0 x w2) ∨
     (∃ en x, en ≠ 0 ∧ e = .panicked [stopE (.pointer none) en] ∧ Bk w2 p T #[.pointer (some ⟨p, 0, none⟩), .bool false, .int .i64 0, x] ∧ Q en x w2) ∨
     (∃ en er x, er ≠ 0 ∧ e = .panicked [stopE (.pointer (some ⟨p, 0, none⟩)) en] ∧ Bk w2 p T #[.pointer (some ⟨p, 0, none⟩), .bool false, .int .i64 er, x] ∧ Q er x w2) ∨
     (∃ s er x, e = .panicked [{ v := .iface 9 s, recovered := false }] ∧ Bk w2 p T #[.pointer (some ⟨p, 0, none⟩), .bool false, .int .i64 er, x] ∧ QS s w2))

/-- How the call of it ends. -/
def COut (T : TypeId) (p : Nat) (Q : Int → Value → World → Prop) (QS : Value → World → Prop) (e : Ending) (w' : World) : Prop :=
  ∃ w2 er x, EndR T p er x w2 w' ∧ ((e = .returned (.tuple #[]) ∧ Q er x w2) ∨
    (∃ s, e = .panicked [{ v := .iface 9 s, recovered := false }, { v := .iface 9 s, recovered := true }] ∧ QS s w2))

theorem call_any (T : TypeId) (p : Nat) (x0 : Value) (G : FuncId) (caps : Array Value) (S : Nat → Prop) (Q : Int → Value → World → Prop) (QS : Value → World → Prop) (w : World)
    (hb : Bk w p T #[.pointer none, .bool false, .int .i64 0, x0]) (hS : ∀ b, S b → b < w.heap.size)
    (hG : ∀ (args : Array Value) (w : World), (callFunc G args).run Try.prog w = .ok (.enter G args) w)
    (hf : ∀ w1, Bk w1 p T #[.pointer (some ⟨p, 0, none⟩), .bool false, .int .i64 0, x0] → Tch (· = p) w w1 → Calls Try.prog G caps w1 (FOut T p S Q QS w1)) :
    Calls Try.prog 77 #[.pointer (some ⟨p, 0, none⟩), .func (.func G) #[] caps] w (COut T p Q QS) := by
  have c0 := hb.cell 0
  have f0 := hb.frozen 0
  have hpl := hb.lt
  simp at c0
  have HB := Lib.hid hb
  have HF := Lib.hid hf
  clear hb hf
  have hmf : ∀ (fn : Fn) (first cap : Array Value) (w : World), (Instr.makeFunc fn first cap).run Try.prog w = .ok (.func fn first cap) w := fun _ _ _ _ => rfl
  go_enter_defers Try.func77, Try.ntmps77
  go_wp2_with fail
  have hb1 : Bk ((w.setCell ⟨p, 0, none⟩ (.pointer (some ⟨p, 0, none⟩))).alloc (.cells #[.pointer (some ⟨p, 0, none⟩)] 142)) p T #[.pointer (some ⟨p, 0, none⟩), .bool false, .int .i64 0, x0] := by
    simpa using (HB.out.store 0 (.pointer (some ⟨p, 0, none⟩))).alloc _
  have hB1 := Bk.made (w.setCell ⟨p, 0, none⟩ (.pointer (some ⟨p, 0, none⟩))) 142 #[.pointer (some ⟨p, 0, none⟩)]
  simp only [World.size_setCell] at hB1
  refine (HF.out _ hb1 (((Tch.refl (· = p) w).setCell (p := ⟨p, 0, none⟩) (fun _ => rfl) _).alloc _)).mono ?_
  rintro e w2 ⟨ht, hcases⟩
  have hB2 := (hB1.tch ht (fun h => by have := hS _ h; omega)).cell 0
  simp at hB2
  have hne : w.heap.size ≠ p := by omega
  clear hb1 hB1
  rcases hcases with ⟨x, rfl, hbk, hq⟩ | ⟨en, x, hen, rfl, hbk, hq⟩ | ⟨en, er, x, her, rfl, hbk, hq⟩ | ⟨s, er, x, rfl, hbk, hq⟩
  · go_wp2_with fail
    refine leaves_cons (f := 106) (args := #[.pointer (some ⟨w.heap.size, 0, none⟩)]) (by simp) (by simp [go_sem]) ?_
    refine (end_ret T _ p 0 x w2 hbk hne hB2).mono ?_
    rintro e u' w3 ⟨rfl, rfl, hE⟩
    exact ⟨_, results_none rfl _ _ _, w2, 0, x, hE, .inl ⟨rfl, hq⟩⟩
  · refine leaves_cons (f := 106) (args := #[.pointer (some ⟨w.heap.size, 0, none⟩)]) (by simp) (by simp [go_sem]) ?_
    refine (end_new T _ p en x [] w2 hbk hne hB2).mono ?_
    rintro e u' w3 ⟨rfl, rfl, hE⟩
    exact ⟨_, results_none rfl _ _ _, w2, en, x, hE, .inl ⟨rfl, hq⟩⟩
  · refine leaves_cons (f := 106) (args := #[.pointer (some ⟨w.heap.size, 0, none⟩)]) (by simp) (by simp [go_sem]) ?_
    refine (end_old T _ p en er x [] w2 hbk (bne_ her) hne hB2).mono ?_
    rintro e u' w3 ⟨rfl, rfl, hE⟩
    exact ⟨_, results_none rfl _ _ _, w2, er, x, hE, .inl ⟨rfl, hq⟩⟩
  · refine leaves_cons (f := 106) (args := #[.pointer (some ⟨w.heap.size, 0, none⟩)]) (by simp) (by simp [go_sem]) ?_
    refine (end_str T _ p er s x [] w2 hbk hne hB2).mono ?_
    rintro e u' w3 ⟨rfl, rfl, hE⟩
    exact ⟨w2, er, x, hE, .inr ⟨s, rfl, hq⟩⟩
end Go.Proofs.Ythobffgkggfooaa
