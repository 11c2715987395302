/-
  PackPanics: a panic that is another's goes on as it is.
-/
import Derived.Test.YtgnpnlelkkkmeaaPackLaw
set_option linter.unusedVariables false
namespace Go.Proofs.Ytgnpnlelkkkmeaa
open Go.RowKit

theorem enters47 (args : Array Value) (w : World) : (callFunc 47 args).run Try.prog w = .ok (.enter 47 args) w := by simp [go_sem]
theorem enters48 (args : Array Value) (w : World) : (callFunc 48 args).run Try.prog w = .ok (.enter 48 args) w := by simp [go_sem]

theorem caught2 (W B : Nat) (s : ByteArray) (w : World) (h : w.cell? ⟨B, 0, none⟩ = some (.string s)) :
    Calls Try.prog 47 #[.pointer (some ⟨W, 0, none⟩), .pointer (some ⟨B, 0, none⟩)] w fun e w' => e = .panicked [{ v := .iface 9 (.string s), recovered := false }] ∧ w = w' := by
  go_enter Try.func47, Try.ntmps47
  go_wp2_with fail
  exact ⟨rfl, rfl, rfl⟩
theorem caught3 (W B : Nat) (s : ByteArray) (w : World) (h : w.cell? ⟨B, 0, none⟩ = some (.string s)) :
    Calls Try.prog 48 #[.pointer (some ⟨W, 0, none⟩), .pointer (some ⟨B, 0, none⟩)] w fun e w' => e = .panicked [{ v := .iface 9 (.string s), recovered := false }] ∧ w = w' := by
  go_enter Try.func48, Try.ntmps48
  go_wp2_with fail
  exact ⟨rfl, rfl, rfl⟩

theorem ta_text (x : Value) (w : World) : (Instr.typeAssert (.iface 9 x) 20 9 true).run Try.prog w = .ok (.tuple #[x, .bool true]) w := by kernel_rfl

theorem caught1 (G : Nat) (s : ByteArray) (x : Value) (older : List PanicEntry) (w : World) (hb : Bk w G 9 #[x]) :
    CallsD Try.prog 46 #[.pointer (some ⟨G, 0, none⟩)] (.panicking ({ v := .iface 9 (.string s), recovered := false } :: older)) w fun e u' w' =>
      e = .returned (.tuple #[]) ∧ u' = .panicking ({ v := .iface 9 (.string s), recovered := true } :: older) ∧ Bk w' G 9 #[.string s] ∧ Tch (· = G) w w' := by
  have c0 := hb.cell 0
  have f0 := hb.frozen 0
  simp at c0
  have HB := Lib.hid hb
  have hta := ta_text
  clear hb
  refine callsD_of_wpS Try.func46 rfl fun c₀ cs hu => ?_
  simp only [Try.ntmps46, List.size_toArray, List.length_cons, List.length_nil, Nat.reduceAdd, Nat.reduceSub, Array.replicate_succ, Array.replicate_zero, List.push_toArray, List.append_toArray, List.nil_append, List.cons_append]
  apply wpS_seq
  apply wpS_region
  simp [wpOpsS, go_sem, recoverD, hu, Exit.thenS, hta]
  refine wpS_of_wp ?_
  go_wp2_with fail
  exact ⟨rfl, _, rfl, _, results_none rfl _ _ _, rfl, rfl, by simpa using HB.out.store 0 (.string s), (Tch.refl (· = G) w).setCell (p := ⟨G, 0, none⟩) (fun _ => rfl) _⟩

theorem caught_true (s : ByteArray) (w : World) : Calls Try.prog 26 #[.string s, .bool true] w fun e w' => e = .returned (.string s) ∧ Below w.heap.size w w' := by
  have hmf : ∀ (fn : Fn) (first cap : Array Value) (w : World), (Instr.makeFunc fn first cap).run Try.prog w = .ok (.func fn first cap) w := fun _ _ _ _ => rfl
  go_enter_defers Try.func26, Try.ntmps26
  go_wp2_with fail
  have hb0 : Bk ((w.alloc (.cells #[.string s] 9)).alloc (.cells #[.string ⟨#[]⟩] 9)) w.heap.size 9 #[.string s] := (Bk.made w 9 #[.string s]).alloc _
  have hb1 : Bk ((w.alloc (.cells #[.string s] 9)).alloc (.cells #[.string ⟨#[]⟩] 9)) (w.heap.size + 1) 9 #[.string ⟨#[]⟩] := by
    simpa using Bk.made (w.alloc (.cells #[.string s] 9)) 9 #[.string ⟨#[]⟩]
  have hbl : Below w.heap.size w ((w.alloc (.cells #[.string s] 9)).alloc (.cells #[.string ⟨#[]⟩] 9)) := ((Below.refl _ w).alloc (Nat.le_refl _) _).alloc (by simp) _
  generalize hw0 : (w.alloc (.cells #[.string s] 9)).alloc (.cells #[.string ⟨#[]⟩] 9) = w0 at *
  have hs0 : w0.heap.size = w.heap.size + 2 := by rw [← hw0]; simp
  clear hw0
  refine (write_any 47 #[.pointer (some ⟨w.heap.size, 0, none⟩)] (fun _ => False) (fun _ _ => False) (fun _ _ => False) (fun x _ => x = .string s) w0 (fun b h => h.elim) enters47 (fun W w1 hW hb hw => ?_)).mono ?_
  · refine (caught2 W w.heap.size s w1 ?_).mono ?_
    · rw [(hb0.keep (hb.block _ (by omega))).cell]; rfl
    · rintro e w2 ⟨rfl, rfl⟩
      exact ⟨Tch.refl _ _, .inr (.inr (.inr ⟨_, rfl, ⟨_, _, hw⟩, rfl⟩))⟩
  · rintro e w2 ⟨ht, w3, hs, _, ⟨bs, _, hq⟩ | ⟨_, _, _, hq⟩ | ⟨x, rfl, rfl⟩⟩
    · exact hq.elim
    · exact hq.elim
    · have hb2 := hb1.tch ht (fun h => h)
      refine leaves_cons (f := 46) (args := #[.pointer (some ⟨w.heap.size + 1, 0, none⟩)]) (by simp) (by simp [go_sem]) ?_
      refine (caught1 (w.heap.size + 1) s _ _ w2 hb2).mono ?_
      rintro e u' w4 ⟨rfl, rfl, hE, hE'⟩
      have c4 := hE.cell 0
      simp at c4
      simp [Leaves, settle, results, Try.results26, go_sem]
      refine ⟨.string s, by rw [c4], rfl, hbl.trans (((ht.more (T := fun b => b = w.heap.size + 1) (fun _ _ h => h.elim)).then hE').belowB (by omega) (by omega))⟩

theorem caught_false (s : ByteArray) (w : World) : Calls Try.prog 26 #[.string s, .bool false] w fun e w' => e = .returned (.string s) ∧ Below w.heap.size w w' := by
  have hmf : ∀ (fn : Fn) (first cap : Array Value) (w : World), (Instr.makeFunc fn first cap).run Try.prog w = .ok (.func fn first cap) w := fun _ _ _ _ => rfl
  go_enter_defers Try.func26, Try.ntmps26
  go_wp2_with fail
  have hb0 : Bk ((w.alloc (.cells #[.string s] 9)).alloc (.cells #[.string ⟨#[]⟩] 9)) w.heap.size 9 #[.string s] := (Bk.made w 9 #[.string s]).alloc _
  have hb1 : Bk ((w.alloc (.cells #[.string s] 9)).alloc (.cells #[.string ⟨#[]⟩] 9)) (w.heap.size + 1) 9 #[.string ⟨#[]⟩] := by
    simpa using Bk.made (w.alloc (.cells #[.string s] 9)) 9 #[.string ⟨#[]⟩]
  have hbl : Below w.heap.size w ((w.alloc (.cells #[.string s] 9)).alloc (.cells #[.string ⟨#[]⟩] 9)) := ((Below.refl _ w).alloc (Nat.le_refl _) _).alloc (by simp) _
  generalize hw0 : (w.alloc (.cells #[.string s] 9)).alloc (.cells #[.string ⟨#[]⟩] 9) = w0 at *
  have hs0 : w0.heap.size = w.heap.size + 2 := by rw [← hw0]; simp
  clear hw0
  refine (read_any [120] 48 #[.pointer (some ⟨w.heap.size, 0, none⟩)] (fun _ => False) (fun _ _ => False) (fun _ _ => False) (fun x _ => x = .string s) w0 (fun b h => h.elim) enters48 (fun W w1 hW hb hw => ?_)).mono ?_
  · refine (caught3 W w.heap.size s w1 ?_).mono ?_
    · rw [(hb0.keep (hb.block _ (by omega))).cell]; rfl
    · rintro e w2 ⟨rfl, rfl⟩
      exact ⟨Tch.refl _ _, .inr (.inr (.inr ⟨_, rfl, ⟨_, hw⟩, rfl⟩))⟩
  · rintro e w2 ⟨ht, w3, hs, _, ⟨_, hq⟩ | ⟨_, _, _, hq⟩ | ⟨_, _, _, hq⟩ | ⟨x, rfl, rfl⟩⟩
    · exact hq.elim
    · exact hq.elim
    · exact hq.elim
    · have hb2 := hb1.tch ht (fun h => h)
      refine leaves_cons (f := 46) (args := #[.pointer (some ⟨w.heap.size + 1, 0, none⟩)]) (by simp) (by simp [go_sem]) ?_
      refine (caught1 (w.heap.size + 1) s _ _ w2 hb2).mono ?_
      rintro e u' w4 ⟨rfl, rfl, hE, hE'⟩
      have c4 := hE.cell 0
      simp at c4
      simp [Leaves, settle, results, Try.results26, go_sem]
      refine ⟨.string s, by rw [c4], rfl, hbl.trans (((ht.more (T := fun b => b = w.heap.size + 1) (fun _ _ h => h.elim)).then hE').belowB (by omega) (by omega))⟩

theorem packPanics_core (s : ByteArray) (w : World) : Calls Try.prog 5 #[.string s] w fun e w' => e = .returned (.bool true) ∧ Below w.heap.size w w' := by
  have hstr : ∀ w, (binOp .eql 9 (.string s) (.string s)).run Try.prog w = .ok (.bool true) w := fun w => by simp [go_sem]
  go_enter Try.func5, Try.ntmps5
  go_wp2_with fail
  refine (speaks01 w).mono ?_
  rintro e w1 ⟨rfl, hb1⟩
  have HB1 := Lib.hid hb1
  clear hb1
  go_wp2_with fail
  refine (caught_true s w1).mono ?_
  rintro e w2 ⟨rfl, hb2⟩
  have HB2 := Lib.hid hb2
  clear hb2
  go_wp2_with fail
  refine (caught_false s w2).mono ?_
  rintro e w3 ⟨rfl, hb3⟩
  have HB3 := Lib.hid hb3
  clear hb3
  go_wp2_with fail
  go_ret
  exact ⟨rfl, HB1.out.trans ((HB2.out.mono HB1.out.size).trans (HB3.out.mono (Nat.le_trans HB1.out.size HB2.out.size)))⟩
end Go.Proofs.Ytgnpnlelkkkmeaa
