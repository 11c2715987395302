/-
  Package pipe: a pipe in memory; put and Take, which communicate.
-/
import Derived.Test.YthobffgkggfooaaMsgVal
import Derived.Conc.LoneCalls
import Derived.Conc.LoneSelect
import Derived.KernelRfl
import Derived.Laws.Rows
set_option linter.unusedVariables false
set_option linter.unusedSimpArgs false
set_option maxRecDepth 100000
namespace Go.Proofs.Ythobffgkggfooaa
open Go.RowKit Go.Conc

structure ItA where
  broken : Bool
  text : ByteArray
deriving DecidableEq
instance : Inhabited ItA := ⟨⟨false, ⟨#[]⟩⟩⟩
def itV (x : ItA) : Value := .agg #[.bool x.broken, .string x.text]
def zeroI : ItA := ⟨false, ⟨#[]⟩⟩
/-- The channel block c holds the items l. -/
def ChIs (w : World) (c : Nat) (l : List ItA) : Prop := ∃ s r, w.heap[c]? = some (.chan 64 (l.map itV).toArray false s r false)
/-- A pipe at P, its channel at c. -/
structure PipIs (w : World) (P c : Nat) (l : List ItA) : Prop where
  bk : Bk w P 114 #[.chan (some c)]
  ch : ChIs w c l
  len : l.length ≤ 64
theorem ChIs.lt {w : World} {c : Nat} {l : List ItA} (h : ChIs w c l) : c < w.heap.size := by
  obtain ⟨s, r, hc⟩ := h
  exact (Array.getElem?_eq_some_iff.1 hc).1
theorem ChIs.tch {w w' : World} {c : Nat} {l : List ItA} {S : Nat → Prop} (h : ChIs w c l) (ht : Tch S w w') (hs : ¬ S c) : ChIs w' c l := by
  have hl := h.lt
  obtain ⟨s, r, hc⟩ := h
  exact ⟨s, r, (ht.block c hl hs).trans hc⟩
theorem PipIs.tch {w w' : World} {P c : Nat} {l : List ItA} {S : Nat → Prop} (h : PipIs w P c l) (ht : Tch S w w') (hP : ¬ S P) (hc : ¬ S c) : PipIs w' P c l := ⟨h.bk.tch ht hP, h.ch.tch ht hc, h.len⟩
theorem PipIs.new {w w' : World} {P c : Nat} {l : List ItA} (h : PipIs w P c l) (ht : New w w') : PipIs w' P c l := h.tch ht (by have := h.bk.lt; omega) (by have := h.ch.lt; omega)
theorem PipIs.ne {w : World} {P c : Nat} {l : List ItA} (h : PipIs w P c l) : P ≠ c := by
  intro e
  subst e
  obtain ⟨s, r, hc⟩ := h.ch
  have := h.bk
  unfold Bk at this
  rw [this] at hc
  cases hc
theorem Tch.setChan {S : Nat → Prop} {w w1 : World} (h : Tch S w w1) {c : Nat} (hc : c < w.heap.size → S c) (cap : Nat) (buf : Array Value) (cl : Bool) (s r : Nat) (tm : Bool) : Tch S w (w1.setChan c cap buf cl s r tm) :=
  h.trans (T := fun b => b = c) ⟨rfl, rfl, rfl, by simp [World.setChan], fun k _ hk => by simp only [World.setChan]; rw [Array.getElem?_setIfInBounds_ne (Ne.symm hk)]⟩ (fun b hb e => by subst e; exact hc hb)
theorem bk_setChan {w : World} {P c : Nat} {t : TypeId} {cs : Array Value} (h : Bk w P t cs) (hne : P ≠ c) (cap : Nat) (buf : Array Value) (cl : Bool) (s r : Nat) (tm : Bool) : Bk (w.setChan c cap buf cl s r tm) P t cs := by
  unfold Bk at h ⊢
  simp only [World.setChan]
  rw [Array.getElem?_setIfInBounds_ne (Ne.symm hne)]
  exact h
set_option maxHeartbeats 1000000 in
theorem put_room (P c : Nat) (x : ItA) (l : List ItA) (w : World) (h : PipIs w P c l) (hl : l.length < 64) :
    Calls Try.prog 61 #[.pointer (some ⟨P, 0, none⟩), itV x] w fun e w' => e = .returned (.bool true) ∧ PipIs w' P c (l ++ [x]) ∧ Tch (· = c) w w' := by
  obtain ⟨s, r, hc⟩ := h.ch
  have hb := h.bk
  have hP := hb.lt
  have hne := h.ne
  have hcl : c < w.heap.size := (Array.getElem?_eq_some_iff.1 hc).1
  refine calls_of_loneTo fun cs => ?_
  have e : Frame.enter Try.prog 61 #[.pointer (some ⟨P, 0, none⟩), itV x] .normal = (base 61).at ⟨#[.pointer (some ⟨P, 0, none⟩), itV x, undef, undef, undef, undef, undef, undef, undef, undef, undef, undef, undef, undef, undef], []⟩ [.code (Try.f61.body.getD .skip)] := by
    simp [Frame.enter, Frame.at, Try.func61, base, Try.f61]
  rw [e]
  refine LoneTo.goes (n := 60) ?_
  simp only [Try.f61, Option.getD_some]
  have c0 : w.cell? ⟨P, 0, none⟩ = some (.chan (some c)) := by rw [hb.cell]; rfl
  simp only [itV]
  s_c stepG_seq
  s_reg
  s_op
  s_op
  s_c stepG_region_end
  s_c stepG_seq
  s_c stepG_seq
  s_reg
  s_op
  s_op
  s_c stepG_region_end
  s_cond false
  s_c stepG_skip
  s_c stepG_seq
  s_c stepG_seq
  s_reg
  s_op
  s_op
  s_op
  s_op
  s_c stepG_region_end
  s_reg
  s_op
  s_c stepG_region_end
  s_c stepG_seq
  s_reg
  s_stop
  refine LoneTo.step (step_lone_select_send_room (c := c) (cap := 64) (buf := (l.map itV).toArray) (s := s) (r := r) (tm := false) (stepG_comm (cases := #[scase c (.agg #[.bool x.broken, .string x.text]) (.agg #[.bool false, .string ⟨#[]⟩])]) (blocking := false) (shape := .select) (w' := w.alloc (.cells #[.bool x.broken, .string x.text] 57)) rfl rfl (by decide) (by simp [go_sem, execOp, scase, Act.eval])) ((Below.heap_alloc _ _ _ hcl).trans hc) (by simpa using hl)) ?_
  rw [Frame.finish_at]
  walk_nrm
  refine LoneTo.goes (n := 20) ?_
  s_op
  s_op
  s_c stepG_region_end
  s_c stepG_block
  s_cond true
  s_c stepG_seq
  s_reg
  s_op
  s_c stepG_region_end
  s_c stepG_ret'
  s_stop
  refine LoneTo.done ⟨.returned (.bool true), _, rfl, ⟨rfl, ?_, ?_⟩, rfl, rfl, rfl, rfl, _, Try.func61, by simp [results, Try.f61, Frame.at]⟩
  · refine ⟨bk_setChan (hb.alloc _) hne _ _ _ _ _ _, ⟨s + 1, r, ?_⟩, by simp; omega⟩
    have := heap_setChan (w.alloc (.cells #[.bool x.broken, .string x.text] 57)) c 64 ((l ++ [x]).map itV).toArray false (s + 1) r false (by simp; omega)
    simpa [itV] using this
  · exact ((Tch.refl (· = c) w).alloc _).setChan (fun _ => rfl) _ _ _ _ _ _
set_option maxHeartbeats 1000000 in
theorem put_full (P c : Nat) (x : ItA) (l : List ItA) (w : World) (h : PipIs w P c l) (hl : l.length = 64) :
    Calls Try.prog 61 #[.pointer (some ⟨P, 0, none⟩), itV x] w fun e w' => e = .returned (.bool false) ∧ PipIs w' P c l ∧ Tch (· = c) w w' := by
  obtain ⟨s, r, hc⟩ := h.ch
  have hb := h.bk
  have hP := hb.lt
  have hne := h.ne
  have hcl : c < w.heap.size := (Array.getElem?_eq_some_iff.1 hc).1
  refine calls_of_loneTo fun cs => ?_
  have e : Frame.enter Try.prog 61 #[.pointer (some ⟨P, 0, none⟩), itV x] .normal = (base 61).at ⟨#[.pointer (some ⟨P, 0, none⟩), itV x, undef, undef, undef, undef, undef, undef, undef, undef, undef, undef, undef, undef, undef], []⟩ [.code (Try.f61.body.getD .skip)] := by
    simp [Frame.enter, Frame.at, Try.func61, base, Try.f61]
  rw [e]
  refine LoneTo.goes (n := 60) ?_
  simp only [Try.f61, Option.getD_some]
  have c0 : w.cell? ⟨P, 0, none⟩ = some (.chan (some c)) := by rw [hb.cell]; rfl
  simp only [itV]
  s_c stepG_seq
  s_reg
  s_op
  s_op
  s_c stepG_region_end
  s_c stepG_seq
  s_c stepG_seq
  s_reg
  s_op
  s_op
  s_c stepG_region_end
  s_cond false
  s_c stepG_skip
  s_c stepG_seq
  s_c stepG_seq
  s_reg
  s_op
  s_op
  s_op
  s_op
  s_c stepG_region_end
  s_reg
  s_op
  s_c stepG_region_end
  s_c stepG_seq
  s_reg
  s_stop
  refine LoneTo.step (step_lone_select_send_full (c := c) (cap := 64) (buf := (l.map itV).toArray) (s := s) (r := r) (tm := false) (stepG_comm (cases := #[scase c (.agg #[.bool x.broken, .string x.text]) (.agg #[.bool false, .string ⟨#[]⟩])]) (blocking := false) (shape := .select) (w' := w.alloc (.cells #[.bool x.broken, .string x.text] 57)) rfl rfl (by decide) (by simp [go_sem, execOp, scase, Act.eval])) ((Below.heap_alloc _ _ _ hcl).trans hc) (by simp; omega)) ?_
  rw [Frame.finish_at]
  walk_nrm
  refine LoneTo.goes (n := 20) ?_
  s_op
  s_op
  s_c stepG_region_end
  s_c stepG_block
  s_cond false
  s_c stepG_seq
  s_reg
  s_op
  s_c stepG_region_end
  s_c stepG_ret'
  s_stop
  refine LoneTo.done ⟨.returned (.bool false), _, rfl, ⟨rfl, ?_, ?_⟩, rfl, rfl, rfl, rfl, _, Try.func61, by simp [results, Try.f61, Frame.at]⟩
  · exact ⟨hb.alloc _, ⟨s, r, (Below.heap_alloc _ _ _ hcl).trans hc⟩, by omega⟩
  · exact (Tch.refl (· = c) w).alloc _
set_option maxHeartbeats 1000000 in
theorem take_none (P c : Nat) (w : World) (h : PipIs w P c []) :
    Calls Try.prog 24 #[.pointer (some ⟨P, 0, none⟩)] w fun e w' => e = .returned (.tuple #[itV zeroI, .bool false]) ∧ PipIs w' P c [] ∧ Tch (· = c) w w' := by
  obtain ⟨s, r, hc⟩ := h.ch
  have hb := h.bk
  have hP := hb.lt
  have hne := h.ne
  have hcl : c < w.heap.size := (Array.getElem?_eq_some_iff.1 hc).1
  refine calls_of_loneTo fun cs => ?_
  have e : Frame.enter Try.prog 24 #[.pointer (some ⟨P, 0, none⟩)] .normal = (base 24).at ⟨#[.pointer (some ⟨P, 0, none⟩), undef, undef, undef, undef, undef, undef, undef, undef, undef, undef, undef, undef, undef, undef, undef, undef, undef], []⟩ [.code (Try.f24.body.getD .skip)] := by
    simp [Frame.enter, Frame.at, Try.func24, base, Try.f24]
  rw [e]
  refine LoneTo.goes (n := 60) ?_
  simp only [Try.f24, Option.getD_some]
  have c0 : w.cell? ⟨P, 0, none⟩ = some (.chan (some c)) := by rw [hb.cell]; rfl
  s_c stepG_seq
  s_reg
  s_op
  s_op
  s_c stepG_region_end
  s_c stepG_seq
  s_c stepG_seq
  s_reg
  s_op
  s_op
  s_c stepG_region_end
  s_cond false
  s_c stepG_skip
  s_c stepG_seq
  s_reg
  s_op
  s_op
  s_op
  s_op
  s_c stepG_region_end
  s_c stepG_seq
  s_reg
  s_stop
  refine LoneTo.step (step_lone_select_default (c := c) (z := .agg #[.bool false, .string ⟨#[]⟩]) (cap := 64) (s := s) (r := r) (tm := false) (stepG_comm (cases := #[rcase c (.agg #[.bool false, .string ⟨#[]⟩])]) (blocking := false) (shape := .select) (w' := w.alloc (.cells #[.bool false, .string ⟨#[]⟩] 57)) rfl rfl (by decide) (by simp [go_sem, execOp, rcase, Act.eval])) ((Below.heap_alloc _ _ _ hcl).trans (by simpa using hc))) ?_
  rw [Frame.finish_at]
  walk_nrm
  refine LoneTo.goes (n := 20) ?_
  s_op
  s_op
  s_c stepG_region_end
  s_c stepG_block
  s_cond false
  s_c stepG_seq
  s_reg
  s_op
  s_op
  s_op
  s_c stepG_region_end
  s_c stepG_ret'
  s_stop
  refine LoneTo.done ⟨.returned (.tuple #[itV zeroI, .bool false]), _, rfl, ⟨rfl, ?_, ?_⟩, rfl, rfl, rfl, rfl, _, Try.func24, by simp [results, Try.f24, Frame.at, go_sem, itV, zeroI]⟩
  · exact ⟨hb.alloc _, ⟨s, r, (Below.heap_alloc _ _ _ hcl).trans hc⟩, by simp⟩
  · exact (Tch.refl (· = c) w).alloc _
set_option maxHeartbeats 1000000 in
theorem take_some (P c : Nat) (x : ItA) (l : List ItA) (w : World) (h : PipIs w P c (x :: l)) :
    Calls Try.prog 24 #[.pointer (some ⟨P, 0, none⟩)] w fun e w' => e = .returned (.tuple #[itV x, .bool true]) ∧ PipIs w' P c l ∧ Tch (· = c) w w' := by
  obtain ⟨s, r, hc⟩ := h.ch
  have hb := h.bk
  have hP := hb.lt
  have hne := h.ne
  have hcl : c < w.heap.size := (Array.getElem?_eq_some_iff.1 hc).1
  refine calls_of_loneTo fun cs => ?_
  have e : Frame.enter Try.prog 24 #[.pointer (some ⟨P, 0, none⟩)] .normal = (base 24).at ⟨#[.pointer (some ⟨P, 0, none⟩), undef, undef, undef, undef, undef, undef, undef, undef, undef, undef, undef, undef, undef, undef, undef, undef, undef], []⟩ [.code (Try.f24.body.getD .skip)] := by
    simp [Frame.enter, Frame.at, Try.func24, base, Try.f24]
  rw [e]
  refine LoneTo.goes (n := 60) ?_
  simp only [Try.f24, Option.getD_some]
  have c0 : w.cell? ⟨P, 0, none⟩ = some (.chan (some c)) := by rw [hb.cell]; rfl
  s_c stepG_seq
  s_reg
  s_op
  s_op
  s_c stepG_region_end
  s_c stepG_seq
  s_c stepG_seq
  s_reg
  s_op
  s_op
  s_c stepG_region_end
  s_cond false
  s_c stepG_skip
  s_c stepG_seq
  s_reg
  s_op
  s_op
  s_op
  s_op
  s_c stepG_region_end
  s_c stepG_seq
  s_reg
  s_stop
  refine LoneTo.step (step_lone_select_recv_buf (c := c) (z := .agg #[.bool false, .string ⟨#[]⟩]) (cap := 64) (buf := ((x :: l).map itV).toArray) (closed := false) (s := s) (r := r) (tm := false) (stepG_comm (cases := #[rcase c (.agg #[.bool false, .string ⟨#[]⟩])]) (blocking := false) (shape := .select) (w' := w.alloc (.cells #[.bool false, .string ⟨#[]⟩] 57)) rfl rfl (by decide) (by simp [go_sem, execOp, rcase, Act.eval])) ((Below.heap_alloc _ _ _ hcl).trans hc) (by simp)) ?_
  have hg : ((x :: l).map itV).toArray.getD 0 undef = .agg #[.bool x.broken, .string x.text] := by simp [itV]
  have he : (((x :: l).map itV).toArray.extract 1 ((x :: l).map itV).toArray.size) = (l.map itV).toArray := by simp [List.take_of_length_le]
  rw [Frame.finish_at, hg, he]
  walk_nrm
  obtain ⟨w6, hw6⟩ : ∃ w6, w6 = (w.alloc (.cells #[.bool false, .string ⟨#[]⟩] 57)).setChan c 64 (l.map itV).toArray false s (r + 1) false := ⟨_, rfl⟩
  rw [← hw6]
  have b6 : Bk w6 w.heap.size 57 #[.bool false, .string ⟨#[]⟩] := by rw [hw6]; exact bk_setChan (Bk.made _ _ _) (by omega) _ _ _ _ _ _
  have p6 : PipIs w6 P c l := by
    rw [hw6]
    refine ⟨bk_setChan (hb.alloc _) hne _ _ _ _ _ _, ⟨s, r + 1, heap_setChan _ c 64 _ false s (r + 1) false (by simp; omega)⟩, by have := h.len; simp at this; omega⟩
  have t6 : Tch (· = c) w w6 := by rw [hw6]; exact ((Tch.refl (· = c) w).alloc _).setChan (fun _ => rfl) _ _ _ _ _ _
  have s6 := b6.lt
  have q0 := b6.cell 0
  have q1 := b6.cell 1
  have f0 := b6.frozen 0
  have f1 := b6.frozen 1
  simp at q0 q1
  clear hw6
  refine LoneTo.goes (n := 30) ?_
  s_op
  s_op
  s_c stepG_region_end
  s_c stepG_block
  s_cond true
  s_c stepG_seq
  s_reg
  s_op
  s_op
  s_op
  s_c stepG_region_end
  s_c stepG_seq
  s_reg
  s_op
  s_op
  s_op
  s_c stepG_region_end
  s_c stepG_ret'
  s_stop
  have bz : Bk (((w6.setCell ⟨w.heap.size, 0, none⟩ (.bool x.broken)).setCell ⟨w.heap.size, 1, none⟩ (.string x.text)).alloc (.cells #[.bool x.broken, .string x.text] 57)) w.heap.size 57 #[.bool x.broken, .string x.text] := by
    have h1 := ((b6.store 0 (.bool x.broken)).store 1 (.string x.text)).alloc (.cells #[.bool x.broken, .string x.text] 57)
    simpa using h1
  have z0 := bz.cell 0
  have z1 := bz.cell 1
  simp at z0 z1
  have tz : Tch (· = w.heap.size) w6 (((w6.setCell ⟨w.heap.size, 0, none⟩ (.bool x.broken)).setCell ⟨w.heap.size, 1, none⟩ (.string x.text)).alloc (.cells #[.bool x.broken, .string x.text] 57)) := (((Tch.refl (· = w.heap.size) w6).setCell (fun _ => rfl) _).setCell (fun _ => rfl) _).alloc _
  refine LoneTo.done ⟨.returned (.tuple #[itV x, .bool true]), _, rfl, ⟨rfl, ?_, ?_⟩, rfl, rfl, rfl, rfl, _, Try.func24, by simp [results, Try.f24, Frame.at, go_sem, itV, z0, z1]⟩
  · exact p6.tch tz (by omega) (by omega)
  · exact Tch.trans t6 tz (fun b hb e => by omega)
end Go.Proofs.Ythobffgkggfooaa
