/-
  Package mesh: a mesh in memory; New, Live, Up, Len.
-/
import Derived.Test.YthobffgkggfooaaGMap
import Derived.Test.YthobffgkggfooaaPipFirst
import Derived.Test.YthobffgkggfooaaFrame
import Derived.DeepKeys4
import Derived.Deep.QuietTactic
import Derived.Deep.RegionLaw
import Derived.LaidEqlPtr
set_option linter.unusedVariables false
set_option linter.unusedSimpArgs false
set_option maxRecDepth 100000
namespace Go.Proofs.Ythobffgkggfooaa
open Go.RowKit Go.Maps

def I64 (n : Int) : Prop := -9223372036854775808 ≤ n ∧ n ≤ 9223372036854775807
theorem wf_of {n : Int} (h : I64 n) : (Lit.int .i64 n).wf = true := by
  obtain ⟨h1, h2⟩ := h
  simp [Lit.wf, IntKind.min, IntKind.max, IntKind.signed, IntKind.bits]
  omega
theorem intKey : Keyed Try.prog 3 := int_keyed Try.underlying3
theorem wayKey : Keyed Try.prog 122 := Keyed.of_law (deep_law_laid laidOut (m := 2) (by omega) (of_decide_eq_true (by kernel_rfl)) (by kernel_rfl) (by kernel_rfl))
def wayV (k : Int × Int) : Value := .agg #[.int .i64 k.1, .int .i64 k.2]
theorem key_int {n : Int} (h : I64 n) : keyOf Try.prog 3 (.int .i64 n) = some (.int .i64 n) := keyOf_int_mk Try.underlying3 (wf_of h)
theorem key_way {k : Int × Int} (h : I64 k.1 ∧ I64 k.2) : keyOf Try.prog 122 (wayV k) = some (.string (keyBytes [.int .i64 k.1, .int .i64 k.2])) := by
  have h1 : Try.prog.keyType 122 = true := by kernel_rfl
  have w1 := wf_of h.1
  have w2 := wf_of h.2
  have hc : Try.prog.cellsOf 3 = 1 := by kernel_rfl
  have hcw : Try.prog.cellsOf 122 = 2 := by kernel_rfl
  have hf : Value.formed Try.prog 122 (wayV k) = true := by simp [wayV, Value.formed, Try.underlying122, Try.underlying3, hcw, hc]
  have hd : 0 < Try.prog.types.size := of_decide_eq_true (by kernel_rfl)
  obtain ⟨d, hd2⟩ : ∃ d, Try.prog.types.size = d + 1 := ⟨Try.prog.types.size - 1, by omega⟩
  have hk : Try.prog.keyLits (d + 1 + 1) 122 (wayV k).cells.toList = some [.int .i64 k.1, .int .i64 k.2] := by
    simp [wayV, Program.keyLits, Try.underlying122, Try.underlying3, hcw, hc, w1, w2, Value.cells]
  unfold keyOf
  rw [Try.underlying122]
  simp only []
  rw [h1, hf, hd2, hk]
  rfl
theorem zero_unit (w : World) : (zeroValue 120).run Try.prog w = .ok (.agg #[]) w := by
  have h : (Try.prog.info? 120).map (fun i => i.zero) = some (some (.agg #[])) := by kernel_rfl
  obtain ⟨i, hi, hz⟩ := Option.map_eq_some_iff.1 h
  simp [zeroValue, typeInfo, hi, hz]
theorem zero_ptr (w : World) : (zeroValue 53).run Try.prog w = .ok (.pointer none) w := by
  have h : (Try.prog.info? 53).map (fun i => i.zero) = some (some (.pointer none)) := by kernel_rfl
  obtain ⟨i, hi, hz⟩ := Option.map_eq_some_iff.1 h
  simp [zeroValue, typeInfo, hi, hz]
def ptrV (x : Option Nat) : Value := .pointer (x.map fun P => ⟨P, 0, none⟩)
def ptrD (x : Option Nat) : DataW Unit := .lit (.int .i64 (match x with | none => -1 | some P => (P : Int)))
def ptrR (v : Value) : Option (DataW Unit × List MemPlace) := match v with
  | .pointer none => some (ptrD none, [])
  | .pointer (some ⟨P, 0, none⟩) => some (ptrD (some P), [])
  | _ => none
def unitR (v : Value) : Option (DataW Unit × List MemPlace) := match v with | .agg ⟨[]⟩ => some (.agg [], []) | _ => none
def liveS : MapS Int Unit := ⟨fun n => .int .i64 n, fun n => .int .i64 n, I64, fun _ => .agg #[], fun _ => .agg [], unitR⟩
def wayS : MapS (Int × Int) (Option Nat) := ⟨wayV, fun k => .string (keyBytes [.int .i64 k.1, .int .i64 k.2]), fun k => I64 k.1 ∧ I64 k.2, ptrV, ptrD, ptrR⟩
theorem liveG : liveS.Good Try.prog 3 where
  keyed := intKey
  of_ := fun k h => key_int h
  kinj := fun a b h => by simpa [liveS] using h
  read := fun x => rfl
  inv := fun v d ps h => by
    unfold liveS unitR at h
    simp only at h
    split at h
    · cases h; exact ⟨(), rfl, rfl⟩
    · cases h
  dinj := fun a b _ => rfl
theorem wayG : wayS.Good Try.prog 122 where
  keyed := wayKey
  of_ := fun k h => key_way h
  kinj := fun a b h => by
    obtain ⟨a1, a2⟩ := a
    obtain ⟨b1, b2⟩ := b
    simpa [wayS, wayV] using h
  read := fun x => by cases x <;> rfl
  inv := fun v d ps h => by
    unfold wayS ptrR at h
    simp only at h
    split at h
    · cases h; exact ⟨none, rfl, rfl⟩
    · rename_i P
      cases h; exact ⟨some P, rfl, rfl⟩
    · cases h
  dinj := fun a b h => by
    cases a <;> cases b <;> simp [wayS, ptrD] at h ⊢ <;> first | omega | exact h

/-- What a mesh's steps leave alone: all cells; all blocks older than B. -/
def MT (B : Nat) (w w' : World) : Prop := Tch (fun b => B ≤ b ∧ ∀ cs t z, w.heap[b]? ≠ some (.cells cs t z)) w w'
theorem MT.refl (B : Nat) (w : World) : MT B w w := Tch.refl _ _
theorem MT.then {B : Nat} {w w1 w2 : World} (h : MT B w w1) (k : MT B w1 w2) : MT B w w2 := by
  refine Tch.trans h k fun b hb hs => ⟨hs.1, fun cs t z e => ?_⟩
  refine hs.2 cs t z ?_
  rw [Tch.block h b hb (fun hn => hn.2 cs t z e)]
  exact e
theorem MT.of_new {B : Nat} {w w1 : World} (h : New w w1) : MT B w w1 := Tch.more h fun b hb hs => by omega
theorem MT.one {B b : Nat} {w w1 : World} (h : Tch (· = b) w w1) (hB : B ≤ b) (hn : ∀ cs t z, w.heap[b]? ≠ some (.cells cs t z)) : MT B w w1 := Tch.more h fun k _ e => by subst e; exact ⟨hB, hn⟩
theorem MT.bk {B : Nat} {w w1 : World} (h : MT B w w1) {g : Nat} {t : TypeId} {cs : Array Value} (hb : Bk w g t cs) : Bk w1 g t cs := hb.tch h fun hn => hn.2 cs t (0, 0) hb
theorem MT.new {B : Nat} {w w1 w2 : World} (h : New w w1) (k : MT B w1 w2) (hB : w.heap.size ≤ B) : New w w2 := Tch.trans h k fun b hb hs => by omega

/-- A mesh at M: the live nodes lv, and on the ways the pipes es. -/
structure MeshI (w : World) (M bl bp B N : Nat) (lv : List Int) (es : List ((Int × Int) × PA)) : Prop where
  box : Bk w M 119 #[.map (some bl), .map (some bp)]
  live : MapG liveS Try.prog 3 w bl N (lv.map fun n => (n, ()))
  way : MapG wayS Try.prog 122 w bp N (es.map fun e => (e.1, some e.2.P))
  pip : ∀ e ∈ es, PipIs w e.2.P e.2.c e.2.l
  base : ∀ e ∈ es, B ≤ e.2.P ∧ B ≤ e.2.c
  le : B ≤ M ∧ B ≤ bl ∧ B ≤ bp
  ne : bl ≠ bp
  apart : es.Pairwise fun x y => x.2.c ≠ y.2.c
theorem MeshI.new {w w1 : World} {M bl bp B N : Nat} {lv : List Int} {es : List ((Int × Int) × PA)} (h : MeshI w M bl bp B N lv es) (k : New w w1) : MeshI w1 M bl bp B N lv es :=
  ⟨k.bk h.box, h.live.tch k (by have := h.live.lt; omega), h.way.tch k (by have := h.way.lt; omega), fun e he => (h.pip e he).new k, h.base, h.le, h.ne, h.apart⟩
theorem MeshI.more {w : World} {M bl bp B N K : Nat} {lv : List Int} {es : List ((Int × Int) × PA)} (h : MeshI w M bl bp B N lv es) (k : N ≤ K) : MeshI w M bl bp B K lv es :=
  ⟨h.box, h.live.more k, h.way.more k, h.pip, h.base, h.le, h.ne, h.apart⟩
set_option maxHeartbeats 400000 in
theorem newm_ok (w : World) : Calls Try.prog 32 #[] w fun e w' => e = .returned (.pointer (some ⟨w.heap.size + 1 + 1, 0, none⟩)) ∧ MeshI w' (w.heap.size + 1 + 1) w.heap.size (w.heap.size + 1) w.heap.size 0 [] [] ∧ New w w' := by
  have hm1 : ∀ w : World, (Instr.makeMap 116 none).run Try.prog w = .ok (.map (some w.heap.size)) (w.alloc (.map #[] 0)) := fun _ => rfl
  have hm2 : ∀ w : World, (Instr.makeMap 117 none).run Try.prog w = .ok (.map (some w.heap.size)) (w.alloc (.map #[] 0)) := fun _ => rfl
  go_enter Try.func32, Try.ntmps32
  go_wp2_with fail
  go_ret
  refine ⟨rfl, ⟨?_, ?_, ?_, by simp, by simp, by omega, by omega, List.Pairwise.nil⟩, (((New.refl w).alloc _).alloc _).alloc _⟩
  · have := Bk.made ((w.alloc (.map #[] 0)).alloc (.map #[] 0)) 119 #[.map (some w.heap.size), .map (some (w.heap.size + 1))]
    rw [World.size_alloc, World.size_alloc] at this
    exact this
  · exact ((MapG.made w).tch ((New.refl _).alloc _) (by simp)).tch ((New.refl _).alloc _) (by simp; omega)
  · have := (MapG.made (S := wayS) (P := Try.prog) (T := 122) (w.alloc (.map #[] 0))).tch ((New.refl _).alloc (.cells #[.map (some w.heap.size), .map (some (w.heap.size + 1))] 119)) (by simp)
    rw [World.size_alloc] at this
    exact this
end Go.Proofs.Ythobffgkggfooaa
