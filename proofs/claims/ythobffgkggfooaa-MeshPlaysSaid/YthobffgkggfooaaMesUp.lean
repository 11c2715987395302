/-
  Package mesh: Up of no node; what the reference's ways tell.
-/
import Derived.Test.YthobffgkggfooaaMesRef
import Derived.Test.YthobffgkggfooaaMesDown3
set_option linter.unusedVariables false
set_option linter.unusedSimpArgs false
set_option maxRecDepth 100000
namespace Go.Proofs.Ythobffgkggfooaa
open Go.RowKit Go.Maps

set_option maxHeartbeats 400000 in
theorem up_none (M B N : Nat) (lv : List Int) (it : Ways) (n : Int) (w : World) (h : MeshA w M B N lv it) (hn : n < 1) :
    Calls Try.prog 33 #[.pointer (some ⟨M, 0, none⟩), .int .i64 n] w fun e w' => e = .returned (.tuple #[]) ∧ w' = w := by
  obtain ⟨bl, bp, es, h1, h2, h3⟩ := h
  have c0 : w.cell? ⟨M, 0, none⟩ = some (.map (some bl)) := by rw [h1.box.cell]; rfl
  have hM := h1.box.lt
  have hmn : ∀ w : World, (binOp .eql 116 (.map (some bl)) (.map none)).run Try.prog w = .ok (.bool false) w := fun w => run_eql_map_nil w _ _ _ (some bl) Try.underlying116
  clear h1 h2 h3
  go_enter Try.func33, Try.ntmps33
  go_wp2_with fail
  refine bodyPost_ret (v := .tuple #[]) (by simp [results, Try.results33, go_sem]) rfl ?_
  exact ⟨rfl, rfl⟩
theorem getW_set (l : List RW) (x : RW) (k : Int × Int) : getW (setR l x) k = if k = x.key then some x else getW l k := by
  unfold getW setR
  rw [List.find?_append]
  by_cases hk : k = x.key
  · subst hk
    have : (l.filter fun y => decide (y.key ≠ x.key)).find? (fun e => decide (e.key = x.key)) = none := by
      rw [List.find?_eq_none]
      intro e he
      simp at he
      simp [he.2]
    rw [this]
    simp
  · have : (l.filter fun y => decide (y.key ≠ x.key)).find? (fun e => decide (e.key = k)) = l.find? (fun e => decide (e.key = k)) := by
      rw [List.find?_filter]
      congr 1
      funext e
      by_cases h2 : e.key = k
      · simp [h2, hk]
      · simp [h2]
    rw [this, if_neg hk]
    cases l.find? (fun e => decide (e.key = k)) with
    | some y => rfl
    | none => simp [Ne.symm hk]
/-- The reference keeps what is on the ways. -/
def RefIt (l : List RW) (it : Ways) : Prop := ∀ k, getI l k = it k
theorem RefIt.set {l : List RW} {it : Ways} (h : RefIt l it) (x : RW) : RefIt (setR l x) (setI it x.key x.it) := by
  intro k
  unfold getI setI
  rw [getW_set]
  by_cases hk : k = x.key
  · rw [if_pos hk, if_pos hk]
  · rw [if_neg hk, if_neg hk]
    exact h k
theorem RefIt.nil : RefIt [] (fun _ => []) := fun k => rfl
theorem setR_len (l : List RW) (x : RW) : (setR l x).length ≤ l.length + 1 := by
  unfold setR
  rw [List.length_append]
  have := List.length_filter_le (fun y => decide (y.key ≠ x.key)) l
  simp only [List.length_cons, List.length_nil]
  omega
end Go.Proofs.Ythobffgkggfooaa
