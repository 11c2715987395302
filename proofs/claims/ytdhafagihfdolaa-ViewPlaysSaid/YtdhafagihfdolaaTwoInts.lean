/-
  An argument that is an array of two ints.
-/
import Derived.Test.YtdhafagihfdolaaLnkOpen
set_option linter.unusedVariables false
set_option linter.unusedSimpArgs false
namespace Go.Proofs.Ytdhafagihfdolaa
open Go.ChangeShapes Go.WideShapes Go.RowKit Go.Deep
theorem open_ints2 {H : Type} {enc : TypeId × Value → H} {P : Program} {t f : TypeId} {W : World} {base : Nat} {v : Value} {d : DataW H} {p : List MemPlace} (hu : P.underlying t = some (.array 2 f)) (hC : P.cellsOf t = 2) (h0 : P.underlying f = some (.int .i64)) (c0 : P.cellsOf f = 1)
    (hv : Value.okWide P W .any base t v) (h : DataW.Trod enc P W 0 (fun _ => true) true t v d p) :
    ∃ a b : Int, v = .agg #[.int .i64 a, .int .i64 b] ∧ (-9223372036854775808 ≤ a ∧ a ≤ 9223372036854775807) ∧ (-9223372036854775808 ≤ b ∧ b ≤ 9223372036854775807) := by
  simp only [Value.okWide, hu] at hv
  obtain ⟨cs, rfl, hcs, _⟩ := hv
  obtain ⟨fuel, hf⟩ := h
  simp only [Value.cells] at hf
  rw [hC] at hcs
  obtain ⟨cl, rfl⟩ : ∃ l : List Value, cs = l.toArray := ⟨cs.toList, by simp⟩
  simp at hcs
  obtain ⟨xs, k, hk, hxy, _, hxl, hg⟩ := DataW.trod_array hu hf
  match xs, hxl, cl, hcs with
  | [y0, y1], _, [v0, v1], _ =>
    have g0 := hg 0 (by omega)
    have g1 := hg 1 (by omega)
    simp [c0] at g0 g1
    obtain ⟨n0, e0, x0, w0⟩ := DataW.trod_int h0 g0
    obtain ⟨n1, e1, x1, w1⟩ := DataW.trod_int h0 g1
    simp at e0 e1
    subst e0 e1
    exact ⟨n0, n1, rfl, wf_i64 w0, wf_i64 w1⟩
end Go.Proofs.Ytdhafagihfdolaa
