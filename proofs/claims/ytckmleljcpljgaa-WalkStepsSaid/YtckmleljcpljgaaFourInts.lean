/-
  An argument that is an array of four ints.
-/
import Derived.Test.YtckmleljcpljgaaLnkOpen
set_option linter.unusedVariables false
set_option linter.unusedSimpArgs false
namespace Go.Proofs.Ytckmleljcpljgaa
open Go.ChangeShapes Go.WideShapes Go.RowKit Go.Deep
theorem open_ints4 {H : Type} {enc : TypeId × Value → H} {P : Program} {t f : TypeId} {W : World} {base : Nat} {v : Value} {d : DataW H} {p : List MemPlace} (hu : P.underlying t = some (.array 4 f)) (hC : P.cellsOf t = 4) (h0 : P.underlying f = some (.int .i64)) (c0 : P.cellsOf f = 1)
    (hv : Value.okWide P W .any base t v) (h : DataW.Trod enc P W 0 (fun _ => true) true t v d p) :
    ∃ a b c e : Int, v = .agg #[.int .i64 a, .int .i64 b, .int .i64 c, .int .i64 e] := by
  simp only [Value.okWide, hu] at hv
  obtain ⟨cs, rfl, hcs, _⟩ := hv
  obtain ⟨fuel, hf⟩ := h
  simp only [Value.cells] at hf
  rw [hC] at hcs
  obtain ⟨cl, rfl⟩ : ∃ l : List Value, cs = l.toArray := ⟨cs.toList, by simp⟩
  simp at hcs
  obtain ⟨xs, k, hk, hxy, _, hxl, hg⟩ := DataW.trod_array hu hf
  match xs, hxl, cl, hcs with
  | [y0, y1, y2, y3], _, [v0, v1, v2, v3], _ =>
    have g0 := hg 0 (by omega)
    have g1 := hg 1 (by omega)
    have g2 := hg 2 (by omega)
    have g3 := hg 3 (by omega)
    simp [c0] at g0 g1 g2 g3
    obtain ⟨n0, e0, x0, w0⟩ := DataW.trod_int h0 g0
    obtain ⟨n1, e1, x1, w1⟩ := DataW.trod_int h0 g1
    obtain ⟨n2, e2, x2, w2⟩ := DataW.trod_int h0 g2
    obtain ⟨n3, e3, x3, w3⟩ := DataW.trod_int h0 g3
    simp at e0 e1 e2 e3
    subst e0 e1 e2 e3
    exact ⟨n0, n1, n2, n3, rfl⟩
end Go.Proofs.Ytckmleljcpljgaa
