/-
  An argument that is a slice of truth values.
-/
import Derived.Test.YtebpdnmmcbianaaFrame
import Derived.Deep.Grids
set_option linter.unusedVariables false
namespace Go.Proofs.Ytebpdnmmcbianaa
open Go.ChangeShapes Go.WideShapes Go.RowKit Go.Deep

section
variable {H : Type} {enc : TypeId × Value → H} {P : Program}
theorem open_sl_bools {t e : TypeId} {W : World} {base : Nat} {v : Value} {d : DataW H} {p : List MemPlace} (hu : P.underlying t = some (.slice e)) (he : P.underlying e = some .bool) (hc : P.cellsOf e = 1)
    (hv : Value.okWide P W .any base t v) (h : DataW.Trod enc P W 0 (fun _ => true) true t v d p) :
    ∃ zs : List Bool, Sl W (· < W.heap.size) v (zs.map Value.bool) := by
  obtain ⟨a0, len, cap, rfl⟩ := okWide_slice hu hv
  obtain ⟨fuel, hf⟩ := h
  rcases open_bools hu he hc hf with ⟨hcs, hx⟩ | ⟨a, len', cap', zs, hcs, _, hl, hm, hx, hcell⟩
  · simp [Value.cells] at hcs
    obtain ⟨rfl, rfl, rfl⟩ := hcs
    exact ⟨[], ⟨none, 0, rfl, Nat.le_refl _, Nat.zero_le _, fun _ => rfl, fun h => absurd h (by simp)⟩⟩
  · simp [Value.cells] at hcs
    obtain ⟨rfl, rfl, rfl⟩ := hcs
    have hlen : (((List.range len).map zs).map Value.bool).length = len := by simp
    refine ⟨(List.range len).map zs, ⟨some a, cap, by rw [hlen], by omega, hm, (by simp), fun hp => ?_⟩⟩
    obtain ⟨b, off, spot⟩ := a
    have h0 := hcell 0 (by omega)
    have hspot : spot = none := by simpa [Addr.add] using World.cell?_spot h0
    subst hspot
    refine ⟨b, off, rfl, World.block_lt_of_cell? W _ h0, World.block_lt_of_cell? W _ h0, fun j hj => ?_⟩
    have hjc := hcell j (by omega)
    rw [Addr.add_lit] at hjc
    rw [hjc]
    simp
end
end Go.Proofs.Ytebpdnmmcbianaa
