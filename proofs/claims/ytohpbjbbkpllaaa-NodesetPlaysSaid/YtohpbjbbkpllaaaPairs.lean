/-
  An argument that is a slice of pairs of integers ([][2]int).
-/
import Derived.Test.YtohpbjbbkpllaaaFrame
import Derived.Deep.Slices
set_option linter.unusedVariables false
namespace Go.Proofs.Ytohpbjbbkpllaaa
open Go.ChangeShapes Go.WideShapes Go.RowKit Go.Deep

/-- The slice of pairs v reads as ps; its cells lie in blocks of S. -/
def Prs (w : World) (S : Nat → Prop) (v : Value) (ps : List (Int × Int)) : Prop :=
  ∃ ao cap, v = .slice ao ps.length cap ∧ ps.length ≤ cap ∧ cap ≤ maxLen ∧
    (0 < ps.length → ∃ b off, ao = some ⟨b, off, none⟩ ∧ S b ∧ b < w.heap.size ∧ ∀ j (h : j < ps.length),
      w.cell? ⟨b, off + j * 2, none⟩ = some (.int .i64 ps[j].1) ∧ w.cell? ⟨b, off + j * 2 + 1, none⟩ = some (.int .i64 ps[j].2))
def I64 (x : Int) : Prop := -9223372036854775808 ≤ x ∧ x ≤ 9223372036854775807

section
variable {H : Type} {enc : TypeId × Value → H} {P : Program}
theorem open_pairs {t e f : TypeId} {W : World} {base : Nat} {v : Value} {d : DataW H} {p : List MemPlace} (hu : P.underlying t = some (.slice e)) (he : P.underlying e = some (.array 2 f))
    (hC : P.cellsOf e = 2) (h0 : P.underlying f = some (.int .i64)) (c0 : P.cellsOf f = 1)
    (hv : Value.okWide P W .any base t v) (h : DataW.Trod enc P W 0 (fun _ => true) true t v d p) :
    ∃ ps : List (Int × Int), Prs W (· < W.heap.size) v ps ∧ ∀ q ∈ ps, I64 q.1 ∧ I64 q.2 := by
  obtain ⟨a0, len, cap, rfl⟩ := okWide_slice hu hv
  obtain ⟨fuel, hf⟩ := h
  rcases open_slice hu hf with ⟨hcs, hx⟩ | ⟨a, len', cap', m, n, D, Pl, hcs, _, hl, hm, hmm, hx, hi⟩
  · simp [Value.cells] at hcs
    obtain ⟨rfl, rfl, rfl⟩ := hcs
    exact ⟨[], ⟨none, 0, rfl, Nat.le_refl _, Nat.zero_le _, fun h => absurd h (by simp)⟩, by simp⟩
  · simp [Value.cells] at hcs
    obtain ⟨rfl, rfl, rfl⟩ := hcs
    simp only [if_true] at hmm
    have each : ∀ i, i < m → ∃ q : Int × Int, (W.cell? (a.add (i * 2)) = some (.int .i64 q.1) ∧ W.cell? (a.add (i * 2 + 1)) = some (.int .i64 q.2)) ∧ I64 q.1 ∧ I64 q.2 := by
      intro i hi'
      obtain ⟨cs', hc, hd⟩ := hi i hi'
      rw [hC] at hc
      obtain ⟨_, hlen, hcell⟩ := World.cells?_some hc
      obtain ⟨xs, k, hk, hxy, _, hxl, hg⟩ := DataW.trod_array he hd
      match xs, hxl, cs', hlen with
      | [y0, y1], _, [v0, v1], _ =>
        have g0 := hg 0 (by omega)
        have g1 := hg 1 (by omega)
        simp [c0] at g0 g1
        obtain ⟨n0, e0, x0, w0⟩ := DataW.trod_int h0 g0
        obtain ⟨n1, e1, x1, w1⟩ := DataW.trod_int h0 g1
        simp at e0 e1
        subst e0 e1
        have k0 := hcell 0 (by omega)
        have k1 := hcell 1 (by omega)
        rw [Go.Deep.add_add] at k0 k1
        exact ⟨(n0, n1), ⟨by simpa using k0, by simpa using k1⟩, wf_i64 w0, wf_i64 w1⟩
    obtain ⟨q, hq⟩ := choose_lt each
    refine ⟨(List.range len).map q, ⟨some a, cap, by simp, by simpa using hl, hm, fun hp => ?_⟩, ?_⟩
    · simp at hp
      obtain ⟨b, off, spot⟩ := a
      have z0 := (hq 0 (by omega)).1.1
      have hspot : spot = none := by simpa [Addr.add] using World.cell?_spot z0
      subst hspot
      have hb := World.block_lt_of_cell? W _ z0
      refine ⟨b, off, rfl, hb, hb, fun j hj => ?_⟩
      simp at hj
      have hc := (hq j (by omega)).1
      simp only [Addr.add_lit] at hc
      simpa [Nat.add_assoc] using hc
    · intro x hx'
      obtain ⟨i, hi', rfl⟩ := List.mem_map.1 hx'
      have := List.mem_range.1 hi'
      exact (hq i (by omega)).2
end
end Go.Proofs.Ytohpbjbbkpllaaa
