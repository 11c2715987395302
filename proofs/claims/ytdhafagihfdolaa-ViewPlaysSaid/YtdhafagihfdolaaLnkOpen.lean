/-
  Arguments of the laws of walks and views: links; arrays of bytes; slices with their bulk.
-/
import Derived.Test.YtdhafagihfdolaaFrame
import Derived.Deep.Slices
set_option linter.unusedVariables false
set_option linter.unusedSimpArgs false
namespace Go.Proofs.Ytdhafagihfdolaa
open Go.ChangeShapes Go.WideShapes Go.RowKit Go.Deep
section
variable {H : Type} {enc : TypeId × Value → H} {P : Program}

theorem bulk_lits (k : IntKind) : ∀ zs : List Int, Rows.uptoBulkAll (lits (H := H) k zs) = zs.length
  | [] => rfl
  | z :: zs => by
    have := bulk_lits k zs
    unfold lits at *
    simp only [List.map_cons, Rows.uptoBulkAll, Rows.uptoBulk, List.length_cons, this]
    omega
/-- A slice of numbers, with its bulk. -/
theorem slk_nums {k : IntKind} {t e : TypeId} {W : World} {fuel : Nat} {cs : List Value} {x : DataW H × List MemPlace} (hu : P.underlying t = some (.slice e)) (he : P.underlying e = some (.int k)) (hc : P.cellsOf e = 1)
    (hf : DataW.trod enc P W 0 (fun _ => true) true fuel t cs = some x) : ∃ (v : Value) (zs : List Int), cs = [v] ∧ Sl W (· < W.heap.size) v (zs.map (Value.int k)) ∧ (∀ n ∈ zs, (Lit.int k n).wf = true) ∧ zs.length ≤ Rows.uptoBulk x.1 := by
  rcases open_ints hu he hc hf with ⟨hcs, hx⟩ | ⟨a, len, cap, zs, hcs, _, hl, hm, hz, hx, hcell, hwz⟩
  · exact ⟨_, [], hcs, ⟨none, 0, rfl, Nat.le_refl _, Nat.zero_le _, fun _ => rfl, fun h => absurd h (by simp)⟩, by simp, Nat.zero_le _⟩
  · simp only [if_true] at hz
    have hlen : ((zs.take len).map (Value.int k)).length = len := by simp; omega
    refine ⟨_, zs.take len, hcs, ⟨some a, cap, by rw [hlen], by omega, hm, (by simp), fun hp => ?_⟩, fun n hn => hwz n (List.mem_of_mem_take hn), ?_⟩
    · obtain ⟨b, off, rfl, hcc⟩ := ints_at hcell (by omega)
      have h0 := hcc 0 (by omega)
      exact ⟨b, off, rfl, World.block_lt_of_cell? W _ h0, World.block_lt_of_cell? W _ h0, fun j hj => by rw [hcc j (by omega)]; simp [List.getD, show j < zs.length by omega]⟩
    · rw [hx]
      simp only [Rows.uptoBulk]
      rw [bulk_lits, bulk_lits]
      omega
theorem open_nums {k : IntKind} {t e : TypeId} {W : World} {base : Nat} {v : Value} {d : DataW H} {p : List MemPlace} (hu : P.underlying t = some (.slice e)) (he : P.underlying e = some (.int k)) (hc : P.cellsOf e = 1)
    (hv : Value.okWide P W .any base t v) (h : DataW.Trod enc P W 0 (fun _ => true) true t v d p) :
    ∃ zs : List Int, Sl W (· < W.heap.size) v (zs.map (Value.int k)) ∧ (∀ n ∈ zs, (Lit.int k n).wf = true) ∧ zs.length ≤ Rows.uptoBulk d := by
  obtain ⟨a0, len, cap, rfl⟩ := okWide_slice hu hv
  obtain ⟨fuel, hf⟩ := h
  obtain ⟨u, zs, e1, h1, h2, h3⟩ := slk_nums hu he hc hf
  simp [Value.cells] at e1
  subst e1
  exact ⟨zs, h1, h2, h3⟩
/-- Two bytes. -/
theorem open_bytes2 {t f : TypeId} {W : World} {base : Nat} {v : Value} {d : DataW H} {p : List MemPlace} (hu : P.underlying t = some (.array 2 f)) (hC : P.cellsOf t = 2) (h0 : P.underlying f = some (.int .u8)) (c0 : P.cellsOf f = 1)
    (hv : Value.okWide P W .any base t v) (h : DataW.Trod enc P W 0 (fun _ => true) true t v d p) :
    ∃ a b : Int, v = .agg #[.int .u8 a, .int .u8 b] ∧ (0 ≤ a ∧ a ≤ 255) ∧ (0 ≤ b ∧ b ≤ 255) := by
  simp only [Value.okWide, hu] at hv
  obtain ⟨cs, rfl, hcs, _⟩ := hv
  obtain ⟨fuel, hf⟩ := h
  simp only [Value.cells] at hf
  rw [hC] at hcs
  obtain ⟨cl, rfl⟩ : ∃ l : List Value, cs = l.toArray := ⟨cs.toList, by simp⟩
  simp at hcs
  obtain ⟨xs, k, hk, hxy, _, hxl, hg⟩ := DataW.trod_array hu hf
  match xs, hxl, cl, hcs with
  | [y0, y1], _, [v0, v1], _ =>
    have g0 := hg 0 (by omega)
    have g1 := hg 1 (by omega)
    simp [c0] at g0 g1
    obtain ⟨n0, e0, x0, w0⟩ := DataW.trod_int h0 g0
    obtain ⟨n1, e1, x1, w1⟩ := DataW.trod_int h0 g1
    simp at e0 e1
    subst e0 e1
    exact ⟨n0, n1, rfl, wf_u8 w0, wf_u8 w1⟩
/-- Links: six bytes, two bytes, a slice of numbers. -/
theorem open_links {t e4 : TypeId} {f0 f1 f2 f3 : Field} {q : TypeId} {W : World} {base : Nat} {v : Value} {d : DataW H} {p : List MemPlace} (hu : P.underlying t = some (.struct #[f0, f1, f2, f3])) (hC : P.cellsOf t = 9)
    (o0 : f0.offset = 0) (o1 : f1.offset = 6) (o2 : f2.offset = 7) (o3 : f3.offset = 8)
    (h0 : P.underlying f0.type = some (.array 6 q)) (k0 : P.underlying q = some (.int .u8)) (l0 : P.cellsOf q = 1) (h1 : P.underlying f1.type = some (.int .u8)) (h2 : P.underlying f2.type = some (.int .u8))
    (h3 : P.underlying f3.type = some (.slice e4)) (k3 : P.underlying e4 = some (.int .u32)) (l3 : P.cellsOf e4 = 1)
    (c0 : P.cellsOf f0.type = 6) (c1 : P.cellsOf f1.type = 1) (c2 : P.cellsOf f2.type = 1) (c3 : P.cellsOf f3.type = 1)
    (hv : Value.okWide P W .any base t v) (h : DataW.Trod enc P W 0 (fun _ => true) true t v d p) :
    ∃ (a0 a1 a2 a3 a4 a5 nd lf : Int) (u : Value) (zs : List Int), v = .agg #[.int .u8 a0, .int .u8 a1, .int .u8 a2, .int .u8 a3, .int .u8 a4, .int .u8 a5, .int .u8 nd, .int .u8 lf, u] ∧
      ((0 ≤ a0 ∧ a0 ≤ 255) ∧ (0 ≤ a1 ∧ a1 ≤ 255) ∧ (0 ≤ a2 ∧ a2 ≤ 255) ∧ (0 ≤ a3 ∧ a3 ≤ 255) ∧ (0 ≤ a4 ∧ a4 ≤ 255) ∧ (0 ≤ a5 ∧ a5 ≤ 255)) ∧ (0 ≤ nd ∧ nd ≤ 255) ∧ (0 ≤ lf ∧ lf ≤ 255) ∧
      Sl W (· < W.heap.size) u (zs.map (Value.int .u32)) ∧ (∀ n ∈ zs, (Lit.int .u32 n).wf = true) ∧ zs.length ≤ Rows.uptoBulk d := by
  obtain ⟨cs, rfl, hcs⟩ := okWide_struct hu hv
  obtain ⟨fuel, hf⟩ := h
  simp only [Value.cells] at hf
  rw [hC] at hcs
  obtain ⟨cl, rfl⟩ : ∃ l : List Value, cs = l.toArray := ⟨cs.toList, by simp⟩
  simp at hcs
  obtain ⟨xs, k, hk, hxy, _, hxl, hg⟩ := DataW.trod_struct hu hf
  match xs, hxl, cl, hcs with
  | [y0, y1, y2, y3], _, [v0, v1, v2, v3, v4, v5, v6, v7, v8], _ =>
    have b0 := hg 0 f0 rfl
    have b1 := hg 1 f1 rfl
    have b2 := hg 2 f2 rfl
    have b3 := hg 3 f3 rfl
    simp [o0, o1, o2, o3, c0, c1, c2, c3] at b0 b1 b2 b3
    obtain ⟨ys, k2, hk2, hxy2, _, hyl, hg2⟩ := DataW.trod_array h0 b0
    match ys, hyl with
    | [z0, z1, z2, z3, z4, z5], _ =>
      have g0 := hg2 0 (by omega)
      have g1 := hg2 1 (by omega)
      have g2 := hg2 2 (by omega)
      have g3 := hg2 3 (by omega)
      have g4 := hg2 4 (by omega)
      have g5 := hg2 5 (by omega)
      simp [l0] at g0 g1 g2 g3 g4 g5
      obtain ⟨n0, e0, _, w0⟩ := DataW.trod_int k0 g0
      obtain ⟨n1, e1, _, w1⟩ := DataW.trod_int k0 g1
      obtain ⟨n2, e2, _, w2⟩ := DataW.trod_int k0 g2
      obtain ⟨n3, e3, _, w3⟩ := DataW.trod_int k0 g3
      obtain ⟨n4, e4, _, w4⟩ := DataW.trod_int k0 g4
      obtain ⟨n5, e5, _, w5⟩ := DataW.trod_int k0 g5
      obtain ⟨n6, e6, _, w6⟩ := DataW.trod_int h1 b1
      obtain ⟨n7, e7, _, w7⟩ := DataW.trod_int h2 b2
      obtain ⟨u, zs, e8, s8, r8, q8⟩ := slk_nums h3 k3 l3 b3
      simp at e0 e1 e2 e3 e4 e5 e6 e7 e8
      subst e0 e1 e2 e3 e4 e5 e6 e7 e8
      refine ⟨n0, n1, n2, n3, n4, n5, n6, n7, v8, zs, rfl, ⟨wf_u8 w0, wf_u8 w1, wf_u8 w2, wf_u8 w3, wf_u8 w4, wf_u8 w5⟩, wf_u8 w6, wf_u8 w7, s8, r8, ?_⟩
      have : d = .agg [y0.1, y1.1, y2.1, y3.1] := by injection hxy
      rw [this]
      simp only [Rows.uptoBulk, Rows.uptoBulkAll]
      omega
end
end Go.Proofs.Ytdhafagihfdolaa
