/-
  The message laws' argument, opened.
-/
import Derived.Test.YteaeodinllpfbaaFrame
import Derived.Test.YteaeodinllpfbaaMsgBoth
import Derived.Deep.Slices
set_option linter.unusedVariables false
set_option linter.unusedSimpArgs false
namespace Go.Proofs.Yteaeodinllpfbaa
open Go.ChangeShapes Go.WideShapes Go.RowKit Go.Deep

instance : Inhabited RecA := ⟨⟨⟨[], 0⟩, 0, 0, false, []⟩⟩
def RecW (x : RecA) : Prop := x.id.ver < 18446744073709551616
section
variable {H : Type} {enc : TypeId × Value → H} {P : Program}
theorem slk_ints {t e : TypeId} {W : World} {fuel : Nat} {cs : List Value} {x : DataW H × List MemPlace} (hu : P.underlying t = some (.slice e)) (he : P.underlying e = some (.int .i64)) (hc : P.cellsOf e = 1)
    (hf : DataW.trod enc P W 0 (fun _ => true) true fuel t cs = some x) : ∃ v zs, cs = [v] ∧ Slk nodeC 1 W (· < W.heap.size) v zs := by
  rcases open_ints hu he hc hf with ⟨hcs, hx⟩ | ⟨a, len, cap, zs, hcs, _, hl, hm, hz, hx, hcell, hwz⟩
  · exact ⟨_, [], hcs, Slk.nil⟩
  · simp only [if_true] at hz
    have hlen : (zs.take len).length = len := by simp; omega
    refine ⟨_, zs.take len, hcs, some a, cap, by rw [hlen], by omega, hm, (by simp), fun hp => ?_⟩
    obtain ⟨b, off, rfl, hcc⟩ := ints_at hcell (by omega)
    have h0 := hcc 0 (by omega)
    refine ⟨b, off, rfl, World.block_lt_of_cell? W _ h0, World.block_lt_of_cell? W _ h0, fun j hj c u hu => ?_⟩
    have hc0 : c = 0 := by have := (List.getElem?_eq_some_iff.1 hu).1; simp [nodeC] at this; exact this
    subst hc0
    simp [nodeC] at hu
    subst hu
    have := hcc j (by omega)
    rw [Nat.mul_one, Nat.add_zero, this]
    simp [List.getD, show j < zs.length by omega]

theorem slk_recs {t e : TypeId} {f0 f1 f2 f3 f4 f5 : Field} {W : World} {fuel : Nat} {cs : List Value} {x : DataW H × List MemPlace} (hu : P.underlying t = some (.slice e)) (he : P.underlying e = some (.struct #[f0, f1, f2, f3, f4, f5]))
    (hC : P.cellsOf e = 6) (o0 : f0.offset = 0) (o1 : f1.offset = 1) (o2 : f2.offset = 2) (o3 : f3.offset = 3) (o4 : f4.offset = 4) (o5 : f5.offset = 5)
    (h0 : P.underlying f0.type = some .string) (h1 : P.underlying f1.type = some (.int .u64)) (h2 : P.underlying f2.type = some (.int .i64)) (h3 : P.underlying f3.type = some (.int .i64)) (h4 : P.underlying f4.type = some .bool) (h5 : P.underlying f5.type = some .string)
    (c0 : P.cellsOf f0.type = 1) (c1 : P.cellsOf f1.type = 1) (c2 : P.cellsOf f2.type = 1) (c3 : P.cellsOf f3.type = 1) (c4 : P.cellsOf f4.type = 1) (c5 : P.cellsOf f5.type = 1)
    (hf : DataW.trod enc P W 0 (fun _ => true) true fuel t cs = some x) : ∃ v zs, cs = [v] ∧ Slk recC 6 W (· < W.heap.size) v zs ∧ ∀ q ∈ zs, RecW q := by
  rcases open_slice hu hf with ⟨hcs, hx⟩ | ⟨a, len, cap, m, n, D, Pl, hcs, _, hl, hm, hmm, hx, hi⟩
  · exact ⟨_, [], hcs, Slk.nil, by simp⟩
  · simp only [if_true] at hmm
    have each : ∀ i, i < m → ∃ q : RecA, (∀ c u, (recC q)[c]? = some u → W.cell? (a.add (i * 6 + c)) = some u) ∧ RecW q := by
      intro i hi'
      obtain ⟨cs', hc, hd⟩ := hi i hi'
      rw [hC] at hc
      obtain ⟨_, hlen, hcell⟩ := World.cells?_some hc
      obtain ⟨xs, k, hk, hxy, _, hxl, hg⟩ := DataW.trod_struct he hd
      match xs, hxl, cs', hlen with
      | [y0, y1, y2, y3, y4, y5], _, [v0, v1, v2, v3, v4, v5], _ =>
        have g0 := hg 0 f0 rfl
        have g1 := hg 1 f1 rfl
        have g2 := hg 2 f2 rfl
        have g3 := hg 3 f3 rfl
        have g4 := hg 4 f4 rfl
        have g5 := hg 5 f5 rfl
        simp [o0, o1, o2, o3, o4, o5, c0, c1, c2, c3, c4, c5] at g0 g1 g2 g3 g4 g5
        obtain ⟨n0, e0, x0, w0⟩ := DataW.trod_string h0 g0
        obtain ⟨n1, e1, x1, w1⟩ := DataW.trod_int h1 g1
        obtain ⟨n2, e2, x2, w2⟩ := DataW.trod_int h2 g2
        obtain ⟨n3, e3, x3, w3⟩ := DataW.trod_int h3 g3
        obtain ⟨n4, e4, x4⟩ := DataW.trod_bool h4 g4
        obtain ⟨n5, e5, x5, w5⟩ := DataW.trod_string h5 g5
        simp at e0 e1 e2 e3 e4 e5
        subst e0 e1 e2 e3 e4 e5
        have k0 := hcell 0 (by omega)
        have k1 := hcell 1 (by omega)
        have k2 := hcell 2 (by omega)
        have k3 := hcell 3 (by omega)
        have k4 := hcell 4 (by omega)
        have k5 := hcell 5 (by omega)
        rw [Go.Deep.add_add] at k0 k1 k2 k3 k4 k5
        have w1' := wf_u64 w1
        obtain ⟨m1, rfl⟩ := Int.eq_ofNat_of_zero_le w1'.1
        refine ⟨⟨⟨n0.data.toList, m1⟩, n2, n3, n4, n5.data.toList⟩, fun c u hu => ?_, by show m1 < _; omega⟩
        have hc6 : c < 6 := (List.getElem?_eq_some_iff.1 hu).1
        simp only [recC, str_of] at hu
        match c, hc6 with
        | 0, _ => cases hu; simpa using k0
        | 1, _ => cases hu; simpa using k1
        | 2, _ => cases hu; simpa using k2
        | 3, _ => cases hu; simpa using k3
        | 4, _ => cases hu; simpa using k4
        | 5, _ => cases hu; simpa using k5
    obtain ⟨q, hq⟩ := choose_lt each
    refine ⟨_, (List.range len).map q, hcs, ⟨some a, cap, by simp, by simpa using hl, hm, (by simp), fun hp => ?_⟩, ?_⟩
    · simp at hp
      obtain ⟨b, off, spot⟩ := a
      have z0 := (hq 0 (by omega)).1 0 _ rfl
      have hspot : spot = none := by simpa [Addr.add] using World.cell?_spot z0
      subst hspot
      have hb := World.block_lt_of_cell? W _ z0
      refine ⟨b, off, rfl, hb, hb, fun j hj c u hu => ?_⟩
      simp at hj
      have hc := (hq j (by omega)).1 c u (by simpa using hu)
      simp only [Addr.add_lit] at hc
      simpa [Nat.add_assoc] using hc
    · intro x hx'
      obtain ⟨i, hi', rfl⟩ := List.mem_map.1 hx'
      have := List.mem_range.1 hi'
      exact (hq i (by omega)).2

theorem open_lawm {t e4 e5 : TypeId} {f0 f1 f2 f3 f4 f5 f6 g0 g1 g2 g3 g4 g5 : Field} {W : World} {base : Nat} {v : Value} {d : DataW H} {p : List MemPlace} (hu : P.underlying t = some (.struct #[f0, f1, f2, f3, f4, f5, f6])) (hC : P.cellsOf t = 7)
    (o0 : f0.offset = 0) (o1 : f1.offset = 1) (o2 : f2.offset = 2) (o3 : f3.offset = 3) (o4 : f4.offset = 4) (o5 : f5.offset = 5) (o6 : f6.offset = 6)
    (h0 : P.underlying f0.type = some (.int .i64)) (h1 : P.underlying f1.type = some (.int .i64)) (h2 : P.underlying f2.type = some (.int .i64)) (h3 : P.underlying f3.type = some .bool)
    (h4 : P.underlying f4.type = some (.slice e4)) (k4 : P.underlying e4 = some (.int .i64)) (l4 : P.cellsOf e4 = 1) (h5 : P.underlying f5.type = some (.slice e5)) (h6 : P.underlying f6.type = some (.slice e5))
    (c0 : P.cellsOf f0.type = 1) (c1 : P.cellsOf f1.type = 1) (c2 : P.cellsOf f2.type = 1) (c3 : P.cellsOf f3.type = 1) (c4 : P.cellsOf f4.type = 1) (c5 : P.cellsOf f5.type = 1) (c6 : P.cellsOf f6.type = 1)
    (he : P.underlying e5 = some (.struct #[g0, g1, g2, g3, g4, g5])) (hE : P.cellsOf e5 = 6) (p0 : g0.offset = 0) (p1 : g1.offset = 1) (p2 : g2.offset = 2) (p3 : g3.offset = 3) (p4 : g4.offset = 4) (p5 : g5.offset = 5)
    (q0 : P.underlying g0.type = some .string) (q1 : P.underlying g1.type = some (.int .u64)) (q2 : P.underlying g2.type = some (.int .i64)) (q3 : P.underlying g3.type = some (.int .i64)) (q4 : P.underlying g4.type = some .bool) (q5 : P.underlying g5.type = some .string)
    (r0 : P.cellsOf g0.type = 1) (r1 : P.cellsOf g1.type = 1) (r2 : P.cellsOf g2.type = 1) (r3 : P.cellsOf g3.type = 1) (r4 : P.cellsOf g4.type = 1) (r5 : P.cellsOf g5.type = 1)
    (hv : Value.okWide P W .any base t v) (h : DataW.Trod enc P W 0 (fun _ => true) true t v d p) :
    ∃ (x : LawA) (u : MsgV), v = .agg (lawC x u) ∧ LawIs W (· < W.heap.size) x u ∧ (∀ q ∈ x.ids, RecW q) ∧ (∀ q ∈ x.recs, RecW q) := by
  obtain ⟨cs, rfl, hcs⟩ := okWide_struct hu hv
  obtain ⟨fuel, hf⟩ := h
  simp only [Value.cells] at hf
  rw [hC] at hcs
  obtain ⟨cl, rfl⟩ : ∃ l : List Value, cs = l.toArray := ⟨cs.toList, by simp⟩
  simp at hcs
  obtain ⟨xs, k, hk, hxy, _, hxl, hg⟩ := DataW.trod_struct hu hf
  match xs, hxl, cl, hcs with
  | [y0, y1, y2, y3, y4, y5, y6], _, [v0, v1, v2, v3, v4, v5, v6], _ =>
    have a0 := hg 0 f0 rfl
    have a1 := hg 1 f1 rfl
    have a2 := hg 2 f2 rfl
    have a3 := hg 3 f3 rfl
    have a4 := hg 4 f4 rfl
    have a5 := hg 5 f5 rfl
    have a6 := hg 6 f6 rfl
    simp [o0, o1, o2, o3, o4, o5, o6, c0, c1, c2, c3, c4, c5, c6] at a0 a1 a2 a3 a4 a5 a6
    obtain ⟨n0, e0, x0, w0⟩ := DataW.trod_int h0 a0
    obtain ⟨n1, e1, x1, w1⟩ := DataW.trod_int h1 a1
    obtain ⟨n2, e2, x2, w2⟩ := DataW.trod_int h2 a2
    obtain ⟨n3, e3, x3⟩ := DataW.trod_bool h3 a3
    obtain ⟨s4, z4, e4', hs4⟩ := slk_ints h4 k4 l4 a4
    obtain ⟨s5, z5, e5', hs5, hw5⟩ := slk_recs h5 he hE p0 p1 p2 p3 p4 p5 q0 q1 q2 q3 q4 q5 r0 r1 r2 r3 r4 r5 a5
    obtain ⟨s6, z6, e6', hs6, hw6⟩ := slk_recs h6 he hE p0 p1 p2 p3 p4 p5 q0 q1 q2 q3 q4 q5 r0 r1 r2 r3 r4 r5 a6
    simp at e0 e1 e2 e3 e4' e5' e6'
    subst e0 e1 e2 e3 e4' e5' e6'
    exact ⟨⟨n0, n1, n2, n3, z4, z5, z6⟩, ⟨v4, v5, v6⟩, rfl, ⟨hs4, hs5, hs6⟩, hw5, hw6⟩
end
end Go.Proofs.Yteaeodinllpfbaa
