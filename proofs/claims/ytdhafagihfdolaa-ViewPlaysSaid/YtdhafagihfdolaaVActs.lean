/-
  The view laws: an argument that is a slice of acts.
-/
import Derived.Test.YtdhafagihfdolaaFrame
import Derived.Deep.Slices
set_option linter.unusedVariables false
set_option linter.unusedSimpArgs false
namespace Go.Proofs.Ytdhafagihfdolaa
open Go.ChangeShapes Go.WideShapes Go.RowKit Go.Deep

structure VAc where
  what : Int
  n : Int
  keep : Bool
instance : Inhabited VAc := ⟨⟨0, 0, false⟩⟩
def VAcOk (p : VAc) : Prop := (-9223372036854775808 ≤ p.what ∧ p.what ≤ 9223372036854775807) ∧ (-9223372036854775808 ≤ p.n ∧ p.n ≤ 9223372036854775807) ∧ True
/-- The slice v reads as ps; its cells lie in blocks of S. -/
def VAcs (w : World) (S : Nat → Prop) (v : Value) (ps : List VAc) : Prop :=
  ∃ ao cap, v = .slice ao ps.length cap ∧ ps.length ≤ cap ∧ cap ≤ maxLen ∧
    (0 < ps.length → ∃ b off, ao = some ⟨b, off, none⟩ ∧ S b ∧ b < w.heap.size ∧ ∀ j (h : j < ps.length),
      w.cell? ⟨b, off + j * 3, none⟩ = some (.int .i64 ps[j].what) ∧ w.cell? ⟨b, off + j * 3 + 1, none⟩ = some (.int .i64 ps[j].n) ∧ w.cell? ⟨b, off + j * 3 + 2, none⟩ = some (.bool ps[j].keep))
section
variable {w w' : World} {S T : Nat → Prop} {v : Value} {ps : List VAc}
theorem VAcs.keep (h : VAcs w S v ps) (hz : w.heap.size ≤ w'.heap.size) (hk : ∀ b, b < w.heap.size → S b → w'.heap[b]? = w.heap[b]?) : VAcs w' S v ps := by
  obtain ⟨ao, cap, h1, h2, h3, h4⟩ := h
  refine ⟨ao, cap, h1, h2, h3, fun hp => ?_⟩
  obtain ⟨b, off, e, hs, hb, hc⟩ := h4 hp
  have k := hk b hb hs
  exact ⟨b, off, e, hs, by omega, fun j hj => by
    obtain ⟨c0, c1, c2⟩ := hc j hj
    exact ⟨(World.cell?_of_block k).trans c0, (World.cell?_of_block k).trans c1, (World.cell?_of_block k).trans c2⟩⟩
theorem VAcs.tch (h : VAcs w S v ps) (hk : Tch T w w') (hd : ∀ b, S b → ¬ T b) : VAcs w' S v ps := h.keep hk.size fun b hb hs => hk.block b hb (hd b hs)
theorem VAcs.below {B : Nat} (h : VAcs w (· < B) v ps) (hb : Below B w w') : VAcs w' (· < B) v ps := h.keep hb.size fun b _ hs => hb.block b hs
theorem VAcs.more (h : VAcs w S v ps) (hS : ∀ b, b < w.heap.size → S b → T b) : VAcs w T v ps := by
  obtain ⟨ao, cap, h1, h2, h3, h4⟩ := h
  refine ⟨ao, cap, h1, h2, h3, fun hp => ?_⟩
  obtain ⟨b, off, e, hs, hb, hc⟩ := h4 hp
  exact ⟨b, off, e, hS b hb hs, hb, hc⟩
theorem VAcs.head {ao : Option Addr} {m cap : Nat} (h : VAcs w S (.slice ao m cap) ps) {n : Nat} (hn : n ≤ m) : VAcs w S (.slice ao n cap) (ps.take n) := by
  obtain ⟨ao', cap', e, h2, h3, h4⟩ := h
  injection e with e1 e2 e3
  subst e1; subst e2; subst e3
  have hl : (ps.take n).length = n := by rw [List.length_take]; omega
  refine ⟨ao, cap, by rw [hl], by omega, h3, fun hp => ?_⟩
  obtain ⟨b, off, e, hs, hb, hc⟩ := h4 (by omega)
  exact ⟨b, off, e, hs, hb, fun j hj => by have := hc j (by omega); rw [List.getElem_take]; exact this⟩
end

section
variable {H : Type} {enc : TypeId × Value → H} {P : Program}
theorem open_vacts {t e : TypeId} {f0 f1 f2 : Field} {W : World} {base : Nat} {v : Value} {d : DataW H} {p : List MemPlace} (hu : P.underlying t = some (.slice e)) (he : P.underlying e = some (.struct #[f0, f1, f2]))
    (hC : P.cellsOf e = 3) (o0 : f0.offset = 0) (o1 : f1.offset = 1) (o2 : f2.offset = 2)
    (h0 : P.underlying f0.type = some (.int .i64)) (h1 : P.underlying f1.type = some (.int .i64)) (h2 : P.underlying f2.type = some .bool)
    (c0 : P.cellsOf f0.type = 1) (c1 : P.cellsOf f1.type = 1) (c2 : P.cellsOf f2.type = 1)
    (hv : Value.okWide P W .any base t v) (h : DataW.Trod enc P W 0 (fun _ => true) true t v d p) :
    ∃ ps : List VAc, VAcs W (· < W.heap.size) v ps ∧ ∀ q ∈ ps, VAcOk q := by
  obtain ⟨a0, len, cap, rfl⟩ := okWide_slice hu hv
  obtain ⟨fuel, hf⟩ := h
  rcases open_slice hu hf with ⟨hcs, hx⟩ | ⟨a, len', cap', m, n, D, Pl, hcs, _, hl, hm, hmm, hx, hi⟩
  · simp [Value.cells] at hcs
    obtain ⟨rfl, rfl, rfl⟩ := hcs
    exact ⟨[], ⟨none, 0, rfl, Nat.le_refl _, Nat.zero_le _, fun h => absurd h (by simp)⟩, by simp⟩
  · simp [Value.cells] at hcs
    obtain ⟨rfl, rfl, rfl⟩ := hcs
    simp only [if_true] at hmm
    have each : ∀ i, i < m → ∃ q : VAc, (W.cell? (a.add (i * 3)) = some (.int .i64 q.what) ∧ W.cell? (a.add (i * 3 + 1)) = some (.int .i64 q.n) ∧ W.cell? (a.add (i * 3 + 2)) = some (.bool q.keep)) ∧ VAcOk q := by
      intro i hi'
      obtain ⟨cs', hc, hd⟩ := hi i hi'
      rw [hC] at hc
      obtain ⟨_, hlen, hcell⟩ := World.cells?_some hc
      obtain ⟨xs, k, hk, hxy, _, hxl, hg⟩ := DataW.trod_struct he hd
      match xs, hxl, cs', hlen with
      | [y0, y1, y2], _, [v0, v1, v2], _ =>
        have g0 := hg 0 f0 rfl
        have g1 := hg 1 f1 rfl
        have g2 := hg 2 f2 rfl
        simp [o0, o1, o2, c0, c1, c2] at g0 g1 g2
        obtain ⟨n0, e0, x0, w0⟩ := DataW.trod_int h0 g0
        obtain ⟨n1, e1, x1, w1⟩ := DataW.trod_int h1 g1
        obtain ⟨n2, e2, x2⟩ := DataW.trod_bool h2 g2
        simp at e0 e1 e2
        subst e0 e1 e2
        have k0 := hcell 0 (by omega)
        have k1 := hcell 1 (by omega)
        have k2 := hcell 2 (by omega)
        rw [Go.Deep.add_add] at k0 k1 k2
        refine ⟨⟨n0, n1, n2⟩, ⟨by simpa using k0, by simpa using k1, by simpa using k2⟩, wf_i64 w0, wf_i64 w1, trivial⟩
    obtain ⟨q, hq⟩ := choose_lt each
    refine ⟨(List.range len).map q, ⟨some a, cap, by simp, by simpa using hl, hm, fun hp => ?_⟩, ?_⟩
    · simp at hp
      obtain ⟨b, off, spot⟩ := a
      have z0 := (hq 0 (by omega)).1.1
      have hspot : spot = none := by simpa [Addr.add] using World.cell?_spot z0
      subst hspot
      have hb := World.block_lt_of_cell? W _ z0
      refine ⟨b, off, rfl, hb, hb, fun j hj => ?_⟩
      simp at hj
      have hc := (hq j (by omega)).1
      simp only [Addr.add_lit] at hc
      simpa [Nat.add_assoc] using hc
    · intro x hx'
      obtain ⟨i, hi', rfl⟩ := List.mem_map.1 hx'
      have := List.mem_range.1 hi'
      exact (hq i (by omega)).2
end
end Go.Proofs.Ytdhafagihfdolaa
