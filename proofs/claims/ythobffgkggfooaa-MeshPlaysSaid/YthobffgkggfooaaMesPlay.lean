/-
  MeshPlays: what the mesh and the reference have in common while the acts run.
-/
import Derived.Test.YthobffgkggfooaaMesUp
import Derived.Test.YthobffgkggfooaaIntSort
set_option linter.unusedVariables false
set_option linter.unusedSimpArgs false
set_option maxRecDepth 100000
namespace Go.Proofs.Ythobffgkggfooaa
open Go.RowKit Go.Maps

theorem MT.sl {B : Nat} {S : Nat → Prop} {w w' : World} {v : Value} {xs : List Value} (h : MT B w w') (hs : Sl w S v xs) : Sl w' S v xs := by
  obtain ⟨ao, cap, h1, h2, h3, h0, h4⟩ := hs
  refine ⟨ao, cap, h1, h2, h3, h0, fun hp => ?_⟩
  obtain ⟨b, off, e, hs, hb, hc⟩ := h4 hp
  have hcell : ∃ cs t z, w.heap[b]? = some (.cells cs t z) := by
    have := hc 0 hp
    unfold World.cell? at this
    simp only at this
    cases ho : w.heap[b]? with
    | none => rw [ho] at this; simp at this
    | some o =>
      rw [ho] at this
      cases o with
      | cells cs t z => exact ⟨cs, t, z, rfl⟩
      | _ => simp at this
  obtain ⟨cs, t, z, ho⟩ := hcell
  have hkeep := Tch.block h b hb (fun hn => hn.2 cs t z ho)
  exact ⟨b, off, e, hs, by have := h.size; omega, fun j hj => (World.cell?_of_block hkeep).trans (hc j hj)⟩
/-- The mesh, the live nodes ls in the slice vl, the reference's ways l in the slice vw. -/
structure PlayS (W w : World) (M B N : Nat) (it : Ways) (vl : Value) (ls lv : List Int) (vw : Value) (l : List RW) : Prop where
  mesh : MeshA w M B N lv it
  live : Sl w (W.heap.size ≤ ·) vl (ints ls)
  same : ls.Perm lv
  ref : WRef w (W.heap.size ≤ ·) vw l
  it : RefIt l it
  new : New W w
  base : W.heap.size ≤ B
theorem PlayS.later {W w w1 : World} {M B N : Nat} {it : Ways} {vl : Value} {ls lv : List Int} {vw : Value} {l : List RW} (h : PlayS W w M B N it vl ls lv vw l) (k : New w w1) : PlayS W w1 M B N it vl ls lv vw l :=
  ⟨h.mesh.new k, h.live.keep k.size (fun b hb _ => k.block b hb (by omega)), h.same, h.ref.since k.below, h.it, h.new.then k, h.base⟩
/-- A step of the mesh alone. -/
theorem PlayS.step {W w w1 : World} {M B N N2 : Nat} {it it2 : Ways} {vl : Value} {ls lv lv2 : List Int} {vw : Value} {l : List RW} (h : PlayS W w M B N it vl ls lv vw l) (hm : MeshA w1 M B N2 lv2 it2) (k : MT B w w1) :
    MeshA w1 M B N2 lv2 it2 ∧ Sl w1 (W.heap.size ≤ ·) vl (ints ls) ∧ WRef w1 (W.heap.size ≤ ·) vw l ∧ New W w1 :=
  ⟨hm, MT.sl k h.live, MT.wref k h.ref, MT.new h.new k h.base⟩
end Go.Proofs.Ythobffgkggfooaa
