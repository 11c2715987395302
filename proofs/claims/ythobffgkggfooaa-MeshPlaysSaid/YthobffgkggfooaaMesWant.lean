/-
  MeshPlays: the ways with items, in order, by definition.
-/
import Derived.Test.YthobffgkggfooaaMesPlayMath
import Derived.Test.YthobffgkggfooaaMesWays
set_option linter.unusedVariables false
set_option linter.unusedSimpArgs false
namespace Go.Proofs.Ythobffgkggfooaa
open Go.RowKit Go.Maps

def small (j : Nat) : Int := -4 + (j : Int)
/-- The ways from x, the first n of them. -/
def wantRow (it : Ways) (x : Int) (n : Nat) : List (Int × Int) := (List.range n).flatMap fun y => if it (x, small y) ≠ [] then [(x, small y)] else []
/-- The ways from the first n. -/
def wantL (it : Ways) (n : Nat) : List (Int × Int) := (List.range n).flatMap fun x => wantRow it (small x) 9
theorem wantRow_step (it : Ways) (x : Int) (n : Nat) : wantRow it x (n + 1) = wantRow it x n ++ (if it (x, small n) ≠ [] then [(x, small n)] else []) := by
  unfold wantRow
  rw [List.range_succ, List.flatMap_append]
  simp
theorem wantL_step (it : Ways) (n : Nat) : wantL it (n + 1) = wantL it n ++ wantRow it (small n) 9 := by
  unfold wantL
  rw [List.range_succ, List.flatMap_append]
  simp
theorem wantRow_mem {it : Ways} {x : Int} {n : Nat} {q : Int × Int} : q ∈ wantRow it x n ↔ q.1 = x ∧ it q ≠ [] ∧ -4 ≤ q.2 ∧ q.2 < -4 + (n : Int) := by
  unfold wantRow
  rw [List.mem_flatMap]
  constructor
  · rintro ⟨y, hy, hq⟩
    have := List.mem_range.1 hy
    split at hq
    · rename_i hne
      obtain rfl := List.mem_singleton.1 hq
      exact ⟨rfl, hne, by unfold small; simp only; omega, by unfold small; simp only; omega⟩
    · cases hq
  · rintro ⟨rfl, hne, h1, h2⟩
    have e : small (q.2 + 4).toNat = q.2 := by unfold small; omega
    refine ⟨(q.2 + 4).toNat, List.mem_range.2 (by omega), ?_⟩
    rw [e]
    have : (q.1, q.2) = q := rfl
    rw [this, if_pos hne]
    simp
theorem wantL_mem {it : Ways} {n : Nat} {q : Int × Int} : q ∈ wantL it n ↔ it q ≠ [] ∧ (-4 ≤ q.1 ∧ q.1 < -4 + (n : Int)) ∧ -4 ≤ q.2 ∧ q.2 < 5 := by
  unfold wantL
  rw [List.mem_flatMap]
  constructor
  · rintro ⟨x, hx, hq⟩
    have := List.mem_range.1 hx
    obtain ⟨h1, h2, h3, h4⟩ := wantRow_mem.1 hq
    refine ⟨h2, ⟨?_, ?_⟩, h3, by omega⟩
    · rw [h1]; unfold small; omega
    · rw [h1]; unfold small; omega
  · rintro ⟨h1, ⟨h2, h3⟩, h4, h5⟩
    refine ⟨(q.1 + 4).toNat, List.mem_range.2 (by omega), wantRow_mem.2 ⟨by unfold small; omega, h1, h4, by omega⟩⟩
theorem wantL_all {it : Ways} (hb : InBox it) {q : Int × Int} : q ∈ wantL it 9 ↔ it q ≠ [] := by
  rw [wantL_mem]
  refine ⟨fun h => h.1, fun h => ?_⟩
  have h1 := hb q h
  unfold In4 at h1
  refine ⟨h, ⟨h1.1.1, ?_⟩, h1.2.1, ?_⟩ <;> omega
def ltW (p q : Int × Int) : Prop := p.1 < q.1 ∨ (p.1 = q.1 ∧ p.2 < q.2)
theorem wantRow_ord (it : Ways) (x : Int) : ∀ n, (wantRow it x n).Pairwise ltW
  | 0 => List.Pairwise.nil
  | n + 1 => by
    rw [wantRow_step]
    refine List.pairwise_append.2 ⟨wantRow_ord it x n, by split <;> simp, fun a ha b hb => ?_⟩
    split at hb
    · obtain rfl := List.mem_singleton.1 hb
      obtain ⟨h1, _, _, h2⟩ := wantRow_mem.1 ha
      exact Or.inr ⟨h1, by unfold small; simp only; omega⟩
    · cases hb
theorem wantL_ord (it : Ways) : ∀ n, (wantL it n).Pairwise ltW
  | 0 => List.Pairwise.nil
  | n + 1 => by
    rw [wantL_step]
    refine List.pairwise_append.2 ⟨wantL_ord it n, wantRow_ord it _ 9, fun a ha b hb => ?_⟩
    obtain ⟨_, ⟨_, h2⟩, _⟩ := wantL_mem.1 ha
    obtain ⟨h3, _⟩ := wantRow_mem.1 hb
    exact Or.inl (by rw [h3]; unfold small; omega)
theorem leW_lt {p q : Int × Int} : leW p q ↔ ltW p q ∨ p = q := by
  obtain ⟨a, b⟩ := p
  obtain ⟨c, d⟩ := q
  unfold leW ltW cmp2 cmpI
  simp only [Prod.mk.injEq]
  repeat' split
  all_goals omega
/-- Two orders of the same ways are one. -/
theorem way_order : ∀ {l m : List (Int × Int)}, l.Perm m → l.Pairwise leW → m.Pairwise leW → l = m
  | [], m, hp, _, _ => (List.Perm.nil_eq hp)
  | x :: l, m, hp, hl, hm => by
    cases m with
    | nil => exact absurd hp.length_eq (by simp)
    | cons y m =>
      obtain ⟨h1, h2⟩ := List.pairwise_cons.1 hl
      obtain ⟨h3, h4⟩ := List.pairwise_cons.1 hm
      have hxy : x = y := by
        have hx : x ∈ y :: m := hp.mem_iff.1 (by simp)
        have hy : y ∈ x :: l := hp.mem_iff.2 (by simp)
        rcases List.mem_cons.1 hx with e | hx
        · exact e
        · rcases List.mem_cons.1 hy with e | hy
          · exact e.symm
          · have a1 := leW_lt.1 (h1 y hy)
            have a2 := leW_lt.1 (h3 x hx)
            rcases a1 with a1 | a1
            · rcases a2 with a2 | a2
              · unfold ltW at a1 a2; omega
              · exact a2.symm
            · exact a1
      subst hxy
      rw [way_order (List.Perm.cons_inv hp) h2 h4]
end Go.Proofs.Ythobffgkggfooaa
