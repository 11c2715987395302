/-
  MeshPlays: plain facts on what is on the ways.
-/
import Derived.Test.YthobffgkggfooaaMesPlay
set_option linter.unusedVariables false
set_option linter.unusedSimpArgs false
namespace Go.Proofs.Ythobffgkggfooaa
open Go.RowKit Go.Maps

def In4 (x : Int) : Prop := -4 ≤ x ∧ x ≤ 4
/-- Nothing is on a way but between small numbers. -/
def InBox (it : Ways) : Prop := ∀ q, it q ≠ [] → In4 q.1 ∧ In4 q.2
theorem InBox.nil : InBox (fun _ => []) := fun q h => absurd rfl h
theorem InBox.set {it : Ways} (h : InBox it) {k : Int × Int} (h1 : In4 k.1) (h2 : In4 k.2) (l : List ItA) : InBox (setI it k l) := by
  intro q hq
  unfold setI at hq
  by_cases e : q = k
  · rw [e]; exact ⟨h1, h2⟩
  · rw [if_neg e] at hq
    exact h q hq
/-- The reference's Down under way: the numbers from -4 on, j of them. -/
def refDown (lv : List Int) (it : Ways) (a : Int) (j : Nat) : Ways := fun q =>
  if q.2 = a ∧ -4 ≤ q.1 ∧ q.1 < -4 + (j : Int) then [] else if q.1 = a ∧ q.2 ∈ lv ∧ -4 ≤ q.2 ∧ q.2 < -4 + (j : Int) then [brk] else it q
theorem refDown_zero (lv : List Int) (it : Ways) (a : Int) : refDown lv it a 0 = it := by
  funext q
  unfold refDown
  rw [if_neg (by simp only [Int.natCast_zero]; omega), if_neg (by simp only [Int.natCast_zero]; omega)]
theorem refDown_step {lv : List Int} {it : Ways} {a k : Int} {j : Nat} (hk : k = -4 + (j : Int)) (ha : a ∉ lv) :
    (if k ∈ lv then setI (setI (refDown lv it a j) (k, a) []) (a, k) [brk] else setI (refDown lv it a j) (k, a) []) = refDown lv it a (j + 1) := by
  have hne : ∀ x ∈ lv, x ≠ a := fun x hx e => ha (e ▸ hx)
  funext q
  obtain ⟨x, y⟩ := q
  by_cases hl : k ∈ lv
  · rw [if_pos hl]
    have hka := hne k hl
    unfold setI refDown
    by_cases h1 : x = a ∧ y = k
    · obtain ⟨rfl, rfl⟩ := h1
      simp only [if_true]
      rw [if_neg (by omega), if_pos ⟨trivial, hl, by omega, by push_cast; omega⟩]
    · rw [if_neg (fun e => h1 ⟨(Prod.mk.inj e).1, (Prod.mk.inj e).2⟩)]
      by_cases h2 : x = k ∧ y = a
      · obtain ⟨rfl, rfl⟩ := h2
        simp only [if_true]
        rw [if_pos ⟨trivial, by omega, by push_cast; omega⟩]
      · rw [if_neg (fun e => h2 ⟨(Prod.mk.inj e).1, (Prod.mk.inj e).2⟩)]
        have c1 : (y = a ∧ -4 ≤ x ∧ x < -4 + ((j + 1 : Nat) : Int)) ↔ (y = a ∧ -4 ≤ x ∧ x < -4 + (j : Int)) := by push_cast; omega
        have c2 : (x = a ∧ y ∈ lv ∧ -4 ≤ y ∧ y < -4 + ((j + 1 : Nat) : Int)) ↔ (x = a ∧ y ∈ lv ∧ -4 ≤ y ∧ y < -4 + (j : Int)) := by
          constructor
          · rintro ⟨e1, e2, e3, e4⟩; exact ⟨e1, e2, e3, by push_cast at e4; omega⟩
          · rintro ⟨e1, e2, e3, e4⟩; exact ⟨e1, e2, e3, by push_cast; omega⟩
        simp only [c1, c2]
  · rw [if_neg hl]
    unfold setI refDown
    by_cases h2 : x = k ∧ y = a
    · obtain ⟨rfl, rfl⟩ := h2
      simp only [if_true]
      rw [if_pos ⟨trivial, by omega, by push_cast; omega⟩]
    · rw [if_neg (fun e => h2 ⟨(Prod.mk.inj e).1, (Prod.mk.inj e).2⟩)]
      have c1 : (y = a ∧ -4 ≤ x ∧ x < -4 + ((j + 1 : Nat) : Int)) ↔ (y = a ∧ -4 ≤ x ∧ x < -4 + (j : Int)) := by push_cast; omega
      have c2 : (x = a ∧ y ∈ lv ∧ -4 ≤ y ∧ y < -4 + ((j + 1 : Nat) : Int)) ↔ (x = a ∧ y ∈ lv ∧ -4 ≤ y ∧ y < -4 + (j : Int)) := by
        constructor
        · rintro ⟨e1, e2, e3, e4⟩
          refine ⟨e1, e2, e3, ?_⟩
          have : y ≠ k := fun e => hl (e ▸ e2)
          push_cast at e4; omega
        · rintro ⟨e1, e2, e3, e4⟩; exact ⟨e1, e2, e3, by push_cast; omega⟩
      simp only [c1, c2]
theorem refDown_end {lv : List Int} {it : Ways} {a : Int} (hb : InBox it) (hlv : ∀ x ∈ lv, In4 x) : refDown (downL lv a) it a 9 = downI lv it a := by
  funext q
  unfold refDown downI
  by_cases h1 : q.2 = a
  · rw [if_pos h1]
    by_cases h2 : -4 ≤ q.1 ∧ q.1 < -4 + ((9 : Nat) : Int)
    · rw [if_pos ⟨h1, h2⟩]
    · rw [if_neg (fun e => h2 e.2), if_neg (by rintro ⟨_, e, _⟩; exact (downL_mem.1 e).2 h1)]
      by_cases h3 : it q = []
      · exact h3
      · have := (hb q h3).1
        unfold In4 at this
        exact absurd ⟨this.1, by push_cast; omega⟩ h2
  · rw [if_neg h1, if_neg (fun e => h1 e.1)]
    by_cases h2 : q.1 = a ∧ q.2 ∈ lv
    · have h3 := hlv q.2 h2.2
      unfold In4 at h3
      rw [if_pos h2, if_pos ⟨h2.1, downL_mem.2 ⟨h2.2, h1⟩, h3.1, by push_cast; omega⟩]
    · rw [if_neg h2, if_neg (fun e => h2 ⟨e.1, (downL_mem.1 e.2.1).1⟩)]
end Go.Proofs.Ythobffgkggfooaa
