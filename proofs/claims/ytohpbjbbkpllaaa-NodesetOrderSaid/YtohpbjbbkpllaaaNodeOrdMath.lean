/-
  Plain facts on sets that grow: the order in which nodes are added does not matter. They speak of no program.
-/
import Derived.Test.YtohpbjbbkpllaaaNodeMath
set_option linter.unusedVariables false
namespace Go.Proofs.Ytohpbjbbkpllaaa

theorem addL_one {ns : List Int} (h : Good 64 ns) (hl : ns.length < 64) {n : Int} (hn : 1 ≤ n ∧ n ≤ 65535) : (∀ x, x ∈ addL 64 ns n ↔ x = n ∨ x ∈ ns) ∧ (addL 64 ns n).length ≤ ns.length + 1 ∧ addB 64 ns n = true := by
  refine ⟨fun x => ?_, ?_, by simp only [addB]; exact decide_eq_true (.inr ⟨hn, hl⟩)⟩
  · unfold addL
    split
    · exact insL_mem ns n x
    · rename_i hc
      have hin : n ∈ ns := Classical.byContradiction fun h' => hc ⟨h', hn, hl⟩
      constructor
      · exact .inr
      · rintro (rfl | h')
        · exact hin
        · exact h'
  · unfold addL
    split
    · rw [insL_length]; omega
    · omega

def addsTo (ns xs : List Int) : List Int := xs.foldl (addL 64) ns
def adds (xs : List Int) : List Int := addsTo [] xs
theorem adds_snoc (xs : List Int) (x : Int) : adds (xs ++ [x]) = addL 64 (adds xs) x := by simp [adds, addsTo, List.foldl_append]
theorem addsTo_spec : ∀ (xs ns : List Int), Good 64 ns → (∀ x ∈ xs, 1 ≤ x ∧ x ≤ 65535) → ns.length + xs.length ≤ 64 → Good 64 (addsTo ns xs) ∧ (addsTo ns xs).length ≤ ns.length + xs.length ∧ ∀ x, x ∈ addsTo ns xs ↔ x ∈ ns ∨ x ∈ xs
  | [], ns, h, _, hl => ⟨h, by show ns.length ≤ _; omega, fun x => by simp [addsTo]⟩
  | y :: l, ns, h, hn, hl => by
    simp only [List.length_cons] at hl
    obtain ⟨h1, h2, h3⟩ := addL_one h (by omega) (hn y (by simp))
    obtain ⟨g1, g2, g3⟩ := addsTo_spec l (addL 64 ns y) (addL_good h y) (fun x hx => hn x (List.mem_cons_of_mem _ hx)) (by omega)
    refine ⟨g1, by simp only [List.length_cons]; exact Nat.le_trans g2 (by omega), fun x => ?_⟩
    show x ∈ addsTo (addL 64 ns y) l ↔ _
    rw [g3, h1, List.mem_cons]
    constructor
    · rintro ((h | h) | h)
      · exact .inr (.inl h)
      · exact .inl h
      · exact .inr (.inr h)
    · rintro (h | h | h)
      · exact .inl (.inr h)
      · exact .inl (.inl h)
      · exact .inr h
theorem adds_spec (xs : List Int) (hn : ∀ x ∈ xs, 1 ≤ x ∧ x ≤ 65535) (hl : xs.length ≤ 64) : Good 64 (adds xs) ∧ (adds xs).length ≤ xs.length ∧ ∀ x, x ∈ adds xs ↔ x ∈ xs := by
  obtain ⟨h1, h2, h3⟩ := addsTo_spec xs [] (Good.nil (by omega)) hn (by simpa using hl)
  exact ⟨h1, by simpa [adds] using h2, fun x => by simpa [adds] using h3 x⟩

/-- A number as a node. -/
def nodeF (u : Int) : Int := 1 + u % 65535
theorem nodeF_is (u : Int) : 1 ≤ nodeF u ∧ nodeF u ≤ 65535 := by unfold nodeF; omega
/-- The nodes in their order, and in the order that begins at place R. -/
def ordA (us : List Int) : List Int := us.map nodeF
def ordB (us : List Int) (R : Nat) : List Int := (List.range us.length).map fun i => nodeF (us.getD ((i + R) % us.length) 0)
theorem ordA_length (us : List Int) : (ordA us).length = us.length := by simp [ordA]
theorem ordB_length (us : List Int) (R : Nat) : (ordB us R).length = us.length := by simp [ordB]
theorem ordA_node (us : List Int) : ∀ x ∈ ordA us, 1 ≤ x ∧ x ≤ 65535 := by
  intro x hx
  obtain ⟨u, _, rfl⟩ := List.mem_map.1 hx
  exact nodeF_is u
theorem ordB_node (us : List Int) (R : Nat) : ∀ x ∈ ordB us R, 1 ≤ x ∧ x ≤ 65535 := by
  intro x hx
  obtain ⟨u, _, rfl⟩ := List.mem_map.1 hx
  exact nodeF_is _
theorem ordA_step (us : List Int) (i : Nat) (h : i < us.length) : adds ((ordA us).take (i + 1)) = addL 64 (adds ((ordA us).take i)) (nodeF (us.getD i 0)) := by
  have hl := ordA_length us
  rw [List.take_succ_eq_append_getElem (by omega), adds_snoc]
  simp [ordA, List.getD, h]
theorem ordB_step (us : List Int) (R i : Nat) (h : i < us.length) : adds ((ordB us R).take (i + 1)) = addL 64 (adds ((ordB us R).take i)) (nodeF (us.getD ((i + R) % us.length) 0)) := by
  have hl := ordB_length us R
  rw [List.take_succ_eq_append_getElem (by omega), adds_snoc]
  simp [ordB]
theorem ord_same (us : List Int) (R : Nat) (hR : R < us.length ∨ us.length = 0) (hl : us.length ≤ 64) : adds (ordA us) = adds (ordB us R) := by
  obtain ⟨a1, _, a3⟩ := adds_spec (ordA us) (ordA_node us) (by rw [ordA_length]; exact hl)
  obtain ⟨b1, _, b3⟩ := adds_spec (ordB us R) (ordB_node us R) (by rw [ordB_length]; exact hl)
  refine a1.asc.eq b1.asc fun x => ?_
  rw [a3, b3]
  unfold ordA ordB
  constructor
  · intro hx
    obtain ⟨u, hu, rfl⟩ := List.mem_map.1 hx
    obtain ⟨j, hj, rfl⟩ := List.getElem_of_mem hu
    refine List.mem_map.2 ⟨if R ≤ j then j - R else j + us.length - R, List.mem_range.2 (by split <;> omega), ?_⟩
    have e : ((if R ≤ j then j - R else j + us.length - R) + R) % us.length = j := by
      split
      · rw [show j - R + R = j by omega]; exact Nat.mod_eq_of_lt hj
      · rw [show j + us.length - R + R = j + us.length by omega, Nat.add_mod_right]; exact Nat.mod_eq_of_lt hj
    rw [e]
    simp [List.getD, hj]
  · intro hx
    obtain ⟨i, hi, rfl⟩ := List.mem_map.1 hx
    have hi' := List.mem_range.1 hi
    have hlt : (i + R) % us.length < us.length := Nat.mod_lt _ (by omega)
    refine List.mem_map.2 ⟨us[(i + R) % us.length], List.getElem_mem _, ?_⟩
    simp [List.getD, hlt]
end Go.Proofs.Ytohpbjbbkpllaaa
