/-
  The methods of a set of nodes, as contracts: what each answers of a set that reads as an ascending list; new memory apart nothing turns.
-/
import Derived.Test.YtdhafagihfdolaaNodeCon
import Derived.Test.YtdhafagihfdolaaNodeMath
import Derived.IntWalk
import Derived.Lib.Hide
set_option linter.unusedVariables false
set_option linter.unusedSimpArgs false
namespace Go.Proofs.Ytdhafagihfdolaa
open Go.RowKit Go.Lib Go.Sort Go.Shelf

/-- A set by value: its capacity, its nodes. -/
def SetV (w : World) (v : Value) (most : Nat) (ns : List Int) : Prop := ∃ sv, v = .agg #[.int .i64 most, sv] ∧ Slr w sv (ints ns) ∧ Good most ns
theorem SetV.below {w w' : World} {v : Value} {most : Nat} {ns : List Int} (h : SetV w v most ns) (hb : Below w.heap.size w w') : SetV w' v most ns := by
  obtain ⟨sv, rfl, hs, hg⟩ := h
  exact ⟨sv, rfl, hs.below hb, hg⟩

theorem size_alloc (w : World) (o : Obj) : (w.alloc o).heap.size = w.heap.size + 1 := by simp
theorem below_alloc (w : World) (o : Obj) : Below w.heap.size w (w.alloc o) := (Below.refl _ _).alloc (Nat.le_refl _) o

set_option maxHeartbeats 1000000 in
theorem new_set (m : Int) (w : World) (h1 : -9223372036854775808 ≤ m) (h2 : m ≤ 9223372036854775807) :
    Calls Try.prog 63 #[.int .i64 m] w fun e w' => ∃ (v : Value) (most : Nat), e = .returned v ∧ (most : Int) = min (max m 0) 64 ∧ SetV w' v most [] ∧ Below w.heap.size w w' := by
  obtain ⟨k, hk⟩ : ∃ k : Nat, (k : Int) = min (max m 0) 64 := ⟨(min (max m 0) 64).toNat, by omega⟩
  go_enter Try.func63, Try.ntmps63
  go_wp2
  exact bodyPost_ret (v := .agg #[.int .i64 (min (max m 0) 64), .slice none 0 0]) (by simp [results, Try.results63, go_sem]) rfl ⟨_, k, rfl, hk, ⟨_, by rw [hk], slr_nil _, Good.nil (by omega)⟩, below_alloc _ _⟩

theorem find_set (v : Value) (most : Nat) (ns : List Int) (n : Int) (w : World) (h : SetV w v most ns) :
    Calls Try.prog 72 #[v, .int .i64 n] w fun e w' => e = .returned (.tuple #[.int .i64 (cnt ns n : Nat), .bool (ns.contains n)]) ∧ Below w.heap.size w w' := by
  obtain ⟨sv, rfl, hs, hg⟩ := h
  have hl := hg.le
  have hcap := hg.cap
  have hcon := search_is sv ns n (w.alloc (.cells #[.int .i64 most, sv] 28)) (hs.alloc _) (by omega) hg.asc.le
  change Calls _ _ _ _ (fun e w' => e = .returned (.tuple #[.int .i64 (cnt ns n : Nat), .bool (ns.contains n)]) ∧ _) at hcon
  generalize cnt ns n = c at hcon ⊢
  generalize ns.contains n = b at hcon ⊢
  go_enter Try.func72, Try.ntmps72
  go_wp2_with fail
  refine hcon.mono ?_
  rintro e w' ⟨rfl, q, rfl⟩
  go_wp2_with fail
  go_ret2
  exact ⟨rfl, bdN (below_alloc _ _) q⟩

set_option maxHeartbeats 1000000 in
theorem len_set (v : Value) (most : Nat) (ns : List Int) (w : World) (h : SetV w v most ns) :
    Calls Try.prog 28 #[v] w fun e w' => e = .returned (.int .i64 ns.length) ∧ Below w.heap.size w w' := by
  obtain ⟨sv, rfl, hs, hg⟩ := h
  obtain ⟨ao, cap, rfl, h1, h2, h3, h4⟩ := slr_ints hs
  clear h4 h3 hs hg
  go_enter Try.func28, Try.ntmps28
  go_wp2
  go_ret
  exact ⟨rfl, below_alloc _ _⟩

set_option maxHeartbeats 1000000 in
theorem full_set (v : Value) (most : Nat) (ns : List Int) (w : World) (h : SetV w v most ns) :
    Calls Try.prog 54 #[v] w fun e w' => e = .returned (.bool (decide (most ≤ ns.length))) ∧ Below w.heap.size w w' := by
  obtain ⟨sv, rfl, hs, hg⟩ := h
  obtain ⟨ao, cap, rfl, h1, h2, h3, h4⟩ := slr_ints hs
  clear h4 h3 hs hg
  go_enter Try.func54, Try.ntmps54
  go_wp2
  go_ret
  exact ⟨rfl, below_alloc _ _⟩

/-- All, with the row that its answer owns. -/
theorem all_own (v : Value) (most : Nat) (ns : List Int) (w : World) (h : SetV w v most ns) :
    Calls Try.prog 30 #[v] w fun e w' => ∃ v', e = .returned v' ∧ w'.ownsRow (w.heap.size + 1) 3 1 v' ns.length (ints ns) ∧ Below w.heap.size w w' := by
  obtain ⟨sv, rfl, hs, hg⟩ := h
  have hl := hg.le
  have hcap := hg.cap
  have hcon := clone_is sv ns (w.alloc (.cells #[.int .i64 most, sv] 28)) (hs.alloc _) (by omega)
  rw [size_alloc] at hcon
  clear hs hg hl hcap
  go_enter Try.func30, Try.ntmps30
  go_wp2_with fail
  refine hcon.mono ?_
  rintro e w' ⟨v', rfl, ho, hb⟩
  have HO := Lib.hid ho
  have HB := Lib.hid hb
  clear ho hb hcon
  go_wp2_with fail
  go_ret
  exact ⟨v', rfl, HO.out, (below_alloc _ _).trans (HB.out.mono (by omega))⟩

theorem has_set (v : Value) (most : Nat) (ns : List Int) (n : Int) (w : World) (h : SetV w v most ns) :
    Calls Try.prog 34 #[v, .int .i64 n] w fun e w' => e = .returned (.bool (ns.contains n)) ∧ Below w.heap.size w w' := by
  have h' := h
  obtain ⟨sv, rfl, hs, hg⟩ := h'
  have hcon := find_set _ most ns n _ (h.below (below_alloc w (.cells #[.int .i64 most, sv] 28)))
  rw [size_alloc] at hcon
  generalize cnt ns n = c at hcon
  generalize ns.contains n = b at hcon ⊢
  clear hs hg h
  go_enter Try.func34, Try.ntmps34
  go_wp2_with fail
  refine hcon.mono ?_
  rintro e w' ⟨rfl, hb⟩
  have HB := Lib.hid hb
  clear hb hcon
  go_wp2_with fail
  go_ret
  exact ⟨rfl, (below_alloc _ _).trans (HB.out.mono (by omega))⟩
end Go.Proofs.Ytdhafagihfdolaa
