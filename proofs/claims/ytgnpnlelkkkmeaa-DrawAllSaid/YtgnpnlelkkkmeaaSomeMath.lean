/-
  Plain facts on Some as a recursion.
-/
import Derived.Test.YtgnpnlelkkkmeaaSome
namespace Go.Proofs.Ytgnpnlelkkkmeaa

theorem someL_length {α : Type} : ∀ (r : Nat) (ns : List Int) (xs : List α), (someL r ns xs).1.length = min r xs.length
  | 0, ns, xs => by simp [someL]
  | r + 1, ns, xs => by
    by_cases h : 0 < xs.length
    · have hv := belowV_lt ns xs.length h
      rw [someL, dif_pos h]
      simp only [List.length_cons, someL_length r]
      rw [List.length_eraseIdx_of_lt (by omega)]
      omega
    · obtain rfl : xs = [] := List.eq_nil_of_length_eq_zero (by omega)
      simp [someL]

theorem someL_mem {α : Type} : ∀ (r : Nat) (ns : List Int) (xs : List α), ∀ x ∈ (someL r ns xs).1, x ∈ xs
  | 0, ns, xs => by simp [someL]
  | r + 1, ns, xs => by
    by_cases h : 0 < xs.length
    · rw [someL, dif_pos h]
      intro x hx
      rcases List.mem_cons.1 hx with rfl | hx
      · exact List.getElem_mem _
      · exact List.mem_of_mem_eraseIdx (someL_mem r _ _ x hx)
    · simp [someL, h]

theorem someL_nodup {α : Type} : ∀ (r : Nat) (ns : List Int) (xs : List α), xs.Nodup → (someL r ns xs).1.Nodup
  | 0, ns, xs, _ => by simp [someL]
  | r + 1, ns, xs, hn => by
    by_cases h : 0 < xs.length
    · have hv := belowV_lt ns xs.length h
      rw [someL, dif_pos h]
      simp only [List.nodup_cons]
      refine ⟨fun hx => ?_, someL_nodup r _ _ (List.Nodup.sublist (List.eraseIdx_sublist _ _) hn)⟩
      have hm := someL_mem r _ _ _ hx
      obtain ⟨j, hj⟩ := List.mem_iff_getElem?.1 hm
      rw [List.getElem?_eraseIdx] at hj
      have hp := List.pairwise_iff_getElem.1 hn
      split at hj
      · obtain ⟨h1, h2⟩ := List.getElem?_eq_some_iff.1 hj
        exact hp j _ h1 (by omega) (by omega) h2
      · obtain ⟨h1, h2⟩ := List.getElem?_eq_some_iff.1 hj
        exact hp _ (j + 1) (by omega) h1 (by omega) h2.symm
    · simp [someL, h]

theorem someL_head {α : Type} (r : Nat) (ns : List Int) (xs : List α) (hr : 0 < r) (hx : 0 < xs.length) : (someL r ns xs).1[0]? = xs[(belowV ns xs.length).toNat]? := by
  obtain ⟨r, rfl⟩ := Nat.exists_eq_succ_of_ne_zero (show r ≠ 0 by omega)
  have hv := belowV_lt ns xs.length hx
  rw [someL, dif_pos hx]
  simp only [List.getElem?_cons_zero]
  rw [List.getElem?_eq_getElem]

theorem map_erase {α β : Type} (f : α → β) : ∀ (l : List α) (k : Nat), (l.map f).eraseIdx k = (l.eraseIdx k).map f
  | [], _ => rfl
  | _ :: _, 0 => rfl
  | x :: l, k + 1 => by simp [map_erase f l k]

theorem someL_map {α β : Type} (f : α → β) : ∀ (r : Nat) (ns : List Int) (xs : List α), someL r ns (xs.map f) = ((someL r ns xs).1.map f, (someL r ns xs).2)
  | 0, ns, xs => by simp [someL]
  | r + 1, ns, xs => by
    by_cases h : 0 < xs.length
    · have hv := belowV_lt ns xs.length h
      rw [someL, dif_pos (by simpa using h), someL, dif_pos h]
      simp only [List.length_map, List.getElem_map, List.map_cons, map_erase, someL_map f r]
    · obtain rfl : xs = [] := List.eq_nil_of_length_eq_zero (by omega)
      simp [someL]

end Go.Proofs.Ytgnpnlelkkkmeaa
