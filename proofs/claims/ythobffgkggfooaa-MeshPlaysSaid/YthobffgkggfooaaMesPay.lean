/-
  MeshPlays: Nodes and Ways as the law wants them.
-/
import Derived.Test.YthobffgkggfooaaMesAct
import Derived.Test.YthobffgkggfooaaMesNodes
import Derived.Test.YthobffgkggfooaaMesWaySort
set_option linter.unusedVariables false
set_option linter.unusedSimpArgs false
namespace Go.Proofs.Ythobffgkggfooaa
open Go.RowKit Go.Maps Go.Sort

theorem nodesGive : NodesGive := fun M B N lv it w h hl => by
  refine (nodesA M B N lv it w h hl).mono ?_
  rintro e w' ⟨v, ss, rfl, hp, hrow, hnil, hn⟩
  exact ⟨v, ss.mergeSort (fun x y => decide (x ≤ y)), rfl, (List.mergeSort_perm ss _).trans hp, merge_ord ss, own_sl hrow, hn⟩
theorem nodup_le {α : Type} [DecidableEq α] : ∀ {l L : List α}, l.Nodup → (∀ x ∈ l, x ∈ L) → l.length ≤ L.length
  | [], _, _, _ => Nat.zero_le _
  | x :: l, L, hn, h => by
    obtain ⟨h1, h2⟩ := List.nodup_cons.1 hn
    have hx := h x (by simp)
    have h3 := nodup_le (L := L.erase x) h2 (fun y hy => (List.mem_erase_of_ne (fun e => h1 (by rw [← e]; exact hy))).2 (h y (by simp [hy])))
    have h4 := List.length_erase_of_mem hx
    have h5 := List.length_pos_of_mem hx
    simp only [List.length_cons]
    omega
theorem way_same : ∀ {l m : List (Int × Int)}, l.Pairwise ltW → m.Pairwise ltW → (∀ x, x ∈ l ↔ x ∈ m) → l = m
  | [], m, _, _, h => by
    cases m with
    | nil => rfl
    | cons y l => exact absurd ((h y).2 (by simp)) (by simp)
  | x :: l, m, ha, hb, h => by
    cases m with
    | nil => exact absurd ((h x).1 (by simp)) (by simp)
    | cons y m =>
      obtain ⟨h1, h2⟩ := List.pairwise_cons.1 ha
      obtain ⟨h3, h4⟩ := List.pairwise_cons.1 hb
      have irr : ∀ {p q : Int × Int}, ltW p q → ltW q p → False := fun {p q} a b => by unfold ltW at a b; omega
      have hxy : x = y := by
        rcases List.mem_cons.1 ((h x).1 (by simp)) with e | e
        · exact e
        · rcases List.mem_cons.1 ((h y).2 (by simp)) with e' | e'
          · exact e'.symm
          · exact (irr (h1 y e') (h3 x e)).elim
      subst hxy
      have self : ¬ ltW x x := fun a => irr a a
      rw [way_same h2 h4 fun z => ?_]
      constructor
      · intro hz
        rcases List.mem_cons.1 ((h z).1 (List.mem_cons_of_mem _ hz)) with e | e
        · subst e; exact absurd (h1 z hz) self
        · exact e
      · intro hz
        rcases List.mem_cons.1 ((h z).2 (List.mem_cons_of_mem _ hz)) with e | e
        · subst e; exact absurd (h3 z hz) self
        · exact e
theorem waysGive : WaysGive := fun M B N lv it w h hb => by
  obtain ⟨bl, bp, es, h1, h2, h3⟩ := h
  have hmem : ∀ k, k ∈ es.map (·.1) ↔ it k ≠ [] := fun k => by
    rw [← h2]
    unfold itemsAt
    cases hg : getE es k with
    | none =>
      simp only [ne_eq, not_true, iff_false]
      intro hk
      obtain ⟨e, he, rfl⟩ := List.mem_map.1 hk
      unfold getE at hg
      have := List.find?_eq_none.1 (Option.map_eq_none_iff.1 hg) e he
      simp at this
    | some p =>
      have := getE_mem hg
      exact ⟨fun _ => h3 _ this, fun _ => List.mem_map.2 ⟨_, this, rfl⟩⟩
  have hnd : (es.map (·.1)).Nodup := by rw [List.nodup_iff_pairwise_ne, List.pairwise_map]; exact h1.keys
  have hlen : es.length ≤ 1000000 := by
    have := nodup_le (L := wantL it 9) hnd (fun x hx => (wantL_all hb).2 ((hmem x).1 hx))
    have := wantL_len it
    rw [List.length_map] at *
    omega
  refine (ways_ok waySort M bl bp B N lv es w h1 hlen).mono ?_
  rintro e w' ⟨v, ws, rfl, hp, ho, hv, hn⟩
  have hws : ws = wantL it 9 := by
    refine way_same ?_ (wantL_ord it 9) fun x => ?_
    · have hnw : ws.Pairwise (· ≠ ·) := List.nodup_iff_pairwise_ne.1 (hp.nodup_iff.2 hnd)
      refine (ho.and hnw).imp fun {a b} hab => ?_
      rcases leW_lt.1 hab.1 with e | e
      · exact e
      · exact absurd e hab.2
    · rw [hp.mem_iff, hmem, wantL_all hb]
  rw [← hws]
  rcases hv with ⟨rfl, rfl⟩ | ⟨blk, cap, rfl, hb1, hb2, hh⟩
  · exact ⟨none, 0, rfl, fun h0 => absurd h0 (by simp), hn⟩
  · refine ⟨_, cap, rfl, fun h0 => ⟨blk, rfl, fun j hj => ⟨?_, ?_⟩⟩, hn⟩
    · exact (hh (j * 2) _ (by rw [show j * 2 = j * 2 + 0 from rfl, flat_getK wC_len ws j 0 ws[j] (List.getElem?_eq_getElem hj) (by omega)]; rfl)).1
    · exact (hh (j * 2 + 1) _ (by rw [flat_getK wC_len ws j 1 ws[j] (List.getElem?_eq_getElem hj) (by omega)]; rfl)).1
end Go.Proofs.Ythobffgkggfooaa
