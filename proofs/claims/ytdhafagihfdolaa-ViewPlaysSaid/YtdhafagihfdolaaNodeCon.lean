/-
  Contracts of the library's functions over slices that read as lists of integers; no condition but the lengths.
-/
import Derived.Test.YtdhafagihfdolaaNodeLib
import Derived.Lib.SliceRun
import Derived.Shelf.Slices.Cells
set_option linter.unusedVariables false
set_option linter.unusedSimpArgs false
namespace Go.Proofs.Ytdhafagihfdolaa
open Go.RowKit Go.Lib Go.Sort Go.Shelf

theorem clone_is {S : Nat → Prop} (v : Value) (ns : List Int) (w : World) (h : Sl w S v (ints ns)) (hl : ns.length ≤ 1000000) :
    Calls Try.prog 71 #[v] w fun e w' => ∃ v', e = .returned v' ∧ w'.ownsRow w.heap.size 3 1 v' ns.length (ints ns) ∧ Below w.heap.size w w' := by
  obtain ⟨ao, cap, rfl, h1, h2, h3, h4⟩ := slr_ints h
  rcases ao with _ | a
  · have := h3 rfl
    obtain rfl : ns = [] := List.eq_nil_of_length_eq_zero (by omega)
    have hc := Any.slices_Clone_int_nil laysClone ([] : List Int).length cap w
    change Calls Try.prog 71 _ _ _ at hc
    refine hc.mono ?_
    rintro e w' ⟨rfl, rfl⟩
    exact ⟨_, rfl, World.ownsRow_nil _ _ _ _, Below.refl _ _⟩
  · by_cases h0 : ns.length = 0
    · obtain rfl : ns = [] := List.eq_nil_of_length_eq_zero h0
      have hc := Any.slices_Clone_int_zero laysClone a cap w
      change Calls Try.prog 71 _ _ _ at hc
      refine hc.mono ?_
      rintro e w' ⟨v', rfl, ho, _, hb⟩
      exact ⟨_, rfl, ho, hb⟩
    · obtain ⟨b, off, e, _, hb, hcell⟩ := h4 (by omega)
      obtain rfl := Option.some.inj e
      have hc := Any.slices_Clone_int laysClone b off ns.length cap ns w (Nat.le_refl _) (by omega) hcell
      change Calls Try.prog 71 _ _ _ at hc
      refine hc.mono ?_
      rintro e w' ⟨v', rfl, ho, _, hb⟩
      rw [List.take_of_length_le (Nat.le_refl _)] at ho
      exact ⟨_, rfl, ho, hb⟩

theorem search_is {S : Nat → Prop} (v : Value) (ns : List Int) (x : Int) (w : World) (h : Sl w S v (ints ns)) (hl : ns.length ≤ 1000000) (hs : ns.Pairwise (· ≤ ·)) :
    Calls Try.prog 91 #[v, .int .i64 x] w fun e w' => e = .returned (.tuple #[.int .i64 (ns.countP (· < x) : Nat), .bool (ns.contains x)]) ∧ ∃ q, w' = w.drewN q := by
  obtain ⟨ao, cap, rfl, h1, h2, h3, h4⟩ := slr_ints h
  by_cases h0 : ns.length = 0
  · obtain rfl : ns = [] := List.eq_nil_of_length_eq_zero h0
    have hc := Any.slices_BinarySearch_int_empty laysSearch ao cap x w
    change Calls Try.prog 91 _ _ _ at hc
    refine hc.mono ?_
    rintro e w' ⟨rfl, rfl⟩
    exact ⟨rfl, 0, rfl⟩
  · obtain ⟨b, off, rfl, _, hb, hcell⟩ := h4 (by omega)
    have hc := Any.slices_BinarySearch_int laysSearch b off ns.length cap ns x w (Nat.le_refl _) (by omega) hcell (by rwa [List.take_of_length_le (Nat.le_refl _)])
    change Calls Try.prog 91 _ _ _ at hc
    rw [List.take_of_length_le (Nat.le_refl _)] at hc
    exact hc

theorem contains_is {S : Nat → Prop} (v : Value) (ns : List Int) (x : Int) (w : World) (h : Sl w S v (ints ns)) (hl : ns.length ≤ 1000000) :
    Calls Try.prog 104 #[v, .int .i64 x] w fun e w' => e = .returned (.bool (ns.contains x)) ∧ w' = w := by
  obtain ⟨ao, cap, rfl, h1, h2, h3, h4⟩ := slr_ints h
  by_cases h0 : ns.length = 0
  · obtain rfl : ns = [] := List.eq_nil_of_length_eq_zero h0
    have hc := Any.slices_Contains_int_empty laysContains ao cap x w
    change Calls Try.prog 104 _ _ _ at hc
    exact hc
  · obtain ⟨b, off, rfl, _, hb, hcell⟩ := h4 (by omega)
    have hc := Any.slices_Contains_int laysContains b off ns.length cap ns x w (Nat.le_refl _) (by omega) hcell
    change Calls Try.prog 104 _ _ _ at hc
    rw [List.take_of_length_le (Nat.le_refl _)] at hc
    exact hc

theorem sl_of_block {w : World} {g n cap : Nat} {xs : List Value} (hn : xs.length = n) (hc : n ≤ cap) (hm : cap ≤ maxLen) (hg : g < w.heap.size) {S : Nat → Prop} (hS : S g) (h : ∀ j, j < n → w.cell? ⟨g, j, none⟩ = xs[j]?) :
    Sl w S (.slice (some ⟨g, 0, none⟩) n cap) xs := by
  subst hn
  refine ⟨_, cap, rfl, hc, hm, (by simp), fun hp => ⟨g, 0, rfl, hS, hg, fun j hj => ?_⟩⟩
  rw [Nat.zero_add, h j hj, List.getElem?_eq_getElem hj]

/-- Insert of one element into a slice of the call's own. -/
theorem insert_is (v : Value) (ns : List Int) (i base vb : Nat) (x : Int) (w : World) (ho : w.ownsRow base 3 1 v ns.length (ints ns)) (hb : Bk w vb 3 #[.int .i64 x]) (hne : ∀ k, v.ownBlock = some k → k ≠ vb)
    (hi : i ≤ ns.length) (hl : ns.length ≤ 1000) (hbase : base ≤ w.heap.size) :
    Calls Try.prog 73 #[v, .int .i64 i, .slice (some ⟨vb, 0, none⟩) 1 1] w fun e w' => ∃ v', e = .returned v' ∧ Sl w' (fun b => base ≤ b ∧ IntB w' b) v' (ints (ns.take i ++ x :: ns.drop i)) ∧ Below base w w' := by
  obtain ⟨ao, cap, rfl, h1, h2, h3, h4⟩ := own_shape ho
  have hcl := ints_length ns
  have hvs : ∀ (j : Nat) v, [Value.int .i64 x][j]? = some v → w.cell? ⟨vb, 0 + j, none⟩ = some v := by
    intro j u hu
    obtain ⟨hj, rfl⟩ := List.getElem?_eq_some_iff.1 hu
    have h0 : j = 0 := by simpa using hj
    subst h0
    rw [hb.cell]; rfl
  have h1v : ∀ v ∈ [Value.int .i64 x], v.oneCell' = true := by intro u hu; simp at hu; subst hu; rfl
  have hvi : ints (ns.take i ++ x :: ns.drop i) = (ints ns).take i ++ .int .i64 x :: (ints ns).drop i := by simp [ints, List.map_append, List.map_take, List.map_drop]
  have hlen : (ints (ns.take i ++ x :: ns.drop i)).length = ns.length + 1 := by rw [ints_length]; simp; omega
  have hend : i = ns.length → ints (ns.take i ++ x :: ns.drop i) = ints ns ++ [.int .i64 x] := by
    rintro rfl
    simp [ints]
  unfold maxLen at h2
  -- a new row, behind the end
  have hgrow : ∀ (base' : Option Addr), i = ns.length → cap < ns.length + 1 → (base' = none → ns.length = 0) → (∀ a, base' = some a → ∀ (j : Nat) v, (ints ns)[j]? = some v → w.cell? (a.add j) = some v) →
      Calls Try.prog 73 #[.slice base' ns.length cap, .int .i64 ns.length, .slice (some ⟨vb, 0, none⟩) 1 1] w fun e w' => ∃ v', e = .returned v' ∧ Sl w' (fun b => base ≤ b ∧ IntB w' b) v' (ints (ns.take i ++ x :: ns.drop i)) ∧ Below base w w' := by
    intro base' hin hroom hnil hcs
    have hc := Any2.slices_Insert_int_end_grow laysInsert base' ns.length cap vb 0 1 1 (ints ns) [.int .i64 x] w (by omega) h1 hroom (by omega) hcl rfl hnil hcs hvs h1v
    change Calls Try.prog 73 _ _ _ at hc
    refine hc.mono ?_
    rintro e w' ⟨rfl, rfl⟩
    have hg1 := grownCap_ge w (ns.length + 1) cap 3
    have hg2 := grownCap_le_maxLen w (ns.length + 1) cap 3 (by unfold maxLen; omega)
    refine ⟨_, rfl, ?_, (Below.refl base w).drew.alloc (by show base ≤ w.heap.size; exact hbase) _⟩
    rw [hend hin]
    refine sl_of_block (by simp [hcl]) hg1 hg2 (by show w.heap.size < (w.drew.alloc _).heap.size; simp) ⟨hbase, _, Bk.made w.drew _ _⟩ (fun j hj => ?_)
    refine ((Bk.made w.drew _ _).cell j).trans ?_
    rw [Array.getElem?_append_left (by simp [hcl]; omega)]
    simp
  rcases ao with _ | a
  · have := h3 rfl
    obtain rfl : i = ns.length := by omega
    exact hgrow none rfl (by omega) (fun _ => by omega) (fun a h => by cases h)
  · obtain ⟨g, cur, e, hgb, hbk, hsz, hcur⟩ := h4 (by simp)
    obtain rfl := Option.some.inj e
    have hgv : vb ≠ g := fun h => hne g rfl h.symm
    have hcell : ∀ (j : Nat) v, (ints ns)[j]? = some v → w.cell? ⟨g, 0 + j, none⟩ = some v := fun j u hu => by rw [Nat.zero_add, hbk.cell]; exact hcur j u hu
    have hat : ∀ a, some (⟨g, 0, none⟩ : Addr) = some a → ∀ (j : Nat) v, (ints ns)[j]? = some v → w.cell? (a.add j) = some v := by
      intro a h j u hu
      obtain rfl := Option.some.inj h
      rw [Addr.add_lit]
      exact hcell j u hu
    have hsome : ∀ j, j < cap → (w.cell? ⟨g, j, none⟩).isSome = true := fun j hj => by rw [hbk.cell, Array.getElem?_eq_getElem (by omega)]; rfl
    by_cases hin : i = ns.length
    · by_cases hroom : ns.length + 1 ≤ cap
      · have hc := Any2.slices_Insert_int_end_room laysInsert g 0 ns.length cap vb 0 1 1 [.int .i64 x] w (by omega) hroom (by omega) rfl (fun j hj => by rw [Nat.zero_add]; exact hsome _ (by omega)) (fun j _ => hbk.frozen _) hvs h1v
        change Calls Try.prog 73 _ _ _ at hc
        rw [hin]
        refine hc.mono ?_
        rintro e w' ⟨rfl, rfl⟩
        refine ⟨_, rfl, ?_, below_set hgb _ _ (Below.refl _ _)⟩
        have hh := hend hin
        rw [hin] at hh
        rw [hh]
        refine sl_of_block (by simp [hcl]) hroom (by unfold maxLen; omega) (by rw [size_set]; exact hbk.lt) ⟨hgb, bk_set _ _ _ _ hbk⟩ (fun j hj => ?_)
        rw [Nat.zero_add]
        by_cases hj2 : j < ns.length
        · rw [World.cell?_setCells_out g _ _ _ ⟨g, j, none⟩ (fun _ _ => by show j < ns.length ∨ _; omega), List.getElem?_append_left (by omega), List.getElem?_eq_getElem (by omega)]
          have := hcell j _ (List.getElem?_eq_getElem (by omega))
          rwa [Nat.zero_add] at this
        · obtain rfl : j = ns.length := by omega
          have := World.cell?_setCells_in g [Value.int .i64 x] ns.length w (fun k hk => hsome _ (by simp at hk; omega)) 0 (by simp)
          rw [Nat.add_zero] at this
          rw [this, List.getElem?_append_right (by omega), hcl, Nat.sub_self]
          rfl
      · rw [hin]
        have := hgrow (some ⟨g, 0, none⟩) hin (by omega) (by simp) hat
        rw [hin] at this
        exact this
    · by_cases hroom : ns.length + 1 ≤ cap
      · have hc := Any2.slices_Insert_int_shift laysInsert g 0 ns.length cap i vb 0 1 1 (ints ns) [.int .i64 x] w (by omega) (by omega) hroom (by omega) hgv hcl rfl hcell (fun j hj => by rw [Nat.zero_add]; exact hsome _ (by omega)) (fun j _ => hbk.frozen _) hvs (ints_one ns) h1v
          3 3 1 cap (by have h := hb; unfold Bk at h; simp [World.shape?, h]) (by have h := hbk; unfold Bk at h; simp [World.shape?, h, hsz]) (by omega) (hb.frozen _) (hb.frozen _)
        change Calls Try.prog 73 _ _ _ at hc
        refine hc.mono ?_
        rintro e w' ⟨rfl, rfl⟩
        refine ⟨_, rfl, ?_, below_set hgb _ _ (below_set hgb _ _ (Below.refl _ _).drew)⟩
        rw [hvi]
        refine sl_of_block (by rw [← hvi]; exact hlen) hroom (by unfold maxLen; omega) (by rw [size_set, size_set]; exact hbk.lt) ⟨hgb, by obtain ⟨c1, h1⟩ := bk_set (g := g) ((ints ns).drop i) (0 + (i + 1)) w.drew _ hbk; exact bk_set _ _ _ _ h1⟩ (fun j hj => ?_)
        rw [Nat.zero_add, Nat.zero_add]
        exact cells_ins w.drew g i (ints ns) (.int .i64 x) (by omega) (fun k hk => hsome k (by omega)) (fun k hk => by
          have := hcell k _ (List.getElem?_eq_getElem (by omega))
          rw [Nat.zero_add] at this
          rw [List.getElem?_eq_getElem (by omega)]
          exact this) j (by omega)
      · have hc := Any2.slices_Insert_int_grow laysInsert g 0 ns.length cap i vb 0 1 1 (ints ns) [.int .i64 x] w (by omega) (by omega) h1 (by omega) (by omega) hcl rfl hcell hvs (ints_one ns) h1v
        change Calls Try.prog 73 _ _ _ at hc
        refine hc.mono ?_
        rintro e w' ⟨rfl, rfl⟩
        have hg1 := grownCap_ge w (ns.length + 1) cap 3
        have hg2 := grownCap_le_maxLen w (ns.length + 1) cap 3 (by unfold maxLen; omega)
        refine ⟨_, rfl, ?_, ?_⟩
        · rw [hvi]
          refine sl_of_block (by rw [← hvi]; exact hlen) hg1 hg2 (by rw [size_set]; show _ < (World.setCells _ _ _ _).heap.size; rw [size_set]; show w.heap.size < (w.alloc _).heap.size; simp) ⟨hbase, by obtain ⟨c1, h1⟩ := bk_set (g := w.heap.size) [Value.int .i64 x] i (w.alloc _).drew _ (Bk.made w _ _); exact bk_set _ _ _ _ h1⟩ (fun j hj => ?_)
          have hz : ∀ n, (Builtin.zeroCells (Value.int .i64 0).cells n).size = n := fun n => by simp [Builtin.zeroCells, Value.cells]
          refine cells_ins' _ w.heap.size i (ints ns) (.int .i64 x) (by omega) (fun k hk => ?_) (fun k hk => ?_) j (by omega)
          · refine (congrArg Option.isSome ((Bk.made w _ _).cell k)).trans ?_
            rw [Array.getElem?_eq_getElem (by simp [hz]; omega)]
            rfl
          · refine ((Bk.made w _ _).cell k).trans ?_
            rw [Array.append_assoc, Array.getElem?_append_left (by simp; omega)]
            simp [List.getElem?_take, hk]
        · exact below_set hbase _ _ (below_set hbase _ _ ((Below.refl base w).alloc hbase _).drew).drew

/-- Delete of one element out of a slice of the call's own. -/
theorem delete_is (v : Value) (ns : List Int) (i base : Nat) (w : World) (ho : w.ownsRow base 3 1 v ns.length (ints ns)) (hi : i < ns.length) (hl : ns.length ≤ 1000) :
    Calls Try.prog 89 #[v, .int .i64 i, .int .i64 ((i : Int) + 1)] w fun e w' => ∃ v', e = .returned v' ∧ Sl w' (fun b => base ≤ b ∧ IntB w' b) v' (ints (ns.take i ++ ns.drop (i + 1))) ∧ Below base w w' := by
  obtain ⟨ao, cap, rfl, h1, h2, h3, h4⟩ := own_shape ho
  have hcl := ints_length ns
  obtain ⟨g, cur, rfl, hgb, hbk, hsz, hcur⟩ := h4 (fun h => by have := h3 h; omega)
  unfold maxLen at h2
  have hcell : ∀ j, j < ns.length → w.cell? ⟨g, 0 + j, none⟩ = some (.int .i64 (ns.getD j 0)) := fun j hj => by
    rw [Nat.zero_add, hbk.cell]
    refine hcur j _ ?_
    rw [List.getElem?_eq_getElem (by omega), ints_get']
  have hc := Any.slices_Delete_int_cells laysDelete g 0 ns.length cap i (i + 1) ns w (Nat.le_refl _) h1 (by omega) (by omega) (by omega) hcell (fun j _ => hbk.frozen _)
  change Calls Try.prog 89 _ _ _ at hc
  rw [List.take_of_length_le (Nat.le_refl _)] at hc
  refine hc.mono ?_
  rintro e w' ⟨rfl, q, rfl⟩
  have hll : (ns.take i ++ ns.drop (i + 1)).length = ns.length - 1 := by simp; omega
  refine ⟨_, rfl, ?_, below_set hgb _ _ (bdN (Below.refl _ _) q)⟩
  refine sl_of_block (by rw [ints_length, hll]; omega) (by omega) (by unfold maxLen; omega) (by rw [size_set]; exact hbk.lt) ⟨hgb, bk_set _ _ _ _ hbk⟩ (fun j hj => ?_)
  have hj' : j < ns.length - 1 := by omega
  have := World.cell?_setCells_in g ((ns.take i ++ ns.drop (i + 1) ++ List.replicate (i + 1 - i) 0).map (Value.int .i64)) 0 (w.drewN q) (fun k hk => by
    have hk' : k < ns.length := by simp at hk; omega
    exact congrArg Option.isSome (hcell k hk')) j (by simp; omega)
  rw [Nat.zero_add] at this
  rw [this, ints_get, List.getElem_map, List.getElem?_eq_getElem (by rw [hll]; exact hj')]
  rw [List.getElem_append_left (by rw [hll]; exact hj')]
  rfl

end Go.Proofs.Ytdhafagihfdolaa
