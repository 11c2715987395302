/-
  The library's functions on slices of integers (Clone, BinarySearch, Contains, Insert, Delete, DeleteFunc), where the slice reads as a list.
-/
import Derived.Test.YtdhafagihfdolaaMem
import Derived.Test.YtdhafagihfdolaaLayNode
import Derived.Test.YtdhafagihfdolaaLayBut
import Derived.Shelf.Slices.Empties
import Derived.Lib.RowBridge
set_option linter.unusedVariables false
set_option linter.unusedSimpArgs false
namespace Go.Proofs.Ytdhafagihfdolaa
open Go.RowKit Go.Lib Go.Sort Go.Shelf

/-- Integers as cells. -/
def ints (ns : List Int) : List Value := ns.map (Value.int .i64)
theorem ints_length (ns : List Int) : (ints ns).length = ns.length := by simp [ints]
theorem ints_get (ns : List Int) (j : Nat) : (ints ns)[j]? = (ns[j]?).map (Value.int .i64) := by simp [ints]
theorem ints_one (ns : List Int) : ∀ v ∈ ints ns, v.oneCell' = true := by
  intro v hv
  obtain ⟨x, _, rfl⟩ := List.mem_map.1 hv
  rfl
theorem ints_get' (ns : List Int) (j : Nat) (h : j < (ints ns).length) : (ints ns)[j] = .int .i64 (ns.getD j 0) := by
  have h' : j < ns.length := by simpa [ints_length] using h
  simp [ints, List.getD, h']

/-- A block of integers. -/
def IntB (w : World) (b : Nat) : Prop := ∃ cs, Bk w b 3 cs
/-- A slice that reads as a list and lies in a block of integers. -/
def Slr (w : World) (v : Value) (xs : List Value) : Prop := Sl w (IntB w) v xs
theorem Slr.held {w w' : World} {v : Value} {xs : List Value} (h : Slr w v xs) (hz : w.heap.size ≤ w'.heap.size) (hk : ∀ b, b < w.heap.size → IntB w b → w'.heap[b]? = w.heap[b]?) : Slr w' v xs :=
  (Sl.keep h hz hk).more fun b _ ⟨cs, hb⟩ => ⟨cs, hb.keep (hk b hb.lt ⟨cs, hb⟩)⟩
theorem Slr.below {w w' : World} {v : Value} {xs : List Value} (h : Slr w v xs) (hb : Below w.heap.size w w') : Slr w' v xs := h.held hb.size fun b hb' _ => hb.block b hb'
theorem Slr.drewN {w : World} {v : Value} {xs : List Value} (h : Slr w v xs) (n : Nat) : Slr (w.drewN n) v xs := h.held (Nat.le_refl _) fun _ _ _ => rfl
theorem Slr.alloc {w : World} {v : Value} {xs : List Value} (h : Slr w v xs) (o : Obj) : Slr (w.alloc o) v xs := h.held (by simp) fun b hb _ => Below.heap_alloc _ _ _ hb
/-- A store into a block of another kind. -/
theorem Slr.apart {w : World} {v : Value} {xs : List Value} (h : Slr w v xs) {p : Addr} {t : TypeId} {cs : Array Value} (hp : Bk w p.block t cs) (ht : t ≠ 3) (u : Value) : Slr (w.setCell p u) v xs :=
  h.held (by simp [World.setCell]) fun b _ ⟨cs', hb⟩ => Below.heap_setCell _ _ _ _ (fun e => by
    subst e
    unfold Bk at hp hb
    rw [hp] at hb
    injection hb with hb
    injection hb with _ e
    exact ht e)
theorem Slr.here {w : World} {v : Value} {xs : List Value} (h : Slr w v xs) : Sl w (· < w.heap.size) v xs := h.more fun _ hb _ => hb
/-- A slice of integers from block base on, behind stores below base. -/
theorem Sl.ints_from {w w' : World} {base : Nat} {v : Value} {xs : List Value} (h : Sl w (fun b => base ≤ b ∧ IntB w b) v xs) (hz : w.heap.size ≤ w'.heap.size) (hk : ∀ b, base ≤ b → b < w.heap.size → w'.heap[b]? = w.heap[b]?) : Slr w' v xs :=
  (h.keep hz fun b hb hs => hk b hs.1 hb).more fun b _ ⟨h1, cs, h2⟩ => ⟨cs, h2.keep (hk b h1 h2.lt)⟩
theorem own_slr {w : World} {base : Nat} {v : Value} {n : Nat} {xs : List Value} (h : w.ownsRow base 3 1 v n xs) : Slr w v xs := by
  have hl : xs.length = n := by simpa using h.1
  obtain ⟨ao, cap, rfl, h1, h2, h3, h4⟩ := own_shape h
  subst hl
  refine ⟨ao, cap, rfl, h1, h2, h3, fun hp => ?_⟩
  obtain ⟨g, cur, e, hbg, hb, _, hc⟩ := h4 (fun h => by have := h3 h; omega)
  exact ⟨g, 0, e, ⟨cur, hb⟩, hb.lt, fun j hj => by rw [Nat.zero_add, hb.cell]; exact hc j _ (List.getElem?_eq_getElem hj)⟩
theorem slr_nil (w : World) : Slr w (.slice none 0 0) [] := ⟨none, 0, rfl, Nat.le_refl _, Nat.zero_le _, fun _ => rfl, fun h => absurd h (by simp)⟩
theorem bk_set {g : Nat} {t : TypeId} : ∀ (vs : List Value) (o : Nat) (w : World) (cs : Array Value), Bk w g t cs → ∃ cs', Bk (w.setCells g o vs) g t cs'
  | [], _, _, cs, h => ⟨cs, h⟩
  | v :: r, o, w, cs, h => bk_set r (o + 1) _ _ (h.store o v)

/-- The parts of a slice of integers. -/
theorem slr_ints {w : World} {S : Nat → Prop} {v : Value} {ns : List Int} (h : Sl w S v (ints ns)) :
    ∃ ao cap, v = .slice ao ns.length cap ∧ ns.length ≤ cap ∧ cap ≤ maxLen ∧ (ao = none → cap = 0) ∧
      (0 < ns.length → ∃ b off, ao = some ⟨b, off, none⟩ ∧ S b ∧ b < w.heap.size ∧ ∀ j, j < ns.length → w.cell? ⟨b, off + j, none⟩ = some (.int .i64 (ns.getD j 0))) := by
  obtain ⟨ao, cap, e, h1, h2, h3, h4⟩ := h
  have hl := ints_length ns
  refine ⟨ao, cap, by rw [e, hl], by omega, h2, h3, fun hp => ?_⟩
  obtain ⟨b, off, e, hs, hb, hc⟩ := h4 (by omega)
  exact ⟨b, off, e, hs, hb, fun j hj => by rw [hc j (by omega), ints_get']⟩

/-- Cells written one behind the other: no other block turns. -/
theorem tch_setCells (g : Nat) : ∀ (vs : List Value) (o : Nat) (w : World), Tch (fun b => b = g) w (w.setCells g o vs)
  | [], _, w => Tch.refl _ w
  | v :: r, o, w => ((Tch.refl (fun b => b = g) w).setCell (p := ⟨g, o, none⟩) (fun _ => rfl) v).then (tch_setCells g r (o + 1) _)
theorem below_set {B g : Nat} {a : World} (hg : B ≤ g) : ∀ (vs : List Value) (o : Nat) {w : World}, Below B a w → Below B a (w.setCells g o vs)
  | [], _, _, h => h
  | v :: r, o, _, h => below_set hg r (o + 1) (h.setCell (p := ⟨g, o, none⟩) hg v)
theorem size_set (g : Nat) : ∀ (vs : List Value) (o : Nat) (w : World), (w.setCells g o vs).heap.size = w.heap.size
  | [], _, _ => rfl
  | v :: r, o, w => (size_set g r (o + 1) _).trans (by simp [World.setCell])

theorem some_set (g : Nat) (vs : List Value) (o : Nat) (w : World) (n : Nat) (h : ∀ j, j < n → (w.cell? ⟨g, j, none⟩).isSome = true) (ho : o + vs.length ≤ n) (j : Nat) (hj : j < n) : ((w.setCells g o vs).cell? ⟨g, j, none⟩).isSome = true := by
  by_cases hin : o ≤ j ∧ j < o + vs.length
  · have := World.cell?_setCells_in g vs o w (fun k hk => h _ (by omega)) (j - o) (by omega)
    rw [show o + (j - o) = j by omega] at this
    rw [this]; rfl
  · rw [World.cell?_setCells_out g vs o w ⟨g, j, none⟩ (fun _ _ => by show j < o ∨ o + vs.length ≤ j; omega)]
    exact h j hj

theorem get_ins (cs : List Value) (x : Value) (i j : Nat) (hi : i ≤ cs.length) : (cs.take i ++ x :: cs.drop i)[j]? = if j < i then cs[j]? else if j = i then some x else cs[j - 1]? := by
  have hl : (cs.take i).length = i := by rw [List.length_take]; omega
  by_cases h1 : j < i
  · rw [if_pos h1, List.getElem?_append_left (by omega), List.getElem?_take, if_pos h1]
  · rw [if_neg h1, List.getElem?_append_right (by omega), hl]
    by_cases h2 : j = i
    · subst h2; simp
    · rw [if_neg h2, show j - i = (j - i - 1) + 1 by omega, List.getElem?_cons_succ, List.getElem?_drop]
      congr 1; omega

/-- An element put in, the rest moved up: the rest first. -/
theorem cells_ins (w : World) (g i : Nat) (cs : List Value) (x : Value) (hi : i ≤ cs.length) (hs : ∀ j, j < cs.length + 1 → (w.cell? ⟨g, j, none⟩).isSome = true) (h : ∀ j, j < i → w.cell? ⟨g, j, none⟩ = cs[j]?) (j : Nat) (hj : j < cs.length + 1) :
    ((w.setCells g (i + 1) (cs.drop i)).setCells g i [x]).cell? ⟨g, j, none⟩ = (cs.take i ++ x :: cs.drop i)[j]? := by
  have hl : (cs.drop i).length = cs.length - i := by simp
  rw [get_ins _ _ _ _ hi]
  have hs1 : ∀ k, k < cs.length + 1 → ((w.setCells g (i + 1) (cs.drop i)).cell? ⟨g, k, none⟩).isSome = true := fun k hk => some_set g _ _ w _ hs (by omega) k hk
  by_cases h1 : j < i
  · rw [if_pos h1, World.cell?_setCells_out g [x] i _ ⟨g, j, none⟩ (fun _ _ => by show j < i ∨ i + 1 ≤ j; omega), World.cell?_setCells_out g _ _ _ ⟨g, j, none⟩ (fun _ _ => by show j < i + 1 ∨ _; omega), h j h1]
  · rw [if_neg h1]
    by_cases h2 : j = i
    · subst h2
      rw [if_pos rfl]
      exact World.cell?_setCells_in g [x] j _ (fun k hk => by have : k = 0 := by simpa using hk
                                                              subst this; exact hs1 _ (by omega)) 0 (by simp)
    · rw [if_neg h2, World.cell?_setCells_out g [x] i _ ⟨g, j, none⟩ (fun _ _ => by show j < i ∨ i + 1 ≤ j; omega)]
      have := World.cell?_setCells_in g (cs.drop i) (i + 1) w (fun k hk => hs _ (by omega)) (j - (i + 1)) (by omega)
      rw [show i + 1 + (j - (i + 1)) = j by omega] at this
      rw [this, List.getElem_drop]
      have e : i + (j - (i + 1)) = j - 1 := by omega
      rw [List.getElem?_eq_getElem (by omega)]
      congr 2

/-- The same, the element first. -/
theorem cells_ins' (w : World) (g i : Nat) (cs : List Value) (x : Value) (hi : i ≤ cs.length) (hs : ∀ j, j < cs.length + 1 → (w.cell? ⟨g, j, none⟩).isSome = true) (h : ∀ j, j < i → w.cell? ⟨g, j, none⟩ = cs[j]?) (j : Nat) (hj : j < cs.length + 1) :
    ((w.setCells g i [x]).drew.setCells g (i + 1) (cs.drop i)).cell? ⟨g, j, none⟩ = (cs.take i ++ x :: cs.drop i)[j]? := by
  have hl : (cs.drop i).length = cs.length - i := by simp
  rw [get_ins _ _ _ _ hi]
  have hs1 : ∀ k, k < cs.length + 1 → ((w.setCells g i [x]).cell? ⟨g, k, none⟩).isSome = true := fun k hk => some_set g _ _ w _ hs (by simp; omega) k hk
  have hd : ∀ a, (w.setCells g i [x]).drew.cell? a = (w.setCells g i [x]).cell? a := fun _ => rfl
  by_cases h1 : j < i
  · rw [if_pos h1, World.cell?_setCells_out g _ _ _ ⟨g, j, none⟩ (fun _ _ => by show j < i + 1 ∨ _; omega), hd, World.cell?_setCells_out g [x] i _ ⟨g, j, none⟩ (fun _ _ => by show j < i ∨ i + 1 ≤ j; omega), h j h1]
  · rw [if_neg h1]
    by_cases h2 : j = i
    · subst h2
      rw [if_pos rfl, World.cell?_setCells_out g _ _ _ ⟨g, j, none⟩ (fun _ _ => by show j < j + 1 ∨ _; omega), hd]
      exact World.cell?_setCells_in g [x] j _ (fun k hk => by have : k = 0 := by simpa using hk
                                                              subst this; exact hs _ (by omega)) 0 (by simp)
    · rw [if_neg h2]
      have := World.cell?_setCells_in g (cs.drop i) (i + 1) (w.setCells g i [x]).drew (fun k hk => hs1 _ (by omega)) (j - (i + 1)) (by omega)
      rw [show i + 1 + (j - (i + 1)) = j by omega] at this
      rw [this, List.getElem_drop]
      have e : i + (j - (i + 1)) = j - 1 := by omega
      rw [List.getElem?_eq_getElem (by omega)]
      congr 2

end Go.Proofs.Ytdhafagihfdolaa
