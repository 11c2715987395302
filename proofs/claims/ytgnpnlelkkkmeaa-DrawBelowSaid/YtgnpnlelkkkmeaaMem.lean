/-
  Plain facts on worlds: which blocks a call may have turned ('Tch'), a slice that reads as a list ('Sl'), and how both are kept. They speak of no program.
-/
import Derived.WalkKit
import Derived.BigQuiet
import Derived.WalkSpells
import Derived.WalkLawsBesides
import Derived.KernelRfl
import Derived.Deep.Draws
namespace Go.Proofs.Ytgnpnlelkkkmeaa
open Go.RowKit
attribute [go_sem] Lib.run_eql_slice_nil

theorem bne_ {a b : Int} (h : a ≠ b) : (a == b) = false := by simpa using h
theorem beq_ {a b : Int} (h : a = b) : (a == b) = true := by simpa using h
theorem dec_ {p : Prop} [Decidable p] (h : p) : decide p = true := by simpa using h
theorem decn_ {p : Prop} [Decidable p] (h : ¬ p) : decide p = false := by simpa using h

/-- Of the blocks of w only those of S may have turned. -/
structure Tch (S : Nat → Prop) (w w' : World) : Prop where
  os : w'.os = w.os
  tape : w'.tape = w.tape
  output : w'.output = w.output
  size : w.heap.size ≤ w'.heap.size
  block : ∀ k, k < w.heap.size → ¬ S k → w'.heap[k]? = w.heap[k]?

section
variable {S T : Nat → Prop} {w w1 w2 : World}
theorem Tch.refl (S : Nat → Prop) (w : World) : Tch S w w := ⟨rfl, rfl, rfl, Nat.le_refl _, fun _ _ _ => rfl⟩
/-- Two steps: what the second may turn is of T or was made by the first. -/
theorem Tch.trans (h : Tch S w w1) (k : Tch T w1 w2) (hT : ∀ b, b < w.heap.size → T b → S b) : Tch S w w2 :=
  ⟨k.os.trans h.os, k.tape.trans h.tape, k.output.trans h.output, Nat.le_trans h.size k.size,
    fun b hb hs => (k.block b (Nat.lt_of_lt_of_le hb h.size) (fun ht => hs (hT b hb ht))).trans (h.block b hb hs)⟩
theorem Tch.then (h : Tch S w w1) (k : Tch S w1 w2) : Tch S w w2 := h.trans k fun _ _ h => h
theorem Tch.more (h : Tch S w w1) (hT : ∀ b, b < w.heap.size → S b → T b) : Tch T w w1 :=
  ⟨h.os, h.tape, h.output, h.size, fun b hb hs => h.block b hb (fun h => hs (hT b hb h))⟩
theorem Tch.drew (h : Tch S w w1) : Tch S w w1.drew := ⟨h.os, h.tape, h.output, h.size, h.block⟩
theorem Tch.drewN (h : Tch S w w1) (n : Nat) : Tch S w (w1.drewN n) := ⟨h.os, h.tape, h.output, h.size, h.block⟩
theorem Tch.alloc (h : Tch S w w1) (o : Obj) : Tch S w (w1.alloc o) :=
  h.then ⟨rfl, rfl, rfl, by simp, fun k hk _ => Below.heap_alloc _ _ _ hk⟩
theorem Tch.setCell (h : Tch S w w1) {p : Addr} (hp : p.block < w.heap.size → S p.block) (u : Value) : Tch S w (w1.setCell p u) :=
  h.trans (T := fun b => b = p.block) ⟨rfl, rfl, rfl, by simp [World.setCell], fun k _ hk => Below.heap_setCell _ _ _ _ hk⟩ (fun b hb e => by subst e; exact hp hb)
theorem Tch.grown {row : Option Nat} (h : Tch S w w1) (hg : w1.grownBy w2 row) (hr : ∀ k, row = some k → k < w.heap.size → S k) : Tch S w w2 :=
  h.trans (T := fun b => some b = row) ⟨hg.os, hg.tape, hg.output, hg.size, fun k hk hn => hg.block k hk hn⟩ (fun b hb e => hr b e.symm hb)
theorem Tch.of_below {B : Nat} (h : Below B w w1) : Tch (fun b => B ≤ b) w w1 := ⟨h.os, h.tape, h.output, h.size, fun k _ hs => h.block k (by omega)⟩
theorem Tch.below (h : Tch S w w1) (hS : ∀ b, b < w.heap.size → ¬ S b) : Below w.heap.size w w1 :=
  ⟨h.os, h.tape, h.output, h.size, fun k hk => h.block k hk (hS k hk)⟩
theorem Tch.belowB {B : Nat} (h : Tch S w w1) (hB : B ≤ w.heap.size) (hS : ∀ b, b < B → ¬ S b) : Below B w w1 :=
  ⟨h.os, h.tape, h.output, h.size, fun k hk => h.block k (by omega) (hS k hk)⟩
theorem Tch.cell (h : Tch S w w1) {p : Addr} (hp : p.block < w.heap.size) (hs : ¬ S p.block) : w1.cell? p = w.cell? p := World.cell?_of_block (h.block p.block hp hs)
theorem Tch.frozen (h : Tch S w w1) {p : Addr} (hp : p.block < w.heap.size) (hs : ¬ S p.block) : w1.frozen? p = w.frozen? p := World.frozen?_of_block (h.block p.block hp hs)
end

theorem bdN {B : Nat} {a w : World} (h : Below B a w) (n : Nat) : Below B a (w.drewN n) := ⟨h.os, h.tape, h.output, h.size, h.block⟩

/-- The block g is the cells cs of element type t, none frozen. -/
def Bk (w : World) (g : Nat) (t : TypeId) (cs : Array Value) : Prop := w.heap[g]? = some (.cells cs t (0, 0))
section
variable {w w' : World} {g : Nat} {t : TypeId} {cs : Array Value}
theorem Bk.lt (h : Bk w g t cs) : g < w.heap.size := (Array.getElem?_eq_some_iff.1 h).1
theorem Bk.cell (h : Bk w g t cs) (i : Nat) : w.cell? ⟨g, i, none⟩ = cs[i]? := by unfold Bk at h; simp [World.cell?, h]
theorem Bk.frozen (h : Bk w g t cs) (i : Nat) : w.frozen? ⟨g, i, none⟩ = false := by unfold Bk at h; simp [World.frozen?, h]
theorem Bk.keep (h : Bk w g t cs) (hk : w'.heap[g]? = w.heap[g]?) : Bk w' g t cs := hk.trans h
theorem Bk.tch {S : Nat → Prop} (h : Bk w g t cs) (hk : Tch S w w') (hs : ¬ S g) : Bk w' g t cs := h.keep (hk.block g h.lt hs)
theorem Bk.made (w : World) (t : TypeId) (cs : Array Value) : Bk (w.alloc (.cells cs t)) w.heap.size t cs := heap_alloc_new w _
theorem Bk.alloc (h : Bk w g t cs) (o : Obj) : Bk (w.alloc o) g t cs := h.keep (Below.heap_alloc _ _ _ h.lt)
theorem Bk.store (h : Bk w g t cs) (i : Nat) (u : Value) : Bk (w.setCell ⟨g, i, none⟩ u) g t (cs.setIfInBounds i u) := by
  unfold Bk at h ⊢
  simp [World.setCell, Array.getElem?_modify, h]
theorem Bk.other (h : Bk w g t cs) {p : Addr} (hp : g ≠ p.block) (u : Value) : Bk (w.setCell p u) g t cs := h.keep (Below.heap_setCell _ _ _ _ hp)
end

theorem add_block (a : Addr) (n : Nat) : (a.add n).block = a.block := by unfold Addr.add; split <;> rfl

/-- The slice value v reads as the cells xs (elements of one cell each), which lie in a block of S. -/
def Sl (w : World) (S : Nat → Prop) (v : Value) (xs : List Value) : Prop :=
  ∃ ao cap, v = .slice ao xs.length cap ∧ xs.length ≤ cap ∧ cap ≤ maxLen ∧ (ao = none → cap = 0) ∧
    (0 < xs.length → ∃ b off, ao = some ⟨b, off, none⟩ ∧ S b ∧ b < w.heap.size ∧ ∀ j (h : j < xs.length), w.cell? ⟨b, off + j, none⟩ = some xs[j])
section
variable {w w' : World} {S T : Nat → Prop} {v : Value} {xs : List Value}
theorem Sl.keep (h : Sl w S v xs) (hz : w.heap.size ≤ w'.heap.size) (hk : ∀ b, b < w.heap.size → S b → w'.heap[b]? = w.heap[b]?) : Sl w' S v xs := by
  obtain ⟨ao, cap, h1, h2, h3, h0, h4⟩ := h
  refine ⟨ao, cap, h1, h2, h3, h0, fun hp => ?_⟩
  obtain ⟨b, off, e, hs, hb, hc⟩ := h4 hp
  exact ⟨b, off, e, hs, by omega, fun j hj => (World.cell?_of_block (hk b hb hs)).trans (hc j hj)⟩
theorem Sl.tch (h : Sl w S v xs) (hk : Tch T w w') (hd : ∀ b, S b → ¬ T b) : Sl w' S v xs := h.keep hk.size fun b hb hs => hk.block b hb (hd b hs)
theorem Sl.below {B : Nat} (h : Sl w (· < B) v xs) (hb : Below B w w') : Sl w' (· < B) v xs := h.keep hb.size fun b _ hs => hb.block b hs
theorem Sl.drew (h : Sl w S v xs) : Sl w.drew S v xs := h
theorem Sl.drewN (h : Sl w S v xs) (n : Nat) : Sl (w.drewN n) S v xs := h
theorem Sl.alloc (h : Sl w S v xs) (o : Obj) : Sl (w.alloc o) S v xs := h.keep (by simp) fun b hb _ => Below.heap_alloc _ _ _ hb
theorem Sl.more (h : Sl w S v xs) (hS : ∀ b, b < w.heap.size → S b → T b) : Sl w T v xs := by
  obtain ⟨ao, cap, h1, h2, h3, h0, h4⟩ := h
  refine ⟨ao, cap, h1, h2, h3, h0, fun hp => ?_⟩
  obtain ⟨b, off, e, hs, hb, hc⟩ := h4 hp
  exact ⟨b, off, e, hS b hb hs, hb, hc⟩
/-- Where a slice that reads as xs has an address, its cells lie there. -/
theorem Sl.at_ {ad : Addr} {n cap : Nat} (h : Sl w S (.slice (some ad) n cap) xs) : n = xs.length ∧ ∀ (j : Nat) (u : Value), xs[j]? = some u → w.cell? (ad.add j) = some u ∧ ad.block < w.heap.size := by
  obtain ⟨ao, cap', e, _, _, _, hc⟩ := h
  injection e with e1 e2 e3
  subst e1; subst e2
  refine ⟨rfl, fun j u hu => ?_⟩
  obtain ⟨hj, rfl⟩ := List.getElem?_eq_some_iff.1 hu
  obtain ⟨b, off, e, hs, hb, hcc⟩ := hc (by omega)
  obtain rfl := Option.some.inj e
  exact ⟨by rw [Addr.add_lit]; exact hcc j hj, hb⟩
/-- The first n elements. -/
theorem Sl.head {ao : Option Addr} {m cap : Nat} (h : Sl w S (.slice ao m cap) xs) {n : Nat} (hn : n ≤ m) : Sl w S (.slice ao n cap) (xs.take n) := by
  obtain ⟨ao', cap', e, h2, h3, h0, h4⟩ := h
  injection e with e1 e2 e3
  subst e1; subst e2; subst e3
  have hl : (xs.take n).length = n := by rw [List.length_take]; omega
  refine ⟨ao, cap, by rw [hl], by omega, h3, h0, fun hp => ?_⟩
  obtain ⟨b, off, e, hs, hb, hc⟩ := h4 (by omega)
  exact ⟨b, off, e, hs, hb, fun j hj => by rw [hc j (by omega), List.getElem_take]⟩
end

/-- What a slice of the call's own looks like. -/
theorem own_shape {w : World} {base : Nat} {e : TypeId} {v : Value} {n : Nat} {xs : List Value} (h : w.ownsRow base e 1 v n xs) :
    ∃ ao cap, v = .slice ao n cap ∧ n ≤ cap ∧ cap ≤ maxLen ∧ (ao = none → cap = 0) ∧
      (ao ≠ none → ∃ g cur, ao = some ⟨g, 0, none⟩ ∧ base ≤ g ∧ Bk w g e cur ∧ cur.size = cap ∧ ∀ (j : Nat) (u : Value), xs[j]? = some u → cur[j]? = some u) := by
  obtain ⟨hl, h⟩ := h
  rcases h with ⟨rfl, rfl⟩ | ⟨g, cap, cur, rfl, hb, hg, hnc, hcm, hcs, ht⟩
  · exact ⟨none, 0, rfl, Nat.le_refl _, Nat.zero_le _, fun _ => rfl, fun h => absurd rfl h⟩
  · refine ⟨_, cap, rfl, hnc, hcm, (by simp), fun _ => ⟨g, cur, rfl, hb, hg, by simpa using hcs, fun j u hu => ?_⟩⟩
    rw [← ht, List.getElem?_take] at hu
    split at hu
    · simpa using hu
    · cases hu
theorem own_sl {w : World} {base : Nat} {e : TypeId} {v : Value} {n : Nat} {xs : List Value} (h : w.ownsRow base e 1 v n xs) : Sl w (base ≤ ·) v xs := by
  have hl : xs.length = n := by simpa using h.1
  obtain ⟨ao, cap, rfl, h1, h2, h3, h4⟩ := own_shape h
  subst hl
  refine ⟨ao, cap, rfl, h1, h2, h3, fun hp => ?_⟩
  obtain ⟨g, cur, e, hbg, hb, _, hc⟩ := h4 (fun h => by have := h3 h; omega)
  exact ⟨g, 0, e, hbg, hb.lt, fun j hj => by rw [Nat.zero_add, hb.cell]; exact hc j _ (List.getElem?_eq_getElem hj)⟩

/-- The slice over a block. -/
theorem sl_bk {w : World} {g : Nat} {t : TypeId} {xs : List Value} {cur : Array Value} {cap : Nat} (h : Bk w g t cur) (hc : xs.length ≤ cap) (hm : cap ≤ maxLen) (hx : ∀ (j : Nat) (u : Value), xs[j]? = some u → cur[j]? = some u) :
    Sl w (· = g) (.slice (some ⟨g, 0, none⟩) xs.length cap) xs :=
  ⟨_, cap, rfl, hc, hm, (by simp), fun _ => ⟨g, 0, rfl, rfl, h.lt, fun j hj => by rw [Nat.zero_add, h.cell]; exact hx j _ (List.getElem?_eq_getElem hj)⟩⟩
/-- The slice that a literal makes. -/
theorem sl_made (w : World) (t : TypeId) (xs : List Value) (h : xs.length ≤ maxLen) : Sl (w.alloc (.cells xs.toArray t)) (· = w.heap.size) (.slice (some ⟨w.heap.size, 0, none⟩) xs.length xs.length) xs :=
  sl_bk (Bk.made w t xs.toArray) (Nat.le_refl _) h (by simp)

end Go.Proofs.Ytgnpnlelkkkmeaa
