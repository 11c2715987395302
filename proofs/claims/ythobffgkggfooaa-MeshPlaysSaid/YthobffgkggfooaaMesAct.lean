/-
  MeshPlays: what an act makes of the mesh and the reference; what it wants of Nodes and Ways.
-/
import Derived.Test.YthobffgkggfooaaMesWant
import Derived.Test.YthobffgkggfooaaMesOrd
import Derived.Test.YthobffgkggfooaaMesDown3
import Derived.Test.YthobffgkggfooaaMesTake
set_option linter.unusedVariables false
set_option linter.unusedSimpArgs false
namespace Go.Proofs.Ythobffgkggfooaa
open Go.RowKit Go.Maps

theorem MeshA.nodup {w : World} {M B N : Nat} {lv : List Int} {it : Ways} (h : MeshA w M B N lv it) : lv.Nodup := by
  obtain ⟨bl, bp, es, h1, _⟩ := h
  obtain ⟨D, _, hD⟩ := h1.live
  have := hD.apart
  rw [List.pairwise_map] at this
  exact this
theorem MeshA.few {w : World} {M B N : Nat} {lv : List Int} {it : Ways} (h : MeshA w M B N lv it) (k : Int × Int) : (it k).length ≤ 64 := by
  obtain ⟨bl, bp, es, h1, h2, _⟩ := h
  rw [← h2]
  unfold itemsAt
  cases hg : getE es k with
  | none => simp
  | some p => exact (h1.pip _ (getE_mem hg)).len
theorem upL_in {lv : List Int} {a : Int} (hn : lv.Nodup) (ha : a ∈ lv) : (upL lv a).Perm lv := by
  unfold upL
  induction lv with
  | nil => cases ha
  | cons x l ih =>
    obtain ⟨h1, h2⟩ := List.nodup_cons.1 hn
    by_cases e : x = a
    · subst e
      have : (l.filter fun m => decide (m ≠ x)) = l := List.filter_eq_self.2 fun y hy => decide_eq_true fun e => h1 (e ▸ hy)
      rw [List.filter_cons_of_neg (by simp), this]
      exact List.perm_append_comm
    · rw [List.filter_cons_of_pos (by simpa using e)]
      have ha2 : a ∈ l := by
        rcases List.mem_cons.1 ha with h | h
        · exact absurd h.symm e
        · exact h
      exact (ih h2 ha2).cons x
theorem upL_out {lv : List Int} {a : Int} (ha : a ∉ lv) : upL lv a = lv ++ [a] := by
  have h : (lv.filter fun m => decide (m ≠ a)) = lv := List.filter_eq_self.2 fun y hy => decide_eq_true fun e => ha (e ▸ hy)
  unfold upL
  rw [h]
theorem downL_out {lv : List Int} {a : Int} (ha : a ∉ lv) : downL lv a = lv := List.filter_eq_self.2 fun y hy => decide_eq_true fun e => ha (e ▸ hy)
theorem contains_iff {ls lv : List Int} (h : ls.Perm lv) (a : Int) : ls.contains a = decide (a ∈ lv) := by
  have := h.mem_iff (a := a)
  by_cases e : a ∈ lv
  · rw [dec_ e]; simpa using this.2 e
  · rw [decn_ e]; simpa using fun x => e (this.1 x)
theorem MT.own {B base k n : Nat} {e : TypeId} {v : Value} {xs : List Value} {w w' : World} (h : MT B w w') (ho : w.ownsRow base e k v n xs) : w'.ownsRow base e k v n xs :=
  own_tch ho h fun b hb hn => by
    rcases ho.2 with ⟨rfl, _⟩ | ⟨g, cap, cur, rfl, _, hg, _⟩
    · simp [Value.ownBlock] at hb
    · simp [Value.ownBlock] at hb
      subst hb
      exact hn.2 _ _ _ hg
/-- A step on a block of integers. -/
theorem MeshI.ints {w w1 : World} {M bl bp B N : Nat} {lv : List Int} {es : List ((Int × Int) × PA)} {X : Nat} {cs : Array Value} (h : MeshI w M bl bp B N lv es) (hx : Bk w X 3 cs) (ht : Tch (· = X) w w1) : MeshI w1 M bl bp B N lv es := by
  have hx' := hx
  unfold Bk at hx'
  refine ⟨h.box.tch ht (fun e => ?_), h.live.tch ht (fun e => ?_), h.way.tch ht (fun e => ?_), fun e he => (h.pip e he).tch ht (fun e2 => ?_) (fun e2 => ?_), h.base, h.le, h.ne, h.apart⟩
  · have := h.box
    unfold Bk at this
    rw [e, hx'] at this
    injection this with this
    injection this with _ h3
    exact absurd h3 (by decide)
  · obtain ⟨a, c, ho⟩ := h.live.obj
    rw [e, hx'] at ho
    cases ho
  · obtain ⟨a, c, ho⟩ := h.way.obj
    rw [e, hx'] at ho
    cases ho
  · have := (h.pip e he).bk
    unfold Bk at this
    rw [e2, hx'] at this
    injection this with this
    injection this with _ h3
    exact absurd h3 (by decide)
  · obtain ⟨s, r, hc⟩ := (h.pip e he).ch
    rw [e2, hx'] at hc
    cases hc
theorem MeshA.grown {w w1 : World} {M B N base n : Nat} {lv : List Int} {it : Ways} {v : Value} {xs : List Value} (h : MeshA w M B N lv it) (ho : w.ownsRow base 3 1 v n xs) (ht : w.grownBy w1 v.ownBlock) : MeshA w1 M B N lv it := by
  obtain ⟨bl, bp, es, h1, h2, h3⟩ := h
  have h4 := Tch.of_grown ht
  rcases ho.2 with ⟨rfl, _⟩ | ⟨g, cap, cur, rfl, _, hg, _⟩
  · refine ⟨bl, bp, es, h1.new ?_, h2, h3⟩
    exact Tch.more h4 fun b hb e => by simp [Value.ownBlock] at e
  · refine ⟨bl, bp, es, h1.ints (X := g) hg (Tch.more h4 fun b hb e => by simpa [Value.ownBlock] using e), h2, h3⟩
/-- One round of the acts. -/
structure PlJ (W w : World) (M B N i : Nat) (it : Ways) (vl : Value) (ls lv : List Int) (vw : Value) (l : List RW) : Prop where
  play : PlayS W w M B N it vl ls lv vw l
  box : InBox it
  lvb : ∀ x ∈ lv, In4 x
  n : N ≤ 100 + 200 * i
  few : l.length ≤ 20 * i
  lsl : ls.length ≤ 3 + i
theorem PlJ.later {W w w1 : World} {M B N i : Nat} {it : Ways} {vl : Value} {ls lv : List Int} {vw : Value} {l : List RW} (h : PlJ W w M B N i it vl ls lv vw l) (k : New w w1) : PlJ W w1 M B N i it vl ls lv vw l :=
  ⟨h.play.later k, h.box, h.lvb, h.n, h.few, h.lsl⟩
theorem PlJ.lvl {W w : World} {M B N i : Nat} {it : Ways} {vl : Value} {ls lv : List Int} {vw : Value} {l : List RW} (h : PlJ W w M B N i it vl ls lv vw l) : lv.length ≤ 3 + i := by
  rw [← h.play.same.length_eq]; exact h.lsl
/-- The end of a round, whatever it made. -/
theorem PlJ.turn {W w w1 w3 : World} {M B N N2 i : Nat} {it it2 : Ways} {vl vl2 : Value} {ls ls2 lv lv2 : List Int} {vw vw2 : Value} {l l2 : List RW} (h : PlJ W w M B N i it vl ls lv vw l)
    (hm : MeshA w1 M B N2 lv2 it2) (k : MT B w w1) (hn : New w1 w3) (hv : Sl w3 (W.heap.size ≤ ·) vl2 (ints ls2)) (hs : ls2.Perm lv2) (h4 : ∀ x ∈ lv2, In4 x) (hl : ls2.length ≤ ls.length + 1)
    (hr : WRef w3 (W.heap.size ≤ ·) vw2 l2) (hi : RefIt l2 it2) (hb : InBox it2) (hN : N2 ≤ N + 200) (hl2 : l2.length ≤ l.length + 20) : PlJ W w3 M B N2 (i + 1) it2 vl2 ls2 lv2 vw2 l2 :=
  ⟨⟨hm.new hn, hv, hs, hr, hi, (MT.new h.play.new k h.play.base).then hn, h.play.base⟩, hb, h4, by have := h.n; omega, by have := h.few; omega, by have := h.lsl; omega⟩
/-- The live nodes as they were. -/
theorem PlJ.step {W w w1 w3 : World} {M B N N2 i : Nat} {it it2 : Ways} {vl : Value} {ls lv : List Int} {vw vw2 : Value} {l l2 : List RW} (h : PlJ W w M B N i it vl ls lv vw l)
    (hm : MeshA w1 M B N2 lv it2) (k : MT B w w1) (hn : New w1 w3) (hr : WRef w3 (W.heap.size ≤ ·) vw2 l2) (hi : RefIt l2 it2) (hb : InBox it2) (hN : N2 ≤ N + 200) (hl2 : l2.length ≤ l.length + 20) : PlJ W w3 M B N2 (i + 1) it2 vl ls lv vw2 l2 :=
  h.turn hm k hn ((MT.sl k h.play.live).keep hn.size (fun b hb _ => hn.block b hb (by omega))) h.play.same h.lvb (by omega) hr hi hb hN hl2
/-- The mesh alone has turned. -/
theorem PlJ.alone {W w w1 : World} {M B N N2 i : Nat} {it it2 : Ways} {vl : Value} {ls lv : List Int} {vw : Value} {l : List RW} (h : PlJ W w M B N i it vl ls lv vw l)
    (hm : MeshA w1 M B N2 lv it2) (k : MT B w w1) (he : it2 = it) (hN : N2 ≤ N + 200) : PlJ W w1 M B N2 (i + 1) it vl ls lv vw l := by
  subst he
  exact h.step hm k (New.refl _) (MT.wref k h.play.ref) h.play.it h.box hN (by omega)
theorem PlJ.i64 {x : Int} (h : In4 x) : I64 x := ⟨by have := h.1; omega, by have := h.2; omega⟩
/-- The reference behind a step of the mesh. -/
theorem PlJ.ref {W w w1 w2 : World} {M B N i : Nat} {it : Ways} {vl : Value} {ls lv : List Int} {vw : Value} {l : List RW} (h : PlJ W w M B N i it vl ls lv vw l) (k : MT B w w1) (hn : New w1 w2) : WRef w2 (W.heap.size ≤ ·) vw l := (MT.wref k h.play.ref).since hn.below
theorem PlJ.len {W w : World} {M B N i : Nat} {it : Ways} {vl : Value} {ls lv : List Int} {vw : Value} {l : List RW} (h : PlJ W w M B N i it vl ls lv vw l) : W.heap.size ≤ w.heap.size := h.play.new.size
theorem pset (B0 : Nat) (v : Value) (l : List RW) (ka kb : Int) (xv : Value) (xi : List ItA) (w : World) (h : WRef w (B0 ≤ ·) v l) (hx : Slk itC 2 w (B0 ≤ ·) xv xi) (hl : l.length ≤ 1000000) (hB : B0 ≤ w.heap.size) :
    Calls Try.prog 37 #[v, .int .i64 ka, .int .i64 kb, xv] w fun e w' => ∃ v', e = .returned v' ∧ WRef w' (B0 ≤ ·) v' (setR l ⟨(ka, kb), xv, xi⟩) ∧ New w w' := by
  refine (rset_ok (B0 ≤ ·) v l ⟨(ka, kb), xv, xi⟩ w h hx hl).mono ?_
  rintro e w' ⟨v', rfl, hw, hn⟩
  exact ⟨v', rfl, hw.more (fun b _ h => by rcases h with h | h <;> omega), hn⟩
theorem pbrk (B0 : Nat) (w : World) (hB : B0 ≤ w.heap.size) : Calls Try.prog 39 #[] w fun e w' => ∃ v, e = .returned v ∧ Slk itC 2 w' (B0 ≤ ·) v [brk] ∧ New w w' := by
  refine (rbroken_ok w).mono ?_
  rintro e w' ⟨v, rfl, hs, hn⟩
  exact ⟨v, rfl, hs.more (fun b _ h => by omega), hn⟩
theorem breakI_th {lv : List Int} {it : Ways} {a b : Int} (ha : a ∈ lv) (hb : b ∈ lv) (hab : a ≠ b) : breakI lv it a b = setI (setI it (a, b) [brk]) (b, a) [brk] := by
  unfold breakI
  rw [if_neg (by rintro (e | e | e); exact hab e; exact e ha; exact e hb)]
theorem breakI_no {lv : List Int} {it : Ways} {a b : Int} (h : ¬ (a ∈ lv ∧ b ∈ lv ∧ a ≠ b)) : breakI lv it a b = it := by
  unfold breakI
  rw [if_pos]
  by_cases e : a = b
  · exact .inl e
  · by_cases ha : a ∈ lv
    · by_cases hb : b ∈ lv
      · exact absurd ⟨ha, hb, e⟩ h
      · exact .inr (.inr hb)
    · exact .inr (.inl ha)
theorem tmod5 (z : Int) : In4 (z.tmod 5) := by
  have h1 := Int.tmod_lt_of_pos z (show (0 : Int) < 5 by omega)
  have h2 := Int.lt_tmod_of_pos z (show (0 : Int) < 5 by omega)
  exact ⟨by omega, by omega⟩
theorem kind7 (z : Int) : (wrap64 (z.tmod 7 + 7)).tmod 7 = z % 7 := by
  have h : z.tmod 7 = z % 7 ∨ z.tmod 7 = z % 7 - 7 := by
    rcases Int.le_total 0 z with h | h
    · exact .inl (Int.tmod_eq_emod_of_nonneg h)
    · obtain ⟨y, rfl⟩ : ∃ y, z = -y := ⟨-z, by omega⟩
      rw [Int.neg_tmod, Int.tmod_eq_emod_of_nonneg (by omega)]
      omega
  have hw : wrap64 (z.tmod 7 + 7) = z.tmod 7 + 7 := by unfold wrap64; omega
  rw [hw, Int.tmod_eq_emod_of_nonneg (by omega)]
  omega
/-- What the law wants of Nodes, and of Ways. -/
def NodesGive : Prop := ∀ (M B N : Nat) (lv : List Int) (it : Ways) (w : World), MeshA w M B N lv it → lv.length ≤ 1000000 →
    Calls Try.prog 43 #[.pointer (some ⟨M, 0, none⟩)] w fun e w' => ∃ (v : Value) (ss : List Int), e = .returned v ∧ ss.Perm lv ∧ ss.Pairwise (· ≤ ·) ∧ Sl w' (w.heap.size ≤ ·) v (ints ss) ∧ New w w'
/-- The elements of a slice of ways that begins its block. -/
def WSl (w : World) (ao : Option Addr) (l : List (Int × Int)) : Prop := 0 < l.length → ∃ b, ao = some ⟨b, 0, none⟩ ∧ ∀ (j : Nat) (h : j < l.length), w.cell? ⟨b, j * 2, none⟩ = some (.int .i64 l[j].1) ∧ w.cell? ⟨b, j * 2 + 1, none⟩ = some (.int .i64 l[j].2)
def WaysGive : Prop := ∀ (M B N : Nat) (lv : List Int) (it : Ways) (w : World), MeshA w M B N lv it → InBox it →
    Calls Try.prog 46 #[.pointer (some ⟨M, 0, none⟩)] w fun e w' => ∃ ao cap, e = .returned (.slice ao (wantL it 9).length cap) ∧ WSl w' ao (wantL it 9) ∧ New w w'
theorem wantRow_len (it : Ways) (x : Int) : ∀ n, (wantRow it x n).length ≤ n
  | 0 => Nat.le_refl _
  | n + 1 => by
    have := wantRow_len it x n
    rw [wantRow_step, List.length_append]
    split <;> simp <;> omega
theorem wantL_len9 (it : Ways) : ∀ n, (wantL it n).length ≤ 9 * n
  | 0 => Nat.le_refl _
  | n + 1 => by
    rw [wantL_step, List.length_append]
    have h1 := wantRow_len it (small n) 9
    have h2 := wantL_len9 it n
    omega
theorem wantL_len (it : Ways) : (wantL it 9).length ≤ 81 := wantL_len9 it 9
end Go.Proofs.Ythobffgkggfooaa
