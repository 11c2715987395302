/-
  Draws, nil or not: One of a list of nodes.
-/
import Derived.Test.YtdhafagihfdolaaViwCon
set_option linter.unusedVariables false
set_option linter.unusedSimpArgs false
set_option maxRecDepth 100000
namespace Go.Proofs.Ytdhafagihfdolaa
open Go.RowKit Go.Lib Go.Sort Go.Shelf

/-- A draw that has the numbers ds left: none, or at D. -/
def DrawP (w : World) (dv : Value) (D : Option Nat) (g : Nat) (ds : List Int) : Prop := (dv = .pointer none ∧ D = none ∧ ds = []) ∨ ∃ d, dv = .pointer (some ⟨d, 0, none⟩) ∧ D = some d ∧ DrawIs w d g ds
theorem DrawP.new {w w' : World} {dv : Value} {D : Option Nat} {g : Nat} {ds : List Int} (h : DrawP w dv D g ds) (k : New w w') : DrawP w' dv D g ds := by
  rcases h with h | ⟨d, h1, h2, h3⟩
  · exact .inl h
  · exact .inr ⟨d, h1, h2, h3.tch k (by have := h3.lt; omega) (fun h0 => by have := h3.glt h0; omega)⟩
theorem draw_ne_int : (141 : TypeId) ≠ 3 := by decide
theorem DrawIs.bk {w : World} {D g : Nat} {ds : List Int} (h : DrawIs w D g ds) : ∃ cs, Bk w D 141 cs := by
  obtain ⟨_, ao, cap, h3, _⟩ := h
  exact ⟨_, h3⟩
theorem DrawP.bk {w : World} {dv : Value} {D : Option Nat} {g : Nat} {ds : List Int} (h : DrawP w dv D g ds) {b : Nat} (hb : some b = D) : ∃ cs, Bk w b 141 cs := by
  rcases h with ⟨_, h2, _⟩ | ⟨d, _, h2, h3⟩
  · rw [h2] at hb; cases hb
  · rw [h2] at hb; injection hb with hb; rw [hb]; exact h3.bk
theorem DrawP.slr {w w' : World} {dv v : Value} {D : Option Nat} {g : Nat} {ds : List Int} {xs : List Value} (h : DrawP w dv D g ds) (k : VT D w w') (hs : Slr w v xs) : Slr w' v xs := by
  refine hs.held (Tch.size k) fun b hb hi => Tch.block k b hb ?_
  rintro (e | e)
  · obtain ⟨cs, hc⟩ := h.bk e
    exact not_int hc draw_ne_int hi
  · omega
theorem DrawP.viw {w w' : World} {dv : Value} {D : Option Nat} {g : Nat} {ds : List Int} {x : VA} {sa sp : Value} (h : DrawP w dv D g ds) (k : VT D w w') (hs : ViwS w x sa sp) : ViwS w' x sa sp :=
  ⟨h.slr k hs.act, h.slr k hs.pas, hs.good⟩
/-- A block of a view is no draw's. -/
theorem DrawP.ne {w : World} {dv : Value} {D : Option Nat} {g : Nat} {ds : List Int} (h : DrawP w dv D g ds) {b : Nat} {t : TypeId} {cs : Array Value} (hb : Bk w b t cs) (ht : t ≠ 141) : some b ≠ D := fun e => by
  obtain ⟨c, hc⟩ := h.bk e
  unfold Bk at hc hb
  rw [hb] at hc
  injection hc with hc
  injection hc with _ h2
  exact ht h2
/-- Stores into the call's own blocks of views. -/
theorem DrawP.ot {w w1 w2 : World} {dv : Value} {D : Option Nat} {g : Nat} {ds ds0 : List Int} (h : DrawP w1 dv D g ds) (h0 : DrawP w dv D g ds0) (k : OT w w1 w2) (hg : 0 < ds.length → g < w.heap.size) : DrawP w2 dv D g ds := by
  rcases h with h | ⟨d, h1, h2, h3⟩
  · exact .inl h
  · refine .inr ⟨d, h1, h2, h3.tch k (fun e => ?_) (fun p e => by have := hg p; omega)⟩
    rcases h0 with ⟨_, e2, _⟩ | ⟨d', _, e2, h4⟩
    · rw [h2] at e2; cases e2
    · rw [h2] at e2; injection e2 with e2; subst e2
      have := h4.lt
      omega
theorem pick_nil (l : List Int) : pick l [] = l.getD 0 0 := by
  unfold pick belowV
  split <;> simp
theorem belowT_nil (n : Int) : belowT [] n = [] := by unfold belowT; split <;> rfl
theorem one_lay (dv : Value) (D : Option Nat) (g : Nat) (ds : List Int) (v : Value) (l : List Int) (w : World) (hd : DrawP w dv D g ds) (hs : Slr w v (ints l)) (h0 : l ≠ []) :
    Calls Try.prog 65 #[dv, v] w fun e w' => e = .returned (.tuple #[.int .i64 (pick l ds), .bool true]) ∧ Hid (DrawP w' dv D g (belowT ds l.length)) ∧ Hid (VT D w w') := by
  have hl0 : 0 < l.length := List.length_pos_iff.2 h0
  rcases hd with ⟨rfl, rfl, rfl⟩ | ⟨D, rfl, rfl, hd⟩
  · obtain ⟨ao, cap, rfl, h1, h2, h3, h4⟩ := slr_ints hs
    obtain ⟨b, off, rfl, _, hb, hc⟩ := h4 hl0
    have hx := hc 0 hl0
    rw [Nat.add_zero] at hx
    have hp := pick_nil l
    have ht : ((l.length : Int) == 0) = false := bne_ (by omega)
    rw [hp, belowT_nil]
    obtain ⟨y, hy⟩ : ∃ y, y = l.getD 0 0 := ⟨_, rfl⟩
    rw [← hy] at hx ⊢
    clear hy
    have hli : (0 : Int) < l.length := by omega
    clear hc h4 h3 hs hp
    go_enter Try.func65, Try.ntmps65
    go_wp2_with fail
    refine (below_nil _ w).mono ?_
    rintro e w1 ⟨rfl, rfl⟩
    go_wp2_with fail
    go_ret2
    exact ⟨rfl, .inl ⟨rfl, rfl, rfl⟩, VT.refl _ _⟩
  · obtain ⟨cs, hbk⟩ := hd.bk
    refine (one_Int D g ds v (ints l) (IntB w) w hd hs (not_int hbk draw_ne_int) (by rw [ints_length]; exact hl0)).mono ?_
    rintro e w' ⟨u, hu, rfl, hd2, ht⟩
    rw [ints_length] at hu hd2
    refine ⟨?_, .inr ⟨D, rfl, rfl, hd2⟩, VT.one ht⟩
    have hb := belowV_lt ds l.length hl0
    rw [ints_get] at hu
    unfold pick
    rw [List.getD_eq_getElem?_getD]
    cases hg : l[(belowV ds l.length).toNat]? with
    | none => rw [hg] at hu; cases hu
    | some y => rw [hg] at hu; injection hu with hu; rw [← hu]; rfl
theorem none_lay (dv : Value) (ao : Option Addr) (cap : Nat) (w : World) :
    Calls Try.prog 65 #[dv, .slice ao 0 cap] w fun e w' => e = .returned (.tuple #[.int .i64 0, .bool false]) ∧ w' = w := by
  refine (one_none_Int dv ao cap w).mono ?_
  rintro e w' ⟨rfl, rfl⟩
  exact ⟨rfl, rfl⟩
end Go.Proofs.Ytdhafagihfdolaa
