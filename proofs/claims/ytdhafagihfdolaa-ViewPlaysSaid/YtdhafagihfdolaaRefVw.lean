/-
  The reference's views, as values in memory.
-/
import Derived.Test.YtdhafagihfdolaaRefW
import Derived.Test.YtdhafagihfdolaaViwCon
set_option linter.unusedVariables false
set_option linter.unusedSimpArgs false
set_option maxRecDepth 100000
namespace Go.Proofs.Ytdhafagihfdolaa
open Go.RowKit Go.Lib Go.Sort Go.Shelf

theorem insL_perm (L : List Int) (n : Int) : (L ++ [n]).Perm (insL L n) := by
  unfold insL
  have h1 : (L.take (cnt L n) ++ n :: L.drop (cnt L n)).Perm (n :: (L.take (cnt L n) ++ L.drop (cnt L n))) := List.perm_middle
  rw [List.take_append_drop] at h1
  exact (List.perm_append_singleton n L).trans h1.symm
theorem outL_perm {l L : List Int} (h : l.Perm L) (n : Int) : (outL l n).Perm (outL L n) := h.filter _
def rfV (x : VA) (va vp vd : Value) : Value := .agg #[.int .i64 x.self, va, vp, .int .i64 x.A, .int .i64 x.P, vd]
/-- A reference's view in memory: its lists in any order, the numbers to draw in the argument's memory. -/
structure RfS (w : World) (B : Nat) (x : VA) (ds : List Int) (va vp vd : Value) : Prop where
  act : ∃ l, Slr w va (ints l) ∧ l.Perm x.act
  pas : ∃ l, Slr w vp (ints l) ∧ l.Perm x.pas
  dr : Sl w (· < B) vd (u32s ds)
  u : U32s ds
theorem RfS.new {w w' : World} {B : Nat} {x : VA} {ds : List Int} {va vp vd : Value} (h : RfS w B x ds va vp vd) (k : New w w') : RfS w' B x ds va vp vd :=
  ⟨h.act.imp fun l h => ⟨h.1.below k.below, h.2⟩, h.pas.imp fun l h => ⟨h.1.below k.below, h.2⟩, k.sl h.dr, h.u⟩
theorem RfS.ot {w w1 w2 : World} {B : Nat} {x : VA} {ds : List Int} {va vp vd : Value} (h : RfS w1 B x ds va vp vd) (k : OT w w1 w2) (hB : B ≤ w.heap.size) : RfS w2 B x ds va vp vd :=
  ⟨h.act.imp fun l h => ⟨k.slr h.1, h.2⟩, h.pas.imp fun l h => ⟨k.slr h.1, h.2⟩, h.dr.keep (Tch.size k) fun b hb hs => Tch.block k b hb fun e => by omega, h.u⟩
theorem RfS.slices {w : World} {B : Nat} {x : VA} {ds : List Int} {va vp vd : Value} (h : RfS w B x ds va vp vd) : (∃ ao cap, va = .slice ao x.act.length cap) ∧ (∃ ao cap, vp = .slice ao x.pas.length cap) ∧ ∃ ao cap, vd = .slice ao ds.length cap := by
  obtain ⟨⟨l, h1, h2⟩, ⟨m, h3, h4⟩, h5, _⟩ := h
  obtain ⟨ao, cap, rfl, _⟩ := slr_ints h1
  obtain ⟨bo, bcap, rfl, _⟩ := slr_ints h3
  obtain ⟨co, ccap, rfl, _⟩ := h5
  rw [h2.length_eq, h4.length_eq]
  exact ⟨⟨_, _, rfl⟩, ⟨_, _, rfl⟩, co, ccap, by simp [u32s]⟩
def RfR (B : Nat) (y : VA) (ds : List Int) (w : World) (e : Ending) (w' : World) : Prop := ∃ va vp vd, e = .returned (rfV y va vp vd) ∧ RfS w' B y ds va vp vd ∧ New w w'
def RfRB (B : Nat) (y : VA) (ds : List Int) (b : Bool) (w : World) (e : Ending) (w' : World) : Prop := ∃ va vp vd, e = .returned (.tuple #[rfV y va vp vd, .bool b]) ∧ RfS w' B y ds va vp vd ∧ New w w'
def RfRN (B : Nat) (y : VA) (ds : List Int) (n : Int) (w : World) (e : Ending) (w' : World) : Prop := ∃ va vp vd, e = .returned (.tuple #[rfV y va vp vd, .int .i64 n]) ∧ RfS w' B y ds va vp vd ∧ New w w'
def RfRNB (B : Nat) (y : VA) (ds : List Int) (n : Int) (b : Bool) (w : World) (e : Ending) (w' : World) : Prop := ∃ va vp vd, e = .returned (.tuple #[rfV y va vp vd, .int .i64 n, .bool b]) ∧ RfS w' B y ds va vp vd ∧ New w w'
theorem rf_fin {w w1 w2 : World} {B : Nat} {x : VA} {ds : List Int} {va vp vd : Value} (hs : RfS w1 B x ds va vp vd) (hn : New w w1) (ht : OT w w1 w2) (hB : B ≤ w.heap.size) : RfS w2 B x ds va vp vd ∧ New w w2 := ⟨hs.ot ht hB, ht.new hn⟩
theorem Sl.tail1 {w : World} {S : Nat → Prop} {b off m cap : Nat} {xs : List Value} (h : Sl w S (.slice (some ⟨b, off, none⟩) m cap) xs) {m2 c2 : Nat} (h0 : 1 ≤ m) (hm : m2 = m - 1) (hc : m2 ≤ c2) (hc2 : c2 ≤ maxLen) : Sl w S (.slice (some ⟨b, off + 1, none⟩) m2 c2) xs.tail := by
  obtain ⟨ao', cap', e, h2, h3, h4, h5⟩ := h
  injection e with e1 e2 e3
  subst e1; subst e2; subst e3
  have hl : xs.tail.length = m2 := by rw [List.length_tail]; omega
  refine ⟨_, c2, by rw [hl], by omega, hc2, (fun e => by cases e), fun hp => ?_⟩
  obtain ⟨b', off', e, h6, h7, h8⟩ := h5 (by omega)
  injection e with e
  injection e with e1 e2
  subst e1; subst e2
  refine ⟨b, off + 1, rfl, h6, h7, fun j hj => ?_⟩
  have := h8 (j + 1) (by omega)
  rw [show off + 1 + j = off + (j + 1) by omega, this, List.getElem_tail]
theorem Bk.six {w : World} {g : Nat} {t : TypeId} {a b c d e f : Value} (h : Bk w g t #[a, b, c, d, e, f]) :
    (w.cell? ⟨g, 0, none⟩ = some a ∧ w.cell? ⟨g, 1, none⟩ = some b ∧ w.cell? ⟨g, 2, none⟩ = some c ∧ w.cell? ⟨g, 3, none⟩ = some d ∧ w.cell? ⟨g, 4, none⟩ = some e ∧ w.cell? ⟨g, 5, none⟩ = some f) ∧
      w.frozen? ⟨g, 0, none⟩ = false ∧ w.frozen? ⟨g, 1, none⟩ = false ∧ w.frozen? ⟨g, 2, none⟩ = false ∧ w.frozen? ⟨g, 3, none⟩ = false ∧ w.frozen? ⟨g, 4, none⟩ = false ∧ w.frozen? ⟨g, 5, none⟩ = false :=
  ⟨⟨h.cell 0, h.cell 1, h.cell 2, h.cell 3, h.cell 4, h.cell 5⟩, h.frozen _, h.frozen _, h.frozen _, h.frozen _, h.frozen _, h.frozen _⟩
theorem rview_ne_int : (35 : TypeId) ≠ 3 := by decide
end Go.Proofs.Ytdhafagihfdolaa
