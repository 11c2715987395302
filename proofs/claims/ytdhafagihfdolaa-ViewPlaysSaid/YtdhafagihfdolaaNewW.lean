/-
  A world later, nothing older touched; and with one block that may turn.
-/
import Derived.Test.YtdhafagihfdolaaMem
set_option linter.unusedVariables false
set_option linter.unusedSimpArgs false
namespace Go.Proofs.Ytdhafagihfdolaa
open Go.RowKit

/-- What only makes memory keeps what lies there. -/
def New (w w' : World) : Prop := Tch (fun b => w.heap.size ≤ b) w w'
theorem New.refl (w : World) : New w w := Tch.refl _ _
theorem New.then {w w1 w2 : World} (h : New w w1) (k : New w1 w2) : New w w2 := Tch.trans h k fun b hb hs => by have := h.size; omega
theorem New.alloc {w w1 : World} (h : New w w1) (o : Obj) : New w (w1.alloc o) := Tch.alloc h o
theorem New.drew {w w1 : World} (h : New w w1) : New w w1.drew := Tch.drew h
theorem New.drewN {w w1 : World} (h : New w w1) (n : Nat) : New w (w1.drewN n) := Tch.drewN h n
theorem New.below {w w1 : World} (h : New w w1) : Below w.heap.size w w1 := Tch.below h fun b hb hs => by omega
theorem New.of {w w1 : World} (h : Below w.heap.size w w1) : New w w1 := Tch.of_below h
theorem New.bk {w w' : World} {g : Nat} {t : TypeId} {cs : Array Value} (h : New w w') (k : Bk w g t cs) : Bk w' g t cs := k.tch h (by have := k.lt; omega)
theorem New.cell {w w' : World} {p : Addr} {u : Value} (h : New w w') (k : w.cell? p = some u) : w'.cell? p = some u := by
  rw [← k]
  exact Tch.cell h (World.block_lt_of_cell? w _ k) (by have := World.block_lt_of_cell? w _ k; omega)
theorem New.set {w w1 : World} (h : New w w1) {p : Addr} (hp : w.heap.size ≤ p.block) (u : Value) : New w (w1.setCell p u) := Tch.setCell h (fun _ => hp) u
theorem New.sl {w w' : World} {S : Nat → Prop} {v : Value} {xs : List Value} (h : New w w') (k : Sl w S v xs) : Sl w' S v xs := k.keep h.size fun b hb _ => h.block b hb (by omega)
/-- One block, or none, may turn. -/
def VT (D : Option Nat) (w w' : World) : Prop := Tch (fun b => some b = D ∨ w.heap.size ≤ b) w w'
theorem VT.of {D : Option Nat} {w w' : World} (h : New w w') : VT D w w' := Tch.more h fun b _ hs => .inr hs
theorem VT.one {D : Nat} {w w' : World} (h : Tch (· = D) w w') : VT (some D) w w' := Tch.more h fun b _ hs => .inl (by rw [hs])
theorem VT.refl (D : Option Nat) (w : World) : VT D w w := Tch.refl _ _
theorem VT.then {D : Option Nat} {w w1 w2 : World} (h : VT D w w1) (k : VT D w1 w2) : VT D w w2 := Tch.trans h k fun b hb hs => by have := h.size; rcases hs with hs | hs; exact .inl hs; omega
theorem VT.new {D : Option Nat} {w w1 w2 : World} (h : New w w1) (k : VT D w1 w2) (hD : ∀ d, D = some d → w.heap.size ≤ d) : New w w2 := Tch.trans h k fun b hb hs => by
  have := Tch.size h
  rcases hs with hs | hs
  · exact hD b hs.symm
  · omega
theorem VT.bk {D : Option Nat} {w w' : World} {g : Nat} {t : TypeId} {cs : Array Value} (h : VT D w w') (k : Bk w g t cs) (hg : some g ≠ D) : Bk w' g t cs := k.tch h (by have := k.lt; rintro (e | e); exact hg e; omega)
theorem VT.below {D : Nat} {w w' : World} (h : VT (some D) w w') {B : Nat} (hB : B ≤ w.heap.size) (hD : B ≤ D) : Below B w w' := Tch.belowB h hB fun b hb => by
  rintro (e | e)
  · injection e with e; omega
  · omega
theorem VT.nil {w w' : World} (h : VT none w w') : New w w' := Tch.more h fun b _ hs => by rcases hs with hs | hs; cases hs; exact hs
end Go.Proofs.Ytdhafagihfdolaa
