/-
  Messages as values: their cells, and how a value reads as a message.
-/
import Derived.Test.YthobffgkggfooaaMsgMath
import Derived.Test.YthobffgkggfooaaRowK
set_option linter.unusedVariables false
set_option linter.unusedSimpArgs false
namespace Go.Proofs.Ythobffgkggfooaa
open Go.RowKit

def nodeC (n : Int) : List Value := [.int .i64 n]
def idC (i : IdA) : List Value := [.string (str i.key), .int .u64 i.ver]
def recC (x : RecA) : List Value := [.string (str x.id.key), .int .u64 x.id.ver, .int .i64 x.origin, .int .i64 x.age, .bool x.gone, .string (str x.data)]
theorem nodeC_len (n : Int) : (nodeC n).length = 1 := rfl
theorem idC_len (n : IdA) : (idC n).length = 2 := rfl
theorem recC_len (n : RecA) : (recC n).length = 6 := rfl
/-- The three slices of a message. -/
structure MsgV where
  n : Value
  i : Value
  r : Value
def msgC (m : MsgA) (v : MsgV) : Array Value := #[.int .i64 m.kind, .int .i64 m.node, .int .i64 m.walk, .bool m.high, v.n, v.i, v.r]
/-- The value of v's slices reads as m's lists, in blocks of S. -/
structure MsgIs (w : World) (S : Nat → Prop) (m : MsgA) (v : MsgV) : Prop where
  n : Slk nodeC 1 w S v.n m.nodes
  i : Slk idC 2 w S v.i m.ids
  r : Slk recC 6 w S v.r m.recs
section
variable {w w' : World} {S T : Nat → Prop} {m : MsgA} {v : MsgV}
theorem MsgIs.keep (h : MsgIs w S m v) (hz : w.heap.size ≤ w'.heap.size) (hk : ∀ b, b < w.heap.size → S b → w'.heap[b]? = w.heap[b]?) : MsgIs w' S m v := ⟨h.n.keep hz hk, h.i.keep hz hk, h.r.keep hz hk⟩
theorem MsgIs.tch (h : MsgIs w S m v) (hk : Tch T w w') (hd : ∀ b, S b → ¬ T b) : MsgIs w' S m v := h.keep hk.size fun b hb hs => hk.block b hb (hd b hs)
theorem MsgIs.since (h : MsgIs w S m v) (hb : Below w.heap.size w w') : MsgIs w' S m v := h.keep hb.size fun b hl hs => hb.block b hl
theorem MsgIs.more (h : MsgIs w S m v) (hS : ∀ b, b < w.heap.size → S b → T b) : MsgIs w T m v := ⟨h.n.more hS, h.i.more hS, h.r.more hS⟩
end
/-- What only makes memory keeps what lies there. -/
def New (w w' : World) : Prop := Tch (fun b => w.heap.size ≤ b) w w'
theorem New.refl (w : World) : New w w := Tch.refl _ _
theorem New.then {w w1 w2 : World} (h : New w w1) (k : New w1 w2) : New w w2 := Tch.trans h k fun b hb hs => by have := h.size; omega
theorem New.alloc {w w1 : World} (h : New w w1) (o : Obj) : New w (w1.alloc o) := Tch.alloc h o
theorem New.drew {w w1 : World} (h : New w w1) : New w w1.drew := Tch.drew h
theorem New.drewN {w w1 : World} (h : New w w1) (n : Nat) : New w (w1.drewN n) := Tch.drewN h n
theorem New.below {w w1 : World} (h : New w w1) : Below w.heap.size w w1 := Tch.below h fun b hb hs => by omega
theorem New.tch {w w1 : World} (h : New w w1) (S : Nat → Prop) : Tch S w w1 := Tch.more h fun b hb hs => by omega
theorem New.slk {α : Type} {enc : α → List Value} {k : Nat} {w w' : World} {S : Nat → Prop} {v : Value} {l : List α} (h : New w w') (hs : Slk enc k w S v l) : Slk enc k w' S v l := hs.since h.below
theorem New.msg {w w' : World} {S : Nat → Prop} {m : MsgA} {v : MsgV} (h : New w w') (k : MsgIs w S m v) : MsgIs w' S m v := k.since h.below
theorem New.bk {w w' : World} {g : Nat} {t : TypeId} {cs : Array Value} (h : New w w') (k : Bk w g t cs) : Bk w' g t cs := k.tch h (by have := k.lt; omega)
theorem New.cell {w w' : World} {p : Addr} {u : Value} (h : New w w') (k : w.cell? p = some u) : w'.cell? p = some u := by
  rw [← k]
  exact Tch.cell h (World.block_lt_of_cell? w _ k) (by have := World.block_lt_of_cell? w _ k; omega)
theorem new_of_eq {w w' : World} (h : w = w') : New w w' := by subst h; exact New.refl w
end Go.Proofs.Ythobffgkggfooaa
