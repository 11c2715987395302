/-
  Two rows of the call's own that lie apart, and an append of one element to one of them. They speak of no program.
-/
import Derived.Test.YthobffgkggfooaaMsgVal
import Derived.Maps.AppendAt
set_option linter.unusedVariables false
set_option linter.unusedSimpArgs false
namespace Go.Proofs.Ythobffgkggfooaa
open Go.RowKit

structure Two (w : World) (base : Nat) (eA : TypeId) (kA : Nat) (vA : Value) (nA : Nat) (xA : List Value) (eB : TypeId) (kB : Nat) (vB : Value) (nB : Nat) (xB : List Value) : Prop where
  a : w.ownsRow base eA kA vA nA xA
  b : w.ownsRow base eB kB vB nB xB
  ne : ∀ k, vA.ownBlock = some k → vB.ownBlock ≠ some k
  le : base ≤ w.heap.size
section
variable {w w' : World} {base : Nat} {eA eB : TypeId} {kA kB nA nB : Nat} {vA vB : Value} {xA xB : List Value}
theorem Two.tch (h : Two w base eA kA vA nA xA eB kB vB nB xB) {S : Nat → Prop} (hk : Tch S w w') (hS : ∀ b, base ≤ b → b < w.heap.size → ¬ S b) : Two w' base eA kA vA nA xA eB kB vB nB xB :=
  ⟨own_tch h.a hk (fun b hb => hS b (own_base h.a hb).1 (own_base h.a hb).2), own_tch h.b hk (fun b hb => hS b (own_base h.b hb).1 (own_base h.b hb).2), h.ne, Nat.le_trans h.le hk.size⟩
theorem Two.new (h : Two w base eA kA vA nA xA eB kB vB nB xB) (hk : New w w') : Two w' base eA kA vA nA xA eB kB vB nB xB := h.tch hk fun b _ hb => by omega
theorem Two.alloc (h : Two w base eA kA vA nA xA eB kB vB nB xB) (o : Obj) : Two (w.alloc o) base eA kA vA nA xA eB kB vB nB xB := h.new ((New.refl w).alloc o)
theorem Two.swap (h : Two w base eA kA vA nA xA eB kB vB nB xB) : Two w base eB kB vB nB xB eA kA vA nA xA := ⟨h.b, h.a, fun k hb ha => h.ne k ha hb, h.le⟩
theorem Two.drew (h : Two w base eA kA vA nA xA eB kB vB nB xB) : Two w.drew base eA kA vA nA xA eB kB vB nB xB := ⟨h.a, h.b, h.ne, h.le⟩
theorem Two.start (w : World) (base : Nat) (h : base ≤ w.heap.size) (eA eB : TypeId) (kA kB : Nat) : Two w base eA kA (.slice none 0 0) 0 [] eB kB (.slice none 0 0) 0 [] :=
  ⟨World.ownsRow_nil _ _ _ _, World.ownsRow_nil _ _ _ _, fun k h => by simp [Value.ownBlock] at h, h⟩
end

/-- What an append to a row leaves alone. -/
structure Grew (w w' : World) (row : Option Nat) : Prop where
  g : w.grownBy w' row
theorem Grew.bk {w w' : World} {row : Option Nat} (h : Grew w w' row) {g : Nat} {t : TypeId} {cs : Array Value} (hb : Bk w g t cs) (hr : row ≠ some g) : Bk w' g t cs := hb.tch (Tch.of_grown h.g) (fun e => hr e.symm)
theorem Grew.tch {w w' : World} {row : Option Nat} (h : Grew w w' row) : Tch (fun b => some b = row) w w' := Tch.of_grown h.g

theorem step_two {P : Program} {w : World} {ops : Array Oper} {o : Oper} {a : Act} {K : Act → World → Prop} {Q : Exit → Act → World → Prop} {E : Prop} (hgd : o.guard = none) (s x : Operand) (t : TypeId)
    (ho : o.op = .call { callee := .builtin .append, args := #[s, x], argTypes := #[t, t] })
    (base : Nat) (eA eB : TypeId) (i : TypeInfo) (z : Value) (kA kB bytes : Nat) (ht : P.underlying t = some (.slice eA)) (hi : P.info? eA = some i) (hz : i.zero = some z)
    (hsize : i.size = kA) (hby : i.bytes = bytes) (hzs : z.cells.size = kA) (hsz : 0 < kA) (vA vB : Value) (nA nB : Nat) (xA xB news : List Value) (g : Nat)
    (hs : a.eval s = vA) (hx : a.eval x = .slice (some ⟨g, 0, none⟩) 1 1) (H : Two w base eA kA vA nA xA eB kB vB nB xB) (hg : Bk w g eA news.toArray) (hl : news.length = kA) (h1 : ∀ u ∈ news, u.oneCell' = true)
    (h63 : nA + 1 ≤ maxLen) (hbytes : (nA + 1) * bytes ≤ 140737488355328)
    (h : ∀ b c w', Hid (Two w' base eA kA (.slice (some ⟨b, 0, none⟩) (nA + 1) c) (nA + 1) (xA ++ news) eB kB vB nB xB) → Hid (Grew w w' vA.ownBlock) → K (a.put o.dst (.slice (some ⟨b, 0, none⟩) (nA + 1) c)) w') :
    if Region.wanted o (yielded ops a.tmps) = true then Oper.wp P o a w K Q else E := by
  have hw : Region.wanted o (yielded ops a.tmps) = true := by simp [Region.wanted, hgd]
  rw [if_pos hw]
  obtain ⟨v', w', hr, h2, h3, h4, h5⟩ := run_append_own_at (P := P) w base t o.type eA i z kA bytes ht hi hz hsize hby hzs hsz vA nA xA H.a ⟨g, 0, none⟩ 1 1 news (by simpa using hl) (fun j u hu => by
    rw [Addr.add_lit, Nat.zero_add, hg.cell]
    simpa using hu) h1 h63 hbytes H.le
  have hnz : v' ≠ .slice none 0 0 := fun e => by have := (h4.1 e).2; omega
  have hlb : ∀ b, vB.ownBlock = some b → b < w.heap.size := fun b hb => (own_base H.b hb).2
  have h2' := h2
  obtain ⟨_, hv | ⟨b, c, cur, rfl, _⟩⟩ := h2
  · exact absurd hv.1 hnz
  · unfold Oper.wp execOp
    simp only [ho, resolve, invoke, builtin, Sem.run_bind, Sem.run_pure, Result.andThen_ok, List.map_toArray, List.map_cons, List.map_nil, hs, hx, hr]
    refine h b c w' ⟨h2', own_tch H.b (Tch.of_grown h3) (fun k hk e => H.ne k e.symm hk), fun k hk hb => ?_, Nat.le_trans H.le h3.size⟩ ⟨h3⟩
    rcases h5 with h5 | h5
    · rw [h5] at hk
      exact H.ne k hk hb
    · rw [h5] at hk
      have := hlb k hb
      simp at hk
      omega
/-- The same, of an operation outside a region that draws. -/
theorem list_two {P : Program} {w : World} {ops : Array Oper} {rest : List Oper} {o : Oper} {a : Act} {Q : Exit → Act → World → Prop} (hgd : o.guard = none) (s x : Operand) (t : TypeId)
    (ho : o.op = .call { callee := .builtin .append, args := #[s, x], argTypes := #[t, t] })
    (base : Nat) (eA eB : TypeId) (i : TypeInfo) (z : Value) (kA kB bytes : Nat) (ht : P.underlying t = some (.slice eA)) (hi : P.info? eA = some i) (hz : i.zero = some z)
    (hsize : i.size = kA) (hby : i.bytes = bytes) (hzs : z.cells.size = kA) (hsz : 0 < kA) (vA vB : Value) (nA nB : Nat) (xA xB news : List Value) (g : Nat)
    (hs : a.eval s = vA) (hx : a.eval x = .slice (some ⟨g, 0, none⟩) 1 1) (H : Two w base eA kA vA nA xA eB kB vB nB xB) (hg : Bk w g eA news.toArray) (hl : news.length = kA) (h1 : ∀ u ∈ news, u.oneCell' = true)
    (h63 : nA + 1 ≤ maxLen) (hbytes : (nA + 1) * bytes ≤ 140737488355328)
    (h : ∀ b c w', Hid (Two w' base eA kA (.slice (some ⟨b, 0, none⟩) (nA + 1) c) (nA + 1) (xA ++ news) eB kB vB nB xB) → Hid (Grew w w' vA.ownBlock) → wpList P ops Q rest (a.put o.dst (.slice (some ⟨b, 0, none⟩) (nA + 1) c)) w') : wpList P ops Q (o :: rest) a w :=
  wpList_plain hgd fun K hK => by
    have := step_two (P := P) (ops := #[]) (K := K) (Q := Q) (E := True) hgd s x t ho base eA eB i z kA kB bytes ht hi hz hsize hby hzs hsz vA vB nA nB xA xB news g hs hx H hg hl h1 h63 hbytes fun b c w' h2 h3 => hK _ _ (h b c w' h2 h3)
    rwa [if_pos (by simp [Region.wanted, hgd])] at this
end Go.Proofs.Ythobffgkggfooaa
