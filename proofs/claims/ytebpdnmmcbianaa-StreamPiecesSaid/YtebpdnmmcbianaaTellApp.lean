/-
  Rows of messages appended to rows of messages.
-/
import Derived.Test.YtebpdnmmcbianaaStrLaw
import Derived.Maps.AppendAt
set_option linter.unusedVariables false
set_option linter.unusedSimpArgs false
set_option maxRecDepth 100000
namespace Go.Proofs.Ytebpdnmmcbianaa
open Go.RowKit

def flatM (ms : List (MsgA × MsgV)) : List Value := ms.flatMap fun x => (msgC x.1 x.2).toList
theorem flatM_len (ms : List (MsgA × MsgV)) : (flatM ms).length = ms.length * 7 := flat_lengthK (enc := fun x : MsgA × MsgV => (msgC x.1 x.2).toList) (fun x => by simp [msgC]) ms
theorem MsgIs.ones {w : World} {S : Nat → Prop} {m : MsgA} {v : MsgV} (h : MsgIs w S m v) : ∀ u ∈ (msgC m v).toList, u.oneCell' = true := by
  obtain ⟨an, cn, ai, ci, ar, cr, rfl⟩ := h.shape
  exact msgC_one m an ai ar _ _ _ _ _ _
theorem ones_of {w : World} {S : Nat → Prop} {ms : List (MsgA × MsgV)} (h : ∀ x ∈ ms, MsgIs w S x.1 x.2) : ∀ u ∈ flatM ms, u.oneCell' = true := by
  intro u hu
  obtain ⟨x, hx, hu⟩ := List.mem_flatMap.1 hu
  exact (h x hx).ones u hu
/-- The row behind an append of a row. -/
theorem Told.app {w w' : World} {base : Nat} {v v' : Value} {ms ms2 : List (MsgA × MsgV)} (h : Told w base v ms) (hx : ∀ x ∈ ms2, MsgIs w (fun b => base ≤ b ∧ v.ownBlock ≠ some b ∧ b < w.heap.size) x.1 x.2)
    (ho : w'.ownsRow base 30 7 v' (ms.length + ms2.length) (flatM ms ++ flatM ms2)) (hg : w.grownBy w' v.ownBlock) (hv : v'.ownBlock = v.ownBlock ∨ v'.ownBlock = some w.heap.size) : Told w' base v' (ms ++ ms2) := by
  have t8 : Tch (fun b => some b = v.ownBlock) w w' := Tch.of_grown hg
  refine ⟨?_, ?_⟩
  · rw [List.length_append, List.flatMap_append]
    exact ho
  · intro x hx2
    have key : MsgIs w (fun b => base ≤ b ∧ v.ownBlock ≠ some b ∧ b < w.heap.size) x.1 x.2 := by
      rcases List.mem_append.1 hx2 with hx2 | hx2
      · exact (h.2 x hx2).more (fun b hb h => ⟨h.1, h.2, hb⟩)
      · exact hx x hx2
    refine (key.tch t8 (fun b h e => h.2.1 e.symm)).more (fun b _ h => ⟨h.1, fun hb => ?_⟩)
    rcases hv with h2 | h2
    · exact h.2.1 (h2.symm.trans hb)
    · rw [h2] at hb
      have := Option.some.inj hb
      have := h.2.2
      omega
theorem Told.new {w w' : World} {base : Nat} {v : Value} {ms : List (MsgA × MsgV)} (h : Told w base v ms) (k : New w w') : Told w' base v ms :=
  ⟨own_tch h.1 k (fun b hb hs => by have := (own_base h.1 hb).2; omega), fun x hx => k.msg (h.2 x hx)⟩
/-- append of one row of messages to another. -/
theorem list_app_told {w : World} {ops : Array Oper} {rest : List Oper} {o : Oper} {a : Act} {Q : Exit → Act → World → Prop} (hgd : o.guard = none) (s x : Operand)
    (ho : o.op = .call { callee := .builtin .append, args := #[s, x], argTypes := #[25, 25] })
    (base : Nat) (v : Value) (ms : List (MsgA × MsgV)) (hs : a.eval s = v) (ht : Told w base v ms) (A : Option Addr) (c : Nat) (ms2 : List (MsgA × MsgV)) (hx : a.eval x = .slice A ms2.length c)
    (hA : A = none → c = 0 ∧ ms2 = []) (hcell : ∀ ad, A = some ad → ∀ (j : Nat) (u : Value), (flatM ms2)[j]? = some u → w.cell? (ad.add j) = some u)
    (hm : ∀ x ∈ ms2, MsgIs w (fun b => base ≤ b ∧ v.ownBlock ≠ some b ∧ b < w.heap.size) x.1 x.2) (hlen : ms.length + ms2.length ≤ 1000000) (hbase : base ≤ w.heap.size)
    (h : ∀ v' w', Hid (Told w' base v' (ms ++ ms2)) → Hid (Tch (fun b => some b = v.ownBlock) w w') → wpList Try.prog ops Q rest (a.put o.dst v') w') : wpList Try.prog ops Q (o :: rest) a w := by
  obtain ⟨i0, hi0, hz0, hz1, hz2⟩ := info_parts msg_info
  have run : ∃ v' w', (Builtin.append_ #[25, 25] o.type #[v, .slice A ms2.length c]).run Try.prog w = .ok v' w' ∧ Told w' base v' (ms ++ ms2) ∧ Tch (fun b => some b = v.ownBlock) w w' := by
    rcases A with _ | ad
    · obtain ⟨rfl, rfl⟩ := hA rfl
      exact ⟨v, w, run_append_owned_none (P := Try.prog) w base 25 o.type 30 i0 7 Try.underlying25 hi0 v ms.length _ ht.1, by simpa using ht, Tch.refl _ _⟩
    · obtain ⟨v', w', hr, h2, h3, _, h5⟩ := run_append_own_at (P := Try.prog) w base 25 o.type 30 i0 (.agg zeroC) 7 104 Try.underlying25 hi0 hz0 hz1 hz2 rfl (by omega) v ms.length _ ht.1 ad ms2.length c (flatM ms2) (flatM_len ms2) (hcell ad rfl) (ones_of hm)
        (Nat.le_trans hlen (by decide)) (by omega) hbase
      exact ⟨v', w', hr, ht.app hm h2 h3 h5, Tch.of_grown h3⟩
  obtain ⟨v', w', hr, h2, h3⟩ := run
  refine wpList_plain hgd fun K hK => ?_
  unfold Oper.wp execOp
  simp only [ho, resolve, invoke, builtin, Sem.run_bind, Sem.run_pure, Result.andThen_ok, List.map_toArray, List.map_cons, List.map_nil, hs, hx, hr]
  exact hK _ _ (h v' w' (Lib.hid h2) (Lib.hid h3))
theorem sl_get {w : World} {S : Nat → Prop} {ao : Option Addr} {n cap : Nat} {xs : List Value} (h : Sl w S (.slice ao n cap) xs) (j : Nat) (hj : j < xs.length) :
    ∃ b off, ao = some ⟨b, off, none⟩ ∧ w.cell? ⟨b, off + j, none⟩ = some xs[j] := by
  obtain ⟨ao', cap', e, _, _, _, h4⟩ := h
  injection e with e1 _ _
  subst e1
  obtain ⟨b, off, e, _, _, hc⟩ := h4 (by omega)
  exact ⟨b, off, e, hc j hj⟩
/-- A row of messages as the source of an append. -/
theorem Told.src {w : World} {base : Nat} {A : Option Addr} {n c : Nat} {ms : List (MsgA × MsgV)} (h : Told w base (.slice A n c) ms) : n = ms.length ∧ (A = none → c = 0 ∧ ms = []) ∧ (∀ ad, A = some ad → ∀ (j : Nat) (u : Value), (flatM ms)[j]? = some u → w.cell? (ad.add j) = some u) := by
  have h1 : w.ownsRow base 30 7 (.slice A n c) ms.length (flatM ms) := h.1
  rcases h1.2 with ⟨e, h0⟩ | ⟨g, cap', cur, e, hgb, hg, hnc, hcm, hcs, ht⟩
  · injection e with e1 e2 e3
    subst e1 e2 e3
    exact ⟨h0.symm, fun _ => ⟨rfl, List.eq_nil_of_length_eq_zero h0⟩, fun ad e => by cases e⟩
  · injection e with e1 e2 e3
    subst e1
    refine ⟨e2, (fun e => by cases e), fun ad e j u hu => ?_⟩
    obtain rfl := Option.some.inj e
    exact h1.cells (g := g) rfl j u hu
end Go.Proofs.Ytebpdnmmcbianaa
