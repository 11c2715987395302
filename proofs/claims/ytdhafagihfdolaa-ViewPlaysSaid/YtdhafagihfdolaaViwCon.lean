/-
  Views in memory; New, Forget, Join.
-/
import Derived.Test.YtdhafagihfdolaaViwMath
import Derived.Test.YtdhafagihfdolaaNodeLay
import Derived.Test.YtdhafagihfdolaaNewW
set_option linter.unusedVariables false
set_option linter.unusedSimpArgs false
set_option maxRecDepth 100000
namespace Go.Proofs.Ytdhafagihfdolaa
open Go.RowKit Go.Lib Go.Sort Go.Shelf

/-- The value of a view: its five cells. -/
def viwV (x : VA) (sa sp : Value) : Value := .agg #[.int .i64 x.self, .int .i64 x.A, sa, .int .i64 x.P, sp]
/-- The two slices read as the view's nodes. -/
structure ViwS (w : World) (x : VA) (sa sp : Value) : Prop where
  act : Slr w sa (ints x.act)
  pas : Slr w sp (ints x.pas)
  good : x.Good
theorem ViwS.seta {w : World} {x : VA} {sa sp : Value} (h : ViwS w x sa sp) : SetV w (.agg #[.int .i64 x.A, sa]) x.A x.act := ⟨sa, rfl, h.act, h.good.act⟩
theorem ViwS.setp {w : World} {x : VA} {sa sp : Value} (h : ViwS w x sa sp) : SetV w (.agg #[.int .i64 x.P, sp]) x.P x.pas := ⟨sp, rfl, h.pas, h.good.pas⟩
theorem ViwS.new {w w' : World} {x : VA} {sa sp : Value} (h : ViwS w x sa sp) (k : New w w') : ViwS w' x sa sp := ⟨h.act.below k.below, h.pas.below k.below, h.good⟩
theorem ViwS.slices {w : World} {x : VA} {sa sp : Value} (h : ViwS w x sa sp) : (∃ ao len cap, sa = .slice ao len cap) ∧ ∃ ao len cap, sp = .slice ao len cap := ⟨slr_slice h.act, slr_slice h.pas⟩
/-- A store into a block that holds no integers. -/
theorem ViwS.set {w : World} {x : VA} {sa sp : Value} (h : ViwS w x sa sp) {p : Addr} {t : TypeId} {cs : Array Value} (hp : Bk w p.block t cs) (ht : t ≠ 3) (u : Value) : ViwS (w.setCell p u) x sa sp := ⟨h.act.apart hp ht u, h.pas.apart hp ht u, h.good⟩
/-- The returned view. -/
def ViwR (x : VA) (w : World) (e : Ending) (w' : World) : Prop := ∃ sa sp, e = .returned (viwV x sa sp) ∧ ViwS w' x sa sp ∧ New w w'
def ViwRB (x : VA) (b : Bool) (w : World) (e : Ending) (w' : World) : Prop := ∃ sa sp, e = .returned (.tuple #[viwV x sa sp, .bool b]) ∧ ViwS w' x sa sp ∧ New w w'
theorem Bk.five {w : World} {g : Nat} {t : TypeId} {a b c d e : Value} (h : Bk w g t #[a, b, c, d, e]) :
    (w.cell? ⟨g, 0, none⟩ = some a ∧ w.cell? ⟨g, 1, none⟩ = some b ∧ w.cell? ⟨g, 2, none⟩ = some c ∧ w.cell? ⟨g, 3, none⟩ = some d ∧ w.cell? ⟨g, 4, none⟩ = some e) ∧
      w.frozen? ⟨g, 0, none⟩ = false ∧ w.frozen? ⟨g, 1, none⟩ = false ∧ w.frozen? ⟨g, 2, none⟩ = false ∧ w.frozen? ⟨g, 3, none⟩ = false ∧ w.frozen? ⟨g, 4, none⟩ = false :=
  ⟨⟨h.cell 0, h.cell 1, h.cell 2, h.cell 3, h.cell 4⟩, h.frozen _, h.frozen _, h.frozen _, h.frozen _, h.frozen _⟩
theorem drop_lay (most : Nat) (sv : Value) (ns : List Int) (n : Int) (w : World) (h : SetV w (.agg #[.int .i64 most, sv]) most ns) :
    Calls Try.prog 69 #[.agg #[.int .i64 most, sv], .int .i64 n] w fun e w' => ∃ ao len cap, e = .returned (.tuple #[.agg #[.int .i64 most, .slice ao len cap], .bool (ns.contains n)]) ∧ Hid (Slr w' (.slice ao len cap) (ints (outL ns n))) ∧ Hid (New w w') := by
  refine (drop_set _ most ns n w h).mono ?_
  rintro e w' ⟨v', rfl, ⟨sv2, rfl, hs, hg⟩, hb⟩
  obtain ⟨ao, len, cap, rfl⟩ := slr_slice hs
  exact ⟨ao, len, cap, rfl, hs, New.of hb⟩
theorem add_lay (most : Nat) (sv : Value) (ns : List Int) (n : Int) (w : World) (h : SetV w (.agg #[.int .i64 most, sv]) most ns) :
    Calls Try.prog 33 #[.agg #[.int .i64 most, sv], .int .i64 n] w fun e w' => ∃ ao len cap, e = .returned (.tuple #[.agg #[.int .i64 most, .slice ao len cap], .bool (addB most ns n)]) ∧ Hid (Slr w' (.slice ao len cap) (ints (addL most ns n))) ∧ Hid (New w w') := by
  refine (add_set _ most ns n w h).mono ?_
  rintro e w' ⟨v', rfl, ⟨sv2, rfl, hs, hg⟩, hb⟩
  obtain ⟨ao, len, cap, rfl⟩ := slr_slice hs
  exact ⟨ao, len, cap, rfl, hs, New.of hb⟩
theorem has_lay (most : Nat) (sv : Value) (ns : List Int) (n : Int) (w : World) (h : SetV w (.agg #[.int .i64 most, sv]) most ns) :
    Calls Try.prog 34 #[.agg #[.int .i64 most, sv], .int .i64 n] w fun e w' => e = .returned (.bool (decide (n ∈ ns))) ∧ Hid (New w w') := by
  refine (has_set _ most ns n w h).mono ?_
  rintro e w' ⟨rfl, hb⟩
  refine ⟨?_, New.of hb⟩
  congr 2
  simp
theorem full_lay (most : Nat) (sv : Value) (ns : List Int) (w : World) (h : SetV w (.agg #[.int .i64 most, sv]) most ns) :
    Calls Try.prog 54 #[.agg #[.int .i64 most, sv]] w fun e w' => e = .returned (.bool (decide (most ≤ ns.length))) ∧ Hid (New w w') := by
  refine (full_set _ most ns w h).mono ?_
  rintro e w' ⟨rfl, hb⟩
  exact ⟨rfl, New.of hb⟩
theorem len_lay (most : Nat) (sv : Value) (ns : List Int) (w : World) (h : SetV w (.agg #[.int .i64 most, sv]) most ns) :
    Calls Try.prog 28 #[.agg #[.int .i64 most, sv]] w fun e w' => e = .returned (.int .i64 ns.length) ∧ Hid (New w w') := by
  refine (len_set _ most ns w h).mono ?_
  rintro e w' ⟨rfl, hb⟩
  exact ⟨rfl, New.of hb⟩
theorem all_lay (most : Nat) (sv : Value) (ns : List Int) (w : World) (h : SetV w (.agg #[.int .i64 most, sv]) most ns) :
    Calls Try.prog 30 #[.agg #[.int .i64 most, sv]] w fun e w' => ∃ ao cap, e = .returned (.slice ao ns.length cap) ∧ Hid (Slr w' (.slice ao ns.length cap) (ints ns)) ∧ Hid (New w w') := by
  refine (all_set _ most ns w h).mono ?_
  rintro e w' ⟨ao, cap, rfl, hs, hb⟩
  exact ⟨ao, cap, rfl, hs, New.of hb.out⟩
theorem view_ne_int : (30 : TypeId) ≠ 3 := by decide
theorem not_int {w : World} {b : Nat} {t : TypeId} {cs : Array Value} (h : Bk w b t cs) (ht : t ≠ 3) : ¬ IntB w b := by
  rintro ⟨c, hc⟩
  unfold Bk at h hc
  rw [h] at hc
  injection hc with hc
  injection hc with _ h2
  exact ht h2
/-- Stores into the call's own blocks, none of integers. -/
def OT (w w1 w2 : World) : Prop := Tch (fun b => w.heap.size ≤ b ∧ ¬ IntB w1 b) w1 w2
theorem OT.new {w w1 w2 : World} (h : OT w w1 w2) (k : New w w1) : New w w2 := Tch.trans k h fun b hb hs => hs.1
theorem OT.vt {D : Option Nat} {w w1 w2 : World} (h : OT w w1 w2) (k : VT D w w1) : VT D w w2 := Tch.trans k h fun b hb hs => .inr hs.1
theorem OT.slr {w w1 w2 : World} {v : Value} {xs : List Value} (h : OT w w1 w2) (k : Slr w1 v xs) : Slr w2 v xs := k.held (Tch.size h) fun b hb hi => Tch.block h b hb fun e => e.2 hi
theorem OT.viw {w w1 w2 : World} {x : VA} {sa sp : Value} (h : OT w w1 w2) (k : ViwS w1 x sa sp) : ViwS w2 x sa sp := ⟨h.slr k.act, h.slr k.pas, k.good⟩
theorem viw_fin {w w1 w2 : World} {x : VA} {sa sp : Value} (hs : ViwS w1 x sa sp) (hn : New w w1) (ht : OT w w1 w2) : ViwS w2 x sa sp ∧ New w w2 := ⟨ht.viw hs, ht.new hn⟩
def zV : Array Value := #[.int .i64 0, .int .i64 0, .slice none 0 0, .int .i64 0, .slice none 0 0]
/-- The view's box and the result's at the start of a method. -/
theorem start2 (w : World) (cs : Array Value) (w1 : World) (h : New ((w.alloc (.cells cs 30)).alloc (.cells zV 30)) w1) :
    Bk w1 w.heap.size 30 cs ∧ Bk w1 (w.heap.size + 1) 30 zV ∧ New w w1 :=
  ⟨h.bk ((Bk.made w _ _).alloc _), h.bk (by simpa using Bk.made (w.alloc (.cells cs 30)) 30 zV), (((New.refl w).alloc _).alloc _).then h⟩
set_option maxHeartbeats 2000000 in
theorem forget_ok (x : VA) (sa sp : Value) (n : Int) (w : World) (h : ViwS w x sa sp) :
    Calls Try.prog 23 #[viwV x sa sp, .int .i64 n] w (ViwR (forgetV x n) w) := by
  obtain ⟨⟨ao, al, ac, rfl⟩, po, pl, pc, rfl⟩ := h.slices
  obtain ⟨self, A, P, act, pas⟩ := x
  have hn0 : New w ((w.alloc (.cells #[.int .i64 self, .int .i64 A, .slice ao al ac, .int .i64 P, .slice po pl pc] 30)).alloc (.cells zV 30)) := ((New.refl w).alloc _).alloc _
  have hcon := drop_lay P (.slice po pl pc) pas n _ (h.new hn0).setp
  have H := Lib.hid h
  clear h hn0
  unfold viwV
  simp only
  go_enter Try.func23, Try.ntmps23
  go_wp2_with fail
  refine hcon.mono ?_
  rintro e w1 ⟨ao1, al1, ac1, rfl, HS1, HN1⟩
  obtain ⟨k0, k1, hn1⟩ := start2 w _ w1 HN1.out
  unfold zV at k1
  obtain ⟨⟨a0, a1, a2, a3, a4⟩, a5, a6, a7, a8, a9⟩ := k0.five
  obtain ⟨⟨b0, b1, b2, b3, b4⟩, b5, b6, b7, b8, b9⟩ := k1.five
  have X0 := Lib.hid (show w.heap.size ≤ w.heap.size ∧ ¬ IntB w1 w.heap.size from ⟨Nat.le_refl _, not_int k0 view_ne_int⟩)
  have X1 := Lib.hid (show w.heap.size ≤ w.heap.size + 1 ∧ ¬ IntB w1 (w.heap.size + 1) from ⟨by omega, not_int k1 view_ne_int⟩)
  have HN := Lib.hid hn1
  clear hcon k0 k1 hn1
  go_wp2_with fail
  refine bodyPost_ret (v := viwV (forgetV ⟨self, A, P, act, pas⟩ n) (.slice ao al ac) (.slice ao1 al1 ac1)) (by simp [results, Try.results23, go_sem, b0, b1, b2, b3, b4, viwV, forgetV]) rfl ⟨_, _, rfl, ?_⟩
  refine viw_fin (w1 := w1) ⟨(H.out.new HN.out).act, HS1.out, forgetV_good H.out.good n⟩ HN.out ?_
  unfold OT
  repeat (refine Tch.setCell ?_ (fun _ => by first | exact X0.out | exact X1.out) _)
  exact Tch.refl _ _
end Go.Proofs.Ytdhafagihfdolaa
