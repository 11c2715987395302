/-
  The law's 'both': the program's message and the document's, of the same argument.
-/
import Derived.Test.YteaeodinllpfbaaTwo
import Derived.Test.YteaeodinllpfbaaDrawn
import Derived.Test.YteaeodinllpfbaaMsgRead3
import Derived.Deep.CutBlock
import Derived.Deep.DeepCutAuto
import Derived.Deep.RegionHeld3
set_option linter.unusedVariables false
set_option linter.unusedSimpArgs false
set_option maxRecDepth 100000
namespace Go.Proofs.Yteaeodinllpfbaa
open Go.RowKit

/-- The law's message, as its argument reads. -/
structure LawA where
  kind : Int
  node : Int
  walk : Int
  high : Bool
  nodes : List Int
  ids : List RecA
  recs : List RecA
def lawC (m : LawA) (v : MsgV) : Array Value := #[.int .i64 m.kind, .int .i64 m.node, .int .i64 m.walk, .bool m.high, v.n, v.i, v.r]
structure LawIs (w : World) (S : Nat → Prop) (m : LawA) (v : MsgV) : Prop where
  n : Slk nodeC 1 w S v.n m.nodes
  i : Slk recC 6 w S v.i m.ids
  r : Slk recC 6 w S v.r m.recs
theorem LawIs.keep {w w' : World} {S : Nat → Prop} {m : LawA} {v : MsgV} (h : LawIs w S m v) (hz : w.heap.size ≤ w'.heap.size) (hk : ∀ b, b < w.heap.size → S b → w'.heap[b]? = w.heap[b]?) : LawIs w' S m v := ⟨h.n.keep hz hk, h.i.keep hz hk, h.r.keep hz hk⟩
theorem New.law {w w' : World} {S : Nat → Prop} {m : LawA} {v : MsgV} (h : New w w') (k : LawIs w S m v) : LawIs w' S m v := k.keep h.below.size fun b hb hs => h.below.block b hb
/-- What it is cut to. -/
def cutI (x : RecA) : IdA := ⟨x.id.key.take 70, x.id.ver⟩
def cutR (x : RecA) : RecA := ⟨⟨x.id.key.take 70, x.id.ver⟩, x.origin, x.age, x.gone, x.data.take 70⟩
def cutM (x : LawA) : MsgA := ⟨x.kind, x.node, x.walk, x.high, x.nodes.take 70, (x.ids.take 70).map cutI, (x.recs.take 20).map cutR⟩
def BothR (x : LawA) (w : World) (e : Ending) (w' : World) : Prop :=
  New w w' ∧ ∃ v u, e = .returned (.tuple #[.agg (msgC (cutM x) v), .agg (msgC (cutM x) u)]) ∧ MsgIs w' (fun b => w.heap.size ≤ b) (cutM x) v ∧ MsgIs w' (fun b => w.heap.size ≤ b) (cutM x) u
theorem flat_nx {α : Type} (enc : α → List Value) (l : List α) (j : Nat) (h : j < l.length) (x : α) (hx : x = l[j]) : (l.take (j + 1)).flatMap enc = (l.take j).flatMap enc ++ enc x := by
  rw [List.take_add_one, List.getElem?_eq_getElem h, ← hx]
  simp
theorem flat_nx2 {α β : Type} (enc : β → List Value) (f : α → β) (l : List α) (j : Nat) (h : j < l.length) (x : α) (hx : x = l[j]) : ((l.take (j + 1)).map f).flatMap enc = ((l.take j).map f).flatMap enc ++ enc (f x) := by
  rw [List.take_add_one, List.getElem?_eq_getElem h, ← hx]
  simp
theorem bothR_fin {x : LawA} {m : MsgA} {w z W' : World} {v u : MsgV} (hc : cutM x = m) (hn : New w z) (hk : Tch (fun b => b = w.heap.size + 1 ∨ b = w.heap.size + 1 + 1) z W') (ha : MsgIs z (fun b => w.heap.size + 1 + 1 < b) m v) (hb : MsgIs z (fun b => w.heap.size + 1 + 1 < b) m u) :
    BothR x w (.returned (.tuple #[.agg (msgC m v), .agg (msgC m u)])) W' := by
  subst hc
  exact ⟨Tch.trans hn hk (fun b hb h => by omega), v, u, rfl, (ha.tch hk (fun b hb h => by omega)).more (fun b _ h => by omega), (hb.tch hk (fun b hb h => by omega)).more (fun b _ h => by omega)⟩
theorem take_cap {α : Type} (l : List α) (j m : Nat) (hj : j ≤ l.length) (hm : j ≤ m) (h : ¬ (j < l.length ∧ j < m)) : l.take j = l.take m := by
  by_cases e : j = m
  · rw [e]
  · have : j = l.length := by omega
    rw [this, List.take_of_length_le (Nat.le_refl _), List.take_of_length_le (by omega)]
/-- What a round may turn. -/
def BT (B A : Nat) (b : Nat) : Prop := B ≤ b ∨ b = A + 1 + 1 + 1 ∨ b = A + 1 + 1 + 1 + 1
theorem bk_second (w : World) (o : Obj) (t : TypeId) (cs : Array Value) : Bk ((w.alloc o).alloc (.cells cs t)) (w.heap.size + 1) t cs := by
  have := Bk.made (w.alloc o) t cs
  simpa using this
theorem bk_two {w : World} {A B : Nat} {tA tB : TypeId} {cA cB : Array Value} (hA : Bk w A tA cA) (hB : Bk w B tB cB) (hne : A ≠ B) (i : Nat) (u v : Value) :
    Bk ((w.setCell ⟨A, i, none⟩ u).setCell ⟨B, i, none⟩ v) A tA (cA.setIfInBounds i u) ∧ Bk ((w.setCell ⟨A, i, none⟩ u).setCell ⟨B, i, none⟩ v) B tB (cB.setIfInBounds i v) :=
  ⟨(hA.store i u).other (p := ⟨B, i, none⟩) hne _, (hB.other (p := ⟨A, i, none⟩) (Ne.symm hne) _).store i v⟩
theorem own_not_bk {w : World} {base g sz : Nat} {e t : TypeId} {v : Value} {n : Nat} {xs : List Value} {cs : Array Value} (h : w.ownsRow base e sz v n xs) (hg : Bk w g t cs) (hne : e ≠ t) : v.ownBlock ≠ some g := by
  rintro hk
  rcases h.2 with ⟨rfl, _⟩ | ⟨g', cap, cur, rfl, _, hh, _⟩
  · simp [Value.ownBlock] at hk
  · simp [Value.ownBlock] at hk
    subst hk
    unfold Bk at hg
    rw [hh] at hg
    injection hg with hg
    injection hg with _ ht
    exact hne ht
theorem bk_set (w : World) (p : Addr) (u : Value) (t : TypeId) (cs : Array Value) : Bk ((w.setCell p u).alloc (.cells cs t)) w.heap.size t cs := by
  have := Bk.made (w.setCell p u) t cs
  simpa using this
theorem cell_tch {w w' : World} {S : Nat → Prop} (h : Tch S w w') {b o : Nat} {u : Value} (k : w.cell? ⟨b, o, none⟩ = some u) (hs : ¬ S b) : w'.cell? ⟨b, o, none⟩ = some u :=
  (Tch.cell h (World.block_lt_of_cell? w _ k) hs).trans k
theorem info_rid : (Try.prog.info? 74).map (fun i => (i.zero, i.size, i.bytes)) = some (some (.agg #[.string ⟨#[]⟩, .int .u64 0]), 2, 24) := by kernel_rfl
theorem info_rrec : (Try.prog.info? 75).map (fun i => (i.zero, i.size, i.bytes)) = some (some (.agg #[.string ⟨#[]⟩, .int .u64 0, .int .i64 0, .int .i64 0, .bool false, .string ⟨#[]⟩]), 6, 64) := by kernel_rfl

set_option maxHeartbeats 8000000 in
theorem both_ok (x : LawA) (v : MsgV) (S : Nat → Prop) (w : World) (h : LawIs w S x v) :
    Calls Try.prog 10 #[.agg (lawC x v)] w (BothR x w) := by
  obtain ⟨in0, hin, hnz0, hnz1, hnz2⟩ := info_parts info_int'
  obtain ⟨id0, hid0, hiz0, hiz1, hiz2⟩ := info_parts info_id'
  obtain ⟨rd0, hrd0, hrz0, hrz1, hrz2⟩ := info_parts info_rec'
  obtain ⟨jd0, hjd0, hjz0, hjz1, hjz2⟩ := info_parts info_rid
  obtain ⟨sd0, hsd0, hsz0, hsz1, hsz2⟩ := info_parts info_rrec
  obtain ⟨vn, vi, vr⟩ := v
  obtain ⟨hn, hi, hrr⟩ := h
  obtain ⟨an, cn, rfl, hn1, hn2⟩ := hn.shape
  obtain ⟨ai, ci, rfl, hi1, hi2⟩ := hi.shape
  obtain ⟨ar, cr, rfl, hr1, hr2⟩ := hrr.shape
  have hcn : cn ≤ 9223372036854775807 := Nat.le_trans hn2 (by decide)
  have hci : ci ≤ 9223372036854775807 := Nat.le_trans hi2 (by decide)
  have hcr : cr ≤ 9223372036854775807 := Nat.le_trans hr2 (by decide)
  have HNn := Lib.hid hn
  have HNi := Lib.hid hi
  have HNr := Lib.hid hrr
  obtain ⟨cx, hcx⟩ : ∃ c : Array Value, c = #[.int .i64 x.kind, .int .i64 x.node, .int .i64 x.walk, .bool x.high, .slice an x.nodes.length cn, .slice ai x.ids.length ci, .slice ar x.recs.length cr] := ⟨_, rfl⟩
  obtain ⟨c0, hc0⟩ : ∃ c : Array Value, c = #[.int .i64 x.kind, .int .i64 x.node, .int .i64 x.walk, .bool x.high, .slice none 0 0, .slice none 0 0, .slice none 0 0] := ⟨_, rfl⟩
  obtain ⟨cz, hcz⟩ : ∃ c : Array Value, c = #[.int .i64 0, .int .i64 0, .int .i64 0, .bool false, .slice none 0 0, .slice none 0 0, .slice none 0 0] := ⟨_, rfl⟩
  obtain ⟨w1, hw1⟩ : ∃ w1, w1 = ((((w.alloc (.cells cx 25)).alloc (.cells cz 30)).alloc (.cells cz 34)).alloc (.cells c0 30)).alloc (.cells c0 34) := ⟨_, rfl⟩
  have hnw : New w w1 := by rw [hw1]; exact (((((New.refl w).alloc _).alloc _).alloc _).alloc _).alloc _
  have hs1 : w1.heap.size = w.heap.size + 5 := by rw [hw1]; simp
  have bX : Bk w1 w.heap.size 25 cx := by rw [hw1]; exact ((((Bk.made w _ _).alloc _).alloc _).alloc _).alloc _
  have bA : Bk w1 (w.heap.size + 1 + 1 + 1) 30 c0 := by
    have := (Bk.made (((w.alloc (.cells cx 25)).alloc (.cells cz 30)).alloc (.cells cz 34)) 30 c0).alloc (.cells c0 34)
    rw [hw1]
    simpa using this
  have bB : Bk w1 (w.heap.size + 1 + 1 + 1 + 1) 34 c0 := by
    have := Bk.made ((((w.alloc (.cells cx 25)).alloc (.cells cz 30)).alloc (.cells cz 34)).alloc (.cells c0 30)) 34 c0
    rw [hw1]
    simpa using this
  have bRA : Bk w1 (w.heap.size + 1) 30 cz := by
    have := (((Bk.made (w.alloc (.cells cx 25)) 30 cz).alloc (.cells cz 34)).alloc (.cells c0 30)).alloc (.cells c0 34)
    rw [hw1]
    simpa using this
  have bRB : Bk w1 (w.heap.size + 1 + 1) 34 cz := by
    have := ((Bk.made ((w.alloc (.cells cx 25)).alloc (.cells cz 30)) 34 cz).alloc (.cells c0 30)).alloc (.cells c0 34)
    rw [hw1]
    simpa using this
  subst hcx hc0 hcz
  have HW1 := Lib.hid hw1
  have HNW := Lib.hid hnw
  have HX := Lib.hid bX
  have HA := Lib.hid bA
  have HB := Lib.hid bB
  have HRA := Lib.hid bRA
  have HRB := Lib.hid bRB
  have HS1 := Lib.hid hs1
  clear hw1 hnw bX bA bB bRA bRB hn hi hrr hn1 hn2 hi1 hi2 hr1 hr2 hs1
  simp only [lawC]
  go_enter Try.func10, Try.ntmps10
  go_upto_block 0 with fail
  go_cut [] (fun wc => ∃ va vb ma mb, ma = x.nodes.take 70 ∧ mb = ma.length ∧ Hid (Two wc w1.heap.size 3 1 va mb (ma.flatMap nodeC) 3 1 vb mb (ma.flatMap nodeC)) ∧ Hid (Bk wc (w.heap.size + 1 + 1 + 1) 30 #[.int .i64 x.kind, .int .i64 x.node, .int .i64 x.walk, .bool x.high, va, .slice none 0 0, .slice none 0 0]) ∧ Hid (Bk wc (w.heap.size + 1 + 1 + 1 + 1) 34 #[.int .i64 x.kind, .int .i64 x.node, .int .i64 x.walk, .bool x.high, vb, .slice none 0 0, .slice none 0 0]) ∧ Hid (Tch (fun b => b = w.heap.size + 1 + 1 + 1 ∨ b = w.heap.size + 1 + 1 + 1 + 1) w1 wc))
  case first =>
    go_wp2_with fail
    go_loopw [6] (fun vj wr => ∃ (j : Nat) (va vb : Value), vj = .int .i64 j ∧ j ≤ x.nodes.length ∧ j ≤ 70 ∧ Hid (Two wr w1.heap.size 3 1 va j ((x.nodes.take j).flatMap nodeC) 3 1 vb j ((x.nodes.take j).flatMap nodeC)) ∧ Hid (Bk wr (w.heap.size + 1 + 1 + 1) 30 #[.int .i64 x.kind, .int .i64 x.node, .int .i64 x.walk, .bool x.high, va, .slice none 0 0, .slice none 0 0]) ∧ Hid (Bk wr (w.heap.size + 1 + 1 + 1 + 1) 34 #[.int .i64 x.kind, .int .i64 x.node, .int .i64 x.walk, .bool x.high, vb, .slice none 0 0, .slice none 0 0]) ∧ Hid (Tch (fun b => b = w.heap.size + 1 + 1 + 1 ∨ b = w.heap.size + 1 + 1 + 1 + 1) w1 wr)) (fun vj _ => 70 - (intOf vj).toNat)
    case atStart => 
      have e1 := HW1.out
      have e2 := HA
      have e3 := HB
      rw [← e1]
      exact ⟨0, .slice none 0 0, .slice none 0 0, rfl, by omega, by omega, Lib.hid (Two.start _ _ (Nat.le_refl _) _ _ _ _), e2, e3, Lib.hid (Tch.refl _ _)⟩
    case round =>
      obtain ⟨j, va, vb, rfl, hj, hj70, H2, HAr, HBr, HTr⟩ := hrel
      have hXr := HX.out.tch HTr.out (by omega)
      have x4 := hXr.cell 4
      simp at x4
      have hs5 := HS1.out
      have hsr := HTr.out.size
      have cA := HAr.out.cell 4
      have cB := HBr.out.cell 4
      simp at cA cB
      by_cases hlt : j < x.nodes.length ∧ j < 70
      · obtain ⟨hlt, h70⟩ := hlt
        obtain ⟨y, hy⟩ : ∃ y, y = x.nodes[j] := ⟨_, rfl⟩
        obtain ⟨b, off, rfl, hSb, hbl, hc⟩ := HNn.out.at_ (by omega)
        have hcj := hc j hlt 0 (.int .i64 y) (by rw [← hy]; rfl)
        simp only [Nat.mul_one, Nat.add_zero] at hcj
        have KEEP : Hid (∀ z, Tch (fun b => w1.heap.size ≤ b) wr z → (fun z => z.cell? ⟨w.heap.size + 1 + 1 + 1, 4, none⟩ = some va ∧ z.cell? ⟨w.heap.size + 1 + 1 + 1 + 1, 4, none⟩ = some vb ∧ z.cell? ⟨w.heap.size, 4, none⟩ = some (.slice (some ⟨b, off, none⟩) x.nodes.length cn) ∧ z.cell? ⟨b, off + j, none⟩ = some (.int .i64 y)) z) := by
          intro z hz
          exact ⟨cell_tch hz cA (by omega), cell_tch hz cB (by omega), cell_tch hz x4 (by omega), cell_tch hz (cell_tch HTr.out (HNW.out.cell hcj) (by omega)) (by omega)⟩
        have hnx := flat_nx nodeC x.nodes j hlt y hy
        have HNX := Lib.hid hnx
        have HOL := Lib.hid (fun k hk => own_base H2.out.a (b := k) hk)
        clear hcj hy hnx hc
        go_wp2_with fail
        refine regionZ 19 (fun z => z.cell? ⟨w.heap.size + 1 + 1 + 1, 4, none⟩ = some va ∧ z.cell? ⟨w.heap.size + 1 + 1 + 1 + 1, 4, none⟩ = some vb ∧ z.cell? ⟨w.heap.size, 4, none⟩ = some (.slice (some ⟨b, off, none⟩) x.nodes.length cn) ∧ z.cell? ⟨b, off + j, none⟩ = some (.int .i64 y)) (by kernel_rfl) (KEEP.out _ (Tch.refl _ _).drew) (fun hHeld => ?_)
        refine takeZ (i := 0) (v := .pointer (some ⟨w.heap.size + 1 + 1 + 1, 4, none⟩)) (some 40) rfl rfl (by kernel_rfl) (by kernel_rfl) (by kernel_rfl) (by kernel_rfl) (by kernel_rfl) (by kernel_rfl) (by kernel_rfl) (by kernel_rfl) (fun _ _ _ h => h) (Or.inl ⟨by rfl, ?_⟩) hHeld ?_
        · (intro x hSw; (try dsimp only at hSw); go_simp)
        try simp only [Act.put, List.setIfInBounds_toArray, List.set_cons_zero, List.set_cons_succ]
        refine takeZ (i := 1) (v := va) (some 41) rfl rfl (by kernel_rfl) (by kernel_rfl) (by kernel_rfl) (by kernel_rfl) (by kernel_rfl) (by kernel_rfl) (by kernel_rfl) (by kernel_rfl) (fun _ _ _ h => h) (Or.inl ⟨by rfl, ?_⟩) hHeld ?_
        · (intro x hSw; (try dsimp only at hSw); go_simp)
        try simp only [Act.put, List.setIfInBounds_toArray, List.set_cons_zero, List.set_cons_succ]
        refine takeZ (i := 2) (v := .pointer (some ⟨w.heap.size, 4, none⟩)) (some 42) rfl rfl (by kernel_rfl) (by kernel_rfl) (by kernel_rfl) (by kernel_rfl) (by kernel_rfl) (by kernel_rfl) (by kernel_rfl) (by kernel_rfl) (fun _ _ _ h => h) (Or.inl ⟨by rfl, ?_⟩) hHeld ?_
        · (intro x hSw; (try dsimp only at hSw); go_simp)
        try simp only [Act.put, List.setIfInBounds_toArray, List.set_cons_zero, List.set_cons_succ]
        refine takeZ (i := 3) (v := .slice (some ⟨b, off, none⟩) x.nodes.length cn) (some 43) rfl rfl (by kernel_rfl) (by kernel_rfl) (by kernel_rfl) (by kernel_rfl) (by kernel_rfl) (by kernel_rfl) (by kernel_rfl) (by kernel_rfl) (fun _ _ _ h => h) (Or.inl ⟨by rfl, ?_⟩) hHeld ?_
        · (intro x hSw; (try dsimp only at hSw); go_simp)
        try simp only [Act.put, List.setIfInBounds_toArray, List.set_cons_zero, List.set_cons_succ]
        refine takeZ (i := 4) (v := .int .i64 j) (some 44) rfl rfl (by kernel_rfl) (by kernel_rfl) (by kernel_rfl) (by kernel_rfl) (by kernel_rfl) (by kernel_rfl) (by kernel_rfl) (by kernel_rfl) (fun _ _ _ h => h) (Or.inl ⟨by rfl, ?_⟩) hHeld ?_
        · (intro x hSw; (try dsimp only at hSw); go_simp)
        try simp only [Act.put, List.setIfInBounds_toArray, List.set_cons_zero, List.set_cons_succ]
        refine takeZ (i := 5) (v := .pointer (some ⟨b, off + j, none⟩)) (some 45) rfl rfl (by kernel_rfl) (by kernel_rfl) (by kernel_rfl) (by kernel_rfl) (by kernel_rfl) (by kernel_rfl) (by kernel_rfl) (by kernel_rfl) (fun _ _ _ h => h) (Or.inl ⟨by rfl, ?_⟩) hHeld ?_
        · (intro x hSw; (try dsimp only at hSw); go_simp)
        try simp only [Act.put, List.setIfInBounds_toArray, List.set_cons_zero, List.set_cons_succ]
        refine takeZ (i := 6) (v := .int .i64 y) (some 46) rfl rfl (by kernel_rfl) (by kernel_rfl) (by kernel_rfl) (by kernel_rfl) (by kernel_rfl) (by kernel_rfl) (by kernel_rfl) (by kernel_rfl) (fun _ _ _ h => h) (Or.inl ⟨by rfl, ?_⟩) hHeld ?_
        · (intro x hSw; (try dsimp only at hSw); go_simp)
        try simp only [Act.put, List.setIfInBounds_toArray, List.set_cons_zero, List.set_cons_succ]
        refine takeZ (i := 9) (v := .pointer (some ⟨w.heap.size + 1 + 1 + 1 + 1, 4, none⟩)) (some 49) rfl rfl (by kernel_rfl) (by kernel_rfl) (by kernel_rfl) (by kernel_rfl) (by kernel_rfl) (by kernel_rfl) (by kernel_rfl) (by kernel_rfl) (fun _ _ _ h => h) (Or.inl ⟨by rfl, ?_⟩) hHeld ?_
        · (intro x hSw; (try dsimp only at hSw); go_simp)
        try simp only [Act.put, List.setIfInBounds_toArray, List.set_cons_zero, List.set_cons_succ]
        refine takeZ (i := 10) (v := vb) (some 50) rfl rfl (by kernel_rfl) (by kernel_rfl) (by kernel_rfl) (by kernel_rfl) (by kernel_rfl) (by kernel_rfl) (by kernel_rfl) (by kernel_rfl) (fun _ _ _ h => h) (Or.inl ⟨by rfl, ?_⟩) hHeld ?_
        · (intro x hSw; (try dsimp only at hSw); go_simp)
        try simp only [Act.put, List.setIfInBounds_toArray, List.set_cons_zero, List.set_cons_succ]
        refine takeZ (i := 11) (v := .pointer (some ⟨w.heap.size, 4, none⟩)) (some 51) rfl rfl (by kernel_rfl) (by kernel_rfl) (by kernel_rfl) (by kernel_rfl) (by kernel_rfl) (by kernel_rfl) (by kernel_rfl) (by kernel_rfl) (fun _ _ _ h => h) (Or.inl ⟨by rfl, ?_⟩) hHeld ?_
        · (intro x hSw; (try dsimp only at hSw); go_simp)
        try simp only [Act.put, List.setIfInBounds_toArray, List.set_cons_zero, List.set_cons_succ]
        refine takeZ (i := 12) (v := .slice (some ⟨b, off, none⟩) x.nodes.length cn) (some 52) rfl rfl (by kernel_rfl) (by kernel_rfl) (by kernel_rfl) (by kernel_rfl) (by kernel_rfl) (by kernel_rfl) (by kernel_rfl) (by kernel_rfl) (fun _ _ _ h => h) (Or.inl ⟨by rfl, ?_⟩) hHeld ?_
        · (intro x hSw; (try dsimp only at hSw); go_simp)
        try simp only [Act.put, List.setIfInBounds_toArray, List.set_cons_zero, List.set_cons_succ]
        refine takeZ (i := 13) (v := .int .i64 j) (some 53) rfl rfl (by kernel_rfl) (by kernel_rfl) (by kernel_rfl) (by kernel_rfl) (by kernel_rfl) (by kernel_rfl) (by kernel_rfl) (by kernel_rfl) (fun _ _ _ h => h) (Or.inl ⟨by rfl, ?_⟩) hHeld ?_
        · (intro x hSw; (try dsimp only at hSw); go_simp)
        try simp only [Act.put, List.setIfInBounds_toArray, List.set_cons_zero, List.set_cons_succ]
        refine takeZ (i := 14) (v := .pointer (some ⟨b, off + j, none⟩)) (some 54) rfl rfl (by kernel_rfl) (by kernel_rfl) (by kernel_rfl) (by kernel_rfl) (by kernel_rfl) (by kernel_rfl) (by kernel_rfl) (by kernel_rfl) (fun _ _ _ h => h) (Or.inl ⟨by rfl, ?_⟩) hHeld ?_
        · (intro x hSw; (try dsimp only at hSw); go_simp)
        try simp only [Act.put, List.setIfInBounds_toArray, List.set_cons_zero, List.set_cons_succ]
        refine takeZ (i := 15) (v := .int .i64 y) (some 55) rfl rfl (by kernel_rfl) (by kernel_rfl) (by kernel_rfl) (by kernel_rfl) (by kernel_rfl) (by kernel_rfl) (by kernel_rfl) (by kernel_rfl) (fun _ _ _ h => h) (Or.inl ⟨by rfl, ?_⟩) hHeld ?_
        · (intro x hSw; (try dsimp only at hSw); go_simp)
        try simp only [Act.put, List.setIfInBounds_toArray, List.set_cons_zero, List.set_cons_succ]
        refine twoZ (i := 7) (j := 16) (by kernel_rfl) rfl rfl (fun K hK => ?_) (fun K hK => ?_)
        · skip
          go_simp
          refine hK.out _ _ (fun _ => KEEP.out _ ((((Tch.refl _ wr).alloc _).drew))) ?_
          clear hK K
          try simp only [Act.put, List.setIfInBounds_toArray, List.set_cons_zero, List.set_cons_succ]
          refine twoZ (i := 8) (j := 16) (by kernel_rfl) rfl rfl (fun K hK => ?_) (fun K hK => ?_)
          · skip
            refine step_two rfl (.tmp 41) (.tmp 47) 22 rfl w1.heap.size 3 3 in0 (.int .i64 0) 1 1 8 Try.underlying22 hin hnz0 hnz1 hnz2 rfl (by omega) va vb j j _ _ (nodeC y) wr.heap.size rfl rfl (by exact (H2.out.alloc _).drew) (by exact Bk.made wr _ _) rfl (by intro u hu; simp [nodeC] at hu; subst hu; rfl) (Nat.le_trans (show j + 1 ≤ 71 by omega) (by decide : 71 ≤ maxLen)) (by omega) ?_
            intro b1 q1 w3 H3 G3
            have HA3 := Lib.hid (G3.out.bk (Bk.alloc HAr.out _) (fun e => by have := (HOL.out _ e).1; have := HS1.out; omega))
            have HB3 := Lib.hid (G3.out.bk (Bk.alloc HBr.out _) (fun e => by have := (HOL.out _ e).1; have := HS1.out; omega))
            have BC : Hid (Tch (fun b => w1.heap.size ≤ b) wr w3) := Lib.hid ((((Tch.refl _ wr).alloc _ |>.drew)).then (G3.out.tch.more (fun b _ hb => (HOL.out b hb.symm).1)))
            have HOL3 := Lib.hid (fun k hk => own_base H3.out.b (b := k) hk)
            refine hK.out _ _ (fun _ => KEEP.out _ (BC.out)) ?_
            clear hK K
            try simp only [Act.put, List.setIfInBounds_toArray, List.set_cons_zero, List.set_cons_succ]
            have hHeld3 := KEEP.out _ BC.out
            refine takeZ (i := 18) (v := .pointer (some ⟨w.heap.size + 1 + 1 + 1, 4, none⟩)) (some 58) rfl rfl (by kernel_rfl) (by kernel_rfl) (by kernel_rfl) (by kernel_rfl) (by kernel_rfl) (by kernel_rfl) (by kernel_rfl) (by kernel_rfl) (fun _ _ _ h => h) (Or.inl ⟨by rfl, ?_⟩) hHeld3 ?_
            · (intro x hSw; (try dsimp only at hSw); go_simp)
            try simp only [Act.put, List.setIfInBounds_toArray, List.set_cons_zero, List.set_cons_succ]
            refine oneZ (i := 16) (by kernel_rfl) rfl (fun K hK => ?_)
            go_simp
            refine hK.out _ _ (fun _ => KEEP.out _ ((BC.out.alloc _))) ?_
            clear hK K
            try simp only [Act.put, List.setIfInBounds_toArray, List.set_cons_zero, List.set_cons_succ]
            refine oneZ (i := 17) (by kernel_rfl) rfl (fun K hK => ?_)
            refine step_two rfl (.tmp 50) (.tmp 56) 22 rfl w1.heap.size 3 3 in0 (.int .i64 0) 1 1 8 Try.underlying22 hin hnz0 hnz1 hnz2 rfl (by omega) vb _ j (j + 1) _ _ (nodeC y) w3.heap.size rfl rfl (by exact H3.out.swap.alloc _) (by exact Bk.made w3 _ _) rfl (by intro u hu; simp [nodeC] at hu; subst hu; rfl) (Nat.le_trans (show j + 1 ≤ 71 by omega) (by decide : 71 ≤ maxLen)) (by omega) ?_
            intro b2 q2 w5 H5 G5
            have HA5 := Lib.hid (G5.out.bk (Bk.alloc HA3.out _) (fun e => by have := (HOL3.out _ e).1; have := HS1.out; omega))
            have HB5 := Lib.hid (G5.out.bk (Bk.alloc HB3.out _) (fun e => by have := (HOL3.out _ e).1; have := HS1.out; omega))
            replace BC : Hid (Tch (fun b => w1.heap.size ≤ b) wr w5) := Lib.hid (((BC.out.alloc _)).then (G5.out.tch.more (fun b _ hb => (HOL3.out b hb.symm).1)))
            refine hK.out _ _ (fun _ => KEEP.out _ (BC.out)) ?_
            clear hK K
            try simp only [Act.put, List.setIfInBounds_toArray, List.set_cons_zero, List.set_cons_succ]
            have c5A := HA5.out.cell 4
            have f5A := HA5.out.frozen 4
            have c5B := HB5.out.cell 4
            have f5B := HB5.out.frozen 4
            simp at c5A c5B
            have g5 := HB5.out.lt
            refine oneZ (i := 19) (by kernel_rfl) rfl (fun K hK => ?_)
            go_simp
            refine hK.out _ _ (fun h => absurd h (by decide)) ?_
            clear hK K
            try simp only [Act.put, List.setIfInBounds_toArray, List.set_cons_zero, List.set_cons_succ]
            refine oneZ (i := 20) (by kernel_rfl) rfl (fun K hK => ?_)
            go_simp
            refine hK.out _ _ (fun h => absurd h (by decide)) ?_
            clear hK K
            try simp only [Act.put, List.setIfInBounds_toArray, List.set_cons_zero, List.set_cons_succ]
            refine oneZ (i := 21) (by kernel_rfl) rfl (fun K hK => ?_)
            go_simp
            refine hK.out _ _ (fun h => absurd h (by decide)) ?_
            clear hK K
            try simp only [Act.put, List.setIfInBounds_toArray, List.set_cons_zero, List.set_cons_succ]
            refine doneZ (by kernel_rfl) ?_ _
            refine NoPanic.normal ?_
            go_wp2_with fail
            go_roundw
            case rel =>
              refine ⟨j + 1, .slice (some ⟨b1, 0, none⟩) (j + 1) q1, .slice (some ⟨b2, 0, none⟩) (j + 1) q2, by go_num, by omega, by omega, Lib.hid ?_, Lib.hid ?_, Lib.hid ?_, Lib.hid ?_⟩
              · rw [HNX.out]
                exact H5.out.swap.tch (S := fun b => b = w.heap.size + 1 + 1 + 1 ∨ b = w.heap.size + 1 + 1 + 1 + 1) (by exact ((Tch.refl _ w5).setCell (p := ⟨w.heap.size + 1 + 1 + 1, 4, none⟩) (fun _ => .inl rfl) _).setCell (p := ⟨w.heap.size + 1 + 1 + 1 + 1, 4, none⟩) (fun _ => .inr rfl) _) (fun b h1 _ h2 => by have := HS1.out; omega)
              · have h := (bk_two HA5.out HB5.out (by omega) 4 (.slice (some ⟨b1, 0, none⟩) (j + 1) q1) (.slice (some ⟨b2, 0, none⟩) (j + 1) q2)).1
                simpa using h
              · have h := (bk_two HA5.out HB5.out (by omega) 4 (.slice (some ⟨b1, 0, none⟩) (j + 1) q1) (.slice (some ⟨b2, 0, none⟩) (j + 1) q2)).2
                simpa using h
              · exact ((Tch.trans HTr.out BC.out (fun b hb h => by omega)).setCell (p := ⟨w.heap.size + 1 + 1 + 1, 4, none⟩) (fun _ => .inl rfl) _).setCell (p := ⟨w.heap.size + 1 + 1 + 1 + 1, 4, none⟩) (fun _ => .inr rfl) _
            case measure => simp [intOf]; omega
          · skip
            go_simp
            refine hK.out _ _ (fun _ => KEEP.out _ (((((Tch.refl _ wr).alloc _).alloc _).drew))) ?_
            clear hK K
            try simp only [Act.put, List.setIfInBounds_toArray, List.set_cons_zero, List.set_cons_succ]
            refine oneZ (i := 8) (by kernel_rfl) rfl (fun K hK => ?_)
            refine step_two rfl (.tmp 41) (.tmp 47) 22 rfl w1.heap.size 3 3 in0 (.int .i64 0) 1 1 8 Try.underlying22 hin hnz0 hnz1 hnz2 rfl (by omega) va vb j j _ _ (nodeC y) wr.heap.size rfl rfl (by exact ((H2.out.alloc _).alloc _).drew) (by exact (Bk.made wr _ _).alloc _) rfl (by intro u hu; simp [nodeC] at hu; subst hu; rfl) (Nat.le_trans (show j + 1 ≤ 71 by omega) (by decide : 71 ≤ maxLen)) (by omega) ?_
            intro b1 q1 w3 H3 G3
            have HA3 := Lib.hid (G3.out.bk (Bk.alloc (Bk.alloc HAr.out _) _) (fun e => by have := (HOL.out _ e).1; have := HS1.out; omega))
            have HB3 := Lib.hid (G3.out.bk (Bk.alloc (Bk.alloc HBr.out _) _) (fun e => by have := (HOL.out _ e).1; have := HS1.out; omega))
            have HO := Lib.hid (G3.out.bk (t := 3) (cs := (nodeC y).toArray) (by exact bk_second _ _ _ _) (fun e => by have := (HOL.out _ e).2; omega))
            have BC : Hid (Tch (fun b => w1.heap.size ≤ b) wr w3) := Lib.hid (((((Tch.refl _ wr).alloc _).alloc _ |>.drew)).then (G3.out.tch.more (fun b _ hb => (HOL.out b hb.symm).1)))
            have HOL3 := Lib.hid (fun k hk => own_base H3.out.b (b := k) hk)
            refine hK.out _ _ (fun _ => KEEP.out _ (BC.out)) ?_
            clear hK K
            try simp only [Act.put, List.setIfInBounds_toArray, List.set_cons_zero, List.set_cons_succ]
            have hHeld3 := KEEP.out _ BC.out
            refine takeZ (i := 18) (v := .pointer (some ⟨w.heap.size + 1 + 1 + 1, 4, none⟩)) (some 58) rfl rfl (by kernel_rfl) (by kernel_rfl) (by kernel_rfl) (by kernel_rfl) (by kernel_rfl) (by kernel_rfl) (by kernel_rfl) (by kernel_rfl) (fun _ _ _ h => h) (Or.inl ⟨by rfl, ?_⟩) hHeld3 ?_
            · (intro x hSw; (try dsimp only at hSw); go_simp)
            try simp only [Act.put, List.setIfInBounds_toArray, List.set_cons_zero, List.set_cons_succ]
            refine oneZ (i := 17) (by kernel_rfl) rfl (fun K hK => ?_)
            refine step_two rfl (.tmp 50) (.tmp 56) 22 rfl w1.heap.size 3 3 in0 (.int .i64 0) 1 1 8 Try.underlying22 hin hnz0 hnz1 hnz2 rfl (by omega) vb _ j (j + 1) _ _ (nodeC y) (wr.heap.size + 1) rfl rfl (by exact H3.out.swap) (by exact HO.out) rfl (by intro u hu; simp [nodeC] at hu; subst hu; rfl) (Nat.le_trans (show j + 1 ≤ 71 by omega) (by decide : 71 ≤ maxLen)) (by omega) ?_
            intro b2 q2 w5 H5 G5
            have HA5 := Lib.hid (G5.out.bk (HA3.out) (fun e => by have := (HOL3.out _ e).1; have := HS1.out; omega))
            have HB5 := Lib.hid (G5.out.bk (HB3.out) (fun e => by have := (HOL3.out _ e).1; have := HS1.out; omega))
            replace BC : Hid (Tch (fun b => w1.heap.size ≤ b) wr w5) := Lib.hid (((BC.out)).then (G5.out.tch.more (fun b _ hb => (HOL3.out b hb.symm).1)))
            refine hK.out _ _ (fun _ => KEEP.out _ (BC.out)) ?_
            clear hK K
            try simp only [Act.put, List.setIfInBounds_toArray, List.set_cons_zero, List.set_cons_succ]
            have c5A := HA5.out.cell 4
            have f5A := HA5.out.frozen 4
            have c5B := HB5.out.cell 4
            have f5B := HB5.out.frozen 4
            simp at c5A c5B
            have g5 := HB5.out.lt
            refine oneZ (i := 19) (by kernel_rfl) rfl (fun K hK => ?_)
            go_simp
            refine hK.out _ _ (fun h => absurd h (by decide)) ?_
            clear hK K
            try simp only [Act.put, List.setIfInBounds_toArray, List.set_cons_zero, List.set_cons_succ]
            refine oneZ (i := 20) (by kernel_rfl) rfl (fun K hK => ?_)
            go_simp
            refine hK.out _ _ (fun h => absurd h (by decide)) ?_
            clear hK K
            try simp only [Act.put, List.setIfInBounds_toArray, List.set_cons_zero, List.set_cons_succ]
            refine oneZ (i := 21) (by kernel_rfl) rfl (fun K hK => ?_)
            go_simp
            refine hK.out _ _ (fun h => absurd h (by decide)) ?_
            clear hK K
            try simp only [Act.put, List.setIfInBounds_toArray, List.set_cons_zero, List.set_cons_succ]
            refine doneZ (by kernel_rfl) ?_ _
            refine NoPanic.normal ?_
            go_wp2_with fail
            go_roundw
            case rel =>
              refine ⟨j + 1, .slice (some ⟨b1, 0, none⟩) (j + 1) q1, .slice (some ⟨b2, 0, none⟩) (j + 1) q2, by go_num, by omega, by omega, Lib.hid ?_, Lib.hid ?_, Lib.hid ?_, Lib.hid ?_⟩
              · rw [HNX.out]
                exact H5.out.swap.tch (S := fun b => b = w.heap.size + 1 + 1 + 1 ∨ b = w.heap.size + 1 + 1 + 1 + 1) (by exact ((Tch.refl _ w5).setCell (p := ⟨w.heap.size + 1 + 1 + 1, 4, none⟩) (fun _ => .inl rfl) _).setCell (p := ⟨w.heap.size + 1 + 1 + 1 + 1, 4, none⟩) (fun _ => .inr rfl) _) (fun b h1 _ h2 => by have := HS1.out; omega)
              · have h := (bk_two HA5.out HB5.out (by omega) 4 (.slice (some ⟨b1, 0, none⟩) (j + 1) q1) (.slice (some ⟨b2, 0, none⟩) (j + 1) q2)).1
                simpa using h
              · have h := (bk_two HA5.out HB5.out (by omega) 4 (.slice (some ⟨b1, 0, none⟩) (j + 1) q1) (.slice (some ⟨b2, 0, none⟩) (j + 1) q2)).2
                simpa using h
              · exact ((Tch.trans HTr.out BC.out (fun b hb h => by omega)).setCell (p := ⟨w.heap.size + 1 + 1 + 1, 4, none⟩) (fun _ => .inl rfl) _).setCell (p := ⟨w.heap.size + 1 + 1 + 1 + 1, 4, none⟩) (fun _ => .inr rfl) _
            case measure => simp [intOf]; omega
        · skip
          go_simp
          refine hK.out _ _ (fun _ => KEEP.out _ ((((Tch.refl _ wr).alloc _).drew))) ?_
          clear hK K
          try simp only [Act.put, List.setIfInBounds_toArray, List.set_cons_zero, List.set_cons_succ]
          refine oneZ (i := 7) (by kernel_rfl) rfl (fun K hK => ?_)
          go_simp
          refine hK.out _ _ (fun _ => KEEP.out _ (((((Tch.refl _ wr).alloc _).alloc _).drew))) ?_
          clear hK K
          try simp only [Act.put, List.setIfInBounds_toArray, List.set_cons_zero, List.set_cons_succ]
          refine oneZ (i := 8) (by kernel_rfl) rfl (fun K hK => ?_)
          refine step_two rfl (.tmp 41) (.tmp 47) 22 rfl w1.heap.size 3 3 in0 (.int .i64 0) 1 1 8 Try.underlying22 hin hnz0 hnz1 hnz2 rfl (by omega) va vb j j _ _ (nodeC y) (wr.heap.size + 1) rfl rfl (by exact ((H2.out.alloc _).alloc _).drew) (by exact bk_second _ _ _ _) rfl (by intro u hu; simp [nodeC] at hu; subst hu; rfl) (Nat.le_trans (show j + 1 ≤ 71 by omega) (by decide : 71 ≤ maxLen)) (by omega) ?_
          intro b1 q1 w3 H3 G3
          have HA3 := Lib.hid (G3.out.bk (Bk.alloc (Bk.alloc HAr.out _) _) (fun e => by have := (HOL.out _ e).1; have := HS1.out; omega))
          have HB3 := Lib.hid (G3.out.bk (Bk.alloc (Bk.alloc HBr.out _) _) (fun e => by have := (HOL.out _ e).1; have := HS1.out; omega))
          have HO := Lib.hid (G3.out.bk (t := 3) (cs := (nodeC y).toArray) (by exact (Bk.made wr _ _).alloc _) (fun e => by have := (HOL.out _ e).2; omega))
          have BC : Hid (Tch (fun b => w1.heap.size ≤ b) wr w3) := Lib.hid (((((Tch.refl _ wr).alloc _).alloc _ |>.drew)).then (G3.out.tch.more (fun b _ hb => (HOL.out b hb.symm).1)))
          have HOL3 := Lib.hid (fun k hk => own_base H3.out.b (b := k) hk)
          refine hK.out _ _ (fun _ => KEEP.out _ (BC.out)) ?_
          clear hK K
          try simp only [Act.put, List.setIfInBounds_toArray, List.set_cons_zero, List.set_cons_succ]
          have hHeld3 := KEEP.out _ BC.out
          refine takeZ (i := 18) (v := .pointer (some ⟨w.heap.size + 1 + 1 + 1, 4, none⟩)) (some 58) rfl rfl (by kernel_rfl) (by kernel_rfl) (by kernel_rfl) (by kernel_rfl) (by kernel_rfl) (by kernel_rfl) (by kernel_rfl) (by kernel_rfl) (fun _ _ _ h => h) (Or.inl ⟨by rfl, ?_⟩) hHeld3 ?_
          · (intro x hSw; (try dsimp only at hSw); go_simp)
          try simp only [Act.put, List.setIfInBounds_toArray, List.set_cons_zero, List.set_cons_succ]
          refine oneZ (i := 17) (by kernel_rfl) rfl (fun K hK => ?_)
          refine step_two rfl (.tmp 50) (.tmp 56) 22 rfl w1.heap.size 3 3 in0 (.int .i64 0) 1 1 8 Try.underlying22 hin hnz0 hnz1 hnz2 rfl (by omega) vb _ j (j + 1) _ _ (nodeC y) wr.heap.size rfl rfl (by exact H3.out.swap) (by exact HO.out) rfl (by intro u hu; simp [nodeC] at hu; subst hu; rfl) (Nat.le_trans (show j + 1 ≤ 71 by omega) (by decide : 71 ≤ maxLen)) (by omega) ?_
          intro b2 q2 w5 H5 G5
          have HA5 := Lib.hid (G5.out.bk (HA3.out) (fun e => by have := (HOL3.out _ e).1; have := HS1.out; omega))
          have HB5 := Lib.hid (G5.out.bk (HB3.out) (fun e => by have := (HOL3.out _ e).1; have := HS1.out; omega))
          replace BC : Hid (Tch (fun b => w1.heap.size ≤ b) wr w5) := Lib.hid (((BC.out)).then (G5.out.tch.more (fun b _ hb => (HOL3.out b hb.symm).1)))
          refine hK.out _ _ (fun _ => KEEP.out _ (BC.out)) ?_
          clear hK K
          try simp only [Act.put, List.setIfInBounds_toArray, List.set_cons_zero, List.set_cons_succ]
          have c5A := HA5.out.cell 4
          have f5A := HA5.out.frozen 4
          have c5B := HB5.out.cell 4
          have f5B := HB5.out.frozen 4
          simp at c5A c5B
          have g5 := HB5.out.lt
          refine oneZ (i := 19) (by kernel_rfl) rfl (fun K hK => ?_)
          go_simp
          refine hK.out _ _ (fun h => absurd h (by decide)) ?_
          clear hK K
          try simp only [Act.put, List.setIfInBounds_toArray, List.set_cons_zero, List.set_cons_succ]
          refine oneZ (i := 20) (by kernel_rfl) rfl (fun K hK => ?_)
          go_simp
          refine hK.out _ _ (fun h => absurd h (by decide)) ?_
          clear hK K
          try simp only [Act.put, List.setIfInBounds_toArray, List.set_cons_zero, List.set_cons_succ]
          refine oneZ (i := 21) (by kernel_rfl) rfl (fun K hK => ?_)
          go_simp
          refine hK.out _ _ (fun h => absurd h (by decide)) ?_
          clear hK K
          try simp only [Act.put, List.setIfInBounds_toArray, List.set_cons_zero, List.set_cons_succ]
          refine doneZ (by kernel_rfl) ?_ _
          refine NoPanic.normal ?_
          go_wp2_with fail
          go_roundw
          case rel =>
            refine ⟨j + 1, .slice (some ⟨b1, 0, none⟩) (j + 1) q1, .slice (some ⟨b2, 0, none⟩) (j + 1) q2, by go_num, by omega, by omega, Lib.hid ?_, Lib.hid ?_, Lib.hid ?_, Lib.hid ?_⟩
            · rw [HNX.out]
              exact H5.out.swap.tch (S := fun b => b = w.heap.size + 1 + 1 + 1 ∨ b = w.heap.size + 1 + 1 + 1 + 1) (by exact ((Tch.refl _ w5).setCell (p := ⟨w.heap.size + 1 + 1 + 1, 4, none⟩) (fun _ => .inl rfl) _).setCell (p := ⟨w.heap.size + 1 + 1 + 1 + 1, 4, none⟩) (fun _ => .inr rfl) _) (fun b h1 _ h2 => by have := HS1.out; omega)
            · have h := (bk_two HA5.out HB5.out (by omega) 4 (.slice (some ⟨b1, 0, none⟩) (j + 1) q1) (.slice (some ⟨b2, 0, none⟩) (j + 1) q2)).1
              simpa using h
            · have h := (bk_two HA5.out HB5.out (by omega) 4 (.slice (some ⟨b1, 0, none⟩) (j + 1) q1) (.slice (some ⟨b2, 0, none⟩) (j + 1) q2)).2
              simpa using h
            · exact ((Tch.trans HTr.out BC.out (fun b hb h => by omega)).setCell (p := ⟨w.heap.size + 1 + 1 + 1, 4, none⟩) (fun _ => .inl rfl) _).setCell (p := ⟨w.heap.size + 1 + 1 + 1 + 1, 4, none⟩) (fun _ => .inr rfl) _
          case measure => simp [intOf]; omega
      · have hcap := take_cap x.nodes j 70 hj hj70 hlt
        have hlj : (x.nodes.take j).length = j := by rw [List.length_take]; omega
        have HCAP := Lib.hid hcap
        have HLJ := Lib.hid hlj
        clear hcap hlj
        by_cases hl : j < x.nodes.length
        · have h70 : ¬ (j : Int) < 70 := by omega
          clear hlt
          go_wp2_with fail
          go_meet
          exact ⟨va, vb, x.nodes.take j, j, HCAP.out, HLJ.out.symm, H2, HAr, HBr, HTr⟩
        · clear hlt
          go_wp2_with fail
          go_meet
          exact ⟨va, vb, x.nodes.take j, j, HCAP.out, HLJ.out.symm, H2, HAr, HBr, HTr⟩
  case rest =>
    obtain ⟨va1, vb1, ma, mb, hma, hmb, H21, HA1, HB1, HT1⟩ := hcut
    obtain ⟨z1, rfl⟩ : ∃ z, z = wc := ⟨_, rfl⟩
    subst hmb
    have hs5 := HS1.out
    have hz1 := HT1.out.size
    have HNA := Lib.hid (own_slk nodeC_len H21.out.a)
    have HNB := Lib.hid (own_slk nodeC_len H21.out.b)
    have HZ1 := Lib.hid (show w.heap.size + 4 < z1.heap.size by omega)
    have HMA := Lib.hid hma
    have HX1 := Lib.hid (HX.out.tch HT1.out (by omega))
    have HN1 := Lib.hid (show New w z1 from Tch.trans HNW.out HT1.out (fun b hb h => by omega))
    clear H21 hma hs5 hz1
    go_upto_block 2 with fail
    go_cut [] (fun wc => ∃ va vb ma2, ma2 = (x.ids.take 70).map cutI ∧ Hid (Two wc z1.heap.size 69 2 va ma2.length ((ma2).flatMap idC) 74 2 vb ma2.length ((ma2).flatMap idC)) ∧ Hid (Bk wc (w.heap.size + 1 + 1 + 1) 30 #[.int .i64 x.kind, .int .i64 x.node, .int .i64 x.walk, .bool x.high, va1, va, .slice none 0 0]) ∧ Hid (Bk wc (w.heap.size + 1 + 1 + 1 + 1) 34 #[.int .i64 x.kind, .int .i64 x.node, .int .i64 x.walk, .bool x.high, vb1, vb, .slice none 0 0]) ∧ Hid (Tch (fun b => b = w.heap.size + 1 + 1 + 1 ∨ b = w.heap.size + 1 + 1 + 1 + 1) z1 wc))
    case first =>
      go_wp2_with fail
      go_loopw [7] (fun vj wr => ∃ (j : Nat) (va vb : Value), vj = .int .i64 j ∧ j ≤ x.ids.length ∧ j ≤ 70 ∧ Hid (Two wr z1.heap.size 69 2 va j (((x.ids.take j).map cutI).flatMap idC) 74 2 vb j (((x.ids.take j).map cutI).flatMap idC)) ∧ Hid (Bk wr (w.heap.size + 1 + 1 + 1) 30 #[.int .i64 x.kind, .int .i64 x.node, .int .i64 x.walk, .bool x.high, va1, va, .slice none 0 0]) ∧ Hid (Bk wr (w.heap.size + 1 + 1 + 1 + 1) 34 #[.int .i64 x.kind, .int .i64 x.node, .int .i64 x.walk, .bool x.high, vb1, vb, .slice none 0 0]) ∧ Hid (Tch (fun b => b = w.heap.size + 1 + 1 + 1 ∨ b = w.heap.size + 1 + 1 + 1 + 1) z1 wr)) (fun vj _ => 70 - (intOf vj).toNat)
      case atStart => exact ⟨0, .slice none 0 0, .slice none 0 0, rfl, by omega, by omega, Lib.hid (Two.start _ _ (Nat.le_refl _) _ _ _ _), HA1, HB1, Lib.hid (Tch.refl _ _)⟩
      case round =>
        obtain ⟨j, va, vb, rfl, hj, hj70, H2, HAr, HBr, HTr⟩ := hrel
        have x5 := (HX1.out.tch HTr.out (by omega)).cell 5
        simp at x5
        have hsr := HTr.out.size
        by_cases hlt : j < x.ids.length ∧ j < 70
        · obtain ⟨hlt, h70⟩ := hlt
          obtain ⟨y, hy⟩ : ∃ y, y = x.ids[j] := ⟨_, rfl⟩
          obtain ⟨b, off, rfl, hSb, hbl, hc⟩ := HNi.out.at_ (by omega)
          have hc0 := hc j hlt 0 (.string (str y.id.key)) (by rw [← hy]; rfl)
          have hc1 := hc j hlt 1 (.int .u64 y.id.ver) (by rw [← hy]; rfl)
          simp only [Nat.add_zero] at hc0
          have y0 := cell_tch HTr.out (HN1.out.cell hc0) (by omega)
          have y1 := cell_tch HTr.out (HN1.out.cell hc1) (by omega)
          have hnx := flat_nx2 idC cutI x.ids j hlt y hy
          have HNX := Lib.hid hnx
          have HC0 := Lib.hid hc0
          have HC1 := Lib.hid hc1
          have HSZ := Lib.hid (str_size y.id.key)
          have hji : (j : Int) < (x.ids.length : Int) := by omega
          clear hnx hc0 hc1 hc hy
          go_upto_region 10 with fail
          go_cut [8] (fun vk wx => vk = .string (str (y.id.key.take 70)) ∧ Hid (Two wx z1.heap.size 69 2 va j (((x.ids.take j).map cutI).flatMap idC) 74 2 vb j (((x.ids.take j).map cutI).flatMap idC)) ∧ Hid (Bk wx (w.heap.size + 1 + 1 + 1) 30 #[.int .i64 x.kind, .int .i64 x.node, .int .i64 x.walk, .bool x.high, va1, va, .slice none 0 0]) ∧ Hid (Bk wx (w.heap.size + 1 + 1 + 1 + 1) 34 #[.int .i64 x.kind, .int .i64 x.node, .int .i64 x.walk, .bool x.high, vb1, vb, .slice none 0 0]) ∧ Hid (Tch (fun b => b = w.heap.size + 1 + 1 + 1 ∨ b = w.heap.size + 1 + 1 + 1 + 1) z1 wx))
          case first =>
            have h80 : ∀ n : Nat, (str y.id.key).extract 0 n = str (y.id.key.take n) := str_head _
            have H80 := Lib.hid h80
            clear h80
            rcases (show 70 < (str y.id.key).size ∨ (str y.id.key).size ≤ 70 by omega) with h2 | h2
            all_goals go_region
            all_goals
              go_wp2_with fail
              go_meet
              first
                | exact ⟨congrArg Value.string (H80.out 70), Lib.hid H2.out.drew, HAr, HBr, Lib.hid HTr.out.drew⟩
                | exact ⟨congrArg Value.string (congrArg str (List.take_of_length_le (by have := HSZ.out; omega)).symm), Lib.hid H2.out.drew, HAr, HBr, Lib.hid HTr.out.drew⟩
                | exact ⟨congrArg Value.string ((H80.out _).trans (congrArg str (by rw [List.take_of_length_le (by have := HSZ.out; omega), List.take_of_length_le (by have := HSZ.out; omega)]))), Lib.hid H2.out.drew, HAr, HBr, Lib.hid HTr.out.drew⟩
          case rest =>
            clear H2 HAr HBr HTr x5 y0 y1 hsr
            obtain ⟨rfl, H2, HAr, HBr, HTr⟩ := hcut
            obtain ⟨wq, rfl⟩ : ∃ z, z = wc := ⟨_, rfl⟩
            have hsr := HTr.out.size
            have hz1 := HZ1.out
            have x5 := (HX1.out.tch HTr.out (by omega)).cell 5
            have cA := HAr.out.cell 5
            have cB := HBr.out.cell 5
            simp at x5 cA cB
            have y1 := cell_tch HTr.out (HN1.out.cell HC1.out) (by omega)
            have KEEP : Hid (∀ z, Tch (fun b => z1.heap.size ≤ b) wq z → (fun z => z.cell? ⟨w.heap.size + 1 + 1 + 1, 5, none⟩ = some va ∧ z.cell? ⟨w.heap.size + 1 + 1 + 1 + 1, 5, none⟩ = some vb ∧ z.cell? ⟨w.heap.size, 5, none⟩ = some (.slice (some ⟨b, off, none⟩) x.ids.length ci) ∧ z.cell? ⟨b, off + j * 6 + 1, none⟩ = some (.int .u64 y.id.ver)) z) := by
              intro z hz
              exact ⟨cell_tch hz cA (by omega), cell_tch hz cB (by omega), cell_tch hz x5 (by omega), cell_tch hz y1 (by omega)⟩
            have HOL := Lib.hid (fun k hk => own_base H2.out.a (b := k) hk)
            go_wp2_with fail
            refine regionZ 25 (fun z => z.cell? ⟨w.heap.size + 1 + 1 + 1, 5, none⟩ = some va ∧ z.cell? ⟨w.heap.size + 1 + 1 + 1 + 1, 5, none⟩ = some vb ∧ z.cell? ⟨w.heap.size, 5, none⟩ = some (.slice (some ⟨b, off, none⟩) x.ids.length ci) ∧ z.cell? ⟨b, off + j * 6 + 1, none⟩ = some (.int .u64 y.id.ver)) (by kernel_rfl) (KEEP.out _ (Tch.refl _ _).drew) (fun hHeld => ?_)
            refine takeZ (i := 0) (v := .pointer (some ⟨w.heap.size + 1 + 1 + 1, 5, none⟩)) (some 86) rfl rfl (by kernel_rfl) (by kernel_rfl) (by kernel_rfl) (by kernel_rfl) (by kernel_rfl) (by kernel_rfl) (by kernel_rfl) (by kernel_rfl) (fun _ _ _ h => h) (Or.inl ⟨by rfl, ?_⟩) hHeld ?_
            · (intro x hSw; (try dsimp only at hSw); go_simp)
            try simp only [Act.put, List.setIfInBounds_toArray, List.set_cons_zero, List.set_cons_succ]
            refine takeZ (i := 1) (v := va) (some 87) rfl rfl (by kernel_rfl) (by kernel_rfl) (by kernel_rfl) (by kernel_rfl) (by kernel_rfl) (by kernel_rfl) (by kernel_rfl) (by kernel_rfl) (fun _ _ _ h => h) (Or.inl ⟨by rfl, ?_⟩) hHeld ?_
            · (intro x hSw; (try dsimp only at hSw); go_simp)
            try simp only [Act.put, List.setIfInBounds_toArray, List.set_cons_zero, List.set_cons_succ]
            refine takeZ (i := 2) (v := .string (str (y.id.key.take 70))) (some 88) rfl rfl (by kernel_rfl) (by kernel_rfl) (by kernel_rfl) (by kernel_rfl) (by kernel_rfl) (by kernel_rfl) (by kernel_rfl) (by kernel_rfl) (fun _ _ _ h => h) (Or.inl ⟨by rfl, ?_⟩) hHeld ?_
            · (intro x hSw; (try dsimp only at hSw); go_simp)
            try simp only [Act.put, List.setIfInBounds_toArray, List.set_cons_zero, List.set_cons_succ]
            refine takeZ (i := 3) (v := .pointer (some ⟨w.heap.size, 5, none⟩)) (some 89) rfl rfl (by kernel_rfl) (by kernel_rfl) (by kernel_rfl) (by kernel_rfl) (by kernel_rfl) (by kernel_rfl) (by kernel_rfl) (by kernel_rfl) (fun _ _ _ h => h) (Or.inl ⟨by rfl, ?_⟩) hHeld ?_
            · (intro x hSw; (try dsimp only at hSw); go_simp)
            try simp only [Act.put, List.setIfInBounds_toArray, List.set_cons_zero, List.set_cons_succ]
            refine takeZ (i := 4) (v := .slice (some ⟨b, off, none⟩) x.ids.length ci) (some 90) rfl rfl (by kernel_rfl) (by kernel_rfl) (by kernel_rfl) (by kernel_rfl) (by kernel_rfl) (by kernel_rfl) (by kernel_rfl) (by kernel_rfl) (fun _ _ _ h => h) (Or.inl ⟨by rfl, ?_⟩) hHeld ?_
            · (intro x hSw; (try dsimp only at hSw); go_simp)
            try simp only [Act.put, List.setIfInBounds_toArray, List.set_cons_zero, List.set_cons_succ]
            refine takeZ (i := 5) (v := .int .i64 j) (some 91) rfl rfl (by kernel_rfl) (by kernel_rfl) (by kernel_rfl) (by kernel_rfl) (by kernel_rfl) (by kernel_rfl) (by kernel_rfl) (by kernel_rfl) (fun _ _ _ h => h) (Or.inl ⟨by rfl, ?_⟩) hHeld ?_
            · (intro x hSw; (try dsimp only at hSw); go_simp)
            try simp only [Act.put, List.setIfInBounds_toArray, List.set_cons_zero, List.set_cons_succ]
            refine takeZ (i := 6) (v := .pointer (some ⟨b, off + j * 6, none⟩)) (some 92) rfl rfl (by kernel_rfl) (by kernel_rfl) (by kernel_rfl) (by kernel_rfl) (by kernel_rfl) (by kernel_rfl) (by kernel_rfl) (by kernel_rfl) (fun _ _ _ h => h) (Or.inl ⟨by rfl, ?_⟩) hHeld ?_
            · (intro x hSw; (try dsimp only at hSw); go_simp)
            try simp only [Act.put, List.setIfInBounds_toArray, List.set_cons_zero, List.set_cons_succ]
            refine takeZ (i := 7) (v := .pointer (some ⟨b, off + j * 6 + 1, none⟩)) (some 93) rfl rfl (by kernel_rfl) (by kernel_rfl) (by kernel_rfl) (by kernel_rfl) (by kernel_rfl) (by kernel_rfl) (by kernel_rfl) (by kernel_rfl) (fun _ _ _ h => h) (Or.inl ⟨by rfl, ?_⟩) hHeld ?_
            · (intro x hSw; (try dsimp only at hSw); go_simp)
            try simp only [Act.put, List.setIfInBounds_toArray, List.set_cons_zero, List.set_cons_succ]
            refine takeZ (i := 8) (v := .int .u64 y.id.ver) (some 94) rfl rfl (by kernel_rfl) (by kernel_rfl) (by kernel_rfl) (by kernel_rfl) (by kernel_rfl) (by kernel_rfl) (by kernel_rfl) (by kernel_rfl) (fun _ _ _ h => h) (Or.inl ⟨by rfl, ?_⟩) hHeld ?_
            · (intro x hSw; (try dsimp only at hSw); go_simp)
            try simp only [Act.put, List.setIfInBounds_toArray, List.set_cons_zero, List.set_cons_succ]
            refine takeZ (i := 9) (v := .agg #[.string (str (y.id.key.take 70)), .int .u64 y.id.ver]) (some 95) rfl rfl (by kernel_rfl) (by kernel_rfl) (by kernel_rfl) (by kernel_rfl) (by kernel_rfl) (by kernel_rfl) (by kernel_rfl) (by kernel_rfl) (fun _ _ _ h => h) (Or.inl ⟨by rfl, ?_⟩) hHeld ?_
            · (intro x hSw; (try dsimp only at hSw); go_simp)
            try simp only [Act.put, List.setIfInBounds_toArray, List.set_cons_zero, List.set_cons_succ]
            refine takeZ (i := 12) (v := .pointer (some ⟨w.heap.size + 1 + 1 + 1 + 1, 5, none⟩)) (some 98) rfl rfl (by kernel_rfl) (by kernel_rfl) (by kernel_rfl) (by kernel_rfl) (by kernel_rfl) (by kernel_rfl) (by kernel_rfl) (by kernel_rfl) (fun _ _ _ h => h) (Or.inl ⟨by rfl, ?_⟩) hHeld ?_
            · (intro x hSw; (try dsimp only at hSw); go_simp)
            try simp only [Act.put, List.setIfInBounds_toArray, List.set_cons_zero, List.set_cons_succ]
            refine takeZ (i := 13) (v := vb) (some 99) rfl rfl (by kernel_rfl) (by kernel_rfl) (by kernel_rfl) (by kernel_rfl) (by kernel_rfl) (by kernel_rfl) (by kernel_rfl) (by kernel_rfl) (fun _ _ _ h => h) (Or.inl ⟨by rfl, ?_⟩) hHeld ?_
            · (intro x hSw; (try dsimp only at hSw); go_simp)
            try simp only [Act.put, List.setIfInBounds_toArray, List.set_cons_zero, List.set_cons_succ]
            refine takeZ (i := 14) (v := .string (str (y.id.key.take 70))) (some 100) rfl rfl (by kernel_rfl) (by kernel_rfl) (by kernel_rfl) (by kernel_rfl) (by kernel_rfl) (by kernel_rfl) (by kernel_rfl) (by kernel_rfl) (fun _ _ _ h => h) (Or.inl ⟨by rfl, ?_⟩) hHeld ?_
            · (intro x hSw; (try dsimp only at hSw); go_simp)
            try simp only [Act.put, List.setIfInBounds_toArray, List.set_cons_zero, List.set_cons_succ]
            refine takeZ (i := 15) (v := .pointer (some ⟨w.heap.size, 5, none⟩)) (some 101) rfl rfl (by kernel_rfl) (by kernel_rfl) (by kernel_rfl) (by kernel_rfl) (by kernel_rfl) (by kernel_rfl) (by kernel_rfl) (by kernel_rfl) (fun _ _ _ h => h) (Or.inl ⟨by rfl, ?_⟩) hHeld ?_
            · (intro x hSw; (try dsimp only at hSw); go_simp)
            try simp only [Act.put, List.setIfInBounds_toArray, List.set_cons_zero, List.set_cons_succ]
            refine takeZ (i := 16) (v := .slice (some ⟨b, off, none⟩) x.ids.length ci) (some 102) rfl rfl (by kernel_rfl) (by kernel_rfl) (by kernel_rfl) (by kernel_rfl) (by kernel_rfl) (by kernel_rfl) (by kernel_rfl) (by kernel_rfl) (fun _ _ _ h => h) (Or.inl ⟨by rfl, ?_⟩) hHeld ?_
            · (intro x hSw; (try dsimp only at hSw); go_simp)
            try simp only [Act.put, List.setIfInBounds_toArray, List.set_cons_zero, List.set_cons_succ]
            refine takeZ (i := 17) (v := .int .i64 j) (some 103) rfl rfl (by kernel_rfl) (by kernel_rfl) (by kernel_rfl) (by kernel_rfl) (by kernel_rfl) (by kernel_rfl) (by kernel_rfl) (by kernel_rfl) (fun _ _ _ h => h) (Or.inl ⟨by rfl, ?_⟩) hHeld ?_
            · (intro x hSw; (try dsimp only at hSw); go_simp)
            try simp only [Act.put, List.setIfInBounds_toArray, List.set_cons_zero, List.set_cons_succ]
            refine takeZ (i := 18) (v := .pointer (some ⟨b, off + j * 6, none⟩)) (some 104) rfl rfl (by kernel_rfl) (by kernel_rfl) (by kernel_rfl) (by kernel_rfl) (by kernel_rfl) (by kernel_rfl) (by kernel_rfl) (by kernel_rfl) (fun _ _ _ h => h) (Or.inl ⟨by rfl, ?_⟩) hHeld ?_
            · (intro x hSw; (try dsimp only at hSw); go_simp)
            try simp only [Act.put, List.setIfInBounds_toArray, List.set_cons_zero, List.set_cons_succ]
            refine takeZ (i := 19) (v := .pointer (some ⟨b, off + j * 6 + 1, none⟩)) (some 105) rfl rfl (by kernel_rfl) (by kernel_rfl) (by kernel_rfl) (by kernel_rfl) (by kernel_rfl) (by kernel_rfl) (by kernel_rfl) (by kernel_rfl) (fun _ _ _ h => h) (Or.inl ⟨by rfl, ?_⟩) hHeld ?_
            · (intro x hSw; (try dsimp only at hSw); go_simp)
            try simp only [Act.put, List.setIfInBounds_toArray, List.set_cons_zero, List.set_cons_succ]
            refine takeZ (i := 20) (v := .int .u64 y.id.ver) (some 106) rfl rfl (by kernel_rfl) (by kernel_rfl) (by kernel_rfl) (by kernel_rfl) (by kernel_rfl) (by kernel_rfl) (by kernel_rfl) (by kernel_rfl) (fun _ _ _ h => h) (Or.inl ⟨by rfl, ?_⟩) hHeld ?_
            · (intro x hSw; (try dsimp only at hSw); go_simp)
            try simp only [Act.put, List.setIfInBounds_toArray, List.set_cons_zero, List.set_cons_succ]
            refine takeZ (i := 21) (v := .agg #[.string (str (y.id.key.take 70)), .int .u64 y.id.ver]) (some 107) rfl rfl (by kernel_rfl) (by kernel_rfl) (by kernel_rfl) (by kernel_rfl) (by kernel_rfl) (by kernel_rfl) (by kernel_rfl) (by kernel_rfl) (fun _ _ _ h => h) (Or.inl ⟨by rfl, ?_⟩) hHeld ?_
            · (intro x hSw; (try dsimp only at hSw); go_simp)
            try simp only [Act.put, List.setIfInBounds_toArray, List.set_cons_zero, List.set_cons_succ]
            refine twoZ (i := 10) (j := 22) (by kernel_rfl) rfl rfl (fun K hK => ?_) (fun K hK => ?_)
            · skip
              go_simp
              refine hK.out _ _ (fun _ => KEEP.out _ ((((Tch.refl _ wq).alloc _).drew))) ?_
              clear hK K
              try simp only [Act.put, List.setIfInBounds_toArray, List.set_cons_zero, List.set_cons_succ]
              refine twoZ (i := 11) (j := 22) (by kernel_rfl) rfl rfl (fun K hK => ?_) (fun K hK => ?_)
              · skip
                refine step_two rfl (.tmp 87) (.tmp 96) 27 rfl z1.heap.size 69 74 id0 (.agg #[.string ⟨#[]⟩, .int .u64 0]) 2 2 24 Try.underlying27 hid0 hiz0 hiz1 hiz2 rfl (by omega) va vb j j _ _ (idC (cutI y)) wq.heap.size rfl rfl (by exact (H2.out.alloc _).drew) (by exact Bk.made wq _ _) rfl (by intro u hu; simp [idC] at hu; rcases hu with rfl | rfl <;> rfl) (Nat.le_trans (show j + 1 ≤ 71 by omega) (by decide : 71 ≤ maxLen)) (by omega) ?_
                intro b1 q1 w3 H3 G3
                have HA3 := Lib.hid (G3.out.bk (Bk.alloc HAr.out _) (fun e => by have := (HOL.out _ e).1; have := HZ1.out; omega))
                have HB3 := Lib.hid (G3.out.bk (Bk.alloc HBr.out _) (fun e => by have := (HOL.out _ e).1; have := HZ1.out; omega))
                have BC : Hid (Tch (fun b => z1.heap.size ≤ b) wq w3) := Lib.hid ((((Tch.refl _ wq).alloc _ |>.drew)).then (G3.out.tch.more (fun b _ hb => (HOL.out b hb.symm).1)))
                have HOL3 := Lib.hid (fun k hk => own_base H3.out.b (b := k) hk)
                refine hK.out _ _ (fun _ => KEEP.out _ (BC.out)) ?_
                clear hK K
                try simp only [Act.put, List.setIfInBounds_toArray, List.set_cons_zero, List.set_cons_succ]
                have hHeld3 := KEEP.out _ BC.out
                refine takeZ (i := 24) (v := .pointer (some ⟨w.heap.size + 1 + 1 + 1, 5, none⟩)) (some 110) rfl rfl (by kernel_rfl) (by kernel_rfl) (by kernel_rfl) (by kernel_rfl) (by kernel_rfl) (by kernel_rfl) (by kernel_rfl) (by kernel_rfl) (fun _ _ _ h => h) (Or.inl ⟨by rfl, ?_⟩) hHeld3 ?_
                · (intro x hSw; (try dsimp only at hSw); go_simp)
                try simp only [Act.put, List.setIfInBounds_toArray, List.set_cons_zero, List.set_cons_succ]
                refine oneZ (i := 22) (by kernel_rfl) rfl (fun K hK => ?_)
                go_simp
                refine hK.out _ _ (fun _ => KEEP.out _ ((BC.out.alloc _))) ?_
                clear hK K
                try simp only [Act.put, List.setIfInBounds_toArray, List.set_cons_zero, List.set_cons_succ]
                refine oneZ (i := 23) (by kernel_rfl) rfl (fun K hK => ?_)
                refine step_two rfl (.tmp 99) (.tmp 108) 31 rfl z1.heap.size 74 69 jd0 (.agg #[.string ⟨#[]⟩, .int .u64 0]) 2 2 24 Try.underlying31 hjd0 hjz0 hjz1 hjz2 rfl (by omega) vb _ j (j + 1) _ _ (idC (cutI y)) w3.heap.size rfl rfl (by exact H3.out.swap.alloc _) (by exact Bk.made w3 _ _) rfl (by intro u hu; simp [idC] at hu; rcases hu with rfl | rfl <;> rfl) (Nat.le_trans (show j + 1 ≤ 71 by omega) (by decide : 71 ≤ maxLen)) (by omega) ?_
                intro b2 q2 w5 H5 G5
                have HA5 := Lib.hid (G5.out.bk (Bk.alloc HA3.out _) (fun e => by have := (HOL3.out _ e).1; have := HZ1.out; omega))
                have HB5 := Lib.hid (G5.out.bk (Bk.alloc HB3.out _) (fun e => by have := (HOL3.out _ e).1; have := HZ1.out; omega))
                replace BC : Hid (Tch (fun b => z1.heap.size ≤ b) wq w5) := Lib.hid (((BC.out.alloc _)).then (G5.out.tch.more (fun b _ hb => (HOL3.out b hb.symm).1)))
                refine hK.out _ _ (fun _ => KEEP.out _ (BC.out)) ?_
                clear hK K
                try simp only [Act.put, List.setIfInBounds_toArray, List.set_cons_zero, List.set_cons_succ]
                have c5A := HA5.out.cell 5
                have f5A := HA5.out.frozen 5
                have c5B := HB5.out.cell 5
                have f5B := HB5.out.frozen 5
                simp at c5A c5B
                have g5 := HB5.out.lt
                refine oneZ (i := 25) (by kernel_rfl) rfl (fun K hK => ?_)
                go_simp
                refine hK.out _ _ (fun h => absurd h (by decide)) ?_
                clear hK K
                try simp only [Act.put, List.setIfInBounds_toArray, List.set_cons_zero, List.set_cons_succ]
                refine oneZ (i := 26) (by kernel_rfl) rfl (fun K hK => ?_)
                go_simp
                refine hK.out _ _ (fun h => absurd h (by decide)) ?_
                clear hK K
                try simp only [Act.put, List.setIfInBounds_toArray, List.set_cons_zero, List.set_cons_succ]
                refine oneZ (i := 27) (by kernel_rfl) rfl (fun K hK => ?_)
                go_simp
                refine hK.out _ _ (fun h => absurd h (by decide)) ?_
                clear hK K
                try simp only [Act.put, List.setIfInBounds_toArray, List.set_cons_zero, List.set_cons_succ]
                refine doneZ (by kernel_rfl) ?_ _
                refine NoPanic.normal ?_
                go_wp2_with fail
                go_roundw
                case rel =>
                  refine ⟨j + 1, .slice (some ⟨b1, 0, none⟩) (j + 1) q1, .slice (some ⟨b2, 0, none⟩) (j + 1) q2, by go_num, by omega, by omega, Lib.hid ?_, Lib.hid ?_, Lib.hid ?_, Lib.hid ?_⟩
                  · rw [HNX.out]
                    exact H5.out.swap.tch (S := fun b => b = w.heap.size + 1 + 1 + 1 ∨ b = w.heap.size + 1 + 1 + 1 + 1) (by exact ((Tch.refl _ w5).setCell (p := ⟨w.heap.size + 1 + 1 + 1, 5, none⟩) (fun _ => .inl rfl) _).setCell (p := ⟨w.heap.size + 1 + 1 + 1 + 1, 5, none⟩) (fun _ => .inr rfl) _) (fun b h1 _ h2 => by have := HZ1.out; omega)
                  · have h := (bk_two HA5.out HB5.out (by omega) 5 (.slice (some ⟨b1, 0, none⟩) (j + 1) q1) (.slice (some ⟨b2, 0, none⟩) (j + 1) q2)).1
                    simpa using h
                  · have h := (bk_two HA5.out HB5.out (by omega) 5 (.slice (some ⟨b1, 0, none⟩) (j + 1) q1) (.slice (some ⟨b2, 0, none⟩) (j + 1) q2)).2
                    simpa using h
                  · exact ((Tch.trans HTr.out BC.out (fun b hb h => by omega)).setCell (p := ⟨w.heap.size + 1 + 1 + 1, 5, none⟩) (fun _ => .inl rfl) _).setCell (p := ⟨w.heap.size + 1 + 1 + 1 + 1, 5, none⟩) (fun _ => .inr rfl) _
                case measure => simp [intOf]; omega
              · skip
                go_simp
                refine hK.out _ _ (fun _ => KEEP.out _ (((((Tch.refl _ wq).alloc _).alloc _).drew))) ?_
                clear hK K
                try simp only [Act.put, List.setIfInBounds_toArray, List.set_cons_zero, List.set_cons_succ]
                refine oneZ (i := 11) (by kernel_rfl) rfl (fun K hK => ?_)
                refine step_two rfl (.tmp 87) (.tmp 96) 27 rfl z1.heap.size 69 74 id0 (.agg #[.string ⟨#[]⟩, .int .u64 0]) 2 2 24 Try.underlying27 hid0 hiz0 hiz1 hiz2 rfl (by omega) va vb j j _ _ (idC (cutI y)) wq.heap.size rfl rfl (by exact ((H2.out.alloc _).alloc _).drew) (by exact (Bk.made wq _ _).alloc _) rfl (by intro u hu; simp [idC] at hu; rcases hu with rfl | rfl <;> rfl) (Nat.le_trans (show j + 1 ≤ 71 by omega) (by decide : 71 ≤ maxLen)) (by omega) ?_
                intro b1 q1 w3 H3 G3
                have HA3 := Lib.hid (G3.out.bk (Bk.alloc (Bk.alloc HAr.out _) _) (fun e => by have := (HOL.out _ e).1; have := HZ1.out; omega))
                have HB3 := Lib.hid (G3.out.bk (Bk.alloc (Bk.alloc HBr.out _) _) (fun e => by have := (HOL.out _ e).1; have := HZ1.out; omega))
                have HO := Lib.hid (G3.out.bk (t := 74) (cs := (idC (cutI y)).toArray) (by exact bk_second _ _ _ _) (fun e => by have := (HOL.out _ e).2; omega))
                have BC : Hid (Tch (fun b => z1.heap.size ≤ b) wq w3) := Lib.hid (((((Tch.refl _ wq).alloc _).alloc _ |>.drew)).then (G3.out.tch.more (fun b _ hb => (HOL.out b hb.symm).1)))
                have HOL3 := Lib.hid (fun k hk => own_base H3.out.b (b := k) hk)
                refine hK.out _ _ (fun _ => KEEP.out _ (BC.out)) ?_
                clear hK K
                try simp only [Act.put, List.setIfInBounds_toArray, List.set_cons_zero, List.set_cons_succ]
                have hHeld3 := KEEP.out _ BC.out
                refine takeZ (i := 24) (v := .pointer (some ⟨w.heap.size + 1 + 1 + 1, 5, none⟩)) (some 110) rfl rfl (by kernel_rfl) (by kernel_rfl) (by kernel_rfl) (by kernel_rfl) (by kernel_rfl) (by kernel_rfl) (by kernel_rfl) (by kernel_rfl) (fun _ _ _ h => h) (Or.inl ⟨by rfl, ?_⟩) hHeld3 ?_
                · (intro x hSw; (try dsimp only at hSw); go_simp)
                try simp only [Act.put, List.setIfInBounds_toArray, List.set_cons_zero, List.set_cons_succ]
                refine oneZ (i := 23) (by kernel_rfl) rfl (fun K hK => ?_)
                refine step_two rfl (.tmp 99) (.tmp 108) 31 rfl z1.heap.size 74 69 jd0 (.agg #[.string ⟨#[]⟩, .int .u64 0]) 2 2 24 Try.underlying31 hjd0 hjz0 hjz1 hjz2 rfl (by omega) vb _ j (j + 1) _ _ (idC (cutI y)) (wq.heap.size + 1) rfl rfl (by exact H3.out.swap) (by exact HO.out) rfl (by intro u hu; simp [idC] at hu; rcases hu with rfl | rfl <;> rfl) (Nat.le_trans (show j + 1 ≤ 71 by omega) (by decide : 71 ≤ maxLen)) (by omega) ?_
                intro b2 q2 w5 H5 G5
                have HA5 := Lib.hid (G5.out.bk (HA3.out) (fun e => by have := (HOL3.out _ e).1; have := HZ1.out; omega))
                have HB5 := Lib.hid (G5.out.bk (HB3.out) (fun e => by have := (HOL3.out _ e).1; have := HZ1.out; omega))
                replace BC : Hid (Tch (fun b => z1.heap.size ≤ b) wq w5) := Lib.hid (((BC.out)).then (G5.out.tch.more (fun b _ hb => (HOL3.out b hb.symm).1)))
                refine hK.out _ _ (fun _ => KEEP.out _ (BC.out)) ?_
                clear hK K
                try simp only [Act.put, List.setIfInBounds_toArray, List.set_cons_zero, List.set_cons_succ]
                have c5A := HA5.out.cell 5
                have f5A := HA5.out.frozen 5
                have c5B := HB5.out.cell 5
                have f5B := HB5.out.frozen 5
                simp at c5A c5B
                have g5 := HB5.out.lt
                refine oneZ (i := 25) (by kernel_rfl) rfl (fun K hK => ?_)
                go_simp
                refine hK.out _ _ (fun h => absurd h (by decide)) ?_
                clear hK K
                try simp only [Act.put, List.setIfInBounds_toArray, List.set_cons_zero, List.set_cons_succ]
                refine oneZ (i := 26) (by kernel_rfl) rfl (fun K hK => ?_)
                go_simp
                refine hK.out _ _ (fun h => absurd h (by decide)) ?_
                clear hK K
                try simp only [Act.put, List.setIfInBounds_toArray, List.set_cons_zero, List.set_cons_succ]
                refine oneZ (i := 27) (by kernel_rfl) rfl (fun K hK => ?_)
                go_simp
                refine hK.out _ _ (fun h => absurd h (by decide)) ?_
                clear hK K
                try simp only [Act.put, List.setIfInBounds_toArray, List.set_cons_zero, List.set_cons_succ]
                refine doneZ (by kernel_rfl) ?_ _
                refine NoPanic.normal ?_
                go_wp2_with fail
                go_roundw
                case rel =>
                  refine ⟨j + 1, .slice (some ⟨b1, 0, none⟩) (j + 1) q1, .slice (some ⟨b2, 0, none⟩) (j + 1) q2, by go_num, by omega, by omega, Lib.hid ?_, Lib.hid ?_, Lib.hid ?_, Lib.hid ?_⟩
                  · rw [HNX.out]
                    exact H5.out.swap.tch (S := fun b => b = w.heap.size + 1 + 1 + 1 ∨ b = w.heap.size + 1 + 1 + 1 + 1) (by exact ((Tch.refl _ w5).setCell (p := ⟨w.heap.size + 1 + 1 + 1, 5, none⟩) (fun _ => .inl rfl) _).setCell (p := ⟨w.heap.size + 1 + 1 + 1 + 1, 5, none⟩) (fun _ => .inr rfl) _) (fun b h1 _ h2 => by have := HZ1.out; omega)
                  · have h := (bk_two HA5.out HB5.out (by omega) 5 (.slice (some ⟨b1, 0, none⟩) (j + 1) q1) (.slice (some ⟨b2, 0, none⟩) (j + 1) q2)).1
                    simpa using h
                  · have h := (bk_two HA5.out HB5.out (by omega) 5 (.slice (some ⟨b1, 0, none⟩) (j + 1) q1) (.slice (some ⟨b2, 0, none⟩) (j + 1) q2)).2
                    simpa using h
                  · exact ((Tch.trans HTr.out BC.out (fun b hb h => by omega)).setCell (p := ⟨w.heap.size + 1 + 1 + 1, 5, none⟩) (fun _ => .inl rfl) _).setCell (p := ⟨w.heap.size + 1 + 1 + 1 + 1, 5, none⟩) (fun _ => .inr rfl) _
                case measure => simp [intOf]; omega
            · skip
              go_simp
              refine hK.out _ _ (fun _ => KEEP.out _ ((((Tch.refl _ wq).alloc _).drew))) ?_
              clear hK K
              try simp only [Act.put, List.setIfInBounds_toArray, List.set_cons_zero, List.set_cons_succ]
              refine oneZ (i := 10) (by kernel_rfl) rfl (fun K hK => ?_)
              go_simp
              refine hK.out _ _ (fun _ => KEEP.out _ (((((Tch.refl _ wq).alloc _).alloc _).drew))) ?_
              clear hK K
              try simp only [Act.put, List.setIfInBounds_toArray, List.set_cons_zero, List.set_cons_succ]
              refine oneZ (i := 11) (by kernel_rfl) rfl (fun K hK => ?_)
              refine step_two rfl (.tmp 87) (.tmp 96) 27 rfl z1.heap.size 69 74 id0 (.agg #[.string ⟨#[]⟩, .int .u64 0]) 2 2 24 Try.underlying27 hid0 hiz0 hiz1 hiz2 rfl (by omega) va vb j j _ _ (idC (cutI y)) (wq.heap.size + 1) rfl rfl (by exact ((H2.out.alloc _).alloc _).drew) (by exact bk_second _ _ _ _) rfl (by intro u hu; simp [idC] at hu; rcases hu with rfl | rfl <;> rfl) (Nat.le_trans (show j + 1 ≤ 71 by omega) (by decide : 71 ≤ maxLen)) (by omega) ?_
              intro b1 q1 w3 H3 G3
              have HA3 := Lib.hid (G3.out.bk (Bk.alloc (Bk.alloc HAr.out _) _) (fun e => by have := (HOL.out _ e).1; have := HZ1.out; omega))
              have HB3 := Lib.hid (G3.out.bk (Bk.alloc (Bk.alloc HBr.out _) _) (fun e => by have := (HOL.out _ e).1; have := HZ1.out; omega))
              have HO := Lib.hid (G3.out.bk (t := 74) (cs := (idC (cutI y)).toArray) (by exact (Bk.made wq _ _).alloc _) (fun e => by have := (HOL.out _ e).2; omega))
              have BC : Hid (Tch (fun b => z1.heap.size ≤ b) wq w3) := Lib.hid (((((Tch.refl _ wq).alloc _).alloc _ |>.drew)).then (G3.out.tch.more (fun b _ hb => (HOL.out b hb.symm).1)))
              have HOL3 := Lib.hid (fun k hk => own_base H3.out.b (b := k) hk)
              refine hK.out _ _ (fun _ => KEEP.out _ (BC.out)) ?_
              clear hK K
              try simp only [Act.put, List.setIfInBounds_toArray, List.set_cons_zero, List.set_cons_succ]
              have hHeld3 := KEEP.out _ BC.out
              refine takeZ (i := 24) (v := .pointer (some ⟨w.heap.size + 1 + 1 + 1, 5, none⟩)) (some 110) rfl rfl (by kernel_rfl) (by kernel_rfl) (by kernel_rfl) (by kernel_rfl) (by kernel_rfl) (by kernel_rfl) (by kernel_rfl) (by kernel_rfl) (fun _ _ _ h => h) (Or.inl ⟨by rfl, ?_⟩) hHeld3 ?_
              · (intro x hSw; (try dsimp only at hSw); go_simp)
              try simp only [Act.put, List.setIfInBounds_toArray, List.set_cons_zero, List.set_cons_succ]
              refine oneZ (i := 23) (by kernel_rfl) rfl (fun K hK => ?_)
              refine step_two rfl (.tmp 99) (.tmp 108) 31 rfl z1.heap.size 74 69 jd0 (.agg #[.string ⟨#[]⟩, .int .u64 0]) 2 2 24 Try.underlying31 hjd0 hjz0 hjz1 hjz2 rfl (by omega) vb _ j (j + 1) _ _ (idC (cutI y)) wq.heap.size rfl rfl (by exact H3.out.swap) (by exact HO.out) rfl (by intro u hu; simp [idC] at hu; rcases hu with rfl | rfl <;> rfl) (Nat.le_trans (show j + 1 ≤ 71 by omega) (by decide : 71 ≤ maxLen)) (by omega) ?_
              intro b2 q2 w5 H5 G5
              have HA5 := Lib.hid (G5.out.bk (HA3.out) (fun e => by have := (HOL3.out _ e).1; have := HZ1.out; omega))
              have HB5 := Lib.hid (G5.out.bk (HB3.out) (fun e => by have := (HOL3.out _ e).1; have := HZ1.out; omega))
              replace BC : Hid (Tch (fun b => z1.heap.size ≤ b) wq w5) := Lib.hid (((BC.out)).then (G5.out.tch.more (fun b _ hb => (HOL3.out b hb.symm).1)))
              refine hK.out _ _ (fun _ => KEEP.out _ (BC.out)) ?_
              clear hK K
              try simp only [Act.put, List.setIfInBounds_toArray, List.set_cons_zero, List.set_cons_succ]
              have c5A := HA5.out.cell 5
              have f5A := HA5.out.frozen 5
              have c5B := HB5.out.cell 5
              have f5B := HB5.out.frozen 5
              simp at c5A c5B
              have g5 := HB5.out.lt
              refine oneZ (i := 25) (by kernel_rfl) rfl (fun K hK => ?_)
              go_simp
              refine hK.out _ _ (fun h => absurd h (by decide)) ?_
              clear hK K
              try simp only [Act.put, List.setIfInBounds_toArray, List.set_cons_zero, List.set_cons_succ]
              refine oneZ (i := 26) (by kernel_rfl) rfl (fun K hK => ?_)
              go_simp
              refine hK.out _ _ (fun h => absurd h (by decide)) ?_
              clear hK K
              try simp only [Act.put, List.setIfInBounds_toArray, List.set_cons_zero, List.set_cons_succ]
              refine oneZ (i := 27) (by kernel_rfl) rfl (fun K hK => ?_)
              go_simp
              refine hK.out _ _ (fun h => absurd h (by decide)) ?_
              clear hK K
              try simp only [Act.put, List.setIfInBounds_toArray, List.set_cons_zero, List.set_cons_succ]
              refine doneZ (by kernel_rfl) ?_ _
              refine NoPanic.normal ?_
              go_wp2_with fail
              go_roundw
              case rel =>
                refine ⟨j + 1, .slice (some ⟨b1, 0, none⟩) (j + 1) q1, .slice (some ⟨b2, 0, none⟩) (j + 1) q2, by go_num, by omega, by omega, Lib.hid ?_, Lib.hid ?_, Lib.hid ?_, Lib.hid ?_⟩
                · rw [HNX.out]
                  exact H5.out.swap.tch (S := fun b => b = w.heap.size + 1 + 1 + 1 ∨ b = w.heap.size + 1 + 1 + 1 + 1) (by exact ((Tch.refl _ w5).setCell (p := ⟨w.heap.size + 1 + 1 + 1, 5, none⟩) (fun _ => .inl rfl) _).setCell (p := ⟨w.heap.size + 1 + 1 + 1 + 1, 5, none⟩) (fun _ => .inr rfl) _) (fun b h1 _ h2 => by have := HZ1.out; omega)
                · have h := (bk_two HA5.out HB5.out (by omega) 5 (.slice (some ⟨b1, 0, none⟩) (j + 1) q1) (.slice (some ⟨b2, 0, none⟩) (j + 1) q2)).1
                  simpa using h
                · have h := (bk_two HA5.out HB5.out (by omega) 5 (.slice (some ⟨b1, 0, none⟩) (j + 1) q1) (.slice (some ⟨b2, 0, none⟩) (j + 1) q2)).2
                  simpa using h
                · exact ((Tch.trans HTr.out BC.out (fun b hb h => by omega)).setCell (p := ⟨w.heap.size + 1 + 1 + 1, 5, none⟩) (fun _ => .inl rfl) _).setCell (p := ⟨w.heap.size + 1 + 1 + 1 + 1, 5, none⟩) (fun _ => .inr rfl) _
              case measure => simp [intOf]; omega
        · have hcap := take_cap x.ids j 70 hj hj70 hlt
          have hlj : ((x.ids.take j).map cutI).length = j := by rw [List.length_map, List.length_take]; omega
          have HCAP := Lib.hid hcap
          have HLJ := Lib.hid hlj
          clear hcap hlj
          by_cases hl : j < x.ids.length
          · have h70 : ¬ (j : Int) < 70 := by omega
            clear hlt
            go_wp2_with fail
            go_meet
            exact ⟨va, vb, (x.ids.take j).map cutI, by rw [HCAP.out], by rw [HLJ.out]; exact H2, HAr, HBr, HTr⟩
          · clear hlt
            go_wp2_with fail
            go_meet
            exact ⟨va, vb, (x.ids.take j).map cutI, by rw [HCAP.out], by rw [HLJ.out]; exact H2, HAr, HBr, HTr⟩
    case rest =>
      obtain ⟨va2, vb2, ma2, hma2, H22, HA2, HB2, HT2⟩ := hcut
      obtain ⟨z2, rfl⟩ : ∃ z, z = wc := ⟨_, rfl⟩
      have hs5 := HS1.out
      have hz1 := HZ1.out
      have hz2 := HT2.out.size
      have hw1 := HT1.out.size
      replace HNA := Lib.hid (HNA.out.tch HT2.out (fun b hb h => by omega))
      replace HNB := Lib.hid (HNB.out.tch HT2.out (fun b hb h => by omega))
      have HIA := Lib.hid (own_slk idC_len H22.out.a)
      have HIB := Lib.hid (own_slk idC_len H22.out.b)
      have HZ2 := Lib.hid (show w.heap.size + 4 < z2.heap.size by omega)
      have HZ12 := Lib.hid (show w1.heap.size ≤ z1.heap.size ∧ z1.heap.size ≤ z2.heap.size from ⟨hw1, hz2⟩)
      have HMA2 := Lib.hid hma2
      have HX2 := Lib.hid (HX1.out.tch HT2.out (by omega))
      have HN2 := Lib.hid (show New w z2 from Tch.trans HN1.out HT2.out (fun b hb h => by omega))
      have HT12 := Lib.hid (HT1.out.then HT2.out)
      clear H22 hma2 hs5 hz1 hz2 hw1
      go_upto_block 4 with fail
      go_cut [] (fun wc => ∃ va vb ma3, ma3 = (x.recs.take 20).map cutR ∧ Hid (Two wc z2.heap.size 71 6 va ma3.length ((ma3).flatMap recC) 75 6 vb ma3.length ((ma3).flatMap recC)) ∧ Hid (Bk wc (w.heap.size + 1 + 1 + 1) 30 #[.int .i64 x.kind, .int .i64 x.node, .int .i64 x.walk, .bool x.high, va1, va2, va]) ∧ Hid (Bk wc (w.heap.size + 1 + 1 + 1 + 1) 34 #[.int .i64 x.kind, .int .i64 x.node, .int .i64 x.walk, .bool x.high, vb1, vb2, vb]) ∧ Hid (Tch (fun b => b = w.heap.size + 1 + 1 + 1 ∨ b = w.heap.size + 1 + 1 + 1 + 1) z2 wc))
      case first =>
        go_wp2_with fail
        go_loopw [9] (fun vj wr => ∃ (j : Nat) (va vb : Value), vj = .int .i64 j ∧ j ≤ x.recs.length ∧ j ≤ 20 ∧ Hid (Two wr z2.heap.size 71 6 va j (((x.recs.take j).map cutR).flatMap recC) 75 6 vb j (((x.recs.take j).map cutR).flatMap recC)) ∧ Hid (Bk wr (w.heap.size + 1 + 1 + 1) 30 #[.int .i64 x.kind, .int .i64 x.node, .int .i64 x.walk, .bool x.high, va1, va2, va]) ∧ Hid (Bk wr (w.heap.size + 1 + 1 + 1 + 1) 34 #[.int .i64 x.kind, .int .i64 x.node, .int .i64 x.walk, .bool x.high, vb1, vb2, vb]) ∧ Hid (Tch (fun b => b = w.heap.size + 1 + 1 + 1 ∨ b = w.heap.size + 1 + 1 + 1 + 1) z2 wr)) (fun vj _ => 20 - (intOf vj).toNat)
        case atStart => exact ⟨0, .slice none 0 0, .slice none 0 0, rfl, by omega, by omega, Lib.hid (Two.start _ _ (Nat.le_refl _) _ _ _ _), HA2, HB2, Lib.hid (Tch.refl _ _)⟩
        case round =>
          obtain ⟨j, va, vb, rfl, hj, hj70, H2, HAr, HBr, HTr⟩ := hrel
          have hz2 := HZ2.out
          have x6 := (HX2.out.tch HTr.out (by omega)).cell 6
          simp at x6
          have hsr := HTr.out.size
          by_cases hlt : j < x.recs.length ∧ j < 20
          · obtain ⟨hlt, h70⟩ := hlt
            obtain ⟨y, hy⟩ : ∃ y, y = x.recs[j] := ⟨_, rfl⟩
            obtain ⟨b, off, rfl, hSb, hbl, hc⟩ := HNr.out.at_ (by omega)
            have y0 := cell_tch HTr.out (HN2.out.cell (hc j hlt 0 (.string (str y.id.key)) (by rw [← hy]; rfl))) (by omega)
            have y1 := cell_tch HTr.out (HN2.out.cell (hc j hlt 1 (.int .u64 y.id.ver) (by rw [← hy]; rfl))) (by omega)
            have y2 := cell_tch HTr.out (HN2.out.cell (hc j hlt 2 (.int .i64 y.origin) (by rw [← hy]; rfl))) (by omega)
            have y3 := cell_tch HTr.out (HN2.out.cell (hc j hlt 3 (.int .i64 y.age) (by rw [← hy]; rfl))) (by omega)
            have y4 := cell_tch HTr.out (HN2.out.cell (hc j hlt 4 (.bool y.gone) (by rw [← hy]; rfl))) (by omega)
            have y5 := cell_tch HTr.out (HN2.out.cell (hc j hlt 5 (.string (str y.data)) (by rw [← hy]; rfl))) (by omega)
            simp only [Nat.add_zero] at y0
            have hnx := flat_nx2 recC cutR x.recs j hlt y hy
            have HNX := Lib.hid hnx
            have HSZ := Lib.hid (str_size y.id.key)
            have HSD := Lib.hid (str_size y.data)
            have HK80 := Lib.hid (str_head y.id.key)
            have HD80 := Lib.hid (str_head y.data)
            have hji : (j : Int) < (x.recs.length : Int) := by omega
            clear hnx hc hy
            go_upto_region 16 with fail
            go_cut [] (fun wx => Hid (Bk wx wr.heap.size 73 (recC (cutR y)).toArray) ∧ Hid (Tch (fun b => wr.heap.size ≤ b) wr wx) ∧ Hid (Two wx z2.heap.size 71 6 va j (((x.recs.take j).map cutR).flatMap recC) 75 6 vb j (((x.recs.take j).map cutR).flatMap recC)) ∧ Hid (Bk wx (w.heap.size + 1 + 1 + 1) 30 #[.int .i64 x.kind, .int .i64 x.node, .int .i64 x.walk, .bool x.high, va1, va2, va]) ∧ Hid (Bk wx (w.heap.size + 1 + 1 + 1 + 1) 34 #[.int .i64 x.kind, .int .i64 x.node, .int .i64 x.walk, .bool x.high, vb1, vb2, vb]) ∧ Hid (Tch (fun b => b = w.heap.size + 1 + 1 + 1 ∨ b = w.heap.size + 1 + 1 + 1 + 1) z2 wx))
            case first =>
              have fin : ∀ wx : World, wx = ((wr.alloc (.cells (recC (cutR y)).toArray 73)).drew) → Hid (Bk wx wr.heap.size 73 (recC (cutR y)).toArray) ∧ Hid (Tch (fun b => wr.heap.size ≤ b) wr wx) ∧ Hid (Two wx z2.heap.size 71 6 va j (((x.recs.take j).map cutR).flatMap recC) 75 6 vb j (((x.recs.take j).map cutR).flatMap recC)) ∧ Hid (Bk wx (w.heap.size + 1 + 1 + 1) 30 #[.int .i64 x.kind, .int .i64 x.node, .int .i64 x.walk, .bool x.high, va1, va2, va]) ∧ Hid (Bk wx (w.heap.size + 1 + 1 + 1 + 1) 34 #[.int .i64 x.kind, .int .i64 x.node, .int .i64 x.walk, .bool x.high, vb1, vb2, vb]) ∧ Hid (Tch (fun b => b = w.heap.size + 1 + 1 + 1 ∨ b = w.heap.size + 1 + 1 + 1 + 1) z2 wx) := by
                rintro wx rfl
                exact ⟨Bk.made wr _ _, Lib.hid ((Tch.refl _ wr).alloc _).drew, Lib.hid (H2.out.alloc _).drew, HAr.out.alloc _, HBr.out.alloc _, Lib.hid (HTr.out.alloc _).drew⟩
              have FIN := Lib.hid fin
              clear fin
              have e70 : ∀ (l : List UInt8), l.length ≤ 70 → str l = str (l.take 70) := fun l h => congrArg str (List.take_of_length_le h).symm
              have E70 := Lib.hid e70
              clear e70
              rcases (show 70 < (str y.id.key).size ∨ (str y.id.key).size ≤ 70 by omega) with h2 | h2
              all_goals rcases (show 70 < (str y.data).size ∨ (str y.data).size ≤ 70 by omega) with h3 | h3
              all_goals go_region
              all_goals
                go_wp2_with fail
                go_meet
                refine FIN.out _ ?_
                simp only [recC, cutR]
                first
                  | rw [HK80.out 70, HD80.out 70]
                  | rw [HK80.out 70, ← E70.out y.data (by have := HSD.out; omega)]
                  | rw [HD80.out 70, ← E70.out y.id.key (by have := HSZ.out; omega)]
                  | rw [← E70.out y.id.key (by have := HSZ.out; omega), ← E70.out y.data (by have := HSD.out; omega)]
            case rest =>
              clear H2 HAr HBr HTr x6 y0 y1 y2 y3 y4 y5 hsr
              obtain ⟨HY, HTq, H2, HAr, HBr, HTr⟩ := hcut
              obtain ⟨wq, rfl⟩ : ∃ z, z = wc := ⟨_, rfl⟩
              have hz2 := HZ2.out
              have hsr := HTr.out.size
              have hyl := HY.out.lt
              have yA := HAr.out.cell 6
              have yB := HBr.out.cell 6
              have d0 := HY.out.cell 0
              have d1 := HY.out.cell 1
              have d2 := HY.out.cell 2
              have d3 := HY.out.cell 3
              have d4 := HY.out.cell 4
              have d5 := HY.out.cell 5
              simp [recC, cutR] at yA yB d0 d1 d2 d3 d4 d5
              have HOL := Lib.hid (fun k hk => own_base H2.out.a (b := k) hk)
              have HYO := Lib.hid (own_not_bk H2.out.a HY.out (by decide))
              have tok1 : True := trivial
              have hwA : w.heap.size + 1 + 1 + 1 < wq.heap.size := HAr.out.lt
              have hwB : w.heap.size + 1 + 1 + 1 + 1 < wq.heap.size := HBr.out.lt
              go_wp2_with (first
                | (have _t := tok1; at_builtin; refine list_two rfl (.tmp 145) (.tmp 160) 28 rfl z2.heap.size 71 75 rd0 (.agg #[.string ⟨#[]⟩, .int .u64 0, .int .i64 0, .int .i64 0, .bool false, .string ⟨#[]⟩]) 6 6 64 Try.underlying28 hrd0 hrz0 hrz1 hrz2 rfl (by omega) va vb j j _ _ (recC (cutR y)) wq.heap.size rfl rfl (by exact H2.out.alloc _) (by exact Bk.made wq _ _) rfl (by intro u hu; simp [recC] at hu; rcases hu with rfl | rfl | rfl | rfl | rfl | rfl <;> rfl) (Nat.le_trans (show j + 1 ≤ 21 by omega) (by decide : 21 ≤ maxLen)) (by omega) ?_; intro b1 q1 w3 H3 G3; have hA3 := G3.out.bk (Bk.alloc HAr.out _) (fun e => by have := (HOL.out _ e).1; omega); have hB3 := G3.out.bk (Bk.alloc HBr.out _) (fun e => by have := (HOL.out _ e).1; omega); have hY3 := G3.out.bk (Bk.alloc HY.out _) HYO.out; have c3A := hA3.cell 6; have c3B := hB3.cell 6; have e0 := hY3.cell 0; have e1 := hY3.cell 1; have e2 := hY3.cell 2; have e3 := hY3.cell 3; have e4 := hY3.cell 4; have e5 := hY3.cell 5; simp [recC, cutR] at c3A c3B e0 e1 e2 e3 e4 e5; have f3A := hA3.frozen 6; have h3B := hB3.lt; have h3Y := hY3.lt; have HA3 := Lib.hid hA3; have HB3 := Lib.hid hB3; have HOL3 := Lib.hid (fun k hk => own_base H3.out.b (b := k) hk); clear tok1 hA3 hB3 hY3; have tok2 : True := trivial)
                | (have _t := tok2; at_builtin; refine list_two rfl (.tmp 164) (.tmp 166) 32 rfl z2.heap.size 75 71 sd0 (.agg #[.string ⟨#[]⟩, .int .u64 0, .int .i64 0, .int .i64 0, .bool false, .string ⟨#[]⟩]) 6 6 64 Try.underlying32 hsd0 hsz0 hsz1 hsz2 rfl (by omega) vb _ j (j + 1) _ _ (recC (cutR y)) w3.heap.size rfl rfl (by exact (Two.tch (S := fun b => b = w.heap.size + 1 + 1 + 1) H3.out.swap ((Tch.refl (fun b => b = w.heap.size + 1 + 1 + 1) w3).setCell (p := ⟨w.heap.size + 1 + 1 + 1, 6, none⟩) (fun _ => rfl) (.slice (some ⟨b1, 0, none⟩) (j + 1) q1)) (fun b h1 _ h2 => by omega)).alloc _) (by exact bk_set _ _ _ _ _) rfl (by intro u hu; simp [recC] at hu; rcases hu with rfl | rfl | rfl | rfl | rfl | rfl <;> rfl) (Nat.le_trans (show j + 1 ≤ 21 by omega) (by decide : 21 ≤ maxLen)) (by omega) ?_; intro b2 q2 w5 H5 G5; have hA5 := G5.out.bk (Bk.alloc (HA3.out.store 6 (.slice (some ⟨b1, 0, none⟩) (j + 1) q1)) _) (fun e => by have := (HOL3.out _ e).1; omega); have hB5 := G5.out.bk (Bk.alloc (HB3.out.other (p := ⟨w.heap.size + 1 + 1 + 1, 6, none⟩) (by simp) (.slice (some ⟨b1, 0, none⟩) (j + 1) q1)) _) (fun e => by have := (HOL3.out _ e).1; omega); have c5B := hB5.cell 6; simp at c5B; have f5B := hB5.frozen 6; have HA5 := Lib.hid hA5; have HB5 := Lib.hid hB5; clear tok2 hA5 hB5))
              go_roundw
              case rel =>
                have t1 : Tch (fun b => z2.heap.size ≤ b) wq w3 := ((Tch.refl _ wq).alloc _).then (G3.out.tch.more (fun b _ hb => (HOL.out b hb.symm).1))
                have t3 : Tch (fun b => b = w.heap.size + 1 + 1 + 1 ∨ b = w.heap.size + 1 + 1 + 1 + 1) z2 (w3.setCell ⟨w.heap.size + 1 + 1 + 1, 6, none⟩ (.slice (some ⟨b1, 0, none⟩) (j + 1) q1)) := (Tch.trans HTr.out t1 (fun b hb h => by omega)).setCell (p := ⟨w.heap.size + 1 + 1 + 1, 6, none⟩) (fun _ => .inl rfl) _
                have t5 : Tch (fun b => b = w.heap.size + 1 + 1 + 1 ∨ b = w.heap.size + 1 + 1 + 1 + 1) z2 w5 := Tch.trans (t3.alloc _) G5.out.tch (fun b hb h => by have := (HOL3.out b h.symm).1; omega)
                refine ⟨j + 1, (.slice (some ⟨b1, 0, none⟩) (j + 1) q1), (.slice (some ⟨b2, 0, none⟩) (j + 1) q2), by go_num, by omega, by omega, Lib.hid ?_, Lib.hid ?_, Lib.hid ?_, Lib.hid ?_⟩
                · rw [HNX.out]
                  exact H5.out.swap.tch (S := fun b => b = w.heap.size + 1 + 1 + 1 + 1) (by exact (Tch.refl (fun b => b = w.heap.size + 1 + 1 + 1 + 1) w5).setCell (p := ⟨w.heap.size + 1 + 1 + 1 + 1, 6, none⟩) (fun _ => rfl) _) (fun b h1 _ h2 => by omega)
                · have h := HA5.out.other (p := ⟨w.heap.size + 1 + 1 + 1 + 1, 6, none⟩) (by simp) (.slice (some ⟨b2, 0, none⟩) (j + 1) q2)
                  simpa using h
                · have h := HB5.out.store 6 (.slice (some ⟨b2, 0, none⟩) (j + 1) q2)
                  simpa using h
                · exact t5.setCell (p := ⟨w.heap.size + 1 + 1 + 1 + 1, 6, none⟩) (fun _ => .inr rfl) _
              case measure => simp [intOf]; omega
          · have hcap := take_cap x.recs j 20 hj hj70 hlt
            have hlj : ((x.recs.take j).map cutR).length = j := by rw [List.length_map, List.length_take]; omega
            have HCAP := Lib.hid hcap
            have HLJ := Lib.hid hlj
            clear hcap hlj
            by_cases hl : j < x.recs.length
            · have h70 : ¬ (j : Int) < 20 := by omega
              clear hlt
              go_wp2_with fail
              go_meet
              exact ⟨va, vb, (x.recs.take j).map cutR, by rw [HCAP.out], by rw [HLJ.out]; exact H2, HAr, HBr, HTr⟩
            · clear hlt
              go_wp2_with fail
              go_meet
              exact ⟨va, vb, (x.recs.take j).map cutR, by rw [HCAP.out], by rw [HLJ.out]; exact H2, HAr, HBr, HTr⟩
      case rest =>
        obtain ⟨va3, vb3, ma3, hma3, H23, HA3, HB3, HT3⟩ := hcut
        obtain ⟨z3, rfl⟩ : ∃ z, z = wc := ⟨_, rfl⟩
        have hs5 := HS1.out
        have hz1 := HZ12.out
        have hz2 := HZ2.out
        have hz3 := HT3.out.size
        have hna := HNA.out.tch HT3.out (fun b hb h => by omega)
        have hnb := HNB.out.tch HT3.out (fun b hb h => by omega)
        have hia := HIA.out.tch HT3.out (fun b hb h => by have := HZ1.out; omega)
        have hib := HIB.out.tch HT3.out (fun b hb h => by have := HZ1.out; omega)
        have hra := own_slk recC_len H23.out.a
        have hrb := own_slk recC_len H23.out.b
        have hTT := HT12.out.then HT3.out
        have bRA := HRA.out.tch hTT (by omega)
        have bRB := HRB.out.tch hTT (by omega)
        have HN3 := Lib.hid (show New w z3 from Tch.trans HN2.out HT3.out (fun b hb h => by omega))
        have HCUT := Lib.hid (show cutM x = ⟨x.kind, x.node, x.walk, x.high, ma, ma2, ma3⟩ by rw [HMA.out, HMA2.out, hma3]; rfl)
        clear hma3
        obtain ⟨sa1, ta1, rfl, _, _⟩ := hna.shape
        obtain ⟨sb1, tb1, rfl, _, _⟩ := hnb.shape
        obtain ⟨sa2, ta2, rfl, _, _⟩ := hia.shape
        obtain ⟨sb2, tb2, rfl, _, _⟩ := hib.shape
        obtain ⟨sa3, ta3, rfl, _, _⟩ := hra.shape
        obtain ⟨sb3, tb3, rfl, _, _⟩ := hrb.shape
        have HNa := Lib.hid hna
        have HNb := Lib.hid hnb
        have HIa := Lib.hid hia
        have HIb := Lib.hid hib
        have HRa := Lib.hid hra
        have HRb := Lib.hid hrb
        have a0 := HA3.out.cell 0
        have b0 := HB3.out.cell 0
        have r0 := bRA.cell 0
        have s0 := bRB.cell 0
        have f0 := bRA.frozen 0
        have g0 := bRB.frozen 0
        have a1 := HA3.out.cell 1
        have b1 := HB3.out.cell 1
        have r1 := bRA.cell 1
        have s1 := bRB.cell 1
        have f1 := bRA.frozen 1
        have g1 := bRB.frozen 1
        have a2 := HA3.out.cell 2
        have b2 := HB3.out.cell 2
        have r2 := bRA.cell 2
        have s2 := bRB.cell 2
        have f2 := bRA.frozen 2
        have g2 := bRB.frozen 2
        have a3 := HA3.out.cell 3
        have b3 := HB3.out.cell 3
        have r3 := bRA.cell 3
        have s3 := bRB.cell 3
        have f3 := bRA.frozen 3
        have g3 := bRB.frozen 3
        have a4 := HA3.out.cell 4
        have b4 := HB3.out.cell 4
        have r4 := bRA.cell 4
        have s4 := bRB.cell 4
        have f4 := bRA.frozen 4
        have g4 := bRB.frozen 4
        have a5 := HA3.out.cell 5
        have b5 := HB3.out.cell 5
        have r5 := bRA.cell 5
        have s5 := bRB.cell 5
        have f5 := bRA.frozen 5
        have g5 := bRB.frozen 5
        have a6 := HA3.out.cell 6
        have b6 := HB3.out.cell 6
        have r6 := bRA.cell 6
        have s6 := bRB.cell 6
        have f6 := bRA.frozen 6
        have g6 := bRB.frozen 6
        simp at a0 b0 r0 s0 a1 b1 r1 s1 a2 b2 r2 s2 a3 b3 r3 s3 a4 b4 r4 s4 a5 b5 r5 s5 a6 b6 r6 s6
        have HBRA := Lib.hid bRA
        have HBRB := Lib.hid bRB
        have HS5 := Lib.hid hs5
        have HB1 := Lib.hid hz1
        have hRAl := bRA.lt
        have hRBl := bRB.lt
        clear hna hnb hia hib hra hrb bRA bRB hTT hz1 hz2 hz3 hs5 H23
        have hh := HS5.out
        have hb := HB1.out
        have hma : MsgIs z3 (fun b => w.heap.size + 1 + 1 < b) ⟨x.kind, x.node, x.walk, x.high, ma, ma2, ma3⟩ ⟨.slice sa1 ma.length ta1, .slice sa2 ma2.length ta2, .slice sa3 ma3.length ta3⟩ := ⟨HNa.out.more (fun b _ h => by omega), HIa.out.more (fun b _ h => by have := HZ1.out; omega), HRa.out.more (fun b _ h => by have := HZ2.out; omega)⟩
        have hmb : MsgIs z3 (fun b => w.heap.size + 1 + 1 < b) ⟨x.kind, x.node, x.walk, x.high, ma, ma2, ma3⟩ ⟨.slice sb1 ma.length tb1, .slice sb2 ma2.length tb2, .slice sb3 ma3.length tb3⟩ := ⟨HNb.out.more (fun b _ h => by omega), HIb.out.more (fun b _ h => by have := HZ1.out; omega), HRb.out.more (fun b _ h => by have := HZ2.out; omega)⟩
        have HMSA := Lib.hid hma
        have HMSB := Lib.hid hmb
        clear hma hmb hh hb
        have KEEP : Hid (∀ z, Tch (fun b => b = w.heap.size + 1 ∨ b = w.heap.size + 1 + 1) z3 z → (fun z => z.cell? ⟨w.heap.size + 1 + 1 + 1, 0, none⟩ = some (.int .i64 x.kind) ∧ z.cell? ⟨w.heap.size + 1 + 1 + 1, 1, none⟩ = some (.int .i64 x.node) ∧ z.cell? ⟨w.heap.size + 1 + 1 + 1, 2, none⟩ = some (.int .i64 x.walk) ∧ z.cell? ⟨w.heap.size + 1 + 1 + 1, 3, none⟩ = some (.bool x.high) ∧ z.cell? ⟨w.heap.size + 1 + 1 + 1, 4, none⟩ = some (.slice sa1 ma.length ta1) ∧ z.cell? ⟨w.heap.size + 1 + 1 + 1, 5, none⟩ = some (.slice sa2 ma2.length ta2) ∧ z.cell? ⟨w.heap.size + 1 + 1 + 1, 6, none⟩ = some (.slice sa3 ma3.length ta3) ∧ z.cell? ⟨w.heap.size + 1 + 1 + 1 + 1, 0, none⟩ = some (.int .i64 x.kind) ∧ z.cell? ⟨w.heap.size + 1 + 1 + 1 + 1, 1, none⟩ = some (.int .i64 x.node) ∧ z.cell? ⟨w.heap.size + 1 + 1 + 1 + 1, 2, none⟩ = some (.int .i64 x.walk) ∧ z.cell? ⟨w.heap.size + 1 + 1 + 1 + 1, 3, none⟩ = some (.bool x.high) ∧ z.cell? ⟨w.heap.size + 1 + 1 + 1 + 1, 4, none⟩ = some (.slice sb1 ma.length tb1) ∧ z.cell? ⟨w.heap.size + 1 + 1 + 1 + 1, 5, none⟩ = some (.slice sb2 ma2.length tb2) ∧ z.cell? ⟨w.heap.size + 1 + 1 + 1 + 1, 6, none⟩ = some (.slice sb3 ma3.length tb3)) z) := by
          intro z hz
          exact ⟨cell_tch hz a0 (by omega), cell_tch hz a1 (by omega), cell_tch hz a2 (by omega), cell_tch hz a3 (by omega), cell_tch hz a4 (by omega), cell_tch hz a5 (by omega), cell_tch hz a6 (by omega), cell_tch hz b0 (by omega), cell_tch hz b1 (by omega), cell_tch hz b2 (by omega), cell_tch hz b3 (by omega), cell_tch hz b4 (by omega), cell_tch hz b5 (by omega), cell_tch hz b6 (by omega)⟩
        go_wp2_with fail
        refine regionZ 3 (fun z => z.cell? ⟨w.heap.size + 1 + 1 + 1, 0, none⟩ = some (.int .i64 x.kind) ∧ z.cell? ⟨w.heap.size + 1 + 1 + 1, 1, none⟩ = some (.int .i64 x.node) ∧ z.cell? ⟨w.heap.size + 1 + 1 + 1, 2, none⟩ = some (.int .i64 x.walk) ∧ z.cell? ⟨w.heap.size + 1 + 1 + 1, 3, none⟩ = some (.bool x.high) ∧ z.cell? ⟨w.heap.size + 1 + 1 + 1, 4, none⟩ = some (.slice sa1 ma.length ta1) ∧ z.cell? ⟨w.heap.size + 1 + 1 + 1, 5, none⟩ = some (.slice sa2 ma2.length ta2) ∧ z.cell? ⟨w.heap.size + 1 + 1 + 1, 6, none⟩ = some (.slice sa3 ma3.length ta3) ∧ z.cell? ⟨w.heap.size + 1 + 1 + 1 + 1, 0, none⟩ = some (.int .i64 x.kind) ∧ z.cell? ⟨w.heap.size + 1 + 1 + 1 + 1, 1, none⟩ = some (.int .i64 x.node) ∧ z.cell? ⟨w.heap.size + 1 + 1 + 1 + 1, 2, none⟩ = some (.int .i64 x.walk) ∧ z.cell? ⟨w.heap.size + 1 + 1 + 1 + 1, 3, none⟩ = some (.bool x.high) ∧ z.cell? ⟨w.heap.size + 1 + 1 + 1 + 1, 4, none⟩ = some (.slice sb1 ma.length tb1) ∧ z.cell? ⟨w.heap.size + 1 + 1 + 1 + 1, 5, none⟩ = some (.slice sb2 ma2.length tb2) ∧ z.cell? ⟨w.heap.size + 1 + 1 + 1 + 1, 6, none⟩ = some (.slice sb3 ma3.length tb3)) (by kernel_rfl) (KEEP.out _ (Tch.refl _ _).drew) (fun hHeld => ?_)
        refine takeZ (i := 0) (v := .agg #[.int .i64 x.kind, .int .i64 x.node, .int .i64 x.walk, .bool x.high, .slice sa1 ma.length ta1, .slice sa2 ma2.length ta2, .slice sa3 ma3.length ta3]) (some 169) rfl rfl (by kernel_rfl) (by kernel_rfl) (by kernel_rfl) (by kernel_rfl) (by kernel_rfl) (by kernel_rfl) (by kernel_rfl) (by kernel_rfl) (fun _ _ _ h => h) (Or.inl ⟨by rfl, ?_⟩) hHeld ?_
        · (intro x hSw; (try dsimp only at hSw); go_simp)
        try simp only [Act.put, List.setIfInBounds_toArray, List.set_cons_zero, List.set_cons_succ]
        refine takeZ (i := 1) (v := .agg #[.int .i64 x.kind, .int .i64 x.node, .int .i64 x.walk, .bool x.high, .slice sb1 ma.length tb1, .slice sb2 ma2.length tb2, .slice sb3 ma3.length tb3]) (some 170) rfl rfl (by kernel_rfl) (by kernel_rfl) (by kernel_rfl) (by kernel_rfl) (by kernel_rfl) (by kernel_rfl) (by kernel_rfl) (by kernel_rfl) (fun _ _ _ h => h) (Or.inl ⟨by rfl, ?_⟩) hHeld ?_
        · (intro x hSw; (try dsimp only at hSw); go_simp)
        try simp only [Act.put, List.setIfInBounds_toArray, List.set_cons_zero, List.set_cons_succ]
        clear a0 a1 a2 a3 a4 a5 a6 b0 b1 b2 b3 b4 b5 b6 hHeld
        refine oneZ (i := 2) (by kernel_rfl) rfl (fun K hK => ?_)
        go_simp
        refine hK.out _ _ (fun _ => KEEP.out _ (by exact ((((((((Tch.refl (fun b => b = w.heap.size + 1 ∨ b = w.heap.size + 1 + 1) z3).setCell (p := ⟨w.heap.size + 1, 0, none⟩) (fun _ => .inl rfl) _).setCell (p := ⟨w.heap.size + 1, 1, none⟩) (fun _ => .inl rfl) _).setCell (p := ⟨w.heap.size + 1, 2, none⟩) (fun _ => .inl rfl) _).setCell (p := ⟨w.heap.size + 1, 3, none⟩) (fun _ => .inl rfl) _).setCell (p := ⟨w.heap.size + 1, 4, none⟩) (fun _ => .inl rfl) _).setCell (p := ⟨w.heap.size + 1, 5, none⟩) (fun _ => .inl rfl) _).setCell (p := ⟨w.heap.size + 1, 6, none⟩) (fun _ => .inl rfl) _).drew)) ?_
        clear hK K
        try simp only [Act.put, List.setIfInBounds_toArray, List.set_cons_zero, List.set_cons_succ]
        refine oneZ (i := 3) (by kernel_rfl) rfl (fun K hK => ?_)
        go_simp
        refine hK.out _ _ (fun h => absurd h (by decide)) ?_
        clear hK K
        try simp only [Act.put, List.setIfInBounds_toArray, List.set_cons_zero, List.set_cons_succ]
        refine doneZ (by kernel_rfl) ?_ _
        refine NoPanic.normal ?_
        go_wp2_with fail
        refine bodyPost_ret (v := .tuple #[.agg (msgC ⟨x.kind, x.node, x.walk, x.high, ma, ma2, ma3⟩ ⟨.slice sa1 ma.length ta1, .slice sa2 ma2.length ta2, .slice sa3 ma3.length ta3⟩), .agg (msgC ⟨x.kind, x.node, x.walk, x.high, ma, ma2, ma3⟩ ⟨.slice sb1 ma.length tb1, .slice sb2 ma2.length tb2, .slice sb3 ma3.length tb3⟩)]) (by simp [results, Try.results10, go_sem, msgC, r0, s0, r1, s1, r2, s2, r3, s3, r4, s4, r5, s5, r6, s6]) rfl ?_
        refine bothR_fin HCUT.out HN3.out (by exact (((((((((((((((Tch.refl (fun b => b = w.heap.size + 1 ∨ b = w.heap.size + 1 + 1) z3).setCell (p := ⟨w.heap.size + 1, 0, none⟩) (fun _ => .inl rfl) _).setCell (p := ⟨w.heap.size + 1, 1, none⟩) (fun _ => .inl rfl) _).setCell (p := ⟨w.heap.size + 1, 2, none⟩) (fun _ => .inl rfl) _).setCell (p := ⟨w.heap.size + 1, 3, none⟩) (fun _ => .inl rfl) _).setCell (p := ⟨w.heap.size + 1, 4, none⟩) (fun _ => .inl rfl) _).setCell (p := ⟨w.heap.size + 1, 5, none⟩) (fun _ => .inl rfl) _).setCell (p := ⟨w.heap.size + 1, 6, none⟩) (fun _ => .inl rfl) _).setCell (p := ⟨w.heap.size + 1 + 1, 0, none⟩) (fun _ => .inr rfl) _).setCell (p := ⟨w.heap.size + 1 + 1, 1, none⟩) (fun _ => .inr rfl) _).setCell (p := ⟨w.heap.size + 1 + 1, 2, none⟩) (fun _ => .inr rfl) _).setCell (p := ⟨w.heap.size + 1 + 1, 3, none⟩) (fun _ => .inr rfl) _).setCell (p := ⟨w.heap.size + 1 + 1, 4, none⟩) (fun _ => .inr rfl) _).setCell (p := ⟨w.heap.size + 1 + 1, 5, none⟩) (fun _ => .inr rfl) _).setCell (p := ⟨w.heap.size + 1 + 1, 6, none⟩) (fun _ => .inr rfl) _).drew) HMSA.out HMSB.out
end Go.Proofs.Yteaeodinllpfbaa
