/-
  The laws of views: speaks; a view in a variable.
-/
import Derived.Test.YtdhafagihfdolaaViwEvict
import Derived.Test.YtdhafagihfdolaaViwSane
set_option linter.unusedVariables false
set_option linter.unusedSimpArgs false
set_option maxRecDepth 100000
namespace Go.Proofs.Ytdhafagihfdolaa
open Go.RowKit Go.Lib Go.Sort Go.Shelf

/-- The cells of a view. -/
def viwC (x : VA) (sa sp : Value) : Array Value := #[.int .i64 x.self, .int .i64 x.A, sa, .int .i64 x.P, sp]
/-- The five stores of a view into a variable. -/
def put5 (w : World) (X : Nat) (s a : Int) (sa : Value) (p : Int) (sp : Value) : World :=
  ((((w.setCell ⟨X, 0, none⟩ (.int .i64 s)).setCell ⟨X, 1, none⟩ (.int .i64 a)).setCell ⟨X, 2, none⟩ sa).setCell ⟨X, 3, none⟩ (.int .i64 p)).setCell ⟨X, 4, none⟩ sp
theorem tch_put5 (w : World) (X : Nat) (s a : Int) (sa : Value) (p : Int) (sp : Value) : Tch (· = X) w (put5 w X s a sa p sp) :=
  (((((Tch.refl (· = X) w).setCell (p := ⟨X, 0, none⟩) (fun _ => rfl) _).setCell (p := ⟨X, 1, none⟩) (fun _ => rfl) _).setCell (p := ⟨X, 2, none⟩) (fun _ => rfl) _).setCell (p := ⟨X, 3, none⟩) (fun _ => rfl) _).setCell (p := ⟨X, 4, none⟩) (fun _ => rfl) _
theorem bk_put5 {w : World} {X : Nat} {t : TypeId} {a b c d e : Value} (h : Bk w X t #[a, b, c, d, e]) (s m : Int) (sa : Value) (p : Int) (sp : Value) : Bk (put5 w X s m sa p sp) X t #[.int .i64 s, .int .i64 m, sa, .int .i64 p, sp] := ((((h.store 0 _).store 1 _).store 2 _).store 3 _).store 4 _
/-- The variable X holds the view x. -/
structure ViwAt (w : World) (X : Nat) (x : VA) (sa sp : Value) : Prop where
  bk : Bk w X 30 (viwC x sa sp)
  s : ViwS w x sa sp
theorem ViwAt.new {w w' : World} {X : Nat} {x : VA} {sa sp : Value} (h : ViwAt w X x sa sp) (k : New w w') : ViwAt w' X x sa sp := ⟨k.bk h.bk, h.s.new k⟩
theorem ViwAt.lt {w : World} {X : Nat} {x : VA} {sa sp : Value} (h : ViwAt w X x sa sp) : X < w.heap.size := h.bk.lt
theorem ViwAt.vt {w w' : World} {X : Nat} {x : VA} {sa sp dv : Value} {D : Option Nat} {g : Nat} {ds : List Int} (h : ViwAt w X x sa sp) (hd : DrawP w dv D g ds) (k : VT D w w') : ViwAt w' X x sa sp := ⟨k.bk h.bk (hd.ne h.bk set_ne_draw), hd.viw k h.s⟩
/-- Another view stored into it. -/
theorem viw_put {w1 : World} {X : Nat} {x y : VA} {sa sp ta tp : Value} {s a p : Int} (k : Bk w1 X 30 (viwC x sa sp)) (hs : ViwS w1 y ta tp) (e1 : s = y.self) (e2 : a = y.A) (e3 : p = y.P) : ViwAt (put5 w1 X s a ta p tp) X y ta tp := by
  subst e1 e2 e3
  have hni := not_int k view_ne_int
  have ht := tch_put5 w1 X y.self y.A ta y.P tp
  exact ⟨bk_put5 k _ _ _ _ _, ⟨hs.act.held ht.size fun b hb hi => ht.block b hb (fun e => hni (e ▸ hi)), hs.pas.held ht.size fun b hb hi => ht.block b hb (fun e => hni (e ▸ hi)), hs.good⟩⟩
/-- A variable newly made. -/
theorem viw_made {w : World} {x : VA} {sa sp : Value} (hs : ViwS w x sa sp) : ViwAt (w.alloc (.cells (viwC x sa sp) 30)) w.heap.size x sa sp := ⟨Bk.made _ _ _, hs.new ((New.refl w).alloc _)⟩
theorem ViwAt.five {w : World} {X : Nat} {x : VA} {sa sp : Value} (h : ViwAt w X x sa sp) :
    (w.cell? ⟨X, 0, none⟩ = some (.int .i64 x.self) ∧ w.cell? ⟨X, 1, none⟩ = some (.int .i64 x.A) ∧ w.cell? ⟨X, 2, none⟩ = some sa ∧ w.cell? ⟨X, 3, none⟩ = some (.int .i64 x.P) ∧ w.cell? ⟨X, 4, none⟩ = some sp) ∧
      w.frozen? ⟨X, 0, none⟩ = false ∧ w.frozen? ⟨X, 1, none⟩ = false ∧ w.frozen? ⟨X, 2, none⟩ = false ∧ w.frozen? ⟨X, 3, none⟩ = false ∧ w.frozen? ⟨X, 4, none⟩ = false := Bk.five h.bk
set_option maxHeartbeats 400000 in
theorem speaks09 (w : World) : Calls Try.prog 14 #[] w fun e w' => e = .returned (.bool true) ∧ Hid (New w w') := by
  have j1 : joinV ⟨1, 2, 2, [], []⟩ 2 = ⟨1, 2, 2, [2], []⟩ ∧ joinB ⟨1, 2, 2, [], []⟩ 2 = true := ⟨by kernel_rfl, by kernel_rfl⟩
  have j2 : evictV ⟨1, 2, 2, [2], []⟩ [] = (⟨1, 2, 2, [], [2]⟩, []) ∧ evictN ⟨1, 2, 2, [2], []⟩ [] = 2 ∧ (!decide (([2] : List Int) = [])) = true := ⟨by kernel_rfl, by kernel_rfl, by kernel_rfl⟩
  have j3 : joinV ⟨1, 2, 2, [], [2]⟩ 1 = ⟨1, 2, 2, [], [2]⟩ ∧ joinB ⟨1, 2, 2, [], [2]⟩ 1 = false := ⟨by kernel_rfl, by kernel_rfl⟩
  have J1 := Lib.hid j1
  have J2 := Lib.hid j2
  have J3 := Lib.hid j3
  clear j1 j2 j3
  go_enter Try.func14, Try.ntmps14
  go_wp2_with fail
  refine (vnew_ok 1 2 2 2 2 w (by omega) (by omega) (by omega) (by omega)).mono ?_
  rintro e w1 ⟨sa, sp, rfl, hs1, hn1⟩
  have HN1 := Lib.hid hn1
  have hj := join_ok _ _ _ 2 w1 hs1
  obtain ⟨⟨ao, al, ac, rfl⟩, po, pl, pc, rfl⟩ := hs1.slices
  rw [J1.out.1, J1.out.2] at hj
  clear hs1 hn1
  unfold viwV at hj ⊢
  simp only at hj ⊢
  go_wp2_with fail
  refine hj.mono ?_
  rintro e w2 ⟨sa2, sp2, rfl, hs2, hn2⟩
  obtain ⟨⟨ao2, al2, ac2, rfl⟩, po2, pl2, pc2, rfl⟩ := hs2.slices
  have HN2 := Lib.hid (HN1.out.then hn2)
  obtain ⟨w3, hw3⟩ : ∃ w3, w3 = w2.alloc (.cells #[.int .i64 1, .int .i64 2, .slice ao2 al2 ac2, .int .i64 2, .slice po2 pl2 pc2] 30) := ⟨_, rfl⟩
  have HV3 := Lib.hid (show ViwAt w3 w2.heap.size ⟨1, 2, 2, [2], []⟩ (.slice ao2 al2 ac2) (.slice po2 pl2 pc2) by rw [hw3]; exact viw_made hs2)
  have HN3 := Lib.hid (show New w w3 by rw [hw3]; exact HN2.out.alloc _)
  have HZ := Lib.hid (show w.heap.size ≤ w2.heap.size from HN2.out.size)
  have he := evict_ok _ _ _ (.pointer none) none 0 [] w3 HV3.out.s (.inl ⟨rfl, rfl, rfl⟩)
  rw [J2.out.1, J2.out.2.1, J2.out.2.2] at he
  obtain ⟨⟨a0, a1, a2, a3, a4⟩, a5, a6, a7, a8, a9⟩ := HV3.out.five
  clear hj hs2 hn2
  unfold viwV at he ⊢
  simp only at he ⊢
  go_upto_region 2 with fail
  rw [← hw3]
  clear hw3
  go_wp2_with fail
  refine he.mono ?_
  rintro e w4 ⟨sa4, sp4, rfl, hs4, hd4, hv4⟩
  obtain ⟨⟨ao4, al4, ac4, rfl⟩, po4, pl4, pc4, rfl⟩ := hs4.slices
  have hn4 := hv4.nil
  have K4 := Lib.hid (hn4.bk HV3.out.bk)
  have HS4 := Lib.hid hs4
  have HN4 := Lib.hid (HN3.out.then hn4)
  have HZ4 := Lib.hid (show w2.heap.size < w4.heap.size from Nat.lt_of_lt_of_le HV3.out.lt hn4.size)
  clear he hs4 hd4 hv4 hn4 a0 a1 a2 a3 a4 a5 a6 a7 a8 a9
  obtain ⟨⟨a0, a1, a2, a3, a4⟩, a5, a6, a7, a8, a9⟩ := (show Bk w4 w2.heap.size 30 #[.int .i64 1, .int .i64 2, .slice ao2 al2 ac2, .int .i64 2, .slice po2 pl2 pc2] from K4.out).five
  unfold viwV
  simp only
  go_upto_region 3 with fail
  obtain ⟨w5, hw5⟩ : ∃ w5, w5 = put5 w4 w2.heap.size 1 2 (.slice ao4 al4 ac4) 2 (.slice po4 pl4 pc4) := ⟨_, rfl⟩
  have HV5 := Lib.hid (show ViwAt w5 w2.heap.size ⟨1, 2, 2, [], [2]⟩ (.slice ao4 al4 ac4) (.slice po4 pl4 pc4) by rw [hw5]; exact viw_put K4.out HS4.out rfl rfl rfl)
  have HN5 := Lib.hid (show New w w5 by rw [hw5]; exact Tch.trans HN4.out (tch_put5 _ _ _ _ _ _ _) (fun b hb e => by rw [e]; exact HZ.out))
  unfold put5 at hw5
  have hj := join_ok _ _ _ 1 w5 HV5.out.s
  rw [J3.out.1, J3.out.2] at hj
  unfold viwV at hj
  simp only at hj
  clear a0 a1 a2 a3 a4 a5 a6 a7 a8 a9
  obtain ⟨⟨a0, a1, a2, a3, a4⟩, a5, a6, a7, a8, a9⟩ := HV5.out.five
  rw [← hw5]
  clear hw5
  go_wp2_with fail
  refine hj.mono ?_
  rintro e w6 ⟨sa6, sp6, rfl, hs6, hn6⟩
  obtain ⟨⟨ao6, al6, ac6, rfl⟩, po6, pl6, pc6, rfl⟩ := hs6.slices
  obtain ⟨w7, hw7⟩ : ∃ w7, w7 = w6.alloc (.cells #[.int .i64 1, .int .i64 2, .slice ao6 al6 ac6, .int .i64 2, .slice po6 pl6 pc6] 30) := ⟨_, rfl⟩
  have hn67 : New w6 w7 := by rw [hw7]; exact (New.refl _).alloc _
  have HV7 := Lib.hid ((HV5.out.new hn6).new hn67)
  have HN7 := Lib.hid ((HN5.out.then hn6).then hn67)
  have hhas := has_lay 2 (.slice po4 pl4 pc4) [2] 2 w7 HV7.out.s.setp
  rw [show decide ((2 : Int) ∈ ([2] : List Int)) = true by decide] at hhas
  clear hj hs6 hn6 hn67 a0 a1 a2 a3 a4 a5 a6 a7 a8 a9
  obtain ⟨⟨a0, a1, a2, a3, a4⟩, a5, a6, a7, a8, a9⟩ := HV7.out.five
  unfold viwV
  simp only
  go_upto_region 4 with fail
  rw [← hw7]
  clear hw7
  go_wp2_with fail
  refine hhas.mono ?_
  rintro e w8 ⟨rfl, hn8⟩
  have HV8 := Lib.hid (HV7.out.new hn8.out)
  have HN8 := Lib.hid (HN7.out.then hn8.out)
  have hlen := len_lay 2 (.slice ao4 al4 ac4) [] w8 HV8.out.s.seta
  clear hhas hn8 a0 a1 a2 a3 a4 a5 a6 a7 a8 a9
  obtain ⟨⟨a0, a1, a2, a3, a4⟩, a5, a6, a7, a8, a9⟩ := HV8.out.five
  go_wp2_with fail
  refine hlen.mono ?_
  rintro e w9 ⟨rfl, hn9⟩
  have HV9 := Lib.hid (HV8.out.new hn9.out)
  have HN9 := Lib.hid (HN8.out.then hn9.out)
  have hsn := sane_ok _ _ _ w9 HV9.out.s
  rw [show decide (VA.Sane ⟨1, 2, 2, [], [2]⟩) = true from dec_ ⟨by simp, by simp, by simp⟩] at hsn
  unfold viwV at hsn
  simp only at hsn
  clear hlen hn9 a0 a1 a2 a3 a4 a5 a6 a7 a8 a9
  obtain ⟨⟨a0, a1, a2, a3, a4⟩, a5, a6, a7, a8, a9⟩ := HV9.out.five
  go_wp2_with fail
  refine hsn.mono ?_
  rintro e w10 ⟨rfl, hn10⟩
  have HN10 := Lib.hid (HN9.out.then hn10.out)
  go_wp2_with fail
  go_ret
  exact ⟨rfl, HN10⟩
end Go.Proofs.Ytdhafagihfdolaa
