/-
  What the laws on sets of nodes share: 'speaks' answers true; new memory apart nothing turns.
-/
import Derived.Test.YtohpbjbbkpllaaaNodeSort
import Derived.Test.YtohpbjbbkpllaaaNodeBut
set_option linter.unusedVariables false
set_option linter.unusedSimpArgs false
namespace Go.Proofs.Ytohpbjbbkpllaaa
open Go.RowKit Go.Lib Go.Sort Go.Shelf

theorem below_then {w a b : World} (h : Below w.heap.size w a) (k : Below a.heap.size a b) : Below w.heap.size w b := h.trans (k.mono h.size)
theorem AddQ.lay {w w' : World} {most : Nat} {ns : List Int} {b : Bool} {e : Ending} (h : AddQ w most ns b e w') :
    ∃ ao len cap, e = .returned (.tuple #[.agg #[.int .i64 most, .slice ao len cap], .bool b]) ∧ Hid (SetV w' (.agg #[.int .i64 most, .slice ao len cap]) most ns) ∧ Hid (Below w.heap.size w w') := by
  obtain ⟨v', rfl, ⟨sv, rfl, hs, hg⟩, hb⟩ := h
  obtain ⟨ao, len, cap, rfl⟩ := slr_slice hs
  exact ⟨ao, len, cap, rfl, ⟨_, rfl, hs, hg⟩, hb⟩
theorem new_lay (m : Int) (w : World) (h1 : -9223372036854775808 ≤ m) (h2 : m ≤ 9223372036854775807) (most : Nat) (hm : (most : Int) = min (max m 0) 64) :
    Calls Try.prog 9 #[.int .i64 m] w fun e w' => ∃ ao len cap, e = .returned (.agg #[.int .i64 most, .slice ao len cap]) ∧ Hid (SetV w' (.agg #[.int .i64 most, .slice ao len cap]) most []) ∧ Hid (Below w.heap.size w w') := by
  refine (new_set m w h1 h2).mono ?_
  rintro e w' ⟨v, most', rfl, hm', ⟨sv, rfl, hs, hg⟩, hb⟩
  obtain rfl : most' = most := by omega
  obtain ⟨ao, len, cap, rfl⟩ := slr_slice hs
  exact ⟨ao, len, cap, rfl, ⟨_, rfl, hs, hg⟩, hb⟩
theorem all_set (v : Value) (most : Nat) (ns : List Int) (w : World) (h : SetV w v most ns) :
    Calls Try.prog 10 #[v] w fun e w' => ∃ ao cap, e = .returned (.slice ao ns.length cap) ∧ Hid (Slr w' (.slice ao ns.length cap) (ints ns)) ∧ Hid (Below w.heap.size w w') := by
  refine (all_own v most ns w h).mono ?_
  rintro e w' ⟨v', rfl, ho, hb⟩
  have hs := own_slr ho
  obtain ⟨ao, cap, e, _⟩ := slr_ints hs
  subst e
  exact ⟨ao, cap, rfl, hs, hb⟩

theorem SetV.apart {w : World} {v : Value} {most : Nat} {ns : List Int} (h : SetV w v most ns) {p : Addr} {t : TypeId} {cs : Array Value} (hp : Bk w p.block t cs) (ht : t ≠ 3) (u : Value) : SetV (w.setCell p u) v most ns := by
  obtain ⟨sv, rfl, hs, hg⟩ := h
  exact ⟨sv, rfl, hs.apart hp ht u, hg⟩
/-- Both cells of a variable stored into. -/
def put2 (w : World) (X : Nat) (a b : Value) : World := (w.setCell ⟨X, 0, none⟩ a).setCell ⟨X, 1, none⟩ b
theorem bk_put2 {w : World} {X : Nat} {t : TypeId} {a0 b0 : Value} (h : Bk w X t #[a0, b0]) (a b : Value) : Bk (put2 w X a b) X t #[a, b] := (h.store 0 a).store 1 b
theorem bk_put2' {w : World} {X Y : Nat} {t : TypeId} {cs : Array Value} (h : Bk w Y t cs) (hn : Y ≠ X) (a b : Value) : Bk (put2 w X a b) Y t cs := (h.other (p := ⟨X, 0, none⟩) hn a).other (p := ⟨X, 1, none⟩) hn b
theorem SetV.put2 {w : World} {v : Value} {most : Nat} {ns : List Int} (h : SetV w v most ns) {X : Nat} {t : TypeId} {cs : Array Value} (hp : Bk w X t cs) (ht : t ≠ 3) (a b : Value) : SetV (put2 w X a b) v most ns :=
  (h.apart (p := ⟨X, 0, none⟩) hp ht a).apart (p := ⟨X, 1, none⟩) (hp.store 0 a) ht b
theorem Slr.put2 {w : World} {v : Value} {xs : List Value} (h : Slr w v xs) {X : Nat} {t : TypeId} {cs : Array Value} (hp : Bk w X t cs) (ht : t ≠ 3) (a b : Value) : Slr (put2 w X a b) v xs :=
  (h.apart (p := ⟨X, 0, none⟩) hp ht a).apart (p := ⟨X, 1, none⟩) (hp.store 0 a) ht b
theorem below_put2 {B X : Nat} {a w : World} (h : Below B a w) (hX : B ≤ X) (u v : Value) : Below B a (put2 w X u v) := (h.setCell (p := ⟨X, 0, none⟩) hX u).setCell (p := ⟨X, 1, none⟩) hX v
theorem size_put2 (w : World) (X : Nat) (u v : Value) : (put2 w X u v).heap.size = w.heap.size := by simp [put2, World.setCell]
theorem set_ne_int : (26 : TypeId) ≠ 3 := by decide

set_option maxHeartbeats 4000000 in
theorem speaks03 (w : World) : Calls Try.prog 8 #[] w fun e w' => e = .returned (.bool true) ∧ Below w.heap.size w w' := by
  go_enter Try.func8, Try.ntmps8
  go_wp2_with fail
  refine (new_lay 2 w (by omega) (by omega) 2 (by omega)).mono ?_
  rintro e w1 ⟨ao1, len1, cap1, rfl, H1, B1⟩
  go_wp2_with fail
  refine (add_set _ 2 [] 7 _ H1.out).mono ?_
  intro e w2 hq
  obtain ⟨ao2, len2, cap2, rfl, H2, B2⟩ := hq.lay
  rw [show addL 2 [] 7 = [7] by decide] at H2
  rw [show addB 2 [] 7 = true by decide] at hq ⊢
  clear hq
  go_wp2_with fail
  refine (add_set _ 2 [7] 3 _ (H2.out.below (below_alloc _ _))).mono ?_
  intro e w3 hq
  obtain ⟨ao3, len3, cap3, rfl, H3, B3⟩ := hq.lay
  rw [show addL 2 [7] 3 = [3, 7] by decide] at H3
  rw [show addB 2 [7] 3 = true by decide]
  clear hq
  have hz3 := B3.out.size
  simp only [size_alloc] at hz3
  have K3 := Lib.hid (bk_below (Bk.made w2 26 #[.int .i64 2, .slice ao2 len2 cap2]) B3.out (by simp))
  obtain ⟨c1, c2, c3, c4⟩ := K3.out.two
  have BB := Lib.hid (below_then (below_then (below_then B1.out B2.out) (below_alloc w2 (.cells #[.int .i64 2, .slice ao2 len2 cap2] 26))) B3.out)
  have hz2 : w.heap.size ≤ w2.heap.size := by have := B1.out.size; have := B2.out.size; omega
  go_wp2_with fail
  obtain ⟨w4, hw4⟩ : ∃ w4, w4 = put2 w3 w2.heap.size (.int .i64 2) (.slice ao3 len3 cap3) := ⟨_, rfl⟩
  have K4 := Lib.hid (show Bk w4 w2.heap.size 26 #[.int .i64 2, .slice ao3 len3 cap3] by rw [hw4]; exact bk_put2 K3.out _ _)
  have H4 := Lib.hid (show SetV w4 (.agg #[.int .i64 2, .slice ao3 len3 cap3]) 2 [3, 7] by rw [hw4]; exact H3.out.put2 K3.out set_ne_int _ _)
  have B4 := Lib.hid (show Below w.heap.size w w4 by rw [hw4]; exact below_put2 BB.out hz2 _ _)
  have hz4 : w4.heap.size = w3.heap.size := by rw [hw4, size_put2]
  unfold put2 at hw4
  rw [← hw4]
  clear hw4 c1 c2 c3 c4 H1 H2 H3 B1 B2 B3 BB K3
  refine (add_set _ 2 [3, 7] 9 _ H4.out).mono ?_
  intro e w5 hq
  obtain ⟨ao5, len5, cap5, rfl, H5, B5⟩ := hq.lay
  rw [show addB 2 [3, 7] 9 = false by decide]
  clear hq
  have hz5 := B5.out.size
  obtain ⟨c1, c2, c3, c4⟩ := (bk_below K4.out B5.out (by omega)).two
  have BB5 := Lib.hid (below_then B4.out B5.out)
  have HH5 := Lib.hid (H4.out.below B5.out)
  have CON := Lib.hid (full_set _ 2 [3, 7] _ (HH5.out.below (below_alloc w5 (.cells #[.int .i64 2, .slice ao5 len5 cap5] 26))))
  clear H4 B4 H5 
  have hlt : w2.heap.size < w5.heap.size := by omega
  have K5 := Lib.hid (bk_below K4.out B5.out (by omega))
  clear K4 B5
  go_wp2_with fail
  refine CON.out.mono ?_
  rintro e w6 ⟨rfl, b6⟩
  rw [show decide (2 ≤ ([3, 7] : List Int).length) = true by decide]
  have hz6 := b6.size
  simp only [size_alloc] at hz6
  have k6 := bk_below (K5.out.alloc (.cells #[.int .i64 2, .slice ao5 len5 cap5] 26)) b6 (by simp; omega)
  obtain ⟨d1, d2, d3, d4⟩ := k6.two
  have HH6 := Lib.hid ((HH5.out.below (below_alloc w5 (.cells #[.int .i64 2, .slice ao5 len5 cap5] 26))).below b6)
  have BB6 := Lib.hid (below_then (below_then BB5.out (below_alloc w5 (.cells #[.int .i64 2, .slice ao5 len5 cap5] 26))) b6)
  clear c1 c2 c3 c4 CON HH5 BB5 K5 b6 k6
  go_wp2_with fail
  refine (all_set _ 2 [3, 7] _ HH6.out).mono ?_
  rintro e w7 ⟨ao7, cap7, rfl, H7, B7⟩
  have BB7 := Lib.hid (below_then BB6.out B7.out)
  have CON := same_ref _ (.slice (some ⟨w7.heap.size, 0, none⟩) 2 2) [3, 7] [3, 7] _ (H7.out.alloc (.cells #[.int .i64 3, .int .i64 7] 3)) (sl_made w7 3 (ints [3, 7]) (by decide)) (by decide) (by decide)
  rw [show decide (([3, 7] : List Int) = [3, 7]) = true by decide] at CON
  clear d1 d2 d3 d4 HH6 BB6 H7 B7
  go_wp2_with fail
  refine CON.mono ?_
  rintro e w8 ⟨rfl, q, rfl⟩
  clear CON
  go_wp2_with fail
  go_ret
  exact ⟨rfl, bdN (below_then BB7.out (below_alloc _ _)) q⟩
end Go.Proofs.Ytohpbjbbkpllaaa
