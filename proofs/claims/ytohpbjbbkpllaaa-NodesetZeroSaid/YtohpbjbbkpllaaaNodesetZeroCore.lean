/-
  NodesetZero answers true for every number; new memory apart nothing turns.
-/
import Derived.Test.YtohpbjbbkpllaaaNodeLaw
set_option linter.unusedVariables false
set_option linter.unusedSimpArgs false
namespace Go.Proofs.Ytohpbjbbkpllaaa
open Go.RowKit Go.Lib Go.Sort Go.Shelf

set_option maxHeartbeats 4000000 in
theorem nodesetZero_core (n : Int) (w : World) : Calls Try.prog 4 #[.int .i64 n] w fun e w' => e = .returned (.bool true) ∧ Below w.heap.size w w' := by
  have ha : addL 0 [] n = [] := if_neg (fun h => absurd h.2.2 (Nat.lt_irrefl _))
  have hb : addB 0 [] n = false := decn_ (fun h => h.elim (by simp) fun h => absurd h.2 (Nat.lt_irrefl _))
  have HA := Lib.hid ha
  have HBf := Lib.hid hb
  clear ha hb
  go_enter Try.func4, Try.ntmps4
  go_wp2_with fail
  refine (speaks03 _).mono ?_
  rintro e w1 ⟨rfl, hb1⟩
  have B1 := Lib.hid hb1
  clear hb1
  go_wp2_with fail
  have S1 := Lib.hid (show SetV (w1.alloc (.cells #[.int .i64 0, .slice none 0 0] 26)) (.agg #[.int .i64 0, .slice none 0 0]) 0 [] from ⟨_, rfl, slr_nil _, Good.nil (by omega)⟩)
  have BB1 := Lib.hid (below_then B1.out (below_alloc w1 (.cells #[.int .i64 0, .slice none 0 0] 26)))
  refine (add_set _ 0 [] n _ S1.out).mono ?_
  intro e w2 hq
  obtain ⟨ao2, len2, cap2, rfl, H2, B2⟩ := hq.lay
  rw [HA.out] at H2
  rw [HBf.out]
  clear hq HA HBf
  have K2 := Lib.hid (bk_below (Bk.made w1 26 #[.int .i64 0, .slice none 0 0]) B2.out (by simp))
  have hz2 := B2.out.size
  simp only [size_alloc] at hz2
  have hlt2 : w1.heap.size < w2.heap.size := by omega
  have S2 := Lib.hid (S1.out.below B2.out)
  have BB2 := Lib.hid (below_then BB1.out B2.out)
  obtain ⟨c1, c2, c3, c4⟩ := K2.out.two
  clear S1 BB1 B1 B2
  go_wp2_with fail
  refine (drop_set _ 0 [] n _ (S2.out.below (below_alloc w2 _))).mono ?_
  intro e w3 hq
  obtain ⟨ao3, len3, cap3, rfl, H3, B3⟩ := hq.lay
  rw [show ([] : List Int).contains n = false from rfl]
  clear hq
  have hz3 := B3.out.size
  simp only [size_alloc] at hz3
  have hlt3 : w2.heap.size < w3.heap.size := by omega
  have hlt13 : w1.heap.size < w3.heap.size := by omega
  -- the variables behind it: s (zero), t
  have K3 := Lib.hid (bk_below (K2.out.alloc _) B3.out (by simp; omega))
  have T3 := Lib.hid (bk_below (Bk.made w2 26 #[.int .i64 0, .slice ao2 len2 cap2]) B3.out (by simp))
  have S3 := Lib.hid ((S2.out.below (below_alloc w2 _)).below B3.out)
  have H23 := Lib.hid ((H2.out.below (below_alloc w2 _)).below B3.out)
  have BB3 := Lib.hid (below_then (below_then BB2.out (below_alloc w2 _)) B3.out)
  obtain ⟨d1, d2, d3, d4⟩ := K3.out.two
  obtain ⟨e1, e2, e3, e4⟩ := T3.out.two
  clear c1 c2 c3 c4 K2 S2 BB2 H2 B3 H3
  go_wp2_with fail
  obtain ⟨W3, hW3⟩ : ∃ W3, W3 = w3.alloc (.cells #[.int .i64 0, .slice ao3 len3 cap3] 26) := ⟨_, rfl⟩
  have KEEP : Hid (∀ x, Below W3.heap.size W3 x → SetV x (.agg #[.int .i64 0, .slice none 0 0]) 0 [] ∧ (x.cell? ⟨w1.heap.size, 0, none⟩ = some (.int .i64 0) ∧ x.cell? ⟨w1.heap.size, 1, none⟩ = some (.slice none 0 0)) ∧ Below w.heap.size w x) := by
    intro x hx
    rw [hW3] at hx
    have k := (bk_below (K3.out.alloc (.cells #[.int .i64 0, .slice ao3 len3 cap3] 26)) hx (by simp; omega)).two
    exact ⟨(S3.out.below (below_alloc w3 _)).below hx, ⟨k.1, k.2.1⟩, below_then (below_then BB3.out (below_alloc w3 _)) hx⟩
  have L0 := len_set _ 0 [] W3 (by rw [hW3]; exact H23.out.below (below_alloc w3 _))
  rw [← hW3]
  clear d1 d2 d3 d4 e1 e2 e3 e4 K3 T3 S3 H23 BB3 hW3
  refine L0.mono ?_
  rintro e w4 ⟨rfl, b4⟩
  obtain ⟨s4, ⟨c1, c2⟩, _⟩ := KEEP.out w4 b4
  have F4 := full_set _ 0 [] w4 s4
  rw [show decide (0 ≤ ([] : List Int).length) = true from rfl] at F4
  have B4 := Lib.hid b4
  clear L0 b4 s4
  go_wp2_with fail
  refine F4.mono ?_
  rintro e w5 ⟨rfl, b5⟩
  have b5' := below_then B4.out b5
  obtain ⟨s5, ⟨d1, d2⟩, _⟩ := KEEP.out w5 b5'
  have F5 := has_set _ 0 [] n w5 s5
  rw [show ([] : List Int).contains n = false from rfl] at F5
  have B5 := Lib.hid b5'
  clear F4 b5 b5' s5 c1 c2 B4
  go_wp2_with fail
  refine F5.mono ?_
  rintro e w6 ⟨rfl, b6⟩
  have b6' := below_then B5.out b6
  obtain ⟨s6, ⟨c1, c2⟩, _⟩ := KEEP.out w6 b6'
  have F6 := all_set _ 0 [] w6 s6
  have B6 := Lib.hid b6'
  clear F5 b6 b6' s6 d1 d2 B5
  go_wp2_with fail
  refine F6.mono ?_
  rintro e w7 ⟨ao7, cap7, rfl, H7, b7⟩
  have b7' := below_then B6.out b7.out
  obtain ⟨s7, ⟨d1, d2⟩, _⟩ := KEEP.out w7 b7'
  have F7 := but_set _ 0 [] [] (.slice none 0 0) w7 s7 (slr_nil _) (by simp)
  have B7 := Lib.hid b7'
  clear F6 b7 b7' s7 c1 c2 B6 H7
  go_wp2_with fail
  refine F7.mono ?_
  rintro e w8 ⟨v8, rfl, H8, b8⟩
  obtain ⟨ao8, cap8, e8, _⟩ := slr_ints (ns := []) H8
  subst e8
  obtain ⟨_, _, hfin⟩ := KEEP.out w8 (below_then B7.out b8)
  have HF := Lib.hid hfin
  clear F7 b8 d1 d2 B7 H8 hfin KEEP
  go_wp2_with fail
  go_ret
  exact ⟨rfl, HF.out⟩
end Go.Proofs.Ytohpbjbbkpllaaa
