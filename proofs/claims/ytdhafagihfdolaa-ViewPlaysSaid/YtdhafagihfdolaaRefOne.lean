/-
  The reference's views: one of some.
-/
import Derived.Test.YtdhafagihfdolaaRefV1
import Derived.Test.YtdhafagihfdolaaHeldBy
set_option linter.unusedVariables false
set_option linter.unusedSimpArgs false
set_option maxRecDepth 100000
namespace Go.Proofs.Ytdhafagihfdolaa
open Go.RowKit Go.Lib Go.Sort Go.Shelf

theorem pick_short (L : List Int) (ds : List Int) (h : L.length < 2 ∨ ds = []) : pick L ds = L.getD 0 0 := by
  unfold pick belowV
  rcases h with h | h
  · rw [if_neg (by omega)]; rfl
  · subst h
    split <;> simp
theorem belowT_short (n : Nat) (ds : List Int) (h : n < 2 ∨ ds = []) : belowT ds n = ds := by
  unfold belowT
  rcases h with h | h
  · rw [if_neg (by omega)]
  · subst h
    split <;> rfl
/-- Six stores into another block. -/
theorem six_apart {w : World} {p : Addr} {X : Nat} {v a b c d e f : Value} (h : w.cell? p = some v) (hn : p.block ≠ X) :
    ((((((w.setCell ⟨X, 0, none⟩ a).setCell ⟨X, 1, none⟩ b).setCell ⟨X, 2, none⟩ c).setCell ⟨X, 3, none⟩ d).setCell ⟨X, 4, none⟩ e).setCell ⟨X, 5, none⟩ f).drew.cell? p = some v := by
  have ht : Tch (· = X) w ((((((w.setCell ⟨X, 0, none⟩ a).setCell ⟨X, 1, none⟩ b).setCell ⟨X, 2, none⟩ c).setCell ⟨X, 3, none⟩ d).setCell ⟨X, 4, none⟩ e).setCell ⟨X, 5, none⟩ f).drew :=
    Tch.drew (((((((Tch.refl (· = X) w).setCell (p := ⟨X, 0, none⟩) (fun _ => rfl) _).setCell (p := ⟨X, 1, none⟩) (fun _ => rfl) _).setCell (p := ⟨X, 2, none⟩) (fun _ => rfl) _).setCell (p := ⟨X, 3, none⟩) (fun _ => rfl) _).setCell (p := ⟨X, 4, none⟩) (fun _ => rfl) _).setCell (p := ⟨X, 5, none⟩) (fun _ => rfl) _)
  rw [← h]
  exact Tch.cell ht (World.block_lt_of_cell? w _ h) hn
set_option maxHeartbeats 4000000 in
theorem rone_ok (B : Nat) (x : VA) (ds : List Int) (va vp vd v : Value) (l L : List Int) (w : World) (h : RfS w B x ds va vp vd) (hs : Slr w v (ints l)) (hp : l.Perm L) (ha : Asc L) (h0 : L ≠ []) (hl : L.length ≤ 64) (hB : B ≤ w.heap.size) :
    Calls Try.prog 67 #[rfV x va vp vd, v] w (RfRN B x (belowT ds L.length) (pick L ds) w) := by
  obtain ⟨⟨ao, ac, rfl⟩, ⟨po, pc, rfl⟩, dO, dc, rfl⟩ := h.slices
  obtain ⟨self, A, P, act, pas⟩ := x
  simp only at *
  have hn0 : New w ((w.alloc (.cells #[.int .i64 self, .slice ao act.length ac, .slice po pas.length pc, .int .i64 A, .int .i64 P, .slice dO ds.length dc] 35)).alloc (.cells zR 35)) := ((New.refl w).alloc _).alloc _
  have HW := Lib.hid (sorted_ref v l _ (hs.below hn0.below) (by rw [hp.length_eq]; omega))
  have H := Lib.hid h
  have HP := Lib.hid hp
  have HA := Lib.hid ha
  have hL0 : 0 < L.length := List.length_pos_iff.2 h0
  have HL0 := Lib.hid hL0
  have HL64 := Lib.hid hl
  clear hl h hs hp hn0 ha h0 hL0
  unfold rfV
  simp only
  unfold zR at HW
  go_enter Try.func67, Try.ntmps67
  go_wp2_with fail
  refine HW.out.mono ?_
  rintro e w1 ⟨v1, L', rfl, hv1, hp1, ho1, hb1⟩
  obtain rfl : L' = L := int_order (hp1.trans HP.out) ho1 HA.out.le
  obtain ⟨k0, k1, hn⟩ := rstart2 w _ w1 (New.of hb1)
  have HN := Lib.hid hn
  have HS := Lib.hid (H.out.new hn)
  obtain ⟨vo, vc, rfl, _, _, _, hcell⟩ := slr_ints hv1
  obtain ⟨bo, off, rfl, hib, hbo, hcl⟩ := hcell HL0.out
  have HC := Lib.hid hcl
  have HBO := Lib.hid hbo
  have K0 := Lib.hid k0
  unfold zR at k1
  have K1 := Lib.hid k1
  have X0 := Lib.hid (show w.heap.size ≤ w.heap.size ∧ ¬ IntB w1 w.heap.size from ⟨Nat.le_refl _, not_int k0 rview_ne_int⟩)
  have X1 := Lib.hid (show w.heap.size ≤ w.heap.size + 1 ∧ ¬ IntB w1 (w.heap.size + 1) from ⟨by omega, not_int k1 rview_ne_int⟩)
  have hne0 : bo ≠ w.heap.size := fun e => X0.out.2 (e ▸ hib)
  have hne1 : bo ≠ w.heap.size + 1 := fun e => X1.out.2 (e ▸ hib)
  clear HW hn k0 k1 hv1 hp1 ho1 hb1 hcell hcl hbo hib
  obtain ⟨⟨a0, a1, a2, a3, a4, a5⟩, f0, f1, f2, f3, f4, f5⟩ := Bk.six K0.out
  obtain ⟨⟨b0, b1, b2, b3, b4, b5⟩, g0, g1, g2, g3, g4, g5⟩ := Bk.six K1.out
  by_cases hsh : L'.length < 2 ∨ ds = []
  · have HE := Lib.hid (show belowT ds L'.length = ds ∧ pick L' ds = L'.getD 0 0 from ⟨belowT_short _ _ hsh, pick_short _ _ hsh⟩)
    have c0 := HC.out 0 HL0.out
    have HY := Lib.hid (show pick L' ds = L'.getD 0 0 from HE.out.2)
    obtain ⟨y, hy⟩ : ∃ y, y = L'.getD 0 0 := ⟨_, rfl⟩
    rw [← hy] at c0 HY
    rw [Nat.add_zero] at c0
    have hli : (0 : Int) < L'.length := by have := HL0.out; omega
    have hli2 : 0 < L'.length := HL0.out
    have HB2 := Lib.hid (show belowT ds L'.length = ds from HE.out.1)
    clear hy HE
    have hgo : ((L'.length : Int) < 2 ∨ ¬ (L'.length : Int) < 2 ∧ ds.length = 0) := by
      rcases hsh with h | h
      · exact .inl (by omega)
      · by_cases h2 : (L'.length : Int) < 2
        · exact .inl h2
        · exact .inr ⟨h2, by rw [h]; rfl⟩
    clear hsh
    have hX : w.heap.size ≠ w.heap.size + 1 := by omega
    rcases hgo with hk | ⟨hk, hd⟩
    · go_upto_region 3 with fail
      refine wp_region_noPanic ?_
      refine wp_region_held_drew (S := (fun q => q.cell? ⟨w.heap.size, 0, none⟩ = some (.int .i64 self) ∧ q.cell? ⟨w.heap.size, 1, none⟩ = some (.slice ao act.length ac) ∧ q.cell? ⟨w.heap.size, 2, none⟩ = some (.slice po pas.length pc) ∧ q.cell? ⟨w.heap.size, 3, none⟩ = some (.int .i64 A) ∧ q.cell? ⟨w.heap.size, 4, none⟩ = some (.int .i64 P) ∧ q.cell? ⟨w.heap.size, 5, none⟩ = some (.slice dO ds.length dc) ∧ q.cell? ⟨bo, off, none⟩ = some (.int .i64 y))) (by kernel_rfl) (⟨a0, a1, a2, a3, a4, a5, c0⟩) (fun hHeld => ?_)
      refine takeH (i := 0) (v := .agg #[.int .i64 self, .slice ao act.length ac, .slice po pas.length pc, .int .i64 A, .int .i64 P, .slice dO ds.length dc]) (some 18) rfl rfl (by kernel_rfl) (by kernel_rfl) (by kernel_rfl) (fun _ _ _ h => h) (Or.inl ⟨by rfl, ?_⟩) hHeld ?_
      · (intro x hSw; (try dsimp only at hSw); go_simp)
      try simp only [Act.put, List.setIfInBounds_toArray, List.set_cons_zero, List.set_cons_succ]
      refine takeH (i := 1) (v := .slice (some ⟨bo, off, none⟩) L'.length vc) (some 19) rfl rfl (by kernel_rfl) (by kernel_rfl) (by kernel_rfl) (fun _ _ _ h => h) (Or.inl ⟨by rfl, ?_⟩) hHeld ?_
      · (intro x hSw; (try dsimp only at hSw); go_simp)
      try simp only [Act.put, List.setIfInBounds_toArray, List.set_cons_zero, List.set_cons_succ]
      refine takeH (i := 2) (v := .pointer (some ⟨bo, off, none⟩)) (some 20) rfl rfl (by kernel_rfl) (by kernel_rfl) (by kernel_rfl) (fun _ _ _ h => h) (Or.inl ⟨by rfl, ?_⟩) hHeld ?_
      · (intro x hSw; (try dsimp only at hSw); go_simp)
      try simp only [Act.put, List.setIfInBounds_toArray, List.set_cons_zero, List.set_cons_succ]
      refine takeH (i := 3) (v := .int .i64 y) (some 21) rfl rfl (by kernel_rfl) (by kernel_rfl) (by kernel_rfl) (fun _ _ _ h => h) (Or.inl ⟨by rfl, ?_⟩) hHeld ?_
      · (intro x hSw; (try dsimp only at hSw); go_simp)
      try simp only [Act.put, List.setIfInBounds_toArray, List.set_cons_zero, List.set_cons_succ]
      refine wpAnyH_ready (rs := [4]) (by kernel_rfl) (by simp) (AllReadyH.cons rfl (fun K hK => ?_) AllReadyH.nil)
      go_simp
      go_wp2_with fail
      refine hK.out _ _ (by exact ⟨six_apart a0 hX, six_apart a1 hX, six_apart a2 hX, six_apart a3 hX, six_apart a4 hX, six_apart a5 hX, six_apart c0 hne1⟩) (fun hHeld => ?_)
      clear hK K
      try simp only [Act.put, List.setIfInBounds_toArray, List.set_cons_zero, List.set_cons_succ]
      refine takeH (i := 5) (v := .int .i64 y) (some 5) rfl rfl (by kernel_rfl) (by kernel_rfl) (by kernel_rfl) (fun _ _ _ h => h) (Or.inl ⟨by rfl, ?_⟩) hHeld ?_
      · (intro x hSw; (try dsimp only at hSw); go_simp)
      try simp only [Act.put, List.setIfInBounds_toArray, List.set_cons_zero, List.set_cons_succ]
      refine wpAnyH_done (by kernel_rfl) ?_ _
      refine NoPanic.normal ?_
      obtain ⟨w9, hw9⟩ : ∃ q, q = (put6 w1 (w.heap.size + 1) (.int .i64 self) (.slice ao act.length ac) (.slice po pas.length pc) (.int .i64 A) (.int .i64 P) (.slice dO ds.length dc)).drew := ⟨_, rfl⟩
      have K9 := Lib.hid (show Bk w9 (w.heap.size + 1) 35 #[.int .i64 self, .slice ao act.length ac, .slice po pas.length pc, .int .i64 A, .int .i64 P, .slice dO ds.length dc] by rw [hw9]; exact ((New.refl _).drew).bk (bk_put6 K1.out _ _ _ _ _ _))
      have HO9 := Lib.hid (show OT w w1 w9 by rw [hw9]; exact Tch.drew (Tch.more (tch_put6 _ _ _ _ _ _ _ _) (fun b _ e => by rw [e]; exact X1.out)))
      unfold put6 at hw9
      rw [← hw9]
      clear hw9 a0 a1 a2 a3 a4 a5 f0 f1 f2 f3 f4 f5 b0 b1 b2 b3 b4 b5 g0 g1 g2 g3 g4 g5
      obtain ⟨⟨b0, b1, b2, b3, b4, b5⟩, _⟩ := Bk.six K9.out
      go_wp2_with fail
      rw [HB2.out, HY.out]
      refine bodyPost_ret (v := .tuple #[rfV ⟨self, A, P, act, pas⟩ (.slice ao act.length ac) (.slice po pas.length pc) (.slice dO ds.length dc), .int .i64 y]) (by simp [results, Try.results67, go_sem, b0, b1, b2, b3, b4, b5, rfV]) rfl ⟨_, _, _, rfl, ?_⟩
      exact rf_fin (w1 := w1) HS.out HN.out HO9.out hB
    · obtain rfl : ds = [] := List.eq_nil_of_length_eq_zero hd
      simp only [List.length_nil] at *
      go_upto_region 3 with fail
      refine wp_region_noPanic ?_
      refine wp_region_held_drew (S := (fun q => q.cell? ⟨w.heap.size, 0, none⟩ = some (.int .i64 self) ∧ q.cell? ⟨w.heap.size, 1, none⟩ = some (.slice ao act.length ac) ∧ q.cell? ⟨w.heap.size, 2, none⟩ = some (.slice po pas.length pc) ∧ q.cell? ⟨w.heap.size, 3, none⟩ = some (.int .i64 A) ∧ q.cell? ⟨w.heap.size, 4, none⟩ = some (.int .i64 P) ∧ q.cell? ⟨w.heap.size, 5, none⟩ = some (.slice dO 0 dc) ∧ q.cell? ⟨bo, off, none⟩ = some (.int .i64 y))) (by kernel_rfl) (⟨a0, a1, a2, a3, a4, a5, c0⟩) (fun hHeld => ?_)
      refine takeH (i := 0) (v := .agg #[.int .i64 self, .slice ao act.length ac, .slice po pas.length pc, .int .i64 A, .int .i64 P, .slice dO 0 dc]) (some 18) rfl rfl (by kernel_rfl) (by kernel_rfl) (by kernel_rfl) (fun _ _ _ h => h) (Or.inl ⟨by rfl, ?_⟩) hHeld ?_
      · (intro x hSw; (try dsimp only at hSw); go_simp)
      try simp only [Act.put, List.setIfInBounds_toArray, List.set_cons_zero, List.set_cons_succ]
      refine takeH (i := 1) (v := .slice (some ⟨bo, off, none⟩) L'.length vc) (some 19) rfl rfl (by kernel_rfl) (by kernel_rfl) (by kernel_rfl) (fun _ _ _ h => h) (Or.inl ⟨by rfl, ?_⟩) hHeld ?_
      · (intro x hSw; (try dsimp only at hSw); go_simp)
      try simp only [Act.put, List.setIfInBounds_toArray, List.set_cons_zero, List.set_cons_succ]
      refine takeH (i := 2) (v := .pointer (some ⟨bo, off, none⟩)) (some 20) rfl rfl (by kernel_rfl) (by kernel_rfl) (by kernel_rfl) (fun _ _ _ h => h) (Or.inl ⟨by rfl, ?_⟩) hHeld ?_
      · (intro x hSw; (try dsimp only at hSw); go_simp)
      try simp only [Act.put, List.setIfInBounds_toArray, List.set_cons_zero, List.set_cons_succ]
      refine takeH (i := 3) (v := .int .i64 y) (some 21) rfl rfl (by kernel_rfl) (by kernel_rfl) (by kernel_rfl) (fun _ _ _ h => h) (Or.inl ⟨by rfl, ?_⟩) hHeld ?_
      · (intro x hSw; (try dsimp only at hSw); go_simp)
      try simp only [Act.put, List.setIfInBounds_toArray, List.set_cons_zero, List.set_cons_succ]
      refine wpAnyH_ready (rs := [4]) (by kernel_rfl) (by simp) (AllReadyH.cons rfl (fun K hK => ?_) AllReadyH.nil)
      go_simp
      go_wp2_with fail
      refine hK.out _ _ (by exact ⟨six_apart a0 hX, six_apart a1 hX, six_apart a2 hX, six_apart a3 hX, six_apart a4 hX, six_apart a5 hX, six_apart c0 hne1⟩) (fun hHeld => ?_)
      clear hK K
      try simp only [Act.put, List.setIfInBounds_toArray, List.set_cons_zero, List.set_cons_succ]
      refine takeH (i := 5) (v := .int .i64 y) (some 5) rfl rfl (by kernel_rfl) (by kernel_rfl) (by kernel_rfl) (fun _ _ _ h => h) (Or.inl ⟨by rfl, ?_⟩) hHeld ?_
      · (intro x hSw; (try dsimp only at hSw); go_simp)
      try simp only [Act.put, List.setIfInBounds_toArray, List.set_cons_zero, List.set_cons_succ]
      refine wpAnyH_done (by kernel_rfl) ?_ _
      refine NoPanic.normal ?_
      obtain ⟨w9, hw9⟩ : ∃ q, q = (put6 w1 (w.heap.size + 1) (.int .i64 self) (.slice ao act.length ac) (.slice po pas.length pc) (.int .i64 A) (.int .i64 P) (.slice dO 0 dc)).drew := ⟨_, rfl⟩
      have K9 := Lib.hid (show Bk w9 (w.heap.size + 1) 35 #[.int .i64 self, .slice ao act.length ac, .slice po pas.length pc, .int .i64 A, .int .i64 P, .slice dO 0 dc] by rw [hw9]; exact ((New.refl _).drew).bk (bk_put6 K1.out _ _ _ _ _ _))
      have HO9 := Lib.hid (show OT w w1 w9 by rw [hw9]; exact Tch.drew (Tch.more (tch_put6 _ _ _ _ _ _ _ _) (fun b _ e => by rw [e]; exact X1.out)))
      unfold put6 at hw9
      rw [← hw9]
      clear hw9 a0 a1 a2 a3 a4 a5 f0 f1 f2 f3 f4 f5 b0 b1 b2 b3 b4 b5 g0 g1 g2 g3 g4 g5
      obtain ⟨⟨b0, b1, b2, b3, b4, b5⟩, _⟩ := Bk.six K9.out
      go_wp2_with fail
      rw [HB2.out, HY.out]
      refine bodyPost_ret (v := .tuple #[rfV ⟨self, A, P, act, pas⟩ (.slice ao act.length ac) (.slice po pas.length pc) (.slice dO 0 dc), .int .i64 y]) (by simp [results, Try.results67, go_sem, b0, b1, b2, b3, b4, b5, rfV]) rfl ⟨_, _, _, rfl, ?_⟩
      exact rf_fin (w1 := w1) HS.out HN.out HO9.out hB
  · obtain ⟨hk, d0, ds1, hd⟩ : 2 ≤ L'.length ∧ ∃ d0 ds1, ds = d0 :: ds1 := by
      refine ⟨?_, ?_⟩
      · have := fun h => hsh (.inl h); omega
      · cases ds with
        | nil => exact absurd (.inr rfl) hsh
        | cons d ds => exact ⟨_, _, rfl⟩
    subst hd
    clear hsh
    have hHL := HL64.out
    obtain ⟨k, hk3, hk4⟩ : ∃ k : Nat, d0 % (L'.length : Int) = k ∧ k < L'.length := by
      have h1 := Int.emod_nonneg d0 (show (L'.length : Int) ≠ 0 by omega)
      have h2 := Int.emod_lt_of_pos d0 (show (0 : Int) < L'.length by omega)
      exact ⟨(d0 % (L'.length : Int)).toNat, by omega, by omega⟩
    have HE := Lib.hid (show belowT (d0 :: ds1) L'.length = ds1 ∧ pick L' (d0 :: ds1) = L'.getD k 0 from by
      constructor
      · unfold belowT; rw [if_pos (by omega)]; rfl
      · unfold pick belowV
        rw [if_pos (by omega)]
        simp only [List.headD_cons]
        rw [hk3]
        rfl)
    have hu := HS.out.u d0 (by simp)
    have c0 := HC.out k hk4
    have HY := Lib.hid HE.out.2
    have HT := Lib.hid HE.out.1
    obtain ⟨y, hy⟩ : ∃ y, y = L'.getD k 0 := ⟨_, rfl⟩
    rw [← hy] at c0 HY
    have hk5 : (k : Int) < L'.length := by omega
    have hm : d0.tmod (L'.length : Int) = k := by rw [Int.tmod_eq_emod_of_nonneg hu.1]; exact hk3
    have hlen : ¬ (L'.length : Int) < 2 := by omega
    have hwd : IntKind.i64.wrap d0 = d0 := by simp only [IntKind.wrap, IntKind.bits, IntKind.signed]; simp; omega
    have hdl : ((ds1.length + 1 : Nat) : Int) ≠ 0 := by omega
    obtain ⟨dO', dc', e1, hd1, hd2, hd3, hd4⟩ := id HS.out.dr
    injection e1 with e1 e2 e3
    subst e1; subst e3
    obtain ⟨bd, od, rfl, hbd, hbs, hdc⟩ := hd4 (by simp [u32s])
    have d0c := hdc 0 (by simp [u32s])
    simp only [u32s, List.map_cons, List.getElem_cons_zero, Nat.add_zero] at d0c
    have hc1 : ds1.length + 1 ≤ dc := by simpa [u32s] using hd1
    have HSD := Lib.hid HS.out.dr
    have HCM := Lib.hid hd2
    clear e2
    simp only [List.length_cons] at *
    have hl1 : (1 : Int) ≤ ((ds1.length + 1 : Nat) : Int) := by omega
    have hne2 : bd ≠ w.heap.size := fun e => by omega
    have hne3 : bd ≠ w.heap.size + 1 := fun e => by omega
    have hX : w.heap.size ≠ w.heap.size + 1 := by omega
    clear hy HE hd4 hdc hd3 hk3
    obtain ⟨no, hno⟩ : ∃ no : Option Addr, no = (if dc = 1 then some ⟨bd, od, none⟩ else some ⟨bd, od + 1, none⟩) := ⟨_, rfl⟩
    have HNO := Lib.hid hno
    obtain ⟨w5, hw5⟩ : ∃ q, q = w1.setCell ⟨w.heap.size, 5, none⟩ (.slice no ds1.length (dc - 1)) := ⟨_, rfl⟩
    have hO5 : OT w w1 w5 := by rw [hw5]; exact Tch.setCell (Tch.refl _ _) (fun _ => by exact X0.out) _
    have HO5 := Lib.hid hO5
    have K05 := Lib.hid (show Bk w5 w.heap.size 35 #[.int .i64 self, .slice ao act.length ac, .slice po pas.length pc, .int .i64 A, .int .i64 P, .slice no ds1.length (dc - 1)] by rw [hw5]; exact K0.out.store 5 _)
    have ht5 : Tch (· = w.heap.size) w1 w5 := by rw [hw5]; exact (Tch.refl (· = w.heap.size) w1).setCell (p := ⟨w.heap.size, 5, none⟩) (fun _ => rfl) _
    have K15 := Lib.hid (K1.out.tch ht5 (fun e => hX e.symm))
    have HN5 := Lib.hid (hO5.new HN.out)
    have HS5 := Lib.hid (show RfS w5 B ⟨self, A, P, act, pas⟩ ds1 (.slice ao act.length ac) (.slice po pas.length pc) (.slice no ds1.length (dc - 1)) from by
      have h5 := HS.out.ot hO5 hB
      refine ⟨h5.act, h5.pas, ?_, fun x hx => h5.u x (by simp [hx])⟩
      rw [hno]
      have hcm := HCM.out
      by_cases h1 : dc = 1
      · obtain rfl : ds1 = [] := List.eq_nil_of_length_eq_zero (by omega)
        subst h1
        rw [if_pos rfl]
        exact ⟨_, _, rfl, Nat.le_refl _, Nat.zero_le _, fun _ => rfl, fun h => absurd h (by simp [u32s])⟩
      · rw [if_neg h1]
        exact Sl.tail1 h5.dr (by omega) (by omega) (by omega) (by omega))
    have c05 : w5.cell? ⟨bo, off + k, none⟩ = some (.int .i64 y) := by rw [← c0]; exact Tch.cell ht5 (World.block_lt_of_cell? w1 _ c0) hne0
    go_upto_region 6 with fail
    rw [← hno, ← hw5]
    clear hno hw5 hO5 ht5 c0 d0c hne2 hne3 hl1 hc1 hd1 hd2 hdl hbd hbs hwd hm a0 a1 a2 a3 a4 a5 f0 f1 f2 f3 f4 f5 b0 b1 b2 b3 b4 b5 g0 g1 g2 g3 g4 g5 HSD HS HN K0
    have c0 := c05
    clear c05
    obtain ⟨⟨a0, a1, a2, a3, a4, a5⟩, f0, f1, f2, f3, f4, f5⟩ := Bk.six K05.out
    obtain ⟨⟨b0, b1, b2, b3, b4, b5⟩, g0, g1, g2, g3, g4, g5⟩ := Bk.six K15.out
    refine wp_region_noPanic ?_
    refine wp_region_held_drew (S := (fun q => q.cell? ⟨w.heap.size, 0, none⟩ = some (.int .i64 self) ∧ q.cell? ⟨w.heap.size, 1, none⟩ = some (.slice ao act.length ac) ∧ q.cell? ⟨w.heap.size, 2, none⟩ = some (.slice po pas.length pc) ∧ q.cell? ⟨w.heap.size, 3, none⟩ = some (.int .i64 A) ∧ q.cell? ⟨w.heap.size, 4, none⟩ = some (.int .i64 P) ∧ q.cell? ⟨w.heap.size, 5, none⟩ = some (.slice no ds1.length (dc - 1)) ∧ q.cell? ⟨bo, off + k, none⟩ = some (.int .i64 y))) (by kernel_rfl) (⟨a0, a1, a2, a3, a4, a5, c0⟩) (fun hHeld => ?_)
    refine takeH (i := 0) (v := .agg #[.int .i64 self, .slice ao act.length ac, .slice po pas.length pc, .int .i64 A, .int .i64 P, .slice no ds1.length (dc - 1)]) (some 34) rfl rfl (by kernel_rfl) (by kernel_rfl) (by kernel_rfl) (fun _ _ _ h => h) (Or.inl ⟨by rfl, ?_⟩) hHeld ?_
    · (intro x hSw; (try dsimp only at hSw); go_simp)
    try simp only [Act.put, List.setIfInBounds_toArray, List.set_cons_zero, List.set_cons_succ]
    refine takeH (i := 1) (v := .slice (some ⟨bo, off, none⟩) L'.length vc) (some 35) rfl rfl (by kernel_rfl) (by kernel_rfl) (by kernel_rfl) (fun _ _ _ h => h) (Or.inl ⟨by rfl, ?_⟩) hHeld ?_
    · (intro x hSw; (try dsimp only at hSw); go_simp)
    try simp only [Act.put, List.setIfInBounds_toArray, List.set_cons_zero, List.set_cons_succ]
    refine takeH (i := 2) (v := .int .i64 k) (some 36) rfl rfl (by kernel_rfl) (by kernel_rfl) (by kernel_rfl) (fun _ _ _ h => h) (Or.inl ⟨by rfl, ?_⟩) hHeld ?_
    · (intro x hSw; (try dsimp only at hSw); go_simp)
    try simp only [Act.put, List.setIfInBounds_toArray, List.set_cons_zero, List.set_cons_succ]
    refine takeH (i := 3) (v := .pointer (some ⟨bo, off + k, none⟩)) (some 37) rfl rfl (by kernel_rfl) (by kernel_rfl) (by kernel_rfl) (fun _ _ _ h => h) (Or.inl ⟨by rfl, ?_⟩) hHeld ?_
    · (intro x hSw; (try dsimp only at hSw); go_simp)
    try simp only [Act.put, List.setIfInBounds_toArray, List.set_cons_zero, List.set_cons_succ]
    refine takeH (i := 4) (v := .int .i64 y) (some 38) rfl rfl (by kernel_rfl) (by kernel_rfl) (by kernel_rfl) (fun _ _ _ h => h) (Or.inl ⟨by rfl, ?_⟩) hHeld ?_
    · (intro x hSw; (try dsimp only at hSw); go_simp)
    try simp only [Act.put, List.setIfInBounds_toArray, List.set_cons_zero, List.set_cons_succ]
    refine wpAnyH_ready (rs := [5]) (by kernel_rfl) (by simp) (AllReadyH.cons rfl (fun K hK => ?_) AllReadyH.nil)
    go_simp
    go_wp2_with fail
    refine hK.out _ _ (by exact ⟨six_apart a0 hX, six_apart a1 hX, six_apart a2 hX, six_apart a3 hX, six_apart a4 hX, six_apart a5 hX, six_apart c0 hne1⟩) (fun hHeld => ?_)
    clear hK K
    try simp only [Act.put, List.setIfInBounds_toArray, List.set_cons_zero, List.set_cons_succ]
    refine takeH (i := 6) (v := .int .i64 y) (some 5) rfl rfl (by kernel_rfl) (by kernel_rfl) (by kernel_rfl) (fun _ _ _ h => h) (Or.inl ⟨by rfl, ?_⟩) hHeld ?_
    · (intro x hSw; (try dsimp only at hSw); go_simp)
    try simp only [Act.put, List.setIfInBounds_toArray, List.set_cons_zero, List.set_cons_succ]
    refine wpAnyH_done (by kernel_rfl) ?_ _
    refine NoPanic.normal ?_
    obtain ⟨w9, hw9⟩ : ∃ q, q = (put6 w5 (w.heap.size + 1) (.int .i64 self) (.slice ao act.length ac) (.slice po pas.length pc) (.int .i64 A) (.int .i64 P) (.slice no ds1.length (dc - 1))).drew := ⟨_, rfl⟩
    have K9 := Lib.hid (show Bk w9 (w.heap.size + 1) 35 #[.int .i64 self, .slice ao act.length ac, .slice po pas.length pc, .int .i64 A, .int .i64 P, .slice no ds1.length (dc - 1)] by rw [hw9]; exact ((New.refl _).drew).bk (bk_put6 K15.out _ _ _ _ _ _))
    have X15 := Lib.hid (show w.heap.size ≤ w.heap.size + 1 ∧ ¬ IntB w5 (w.heap.size + 1) from ⟨by omega, not_int K15.out rview_ne_int⟩)
    have HO9 := Lib.hid (show OT w w5 w9 by rw [hw9]; exact Tch.drew (Tch.more (tch_put6 _ _ _ _ _ _ _ _) (fun b _ e => by rw [e]; exact X15.out)))
    unfold put6 at hw9
    rw [← hw9]
    clear hw9 a0 a1 a2 a3 a4 a5 f0 f1 f2 f3 f4 f5 b0 b1 b2 b3 b4 b5 g0 g1 g2 g3 g4 g5
    obtain ⟨⟨b0, b1, b2, b3, b4, b5⟩, _⟩ := Bk.six K9.out
    go_wp2_with fail
    rw [HT.out, HY.out]
    refine bodyPost_ret (v := .tuple #[rfV ⟨self, A, P, act, pas⟩ (.slice ao act.length ac) (.slice po pas.length pc) (.slice no ds1.length (dc - 1)), .int .i64 y]) (by simp [results, Try.results67, go_sem, b0, b1, b2, b3, b4, b5, rfV]) rfl ⟨_, _, _, rfl, ?_⟩
    exact rf_fin (w1 := w5) HS5.out HN5.out HO9.out hB
end Go.Proofs.Ytdhafagihfdolaa
