/-
  NodesetOrder answers true for every list, every turn and every n; new memory apart nothing turns.
-/
import Derived.Test.YtohpbjbbkpllaaaNodeLaw
import Derived.Test.YtohpbjbbkpllaaaNodeOrdMath
import Derived.Deep.DeepCutAuto
import Derived.Deep.RegionHeld3
set_option linter.unusedVariables false
set_option linter.unusedSimpArgs false
namespace Go.Proofs.Ytohpbjbbkpllaaa
open Go.RowKit Go.Lib Go.Sort Go.Shelf

theorem below_alloc' {w x : World} (h : Below w.heap.size w x) (o : Obj) : Below w.heap.size w (x.alloc o) := h.alloc h.size o
def u16s (us : List Int) : List Value := us.map (Value.int .u16)
def AllU16 (us : List Int) : Prop := ∀ x ∈ us, 0 ≤ x ∧ x ≤ 65535

/-- A variable that holds a set. -/
def SetAt (w : World) (X most : Nat) (ns : List Int) : Prop := ∃ ao len cap, Bk w X 26 #[.int .i64 most, .slice ao len cap] ∧ SetV w (.agg #[.int .i64 most, .slice ao len cap]) most ns
theorem SetAt.below {w w' : World} {X most : Nat} {ns : List Int} (h : SetAt w X most ns) (hb : Below w.heap.size w w') : SetAt w' X most ns := by
  obtain ⟨ao, len, cap, h1, h2⟩ := h
  exact ⟨ao, len, cap, bk_below h1 hb h1.lt, h2.below hb⟩

/-- An operation of a drawn region taken first, its slot written out. -/
theorem takeH {P : Program} {ops : Array Oper} {Q : Exit → Act → World → Prop} {md : Region.Mode} {S : World → Prop} {i : Nat} {oi : Oper} {v : Value} {fuel : Nat} {listed : Array Bool} {a : Act} {w : World} (dst : Option Tmp) (hi : ops[i]? = some oi) (hd : oi.dst = dst)
    (hs : Region.noSelect ops = true) (hf : Region.free md ops listed i = true) (hr : (Region.ready md ops listed).contains i = true)
    (hQ : ∀ c a w, Q (.panic c) (a.put dst v) w → Q (.panic c) a w) (hy : YieldsIf P ops S oi v a) (hS : S w)
    (h : wpAnyH P md ops Q S fuel (listed.setIfInBounds i true) (a.put dst v) w) : wpAnyH P md ops Q S (fuel + 1) listed a w := by
  subst hd
  exact wpAnyH_take hi hs hf hr hQ hy hS h
theorem same_self {S T : Nat → Prop} {ns : List Int} (u v : Value) (w : World) (hl : ns.length ≤ 1000000) (h : Sl w S u (ints ns)) (k : Sl w T v (ints ns)) :
    Calls Try.prog 14 #[u, v] w fun e w' => e = .returned (.bool true) ∧ ∃ q, w' = w.drewN q := by
  have := same_ref u v ns ns w h k hl hl
  rwa [dec_ (rfl : ns = ns)] at this
theorem setAt_alloc {w : World} {most : Nat} {ns : List Int} {ao : Option Addr} {len cap : Nat} (h : SetV w (.agg #[.int .i64 most, .slice ao len cap]) most ns) :
    SetAt (w.alloc (.cells #[.int .i64 most, .slice ao len cap] 26)) w.heap.size most ns := ⟨ao, len, cap, Bk.made w _ _, h.below (below_alloc w _)⟩
theorem setAt_put {w : World} {X most : Nat} {ns : List Int} {ao : Option Addr} {len cap : Nat} {a b : Value} (k : Bk w X 26 #[a, b]) (h : SetV w (.agg #[.int .i64 most, .slice ao len cap]) most ns) :
    SetAt (put2 w X (.int .i64 most) (.slice ao len cap)) X most ns := ⟨ao, len, cap, bk_put2 k _ _, h.put2 k set_ne_int _ _⟩

theorem two_puts {w wy : World} {A : Nat} {xs ys : List Int} {a b c d : Value} {aox aoy : Option Addr} {lenx capx leny capy : Nat} (kA : Bk wy A 26 #[a, b]) (kB : Bk wy (A + 1) 26 #[c, d])
    (sX : SetV wy (.agg #[.int .i64 (64 : Nat), .slice aox lenx capx]) 64 xs) (sY : SetV wy (.agg #[.int .i64 (64 : Nat), .slice aoy leny capy]) 64 ys) (hb : Below w.heap.size w wy) (hA : w.heap.size ≤ A) :
    SetAt (put2 (put2 wy A (.int .i64 (64 : Nat)) (.slice aox lenx capx)) (A + 1) (.int .i64 (64 : Nat)) (.slice aoy leny capy)).drew A 64 xs ∧
    SetAt (put2 (put2 wy A (.int .i64 (64 : Nat)) (.slice aox lenx capx)) (A + 1) (.int .i64 (64 : Nat)) (.slice aoy leny capy)).drew (A + 1) 64 ys ∧
    Below w.heap.size w (put2 (put2 wy A (.int .i64 (64 : Nat)) (.slice aox lenx capx)) (A + 1) (.int .i64 (64 : Nat)) (.slice aoy leny capy)).drew ∧ True := by
  have kA1 := bk_put2 kA (.int .i64 (64 : Nat)) (.slice aox lenx capx)
  have kB1 := bk_put2' kB (X := A) (by omega) (.int .i64 (64 : Nat)) (.slice aox lenx capx)
  have sX1 := sX.put2 kA set_ne_int (.int .i64 (64 : Nat)) (.slice aox lenx capx)
  have sY1 := sY.put2 kA set_ne_int (.int .i64 (64 : Nat)) (.slice aox lenx capx)
  have kA2 := bk_put2' kA1 (X := A + 1) (by omega) (.int .i64 (64 : Nat)) (.slice aoy leny capy)
  have kB2 := bk_put2 kB1 (.int .i64 (64 : Nat)) (.slice aoy leny capy)
  have sX2 := sX1.put2 kB1 set_ne_int (.int .i64 (64 : Nat)) (.slice aoy leny capy)
  have sY2 := sY1.put2 kB1 set_ne_int (.int .i64 (64 : Nat)) (.slice aoy leny capy)
  have hd : ∀ x : World, Below x.heap.size x x.drew := fun x => (Below.refl _ _).drew
  exact ⟨⟨_, _, _, kA2, sX2.below (hd _)⟩, ⟨_, _, _, kB2, sY2.below (hd _)⟩, (below_put2 (below_put2 hb hA _ _) (by omega) _ _).drew, trivial⟩

set_option maxRecDepth 100000 in
set_option maxHeartbeats 40000000 in
theorem nodesetOrder_core (l : Value) (us : List Int) (turn n : Int) (w : World) (hs : Sl w (· < w.heap.size) l (u16s us)) (hus : AllU16 us) (ht : -9223372036854775808 ≤ turn ∧ turn ≤ 9223372036854775807) (hn : -9223372036854775808 ≤ n ∧ n ≤ 9223372036854775807) :
    Calls Try.prog 5 #[l, .int .i64 turn, .int .i64 n] w fun e w' => e = .returned (.bool true) ∧ Below w.heap.size w w' := by
  have H0 := Lib.hid hs
  obtain ⟨ao, cap0, rfl, hl0, hm0, _, _⟩ := hs
  rw [show (u16s us).length = us.length from by simp [u16s]] at hl0 ⊢
  unfold maxLen at hm0
  have HUS := Lib.hid hus
  clear hus
  go_enter Try.func5, Try.ntmps5
  go_upto_region 3 with (go_at_call 8; refine (speaks03 _).mono ?_; rintro e w1 ⟨rfl, hb1⟩; have HB1 := Lib.hid hb1; clear hb1)
  go_cut [0] (fun v wx => ∃ m, v = .slice ao m cap0 ∧ m ≤ 60 ∧ Hid ((us.take 60).length = m) ∧ Hid (Sl w (· < w.heap.size) v (u16s (us.take 60))) ∧ Hid (Below w.heap.size w wx))
  case first =>
    have HA : ∀ M, (M = 60 ∧ 60 ≤ us.length ∨ M = us.length ∧ us.length ≤ 60) → Hid ((us.take 60).length = M) ∧ Hid (Sl w (· < w.heap.size) (.slice ao M cap0) (u16s (us.take 60))) := by
      intro M hM
      have := H0.out.head (n := M) (by simp [u16s]; omega)
      have e : (u16s us).take M = u16s (us.take 60) := by
        simp only [u16s, ← List.map_take]
        rcases hM with ⟨rfl, _⟩ | ⟨rfl, h⟩
        · rfl
        · rw [List.take_of_length_le (Nat.le_refl _), List.take_of_length_le h]
      rw [e] at this
      exact ⟨by rw [List.length_take]; show min 60 us.length = M; omega, this⟩
    go_wp2_with fail
    all_goals go_meet
    all_goals exact ⟨_, rfl, by omega, (HA _ (by omega)).1, (HA _ (by omega)).2, HB1⟩
  case rest =>
    obtain ⟨m, rfl, hm60, HM, HS, HB⟩ := hcut
    have HU : Hid (AllU16 (us.take 60)) := fun x hx => HUS.out x (List.mem_of_mem_take hx)
    generalize us.take 60 = vs at HM HS HU
    clear H0 HUS
    go_wp2_with fail
    refine (new_lay 64 _ (by omega) (by omega) 64 (by omega)).mono ?_
    rintro e w2 ⟨ao2, len2, cap2, rfl, H2, B2⟩
    go_wp2_with fail
    refine (new_lay 64 _ (by omega) (by omega) 64 (by omega)).mono ?_
    rintro e w3 ⟨ao3, len3, cap3, rfl, H3, B3⟩
    go_wp2_with fail
    obtain ⟨W4, hW4⟩ : ∃ W4, W4 = (w3.alloc (.cells #[.int .i64 64, .slice ao2 len2 cap2] 26)).alloc (.cells #[.int .i64 64, .slice ao3 len3 cap3] 26) := ⟨_, rfl⟩
    have b34 : Below w3.heap.size w3 W4 := by rw [hW4]; exact (below_alloc _ _).alloc (by simp) _
    have SA := Lib.hid (show SetAt W4 w3.heap.size 64 [] from ⟨ao2, len2, cap2, by rw [hW4]; exact (Bk.made w3 _ _).alloc _, (H2.out.below B3.out).below b34⟩)
    have SB := Lib.hid (show SetAt W4 (w3.heap.size + 1) 64 [] from ⟨ao3, len3, cap3, by
      rw [hW4]
      have := Bk.made (w3.alloc (.cells #[.int .i64 64, .slice ao2 len2 cap2] 26)) 26 #[.int .i64 64, .slice ao3 len3 cap3]
      simpa using this, H3.out.below b34⟩)
    have BW := Lib.hid (below_then (below_then (below_then HB.out B2.out) B3.out) b34)
    have hz4 : w3.heap.size + 1 < W4.heap.size := by rw [hW4]; simp
    have hzw : w.heap.size ≤ w3.heap.size := (below_then (below_then HB.out B2.out) B3.out).size
    rw [← hW4]
    clear H2 H3 B2 B3 hW4 b34 HB
    obtain ⟨R, hR⟩ : ∃ R : Nat, R = ((turn.tmod (m : Int) + m) % m).toNat := ⟨_, rfl⟩
    have HR := Lib.hid hR
    clear hR
    go_loopw [9] (fun vi wr => ∃ i : Nat, i ≤ m ∧ vi = .int .i64 i ∧ w3.heap.size + 1 < wr.heap.size ∧ Hid (SetAt wr w3.heap.size 64 (adds ((ordA vs).take i))) ∧ Hid (SetAt wr (w3.heap.size + 1) 64 (adds ((ordB vs R).take i))) ∧ Hid (Below w.heap.size w wr)) (fun vi _ => m - (intOf vi).toNat)
    case atStart => exact ⟨0, by omega, rfl, hz4, SA, SB, BW⟩
    case round =>
      obtain ⟨i, him, rfl, hzr, SAr, SBr, Br⟩ := hrel
      by_cases hlt : i < m
      · have hm0 : (0 : Int) < m := by omega
        have hT1 := Int.lt_tmod_of_pos turn hm0
        have hT2 := Int.tmod_lt_of_pos turn hm0
        obtain ⟨T, hT⟩ : ∃ T, turn.tmod (m : Int) = T := ⟨_, rfl⟩
        rw [hT] at hT1 hT2
        have hR2 : (T + (m : Int)) % (m : Int) = (R : Int) := by
          have := Int.emod_nonneg (T + (m : Int)) (show (m : Int) ≠ 0 by omega)
          rw [HR.out, hT]
          omega
        have hRm : R < m := by
          have := Int.emod_lt_of_pos (T + (m : Int)) hm0
          omega
        have hR1 : T % (m : Int) = (R : Int) := by rw [← hR2, Int.add_emod_right]
        obtain ⟨k, hk⟩ : ∃ k, k = (i + R) % m := ⟨_, rfl⟩
        have hkm : k < m := by rw [hk]; exact Nat.mod_lt _ (by omega)
        have hK : ((i : Int) + (R : Int)) % (m : Int) = (k : Int) := by rw [hk, Int.natCast_emod, Int.natCast_add]
        have HK := Lib.hid hk
        clear hk
        go_upto_region 9 with (fail)
        rw [hK]
        clear hT hT1 hT2 hR1 hR2 hK
        go_cut [11, 12] (fun vx vb wx => ∃ X, vx = .pointer (some ⟨X, 0, none⟩) ∧ vb = .bool true ∧ w3.heap.size + 1 < X ∧ X < wx.heap.size ∧ Hid (SetAt wx X 64 (adds ((ordA vs).take (i + 1)))) ∧ Hid (Below wr.heap.size wr wx))
        case first =>
          obtain ⟨lb, off, rfl, hcl⟩ : ∃ lb off, ao = some ⟨lb, off, none⟩ ∧ ∀ x, Below w.heap.size w x → ∀ j, j < m → x.cell? ⟨lb, off + j, none⟩ = some (.int .u16 (vs.getD j 0)) := by
            obtain ⟨ao', cap', e, _, _, _, hc⟩ := HS.out
            injection e with e1 e2 e3
            have hlen : (u16s vs).length = m := by simpa [u16s] using HM.out
            obtain ⟨b, off, e, hb, _, hc⟩ := hc (by omega)
            refine ⟨b, off, e1.trans e, fun x hx j hj => ?_⟩
            rw [hx.cell (p := ⟨b, off + j, none⟩) hb, hc j (by omega)]
            have hj' : j < vs.length := by rw [HM.out]; exact hj
            simp [u16s, List.getD, hj']
          obtain ⟨u, hu⟩ : ∃ u, u = vs.getD i 0 := ⟨_, rfl⟩
          have hub : 0 ≤ u ∧ u ≤ 65535 := HU.out u (by
            rw [hu]
            have : i < vs.length := by rw [HM.out]; exact hlt
            simp [List.getD, this])
          have hstep := ordA_step vs i (by rw [HM.out]; exact hlt)
          rw [← hu] at hstep
          obtain ⟨hu0, hu1⟩ := hub
          obtain ⟨ao1, len1, cap1, k1, s1⟩ := SAr.out
          have KEEP : Hid (∀ x, Below wr.heap.size wr x → x.cell? ⟨w3.heap.size, 0, none⟩ = some (.int .i64 64) ∧ x.cell? ⟨w3.heap.size, 1, none⟩ = some (.slice ao1 len1 cap1) ∧ x.cell? ⟨lb, off + i, none⟩ = some (.int .u16 u) ∧ Below wr.heap.size wr x) := by
            intro x hx
            obtain ⟨c1, c2, _, _⟩ := (bk_below k1 hx k1.lt).two
            exact ⟨c1, c2, by rw [hu]; exact hcl x (below_then Br.out hx) i hlt, hx⟩
          have S1 := Lib.hid s1
          have HST := Lib.hid hstep
          obtain ⟨c1, c2, c3, c4⟩ := KEEP.out wr (Below.refl _ _)
          clear k1 s1 hcl hstep hu
          have e0 : IntKind.i64.wrap u = u := IntWalk.i64_in _ (by omega)
          obtain ⟨y, e1⟩ : ∃ y, u.tmod 65535 = y := ⟨_, rfl⟩
          have hy : y = u % 65535 := by rw [← e1]; exact Int.tmod_eq_emod_of_nonneg hu0
          obtain ⟨nd, hnd⟩ : ∃ nd, nd = nodeF u := ⟨_, rfl⟩
          have e2 : IntKind.i64.wrap (1 + y) = nd := by rw [IntWalk.i64_in _ (by omega), hnd, hy]; rfl
          rw [← hnd] at HST
          have hndb : 1 ≤ nd ∧ nd ≤ 65535 := by rw [hnd]; exact nodeF_is u
          clear hy hnd
          have hgl := adds_spec ((ordA vs).take i) (fun x hx => ordA_node vs x (List.mem_of_mem_take hx)) (by rw [List.length_take]; omega)
          have HADD := Lib.hid (addL_one hgl.1 (by have := hgl.2.1; rw [List.length_take] at this; omega) hndb).2.2
          clear hgl hndb
          have R0 := Below.refl wr.heap.size wr
          go_region_held3 (fun x => x.cell? ⟨w3.heap.size, 0, none⟩ = some (.int .i64 64) ∧ x.cell? ⟨w3.heap.size, 1, none⟩ = some (.slice ao1 len1 cap1) ∧ x.cell? ⟨lb, off + i, none⟩ = some (.int .u16 u) ∧ Below wr.heap.size wr x)
            ((refine KEEP.out _ ?_; first | exact R0 | exact R0.drew | exact below_alloc' R0.drew _ | exact below_then R0.drew BQ.out | exact below_alloc' (below_then R0.drew BQ.out) _ | exact below_then (below_alloc' R0.drew _) BQ.out | exact ((below_then (below_alloc' R0.drew _) BQ.out).setCell (Nat.le_refl _) _).setCell (Nat.le_refl _) _))
            (first | (go_at_call 11; refine (add_set _ 64 _ nd _ (S1.out.below (by first | exact R0.drew | exact below_alloc' R0.drew _))).mono ?_; intro e w' hq; obtain ⟨aoq, lenq, capq, rfl, HQ, BQ⟩ := hq.lay; try obtain ⟨t1, t2, t3, t4⟩ := (bk_below (show Bk (wr.alloc (.cells #[.int .i64 0, .slice none 0 0] 26)).drew wr.heap.size _ _ from Bk.made wr _ _) BQ.out (by simp)).two))
          · go_wp2_with fail
            go_meet
            have hz : wr.heap.size ≤ w'.heap.size := BQ.out.size
            exact ⟨_, rfl, by rw [HADD.out], by omega, by simp, by rw [HST.out]; exact setAt_alloc HQ.out, below_alloc' (below_then R0.drew BQ.out) _⟩
          · go_wp2_with fail
            go_meet
            have kb := bk_below (show Bk (wr.alloc (.cells #[.int .i64 0, .slice none 0 0] 26)).drew wr.heap.size _ _ from Bk.made wr _ _) BQ.out (by simp)
            exact ⟨_, rfl, by rw [HADD.out], by omega, Nat.lt_of_lt_of_le kb.lt (Nat.le_of_eq (size_put2 w' wr.heap.size _ _).symm), by rw [HST.out]; exact setAt_put kb HQ.out, ((below_then (below_alloc' R0.drew _) BQ.out).setCell (Nat.le_refl _) _).setCell (Nat.le_refl _) _⟩
        case rest =>
          obtain ⟨X, rfl, rfl, hX1, hX2, SX, BX⟩ := hcut
          obtain ⟨wx, rfl⟩ : ∃ x, x = wc := ⟨_, rfl⟩
          have SBx := Lib.hid (SBr.out.below BX.out)
          have SAx := Lib.hid (SAr.out.below BX.out)
          have BRX := Lib.hid (below_then Br.out BX.out)
          clear SBr SAr Br BX
          go_upto_region 10 with (fail)
          go_cut [13, 14] (fun vx vb wy => ∃ Y, vx = .pointer (some ⟨Y, 0, none⟩) ∧ vb = .bool true ∧ X < Y ∧ Y < wy.heap.size ∧ Hid (SetAt wy Y 64 (adds ((ordB vs R).take (i + 1)))) ∧ Hid (Below wx.heap.size wx wy))
          case first =>
            obtain ⟨lb, off, rfl, hcl⟩ : ∃ lb off, ao = some ⟨lb, off, none⟩ ∧ ∀ x, Below w.heap.size w x → ∀ j, j < m → x.cell? ⟨lb, off + j, none⟩ = some (.int .u16 (vs.getD j 0)) := by
              obtain ⟨ao', cap', e, _, _, _, hc⟩ := HS.out
              injection e with e1 e2 e3
              have hlen : (u16s vs).length = m := by simpa [u16s] using HM.out
              obtain ⟨b, off, e, hb, _, hc⟩ := hc (by omega)
              refine ⟨b, off, e1.trans e, fun x hx j hj => ?_⟩
              rw [hx.cell (p := ⟨b, off + j, none⟩) hb, hc j (by omega)]
              have hj' : j < vs.length := by rw [HM.out]; exact hj
              simp [u16s, List.getD, hj']
            obtain ⟨u, hu⟩ : ∃ u, u = vs.getD k 0 := ⟨_, rfl⟩
            have hub : 0 ≤ u ∧ u ≤ 65535 := HU.out u (by
              rw [hu]
              have : k < vs.length := by rw [HM.out]; exact hkm
              simp [List.getD, this])
            have hstep := ordB_step vs R i (by rw [HM.out]; exact hlt)
            rw [HM.out, ← HK.out, ← hu] at hstep
            obtain ⟨hu0, hu1⟩ := hub
            obtain ⟨ao1, len1, cap1, k1, s1⟩ := SBx.out
            have KEEP : Hid (∀ x, Below wx.heap.size wx x → x.cell? ⟨(w3.heap.size + 1), 0, none⟩ = some (.int .i64 64) ∧ x.cell? ⟨(w3.heap.size + 1), 1, none⟩ = some (.slice ao1 len1 cap1) ∧ x.cell? ⟨lb, off + k, none⟩ = some (.int .u16 u) ∧ Below wx.heap.size wx x) := by
              intro x hx
              obtain ⟨c1, c2, _, _⟩ := (bk_below k1 hx k1.lt).two
              exact ⟨c1, c2, by rw [hu]; exact hcl x (below_then BRX.out hx) k hkm, hx⟩
            have S1 := Lib.hid s1
            have HST := Lib.hid hstep
            obtain ⟨c1, c2, c3, c4⟩ := KEEP.out wx (Below.refl _ _)
            clear k1 s1 hcl hstep hu
            have e0 : IntKind.i64.wrap u = u := IntWalk.i64_in _ (by omega)
            obtain ⟨y, e1⟩ : ∃ y, u.tmod 65535 = y := ⟨_, rfl⟩
            have hy : y = u % 65535 := by rw [← e1]; exact Int.tmod_eq_emod_of_nonneg hu0
            obtain ⟨nd, hnd⟩ : ∃ nd, nd = nodeF u := ⟨_, rfl⟩
            have e2 : IntKind.i64.wrap (1 + y) = nd := by rw [IntWalk.i64_in _ (by omega), hnd, hy]; rfl
            rw [← hnd] at HST
            have hndb : 1 ≤ nd ∧ nd ≤ 65535 := by rw [hnd]; exact nodeF_is u
            clear hy hnd
            have hgl := adds_spec ((ordB vs R).take i) (fun x hx => ordB_node vs R x (List.mem_of_mem_take hx)) (by rw [List.length_take]; omega)
            have HADD := Lib.hid (addL_one hgl.1 (by have := hgl.2.1; rw [List.length_take] at this; omega) hndb).2.2
            clear hgl hndb
            have R0 := Below.refl wx.heap.size wx
            go_region_held3 (fun x => x.cell? ⟨(w3.heap.size + 1), 0, none⟩ = some (.int .i64 64) ∧ x.cell? ⟨(w3.heap.size + 1), 1, none⟩ = some (.slice ao1 len1 cap1) ∧ x.cell? ⟨lb, off + k, none⟩ = some (.int .u16 u) ∧ Below wx.heap.size wx x)
              ((refine KEEP.out _ ?_; first | exact R0 | exact R0.drew | exact below_alloc' R0.drew _ | exact below_then R0.drew BQ.out | exact below_alloc' (below_then R0.drew BQ.out) _ | exact below_then (below_alloc' R0.drew _) BQ.out | exact ((below_then (below_alloc' R0.drew _) BQ.out).setCell (Nat.le_refl _) _).setCell (Nat.le_refl _) _))
              (first | (go_at_call 11; refine (add_set _ 64 _ nd _ (S1.out.below (by first | exact R0.drew | exact below_alloc' R0.drew _))).mono ?_; intro e w' hq; obtain ⟨aoq, lenq, capq, rfl, HQ, BQ⟩ := hq.lay; try obtain ⟨t1, t2, t3, t4⟩ := (bk_below (show Bk (wx.alloc (.cells #[.int .i64 0, .slice none 0 0] 26)).drew wx.heap.size _ _ from Bk.made wx _ _) BQ.out (by simp)).two))
            · go_wp2_with fail
              go_meet
              have hz : wx.heap.size ≤ w'.heap.size := BQ.out.size
              exact ⟨_, rfl, by rw [HADD.out], by omega, by simp, by rw [HST.out]; exact setAt_alloc HQ.out, below_alloc' (below_then R0.drew BQ.out) _⟩
            · go_wp2_with fail
              go_meet
              have kb := bk_below (show Bk (wx.alloc (.cells #[.int .i64 0, .slice none 0 0] 26)).drew wx.heap.size _ _ from Bk.made wx _ _) BQ.out (by simp)
              exact ⟨_, rfl, by rw [HADD.out], by omega, Nat.lt_of_lt_of_le kb.lt (Nat.le_of_eq (size_put2 w' wx.heap.size _ _).symm), by rw [HST.out]; exact setAt_put kb HQ.out, ((below_then (below_alloc' R0.drew _) BQ.out).setCell (Nat.le_refl _) _).setCell (Nat.le_refl _) _⟩
          case rest =>
            obtain ⟨Y, rfl, rfl, hY1, hY2, SY, BY⟩ := hcut
            obtain ⟨wy, rfl⟩ : ∃ x, x = wc := ⟨_, rfl⟩
            go_wp2_with fail
            obtain ⟨aox, lenx, capx, kX, sX⟩ := (SX.out.below BY.out)
            obtain ⟨aoy, leny, capy, kY, sY⟩ := SY.out
            obtain ⟨aoa, lena, capa, kA, sA⟩ := (SAx.out.below BY.out)
            obtain ⟨aob, lenb, capb, kB, sB⟩ := (SBx.out.below BY.out)
            have BRY := Lib.hid (below_then BRX.out BY.out)
            obtain ⟨x1, x2, x3, x4⟩ := kX.two
            obtain ⟨y1, y2, y3, y4⟩ := kY.two
            obtain ⟨a1, a2, a3, a4⟩ := kA.two
            obtain ⟨b1, b2, b3, b4⟩ := kB.two
            have KX := Lib.hid kX
            have KY := Lib.hid kY
            have KA := Lib.hid kA
            have KB := Lib.hid kB
            have SXX := Lib.hid sX
            have SYY := Lib.hid sY
            have hzy := kY.lt
            have n1 : X ≠ w3.heap.size := by omega
            have n2 : X ≠ w3.heap.size + 1 := by omega
            have n3 : Y ≠ w3.heap.size := by omega
            have n4 : Y ≠ w3.heap.size + 1 := by omega
            have n5 : w3.heap.size ≠ w3.heap.size + 1 := by omega
            clear kX kY kA kB sX sY sA sB SX SY BY SAx SBx BRX
            go_region
            obtain ⟨q1, q2, q3, q4⟩ := two_puts (w := w) KA.out KB.out SXX.out SYY.out BRY.out hzw
            have Q1 := Lib.hid q1
            have Q2 := Lib.hid q2
            have Q3 := Lib.hid q3
            clear q1 q2 q3 x1 x2 x3 x4 y1 y2 y3 y4 a1 a2 a3 a4 b1 b2 b3 b4
            go_wp2_with fail
            go_roundw
            case rel => exact ⟨i + 1, by omega, by go_num, by show w3.heap.size + 1 < (put2 (put2 wy w3.heap.size _ _) (w3.heap.size + 1) _ _).heap.size; rw [size_put2, size_put2]; omega, Q1, Q2, Q3⟩
            case measure => simp [intOf]; omega
      · obtain ⟨ns, hns⟩ : ∃ ns, ns = adds (ordA vs) := ⟨_, rfl⟩
        have e1 : adds ((ordA vs).take i) = ns := by rw [hns, List.take_of_length_le (by rw [ordA_length, HM.out]; omega)]
        have e2 : adds ((ordB vs R).take i) = ns := by
          rw [hns, List.take_of_length_le (by rw [ordB_length, HM.out]; omega)]
          refine (ord_same vs R ?_ (by rw [HM.out]; omega)).symm
          rw [HM.out]
          rcases (show m = 0 ∨ 0 < m by omega) with h | h
          · exact .inr h
          · have := Int.emod_lt_of_pos (turn.tmod (m : Int) + (m : Int)) (show (0 : Int) < m by omega)
            have := Int.emod_nonneg (turn.tmod (m : Int) + (m : Int)) (show (m : Int) ≠ 0 by omega)
            have := HR.out
            exact .inl (by omega)
        rw [e1] at SAr
        rw [e2] at SBr
        have HL60 : Hid (ns.length ≤ 60) := by
          have := (adds_spec (ordA vs) (ordA_node vs) (by rw [ordA_length, HM.out]; omega)).2.1
          rw [← hns, ordA_length, HM.out] at this
          exact Nat.le_trans this hm60
        clear e1 e2 hns HR HM HS HU SA SB BW
        obtain ⟨aoa, lena, capa, kA, sA⟩ := SAr.out
        obtain ⟨aob, lenb, capb, kB, sB⟩ := SBr.out
        have hg : Good 64 ns := by obtain ⟨_, _, _, hg⟩ := sA; exact hg
        have hle := hg.le
        have HG := Lib.hid hg
        have hf1 : (ns.filter fun x => !([] : List Int).contains x) = ns := List.filter_eq_self.2 (by simp)
        have hf2 : (ns.filter fun x => !ns.contains x) = [] := List.filter_eq_nil_iff.2 (by simp)
        have F1 := Lib.hid hf1
        have F2 := Lib.hid hf2
        have hd : decide (ns = ns) = true := by simp
        have HLE := Lib.hid (show ns.length ≤ 1000000 by omega)
        have SA1 := Lib.hid sA
        have SB1 := Lib.hid sB
        have KEEP : Hid (∀ x, Below wr.heap.size wr x → x.cell? ⟨w3.heap.size, 0, none⟩ = some (.int .i64 64) ∧ x.cell? ⟨w3.heap.size, 1, none⟩ = some (.slice aoa lena capa) ∧ x.cell? ⟨w3.heap.size + 1, 0, none⟩ = some (.int .i64 64) ∧ x.cell? ⟨w3.heap.size + 1, 1, none⟩ = some (.slice aob lenb capb) ∧ Below wr.heap.size wr x) := by
          intro x hx
          obtain ⟨c1, c2, _, _⟩ := (bk_below kA hx kA.lt).two
          obtain ⟨d1, d2, _, _⟩ := (bk_below kB hx kB.lt).two
          exact ⟨c1, c2, d1, d2, hx⟩
        clear kA kB sA sB hg hf1 hf2 hd
        go_upto_region 14 with (fail)
        go_cut [102] (fun vb wx => vb = .bool false ∧ Hid (Below wr.heap.size wr wx))
        case first =>
          have BC := Lib.hid (Below.refl wr.heap.size wr)
          obtain ⟨c1, c2, c3, c4, _⟩ := KEEP.out wr BC.out
          have tok1 : True := trivial
          go_region_held3 (fun x => x.cell? ⟨w3.heap.size, 0, none⟩ = some (.int .i64 64) ∧ x.cell? ⟨w3.heap.size, 1, none⟩ = some (.slice aoa lena capa) ∧ x.cell? ⟨w3.heap.size + 1, 0, none⟩ = some (.int .i64 64) ∧ x.cell? ⟨w3.heap.size + 1, 1, none⟩ = some (.slice aob lenb capb) ∧ Below wr.heap.size wr x)
            ((refine KEEP.out _ ?_; first | exact BC.out | exact BC.out.drew | exact bdN BC.out _))
            (first
             | (have _t := tok1; go_at_call 10; refine (all_set _ 64 ns _ (SA1.out.below (by first | exact BC.out | exact BC.out.drew))).mono ?_; rintro e w' ⟨o1, p1, rfl, H1, B⟩; replace BC := Lib.hid (below_then (by first | exact BC.out | exact BC.out.drew) B.out); clear tok1 B; have tok2 : True := trivial)
             | (have _t := tok2; go_at_call 10; refine (all_set _ 64 ns _ (SB1.out.below (by first | exact BC.out | exact BC.out.drew))).mono ?_; rintro e w' ⟨o2, p2, rfl, H2, B⟩; replace BC := Lib.hid (below_then (by first | exact BC.out | exact BC.out.drew) B.out); replace H1 := Lib.hid (Slr.below (by exact H1.out) B.out); clear tok2 B; have tok3 : True := trivial)
             | (have _t := tok3; go_at_call 14; refine (same_self _ _ _ HLE.out (by exact H1.out) (by exact H2.out)).mono ?_; rintro e w' ⟨rfl, q, rfl⟩; replace BC := Lib.hid (bdN BC.out q); clear tok3 H1 H2; have tok4 : True := trivial)
             | (have _t := tok4; go_at_call 15; refine (but_set _ 64 ns [] (.slice none 0 0) _ (SA1.out.below (by first | exact BC.out | exact BC.out.drew)) (slr_nil _) (by simp)).mono ?_; rintro e w' ⟨v3, rfl, h3, B⟩; rw [F1.out] at h3; have H3 := Lib.hid h3; clear h3; replace BC := Lib.hid (below_then (by first | exact BC.out | exact BC.out.drew) B); clear tok4 B; have tok5 : True := trivial)
             | (have _t := tok5; go_at_call 10; refine (all_set _ 64 ns _ (SA1.out.below (by first | exact BC.out | exact BC.out.drew))).mono ?_; rintro e w' ⟨o4, p4, rfl, H4, B⟩; replace BC := Lib.hid (below_then (by first | exact BC.out | exact BC.out.drew) B.out); replace H3 := Lib.hid (Slr.below (by exact H3.out) B.out); clear tok5 B; have tok6 : True := trivial)
             | (have _t := tok6; go_at_call 14; refine (same_self _ _ _ HLE.out (by exact H3.out) (by exact H4.out)).mono ?_; rintro e w' ⟨rfl, q, rfl⟩; replace BC := Lib.hid (bdN BC.out q); clear tok6 H3 H4; have tok7 : True := trivial)
             | (have _t := tok7; go_at_call 10; refine (all_set _ 64 ns _ (SA1.out.below (by first | exact BC.out | exact BC.out.drew))).mono ?_; rintro e w' ⟨o5, p5, rfl, H5, B⟩; replace BC := Lib.hid (below_then (by first | exact BC.out | exact BC.out.drew) B.out); clear tok7 B; have tok8 : True := trivial)
             | (have _t := tok8; go_at_call 15; refine (but_set _ 64 ns ns _ _ (SA1.out.below (by first | exact BC.out | exact BC.out.drew)) (by exact H5.out) HLE.out).mono ?_; rintro e w' ⟨v6, rfl, h6, B⟩; rw [F2.out] at h6; obtain ⟨o6, p6, e6, _⟩ := slr_ints (ns := []) h6; subst e6; replace BC := Lib.hid (below_then (by first | exact BC.out | exact BC.out.drew) B); clear tok8 B h6 H5))
          go_wp2_with fail
          go_meet
          exact ⟨rfl, BC⟩
        case rest =>
          obtain ⟨rfl, BX⟩ := hcut
          obtain ⟨wx, rfl⟩ : ∃ x, x = wc := ⟨_, rfl⟩
          have BT := Lib.hid (below_then Br.out BX.out)
          obtain ⟨c1, c2, _, _, _⟩ := KEEP.out wx BX.out
          have SX := Lib.hid (SA1.out.below BX.out)
          have FH := has_set _ 64 ns n wx SX.out
          by_cases hin : n ∈ ns
          · rw [show ns.contains n = true by simpa using hin] at FH
            clear hin
            go_wp2_with fail
            refine FH.mono ?_
            rintro e w5 ⟨rfl, b5⟩
            have B5 := Lib.hid (below_then BT.out b5)
            clear FH b5
            go_wp2_with fail
            go_ret
            exact ⟨rfl, B5.out⟩
          · rw [show ns.contains n = false by simpa using hin] at FH
            have HIN := Lib.hid hin
            clear hin
            go_wp2_with fail
            refine FH.mono ?_
            rintro e w5 ⟨rfl, b5⟩
            have B5 := Lib.hid (below_then BT.out b5)
            have S5 := Lib.hid (SX.out.below b5)
            have BX5 := Lib.hid (below_then BX.out b5)
            clear FH b5 c1 c2 SX BX BT
            obtain ⟨c1, c2, _, _, _⟩ := KEEP.out w5 BX5.out
            go_wp2_with fail
            refine (add_set _ 64 ns n _ S5.out).mono ?_
            intro e w6 hq
            obtain ⟨ao6, len6, cap6, rfl, H6, B6⟩ := hq.lay
            obtain ⟨ok, hok⟩ : ∃ ok, addB 64 ns n = ok := ⟨_, rfl⟩
            obtain ⟨cs, hcs⟩ : ∃ cs, addL 64 ns n = cs := ⟨_, rfl⟩
            rw [hcs] at H6
            rw [hok]
            have HOK := Lib.hid hok
            have HCS := Lib.hid hcs
            clear hq hok hcs c1 c2
            go_wp2_with fail
            refine (drop_set _ 64 cs n _ (H6.out.below (below_alloc w6 _))).mono ?_
            intro e w7 hq
            obtain ⟨ao7, len7, cap7, rfl, H7, B7⟩ := hq.lay
            have hsame : outL cs n = ns ∧ cs.contains n = ok ∧ (ok = true ↔ 1 ≤ n ∧ n ≤ 65535) := by
              have hlen := HL60.out
              have hni := HIN.out
              by_cases hv : 1 ≤ n ∧ n ≤ 65535
              · have e1 : cs = insL ns n := by rw [← HCS.out]; exact if_pos ⟨hni, hv, by omega⟩
                have e2 : ok = true := by rw [← HOK.out]; exact dec_ (.inr ⟨hv, by omega⟩)
                refine ⟨?_, ?_, ?_⟩
                · rw [e1]
                  refine (outL_asc (insL_asc HG.out.asc hni) n).eq HG.out.asc fun x => ?_
                  rw [outL_mem, insL_mem]
                  constructor
                  · rintro ⟨h | h, h2⟩
                    · exact absurd h h2
                    · exact h
                  · intro h
                    exact ⟨.inr h, fun e => hni (e ▸ h)⟩
                · rw [e1, e2, List.contains_iff_mem, insL_mem]; exact .inl rfl
                · exact ⟨fun _ => hv, fun _ => e2⟩
              · have e1 : cs = ns := by rw [← HCS.out]; exact if_neg fun h => hv h.2.1
                have e2 : ok = false := by rw [← HOK.out]; exact decn_ (fun h => h.elim hni fun h => hv h.1)
                refine ⟨by rw [e1]; exact outL_not hni, by rw [e1, e2]; simpa using hni, ?_⟩
                rw [e2]
                exact ⟨fun h => by simp at h, fun h => absurd h hv⟩
            obtain ⟨hs1, hs2, hs3⟩ := hsame
            rw [hs1] at H7
            rw [hs2]
            clear hq hs1 hs2 HCS HOK H6
            have hz5 : w3.heap.size + 1 < w5.heap.size := Nat.lt_of_lt_of_le hzr BX5.out.size
            have hz6 := B6.out.size
            have hz7 := B7.out.size
            simp only [size_alloc] at hz7
            obtain ⟨W8, hW8⟩ : ∃ W8, W8 = w7.alloc (.cells #[.int .i64 64, .slice ao7 len7 cap7] 26) := ⟨_, rfl⟩
            have B58 : Below w5.heap.size w5 W8 := by rw [hW8]; exact below_then (below_then (below_then B6.out (below_alloc w6 _)) B7.out) (below_alloc w7 _)
            have BT8 := Lib.hid (below_then B5.out B58)
            have BX8 := Lib.hid (below_then BX5.out B58)
            have SD := Lib.hid (show SetAt W8 w7.heap.size 64 ns by rw [hW8]; exact setAt_alloc H7.out)
            have hlt7 : w3.heap.size < w7.heap.size := by omega
            have SA8 := Lib.hid (SA1.out.below BX8.out)
            obtain ⟨aod, lend, capd, kd, sd⟩ := SD.out
            have SD1 := Lib.hid sd
            have KEEP2 : Hid (∀ x, Below W8.heap.size W8 x → x.cell? ⟨w3.heap.size, 0, none⟩ = some (.int .i64 64) ∧ x.cell? ⟨w3.heap.size, 1, none⟩ = some (.slice aoa lena capa) ∧ x.cell? ⟨w7.heap.size, 0, none⟩ = some (.int .i64 64) ∧ x.cell? ⟨w7.heap.size, 1, none⟩ = some (.slice aod lend capd) ∧ Below W8.heap.size W8 x) := by
              intro x hx
              obtain ⟨c1, c2, _, _, _⟩ := KEEP.out x (below_then BX8.out hx)
              obtain ⟨d1, d2, _, _⟩ := (bk_below kd hx kd.lt).two
              exact ⟨c1, c2, d1, d2, hx⟩
            go_wp2_with fail
            rw [← hW8]
            have BC := Lib.hid (Below.refl W8.heap.size W8)
            obtain ⟨c1, c2, c3, c4, _⟩ := KEEP2.out W8 BC.out
            have tok1 : True := trivial
            clear hW8 kd sd B58 KEEP SD hz5 hz6 hz7 hlt7
            rcases (show (1 ≤ n ∧ n ≤ 65535) ∨ n < 1 ∨ (1 ≤ n ∧ 65535 < n) by omega) with ⟨v1, v2⟩ | v1 | ⟨v1, v2⟩
            · obtain rfl : ok = true := hs3.2 ⟨v1, v2⟩
              have g1 := dec_ v1
              have g2 := dec_ v2
              clear hs3
              go_region_held3 (fun x => x.cell? ⟨w3.heap.size, 0, none⟩ = some (.int .i64 64) ∧ x.cell? ⟨w3.heap.size, 1, none⟩ = some (.slice aoa lena capa) ∧ x.cell? ⟨w7.heap.size, 0, none⟩ = some (.int .i64 64) ∧ x.cell? ⟨w7.heap.size, 1, none⟩ = some (.slice aod lend capd) ∧ Below W8.heap.size W8 x)
                ((refine KEEP2.out _ ?_; first | exact BC.out | exact BC.out.drew | exact bdN BC.out _))
                (first
                 | (have _t := tok1; go_at_call 10; refine (all_set _ 64 ns _ (SD1.out.below (by first | exact BC.out | exact BC.out.drew))).mono ?_; rintro e w' ⟨o1, p1, rfl, H1, B⟩; replace BC := Lib.hid (below_then (by first | exact BC.out | exact BC.out.drew) B.out); clear tok1 B; have tok2 : True := trivial)
                 | (have _t := tok2; go_at_call 10; refine (all_set _ 64 ns _ (SA8.out.below (by first | exact BC.out | exact BC.out.drew))).mono ?_; rintro e w' ⟨o2, p2, rfl, H2, B⟩; replace BC := Lib.hid (below_then (by first | exact BC.out | exact BC.out.drew) B.out); replace H1 := Lib.hid (Slr.below (by exact H1.out) B.out); clear tok2 B; have tok3 : True := trivial)
                 | (have _t := tok3; go_at_call 14; refine (same_self _ _ _ HLE.out (by exact H1.out) (by exact H2.out)).mono ?_; rintro e w' ⟨rfl, q, rfl⟩; replace BC := Lib.hid (bdN BC.out q); clear tok3 H1 H2))
              go_wp2_with fail
              go_ret
              exact ⟨rfl, below_then BT8.out BC.out⟩
            · obtain rfl : ok = false := by
                rw [← Bool.not_eq_true]
                exact fun h => by have := hs3.1 h; omega
              have g1 := decn_ (show ¬ 1 ≤ n by omega)
              clear hs3
              refine wp_region_noPanic ?_
              refine wp_region_held_drew (S := (fun x => x.cell? ⟨w3.heap.size, 0, none⟩ = some (.int .i64 64) ∧ x.cell? ⟨w3.heap.size, 1, none⟩ = some (.slice aoa lena capa) ∧ x.cell? ⟨w7.heap.size, 0, none⟩ = some (.int .i64 64) ∧ x.cell? ⟨w7.heap.size, 1, none⟩ = some (.slice aod lend capd) ∧ Below W8.heap.size W8 x)) (by kernel_rfl) (KEEP2.out _ BC.out.drew) (fun hHeld => ?_)
              refine takeH (i := 0) (v := .bool false) (some 118) rfl rfl (by kernel_rfl) (by kernel_rfl) (by kernel_rfl) (fun _ _ _ h => h) (Or.inl ⟨by rfl, ?_⟩) hHeld ?_
              · (intro x hSw; (try dsimp only at hSw); go_simp)
              try simp only [Act.put, List.setIfInBounds_toArray, List.set_cons_zero, List.set_cons_succ]
              refine takeH (i := 1) (v := .int .i64 n) (some 119) rfl rfl (by kernel_rfl) (by kernel_rfl) (by kernel_rfl) (fun _ _ _ h => h) (Or.inl ⟨by rfl, ?_⟩) hHeld ?_
              · (intro x hSw; (try dsimp only at hSw); go_simp)
              try simp only [Act.put, List.setIfInBounds_toArray, List.set_cons_zero, List.set_cons_succ]
              refine takeH (i := 2) (v := .bool false) (some 120) rfl rfl (by kernel_rfl) (by kernel_rfl) (by kernel_rfl) (fun _ _ _ h => h) (Or.inl ⟨by rfl, ?_⟩) hHeld ?_
              · (intro x hSw; (try dsimp only at hSw); go_simp)
              try simp only [Act.put, List.setIfInBounds_toArray, List.set_cons_zero, List.set_cons_succ]
              refine takeH (i := 3) (v := .bool false) (some 121) rfl rfl (by kernel_rfl) (by kernel_rfl) (by kernel_rfl) (fun _ _ _ h => h) (Or.inl ⟨by rfl, ?_⟩) hHeld ?_
              · (intro x hSw; (try dsimp only at hSw); go_simp)
              try simp only [Act.put, List.setIfInBounds_toArray, List.set_cons_zero, List.set_cons_succ]
              refine takeH (i := 4) (v := undef) (some 122) rfl rfl (by kernel_rfl) (by kernel_rfl) (by kernel_rfl) (fun _ _ _ h => h) (Or.inr ⟨by rfl, rfl⟩) hHeld ?_
              try simp only [Act.put, List.setIfInBounds_toArray, List.set_cons_zero, List.set_cons_succ]
              refine takeH (i := 5) (v := undef) (some 123) rfl rfl (by kernel_rfl) (by kernel_rfl) (by kernel_rfl) (fun _ _ _ h => h) (Or.inr ⟨by rfl, rfl⟩) hHeld ?_
              try simp only [Act.put, List.setIfInBounds_toArray, List.set_cons_zero, List.set_cons_succ]
              refine takeH (i := 6) (v := .bool false) (some 124) rfl rfl (by kernel_rfl) (by kernel_rfl) (by kernel_rfl) (fun _ _ _ h => h) (Or.inl ⟨by rfl, ?_⟩) hHeld ?_
              · (intro x hSw; (try dsimp only at hSw); go_simp)
              try simp only [Act.put, List.setIfInBounds_toArray, List.set_cons_zero, List.set_cons_succ]
              refine takeH (i := 7) (v := .bool true) (some 125) rfl rfl (by kernel_rfl) (by kernel_rfl) (by kernel_rfl) (fun _ _ _ h => h) (Or.inl ⟨by rfl, ?_⟩) hHeld ?_
              · (intro x hSw; (try dsimp only at hSw); go_simp)
              try simp only [Act.put, List.setIfInBounds_toArray, List.set_cons_zero, List.set_cons_succ]
              refine takeH (i := 8) (v := .bool true) (some 126) rfl rfl (by kernel_rfl) (by kernel_rfl) (by kernel_rfl) (fun _ _ _ h => h) (Or.inl ⟨by rfl, ?_⟩) hHeld ?_
              · (intro x hSw; (try dsimp only at hSw); go_simp)
              try simp only [Act.put, List.setIfInBounds_toArray, List.set_cons_zero, List.set_cons_succ]
              refine takeH (i := 9) (v := .bool false) (some 127) rfl rfl (by kernel_rfl) (by kernel_rfl) (by kernel_rfl) (fun _ _ _ h => h) (Or.inl ⟨by rfl, ?_⟩) hHeld ?_
              · (intro x hSw; (try dsimp only at hSw); go_simp)
              try simp only [Act.put, List.setIfInBounds_toArray, List.set_cons_zero, List.set_cons_succ]
              refine takeH (i := 10) (v := .bool false) (some 128) rfl rfl (by kernel_rfl) (by kernel_rfl) (by kernel_rfl) (fun _ _ _ h => h) (Or.inl ⟨by rfl, ?_⟩) hHeld ?_
              · (intro x hSw; (try dsimp only at hSw); go_simp)
              try simp only [Act.put, List.setIfInBounds_toArray, List.set_cons_zero, List.set_cons_succ]
              refine takeH (i := 11) (v := .bool true) (some 129) rfl rfl (by kernel_rfl) (by kernel_rfl) (by kernel_rfl) (fun _ _ _ h => h) (Or.inl ⟨by rfl, ?_⟩) hHeld ?_
              · (intro x hSw; (try dsimp only at hSw); go_simp)
              try simp only [Act.put, List.setIfInBounds_toArray, List.set_cons_zero, List.set_cons_succ]
              refine takeH (i := 12) (v := .bool true) (some 130) rfl rfl (by kernel_rfl) (by kernel_rfl) (by kernel_rfl) (fun _ _ _ h => h) (Or.inl ⟨by rfl, ?_⟩) hHeld ?_
              · (intro x hSw; (try dsimp only at hSw); go_simp)
              try simp only [Act.put, List.setIfInBounds_toArray, List.set_cons_zero, List.set_cons_succ]
              refine takeH (i := 13) (v := .bool true) (some 131) rfl rfl (by kernel_rfl) (by kernel_rfl) (by kernel_rfl) (fun _ _ _ h => h) (Or.inl ⟨by rfl, ?_⟩) hHeld ?_
              · (intro x hSw; (try dsimp only at hSw); go_simp)
              try simp only [Act.put, List.setIfInBounds_toArray, List.set_cons_zero, List.set_cons_succ]
              refine takeH (i := 14) (v := .agg #[.int .i64 64, .slice aod lend capd]) (some 132) rfl rfl (by kernel_rfl) (by kernel_rfl) (by kernel_rfl) (fun _ _ _ h => h) (Or.inl ⟨by rfl, ?_⟩) hHeld ?_
              · (intro x hSw; (try dsimp only at hSw); go_simp)
              try simp only [Act.put, List.setIfInBounds_toArray, List.set_cons_zero, List.set_cons_succ]
              refine takeH (i := 16) (v := .agg #[.int .i64 64, .slice aoa lena capa]) (some 134) rfl rfl (by kernel_rfl) (by kernel_rfl) (by kernel_rfl) (fun _ _ _ h => h) (Or.inl ⟨by rfl, ?_⟩) hHeld ?_
              · (intro x hSw; (try dsimp only at hSw); go_simp)
              try simp only [Act.put, List.setIfInBounds_toArray, List.set_cons_zero, List.set_cons_succ]
              refine wpAnyH_ready (rs := [15]) (by kernel_rfl) (by simp) (AllReadyH.cons rfl (fun K hK => ?_) AllReadyH.nil)
              go_simp
              refine (all_set _ 64 ns _ (SD1.out.below (by first | exact BC.out | exact BC.out.drew))).mono ?_
              rintro e x1 ⟨o1, p1, rfl, H1, B⟩
              replace BC := Lib.hid (below_then (by first | exact BC.out | exact BC.out.drew) B.out)
              clear B
              go_wp2_with fail
              refine hK.out _ _ (KEEP2.out _ (by first | exact BC.out | exact BC.out.drew)) (fun hHeld => ?_)
              clear hK K
              try simp only [Act.put, List.setIfInBounds_toArray, List.set_cons_zero, List.set_cons_succ]
              refine wpAnyH_ready (rs := [17]) (by kernel_rfl) (by simp) (AllReadyH.cons rfl (fun K hK => ?_) AllReadyH.nil)
              go_simp
              refine (all_set _ 64 ns _ (SA8.out.below (by first | exact BC.out | exact BC.out.drew))).mono ?_
              rintro e x2 ⟨o2, p2, rfl, H2, B⟩
              replace BC := Lib.hid (below_then (by first | exact BC.out | exact BC.out.drew) B.out)
              replace H1 := Lib.hid (Slr.below (by exact H1.out) B.out)
              clear B
              go_wp2_with fail
              refine hK.out _ _ (KEEP2.out _ (by first | exact BC.out | exact BC.out.drew)) (fun hHeld => ?_)
              clear hK K
              try simp only [Act.put, List.setIfInBounds_toArray, List.set_cons_zero, List.set_cons_succ]
              refine wpAnyH_ready (rs := [18]) (by kernel_rfl) (by simp) (AllReadyH.cons rfl (fun K hK => ?_) AllReadyH.nil)
              go_simp
              refine (same_self _ _ _ HLE.out (by exact H1.out) (by exact H2.out)).mono ?_
              rintro e x3 ⟨rfl, q, rfl⟩
              replace BC := Lib.hid (bdN BC.out q)
              clear H1 H2
              go_wp2_with fail
              refine hK.out _ _ (KEEP2.out _ (by first | exact BC.out | exact BC.out.drew)) (fun hHeld => ?_)
              clear hK K
              try simp only [Act.put, List.setIfInBounds_toArray, List.set_cons_zero, List.set_cons_succ]
              refine takeH (i := 19) (v := .bool true) (some 137) rfl rfl (by kernel_rfl) (by kernel_rfl) (by kernel_rfl) (fun _ _ _ h => h) (Or.inl ⟨by rfl, ?_⟩) hHeld ?_
              · (intro x hSw; (try dsimp only at hSw); go_simp)
              try simp only [Act.put, List.setIfInBounds_toArray, List.set_cons_zero, List.set_cons_succ]
              refine takeH (i := 20) (v := .bool true) (some 6) rfl rfl (by kernel_rfl) (by kernel_rfl) (by kernel_rfl) (fun _ _ _ h => h) (Or.inl ⟨by rfl, ?_⟩) hHeld ?_
              · (intro x hSw; (try dsimp only at hSw); go_simp)
              try simp only [Act.put, List.setIfInBounds_toArray, List.set_cons_zero, List.set_cons_succ]
              refine wpAnyH_done (by kernel_rfl) ?_ _
              refine NoPanic.normal ?_
              go_wp2_with fail
              go_ret
              exact ⟨rfl, below_then BT8.out BC.out⟩
            · obtain rfl : ok = false := by
                rw [← Bool.not_eq_true]
                exact fun h => by have := hs3.1 h; omega
              have g1 := dec_ v1
              have g2 := decn_ (show ¬ n ≤ 65535 by omega)
              clear hs3
              go_region_held3 (fun x => x.cell? ⟨w3.heap.size, 0, none⟩ = some (.int .i64 64) ∧ x.cell? ⟨w3.heap.size, 1, none⟩ = some (.slice aoa lena capa) ∧ x.cell? ⟨w7.heap.size, 0, none⟩ = some (.int .i64 64) ∧ x.cell? ⟨w7.heap.size, 1, none⟩ = some (.slice aod lend capd) ∧ Below W8.heap.size W8 x)
                ((refine KEEP2.out _ ?_; first | exact BC.out | exact BC.out.drew | exact bdN BC.out _))
                (first
                 | (have _t := tok1; go_at_call 10; refine (all_set _ 64 ns _ (SD1.out.below (by first | exact BC.out | exact BC.out.drew))).mono ?_; rintro e w' ⟨o1, p1, rfl, H1, B⟩; replace BC := Lib.hid (below_then (by first | exact BC.out | exact BC.out.drew) B.out); clear tok1 B; have tok2 : True := trivial)
                 | (have _t := tok2; go_at_call 10; refine (all_set _ 64 ns _ (SA8.out.below (by first | exact BC.out | exact BC.out.drew))).mono ?_; rintro e w' ⟨o2, p2, rfl, H2, B⟩; replace BC := Lib.hid (below_then (by first | exact BC.out | exact BC.out.drew) B.out); replace H1 := Lib.hid (Slr.below (by exact H1.out) B.out); clear tok2 B; have tok3 : True := trivial)
                 | (have _t := tok3; go_at_call 14; refine (same_self _ _ _ HLE.out (by exact H1.out) (by exact H2.out)).mono ?_; rintro e w' ⟨rfl, q, rfl⟩; replace BC := Lib.hid (bdN BC.out q); clear tok3 H1 H2))
              go_wp2_with fail
              go_ret
              exact ⟨rfl, below_then BT8.out BC.out⟩
end Go.Proofs.Ytohpbjbbkpllaaa
