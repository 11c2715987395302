/-
  NodesetPlays answers true for every capacity and all acts; new memory apart nothing turns.
-/
import Derived.Test.YtohpbjbbkpllaaaNodeLaw
import Derived.Test.YtohpbjbbkpllaaaNodePlayMath
import Derived.Test.YtohpbjbbkpllaaaPairs
import Derived.Deep.DeepCutAuto
import Derived.Deep.RegionHeld3
set_option linter.unusedVariables false
set_option linter.unusedSimpArgs false
namespace Go.Proofs.Ytohpbjbbkpllaaa
open Go.RowKit Go.Lib Go.Sort Go.Shelf

def SetVar (w : World) (X most : Nat) (ns : List Int) : Prop := ∃ ao len cap, Bk w X 26 #[.int .i64 most, .slice ao len cap] ∧ SetV w (.agg #[.int .i64 most, .slice ao len cap]) most ns
theorem SetVar.below {w w' : World} {X most : Nat} {ns : List Int} (h : SetVar w X most ns) (hb : Below w.heap.size w w') : SetVar w' X most ns := by
  obtain ⟨ao, len, cap, h1, h2⟩ := h
  exact ⟨ao, len, cap, bk_below h1 hb h1.lt, h2.below hb⟩
theorem SetVar.good {w : World} {X most : Nat} {ns : List Int} (h : SetVar w X most ns) : Good most ns := by
  obtain ⟨_, _, _, _, _, _, _, hg⟩ := h
  exact hg
theorem SetVar.lt {w : World} {X most : Nat} {ns : List Int} (h : SetVar w X most ns) : X < w.heap.size := by
  obtain ⟨_, _, _, k, _⟩ := h
  exact k.lt
theorem below_alloc' {w x : World} (h : Below w.heap.size w x) (o : Obj) : Below w.heap.size w (x.alloc o) := h.alloc h.size o
theorem setVar_alloc {w : World} {most : Nat} {ns : List Int} {ao : Option Addr} {len cap : Nat} (h : SetV w (.agg #[.int .i64 most, .slice ao len cap]) most ns) :
    SetVar (w.alloc (.cells #[.int .i64 most, .slice ao len cap] 26)) w.heap.size most ns := ⟨ao, len, cap, Bk.made w _ _, h.below (below_alloc w _)⟩
theorem setVar_put {w : World} {X most : Nat} {ns : List Int} {ao : Option Addr} {len cap : Nat} {a b : Value} (k : Bk w X 26 #[a, b]) (h : SetV w (.agg #[.int .i64 most, .slice ao len cap]) most ns) :
    SetVar (put2 w X (.int .i64 most) (.slice ao len cap)) X most ns := ⟨ao, len, cap, bk_put2 k _ _, h.put2 k set_ne_int _ _⟩
theorem SetVar.apart {w : World} {X Y most : Nat} {ns : List Int} (h : SetVar w X most ns) {a b c d : Value} (k : Bk w Y 26 #[a, b]) (hn : X ≠ Y) : SetVar (put2 w Y c d) X most ns := by
  obtain ⟨ao, len, cap, h1, h2⟩ := h
  exact ⟨ao, len, cap, bk_put2' h1 hn _ _, h2.put2 k set_ne_int _ _⟩
theorem SetVar.drew {w : World} {X most : Nat} {ns : List Int} (h : SetVar w X most ns) : SetVar w.drew X most ns := h.below (Below.refl _ _).drew
theorem slr_drew {w : World} {v : Value} {xs : List Value} (h : Slr w v xs) : Slr w.drew v xs := h.below (Below.refl _ _).drew

theorem same_self' {S T : Nat → Prop} {ns : List Int} (u v : Value) (w : World) (hl : ns.length ≤ 1000000) (h : Sl w S u (ints ns)) (k : Sl w T v (ints ns)) :
    Calls Try.prog 14 #[u, v] w fun e w' => e = .returned (.bool true) ∧ ∃ q, w' = w.drewN q := by
  have := same_ref u v ns ns w h k hl hl
  rwa [dec_ (rfl : ns = ns)] at this

set_option maxRecDepth 100000 in
set_option maxHeartbeats 40000000 in
theorem nodesetPlays_core (most : Int) (l : Value) (ps : List (Int × Int)) (w : World) (hm : -9223372036854775808 ≤ most ∧ most ≤ 9223372036854775807) (hs : Prs w (· < w.heap.size) l ps) (hps : ∀ q ∈ ps, I64 q.1 ∧ I64 q.2) :
    Calls Try.prog 3 #[.int .i64 most, l] w fun e w' => e = .returned (.bool true) ∧ Below w.heap.size w w' := by
  obtain ⟨ao, cap, rfl, h1, h2, h3⟩ := hs
  have HL := Lib.hid h3
  have HPS := Lib.hid hps
  obtain ⟨mst, hmst⟩ : ∃ mst : Nat, (mst : Int) = min (max most 0) 64 := ⟨(min (max most 0) 64).toNat, by omega⟩
  have hm64 : mst ≤ 64 := by omega
  unfold maxLen at h2
  clear h3 hps
  go_enter Try.func3, Try.ntmps3
  go_wp2_with fail
  refine (speaks03 _).mono ?_
  rintro e w1 ⟨rfl, hb1⟩
  have B1 := Lib.hid hb1
  have NEW := new_lay most w1 hm.1 hm.2 mst hmst
  clear hb1
  go_wp2_with fail
  refine NEW.mono ?_
  rintro e w2 ⟨ao2, len2, cap2, rfl, H2, B2⟩
  have hmin : min (max most 0) 64 = (mst : Int) := hmst.symm
  have HMM := Lib.hid hmst
  clear NEW hmst
  go_wp2_with fail
  obtain ⟨W3, hW3⟩ : ∃ W3, W3 = w2.alloc (.cells #[.int .i64 mst, .slice ao2 len2 cap2] 26) := ⟨_, rfl⟩
  have S3 := Lib.hid (show SetVar W3 w2.heap.size mst [] by rw [hW3]; exact setVar_alloc H2.out)
  have B3 := Lib.hid (show Below w.heap.size w W3 by rw [hW3]; exact below_then (below_then B1.out B2.out) (below_alloc _ _))
  have hA := (below_then B1.out B2.out).size
  rw [← hW3]
  clear hW3 H2 B2 B1 hmin
  go_loopw [7, 8] (fun vm vi wr => ∃ (i : Nat) (ms ns : List Int), i ≤ ps.length ∧ vi = .int .i64 i ∧ Hid (Twin ms ns) ∧ Hid (Slr wr vm (ints ms)) ∧ Hid (SetVar wr w2.heap.size mst ns) ∧ Hid (Below w.heap.size w wr)) (fun _ vi _ => ps.length - (intOf vi).toNat)
  case atStart => exact ⟨0, [], [], Nat.zero_le _, rfl, Twin.nil, slr_nil _, S3, B3⟩
  case round =>
    obtain ⟨i, ms, ns, hi, rfl, HT, HM, HS, HB⟩ := hrel
    by_cases hlt : i < ps.length ∧ i < 90
    · obtain ⟨hlt, hlt90⟩ := hlt
      obtain ⟨b, off, rfl, _, hb, hcell⟩ := HL.out (by omega)
      obtain ⟨hc1, hc2⟩ := hcell i hlt
      obtain ⟨x, hx⟩ : ∃ x, x = ps[i].1 := ⟨_, rfl⟩
      obtain ⟨n, hn⟩ : ∃ n, n = ps[i].2 := ⟨_, rfl⟩
      have hxn := HPS.out ps[i] (List.getElem_mem _)
      rw [← hx, ← hn] at hxn
      rw [← hx] at hc1
      rw [← hn] at hc2
      obtain ⟨⟨hx1, hx2⟩, hn1, hn2⟩ := hxn
      have CELLS : Hid (∀ y, Below w.heap.size w y → y.cell? ⟨b, off + i * 2, none⟩ = some (.int .i64 x) ∧ y.cell? ⟨b, off + i * 2 + 1, none⟩ = some (.int .i64 n)) := fun y hy =>
        ⟨(hy.cell (p := ⟨b, off + i * 2, none⟩) hb).trans hc1, (hy.cell (p := ⟨b, off + i * 2 + 1, none⟩) hb).trans hc2⟩
      clear hcell hc1 hc2 hx hn hb
      obtain ⟨c1, c2⟩ := CELLS.out wr HB.out
      obtain ⟨mo, mc, em, m1, m2, m3, _⟩ := slr_ints HM.out
      rw [HT.out.len HS.out.good.asc] at em
      subst em
      unfold maxLen at m2
      have HM3 := Lib.hid m3
      have hd90 : decide ((i : Int) < 90) = true := dec_ (by omega)
      have hA2 := HS.out.lt
      clear m3
      go_upto_region 10 with (fail)
      go_cut [10, 11] (fun vo vw wx => ∃ O o p, vo = .pointer (some ⟨O, 0, none⟩) ∧ vw = .slice o ns.length p ∧ w2.heap.size < O ∧ Hid (Slr wx (.slice o ns.length p) (ints ns)) ∧ Hid (SetVar wx O mst ns) ∧ Hid (Below wr.heap.size wr wx))
      case first =>
        as_aux_lemma =>
          obtain ⟨ao1, len1, cap1, k1, s1⟩ := HS.out
          have KEEP : Hid (∀ y, Below wr.heap.size wr y → y.cell? ⟨w2.heap.size, 0, none⟩ = some (.int .i64 mst) ∧ y.cell? ⟨w2.heap.size, 1, none⟩ = some (.slice ao1 len1 cap1) ∧ Below wr.heap.size wr y) := by
            intro y hy
            obtain ⟨d1, d2, _, _⟩ := (bk_below k1 hy k1.lt).two
            exact ⟨d1, d2, hy⟩
          have S1 := Lib.hid s1
          have R0 := Below.refl wr.heap.size wr
          obtain ⟨d1, d2, _⟩ := KEEP.out wr R0
          clear k1 s1
          go_region_held3 (fun y => y.cell? ⟨w2.heap.size, 0, none⟩ = some (.int .i64 mst) ∧ y.cell? ⟨w2.heap.size, 1, none⟩ = some (.slice ao1 len1 cap1) ∧ Below wr.heap.size wr y)
            ((refine KEEP.out _ ?_; first | exact R0 | exact R0.drew | exact below_alloc' R0.drew _ | exact below_then R0.drew BQ.out | exact below_alloc' (below_then R0.drew BQ.out) _ | exact below_then (below_alloc' R0.drew _) BQ.out | exact ((below_then (below_alloc' R0.drew _) BQ.out).setCell (Nat.le_refl _) _).setCell (Nat.le_refl _) _))
            (first | (go_at_call 10; refine (all_set _ mst ns _ (S1.out.below (by first | exact R0.drew | exact below_alloc' R0.drew _))).mono ?_; rintro e w' ⟨oq, pq, rfl, HQ, BQ⟩; try obtain ⟨t1, t2, t3, t4⟩ := (bk_below (show Bk (wr.alloc (.cells #[.int .i64 0, .slice none 0 0] 26)).drew wr.heap.size _ _ from Bk.made wr _ _) BQ.out (by simp)).two))
          · go_wp2_with fail
            go_meet
            have hz : wr.heap.size ≤ w'.heap.size := BQ.out.size
            have bb := below_then R0.drew BQ.out
            exact ⟨_, _, _, rfl, rfl, by omega, HQ.out.alloc _, setVar_alloc (S1.out.below bb), below_alloc' bb _⟩
          · go_wp2_with fail
            go_meet
            have kb := bk_below (show Bk (wr.alloc (.cells #[.int .i64 0, .slice none 0 0] 26)).drew wr.heap.size _ _ from Bk.made wr _ _) BQ.out (by simp)
            have bb := below_then (below_alloc' R0.drew _) BQ.out
            exact ⟨_, _, _, rfl, rfl, by omega, HQ.out.put2 kb set_ne_int _ _, setVar_put kb (S1.out.below bb), (bb.setCell (Nat.le_refl _) _).setCell (Nat.le_refl _) _⟩
      case rest =>
        obtain ⟨O, o, p, rfl, rfl, hO, HW, HO, BX⟩ := hcut
        obtain ⟨wx, rfl⟩ : ∃ y, y = wc := ⟨_, rfl⟩
        have HSx := Lib.hid (HS.out.below BX.out)
        have HMx := Lib.hid (HM.out.below BX.out)
        have HBx := Lib.hid (below_then HB.out BX.out)
        clear c1 c2 HS HM HB BX hA2
        obtain ⟨c1, c2⟩ := CELLS.out wx HBx.out
        go_upto_region 11 with (fail)
        obtain ⟨c, hc⟩ : ∃ c, bits BinOp.and IntKind.i64 x 3 = c := ⟨_, rfl⟩
        by_cases q0 : c = 0
        · have t0 := beq_ q0
          clear q0
          as_aux_lemma =>
            obtain ⟨aoa, lena, capa, ka, sa⟩ := HSx.out
            obtain ⟨a1, a2, _, _⟩ := ka.two
            have CA := Lib.hid (add_set _ mst ns n wx sa)
            have hg := Lib.hid (HSx.out.good)
            clear ka sa
            go_wp2_with fail
            refine CA.out.mono ?_
            intro e w4 hq
            obtain ⟨ao4, len4, cap4, rfl, H4, B4⟩ := hq.lay
            obtain ⟨W5, hW5⟩ : ∃ W5, W5 = w4.alloc (.cells #[.int .i64 mst, .slice ao4 len4 cap4] 26) := ⟨_, rfl⟩
            have V5 := Lib.hid (show SetVar W5 w4.heap.size mst (addL mst ns n) by rw [hW5]; exact setVar_alloc H4.out)
            have B5 := Lib.hid (show Below wx.heap.size wx W5 by rw [hW5]; exact below_then B4.out (below_alloc _ _))
            have CH := Lib.hid (has_ref _ ms n W5 (HMx.out.below B5.out) (by rw [HT.out.len hg.out.asc]; have := hg.out.le; omega))
            have HCO := Lib.hid (HT.out.contains n)
            have hOx := HO.out.lt
            have hz4 := B4.out.size
            have hAx := HSx.out.lt
            have hmn := hg.out.le
            clear hq H4 CA a1 a2
            go_wp2_with fail
            rw [← hW5]
            clear hW5 B4
            refine CH.out.mono ?_
            rintro e W6 ⟨rfl, rfl⟩
            rw [HCO.out]
            obtain ⟨ib, hib⟩ : ∃ ib, ns.contains n = ib := ⟨_, rfl⟩
            rw [hib]
            have HIB := Lib.hid hib
            obtain ⟨B, hB⟩ : ∃ B, addB mst ns n = B := ⟨_, rfl⟩
            rw [hB]
            have HBB := Lib.hid hB
            clear hib hB CH HCO
            go_upto_region 24 with (fail)
            go_cut [15] (fun vb wy => vb = .bool B ∧ wy = W6)
            case first =>
              as_aux_lemma =>
                have hin : ib = true ↔ n ∈ ns := by rw [← HIB.out]; exact List.contains_iff_mem
                have hBB : B = true ↔ n ∈ ns ∨ (1 ≤ n ∧ n ≤ 65535) ∧ ns.length < mst := by rw [← HBB.out]; exact decide_eq_true_iff
                by_cases hi : n ∈ ns
                · obtain rfl := hin.2 hi
                  obtain rfl := hBB.2 (.inl hi)
                  clear hin hBB hi
                  go_wp2_with fail
                  go_meet
                  exact ⟨rfl, rfl⟩
                · obtain rfl : ib = false := by rw [← Bool.not_eq_true]; exact fun h => hi (hin.1 h)
                  rcases (show ((1 ≤ n ∧ n ≤ 65535) ∧ ns.length < mst) ∨ n < 1 ∨ (1 ≤ n ∧ 65535 < n) ∨ ((1 ≤ n ∧ n ≤ 65535) ∧ mst ≤ ns.length) by omega) with ⟨⟨v1, v2⟩, v3⟩ | v1 | ⟨v1, v2⟩ | ⟨⟨v1, v2⟩, v3⟩
                  · obtain rfl := hBB.2 (.inr ⟨⟨v1, v2⟩, v3⟩)
                    have g1 := dec_ v1
                    have g2 := dec_ v2
                    have g3 := dec_ v3
                    clear hin hBB hi
                    go_wp2_with fail
                    go_meet
                    exact ⟨rfl, rfl⟩
                  · obtain rfl : B = false := by rw [← Bool.not_eq_true]; exact fun h => by rcases hBB.1 h with h | h; exact hi h; omega
                    have g1 := decn_ (show ¬ 1 ≤ n by omega)
                    clear hin hBB hi
                    go_wp2_with fail
                    go_meet
                    exact ⟨rfl, rfl⟩
                  · obtain rfl : B = false := by rw [← Bool.not_eq_true]; exact fun h => by rcases hBB.1 h with h | h; exact hi h; omega
                    have g1 := dec_ v1
                    have g2 := decn_ (show ¬ n ≤ 65535 by omega)
                    clear hin hBB hi
                    go_wp2_with fail
                    go_meet
                    exact ⟨rfl, rfl⟩
                  · obtain rfl : B = false := by rw [← Bool.not_eq_true]; exact fun h => by rcases hBB.1 h with h | h; exact hi h; omega
                    have g1 := dec_ v1
                    have g2 := dec_ v2
                    have g3 := decn_ (show ¬ ns.length < mst by omega)
                    clear hin hBB hi
                    go_wp2_with fail
                    go_meet
                    exact ⟨rfl, rfl⟩
            case rest =>
              obtain ⟨rfl, hwc⟩ := hcut
              subst hwc
              obtain ⟨ns', hns'⟩ : ∃ ns', ns' = addL mst ns n := ⟨_, rfl⟩
              rw [← hns'] at V5
              obtain ⟨ao6, len6, cap6, k6, s6⟩ := V5.out
              obtain ⟨aoA, lenA, capA, kA, sA⟩ := HSx.out.below B5.out
              obtain ⟨u1, u2, u3, u4'⟩ := k6.two
              obtain ⟨v1, v2, v3, v4⟩ := kA.two
              have KA := Lib.hid kA
              have S6 := Lib.hid s6
              have K6 := Lib.hid k6
              have hT0 := Lib.hid (HT.out.addM (most := mst) n)
              rw [← hns'] at hT0
              have HNS := Lib.hid hns'
              have hAlt := kA.lt
              have h6lt := k6.lt
              have hne : w4.heap.size ≠ w2.heap.size := by omega
              have hOlt : O < wc.heap.size := Nat.lt_of_lt_of_le hOx B5.out.size
              clear k6 s6 kA sA hns'
              by_cases hnew : B = true ∧ ib = false
              · obtain ⟨rfl, rfl⟩ := hnew
                have hB : n ∉ ns ∧ (1 ≤ n ∧ n ≤ 65535) ∧ ns.length < mst := by
                  have hin : n ∉ ns := by
                    have := HIB.out
                    rw [← Bool.not_eq_true, List.contains_iff_mem] at this
                    exact this
                  have := decide_eq_true_iff.1 HBB.out
                  exact ⟨hin, this.elim (fun h => absurd h hin) id⟩
                obtain ⟨i0, hi, hz0, hz1, hz2⟩ := info_parts info_int
                have e1 : addM mst ms ns n = ms ++ [n] := if_pos hB
                have e2 : ns'.length = ns.length + 1 := by rw [HNS.out, addL, if_pos hB, insL_length]
                obtain ⟨ms', hms'⟩ : ∃ ms', ms' = ms ++ [n] := ⟨_, rfl⟩
                have HTz := hT0
                rw [e1, ← hms'] at HTz
                have HE2 := Lib.hid e2
                have HMS := Lib.hid hms'
                have hsm : ns.length < mst := hB.2.2
                have hML := HMx.out.below B5.out
                have hnew : 0 < ns.length → ∃ ad, mo = some ad ∧ ∀ (j : Nat) (u : Value), (ints ms)[j]? = some u → (wc.alloc (.cells #[] 3)).cell? (ad.add j) = some u := by
                  intro hp
                  have hlen := HT.out.len hg.out.asc
                  obtain ⟨ao', cap', e, _, _, _, h4⟩ := slr_ints hML
                  injection e with e1 e2 e3
                  obtain ⟨b, off, e, _, hb, hc⟩ := h4 (by omega)
                  refine ⟨_, e1.trans e, fun j u hu => ?_⟩
                  obtain ⟨hj, rfl⟩ := List.getElem?_eq_some_iff.1 hu
                  rw [Addr.add_lit, World.cell?_of_block (w := wc) (Below.heap_alloc _ _ _ (by exact hb)), hc j (by rw [ints_length] at hj; exact hj), ints_get']
                have hml : (ints ms).length = ns.length := by rw [ints_length]; exact HT.out.len hg.out.asc
                have hm1 : 0 + ns.length ≤ maxLen := by unfold maxLen; omega
                have hm2 : (0 + ns.length) * 8 ≤ 140737488355328 := by omega
                have hm0 : mo = none → ns.length = 0 := fun h => by have := HM3.out h; have := m1; have := HT.out.len hg.out.asc; omega
                clear hB e1 e2 hms' hT0 hML
                have hm3 : 0 + ns.length + 1 ≤ maxLen := by unfold maxLen; omega
                have hm4 : (0 + ns.length + 1) * 8 ≤ 140737488355328 := by omega
                go_upto_region 29 with (at_builtin; first | (refine list_app rfl (.tmp 122) (.tmp 123) 24 rfl wc.heap.size 3 i0 (.int .i64 0) 8 Try.underlying24 hi hz0 hz1 hz2 rfl (.slice (some ⟨wc.heap.size, 0, none⟩) 0 0) 0 [] rfl (World.ownsRow_made wc #[] 0 (Nat.le_refl _) (Nat.zero_le _) rfl) mo ns.length mc (ints ms) rfl hml HM3.out hm0 hnew (ints_one ms) hm1 hm2 (by simp) ?_; intro va wa howna hgrowa) | (refine list_app rfl (.tmp 124) (.tmp 126) 24 rfl wc.heap.size 3 i0 (.int .i64 0) 8 Try.underlying24 hi hz0 hz1 hz2 rfl va (0 + ns.length) ([] ++ ints ms) rfl (own_tch howna.out (Tch.alloc (Tch.refl (fun _ => False) _) _) (by simp)) (some ⟨wa.heap.size, 0, none⟩) 1 1 [.int .i64 n] rfl rfl (by simp) (by simp) (fun _ => ⟨_, rfl, cells_one wa _ _⟩) (by intro u hu; simp at hu; subst hu; rfl) hm3 hm4 (by have := hgrowa.out.size; simp at this ⊢; omega) ?_; intro vb wb hownb hgrowb))
                have hownb' : wb.ownsRow wc.heap.size 3 1 vb (0 + ns.length + 1) (ints ms') := by
                  have := hownb.out
                  rw [show ([] ++ ints ms) ++ [Value.int .i64 n] = ints ms' by rw [HMS.out]; simp [ints]] at this
                  exact this
                have hslr := own_slr hownb'
                obtain ⟨mo', mc', em', _, _, _, _⟩ := slr_ints hslr
                have hgd : Good mst ns' := by obtain ⟨_, _, _, h⟩ := S6.out; exact h
                rw [HTz.out.len hgd.asc] at em'
                subst em'
                have hba : Below wc.heap.size wc wa := (below_alloc _ _).grown hgrowa.out (by simp) (fun k hk => by simp [Value.ownBlock] at hk; omega)
                have hbb : Below wc.heap.size wc wb := (hba.alloc hba.size _).grown hgrowb.out (by have := hba.size; simp; omega) (fun k hk => (own_base howna.out hk).1)
                have HBW := Lib.hid hbb
                have HSL := Lib.hid hslr
                have KAb := Lib.hid (bk_below KA.out hbb KA.out.lt)
                have K6b := Lib.hid (bk_below K6.out hbb K6.out.lt)
                have S6b := Lib.hid (S6.out.below hbb)
                obtain ⟨x1, x2, x3, x4⟩ := KAb.out.two
                obtain ⟨y1, y2, y3, y4⟩ := K6b.out.two
                clear hownb hgrowb howna hgrowa hownb' hslr hba hbb hgd hm1 hm2 hm3 hm4 hm0 hml hnew hi hz0 hz1 hz2 u1 u2 u3 u4' v1 v2 v3 v4
                go_wp2_with fail
                obtain ⟨wz, hwz⟩ : ∃ wz, wz = put2 wb w2.heap.size (.int .i64 mst) (.slice ao6 len6 cap6) := ⟨_, rfl⟩
                have HKz := Lib.hid (show Bk wz w2.heap.size 26 #[.int .i64 mst, .slice ao6 len6 cap6] by rw [hwz]; exact bk_put2 KAb.out _ _)
                have HZz := Lib.hid (show SetV wz (.agg #[.int .i64 mst, .slice ao6 len6 cap6]) mst ns' by rw [hwz]; exact S6b.out.put2 KAb.out set_ne_int _ _)
                have HOz := Lib.hid (show SetVar wz O mst ns by rw [hwz]; exact ((HO.out.below B5.out).below HBW.out).apart KAb.out (by omega))
                have HMz := Lib.hid (show Slr wz (.slice mo' ns'.length mc') (ints ms') by rw [hwz]; exact HSL.out.put2 KAb.out set_ne_int _ _)
                have HWz := Lib.hid (show Slr wz (.slice o ns.length p) (ints ns) by rw [hwz]; exact ((HW.out.below B5.out).below HBW.out).put2 KAb.out set_ne_int _ _)
                have HBz := Lib.hid (show Below w.heap.size w wz by rw [hwz]; exact below_put2 (below_then (below_then HBx.out B5.out) HBW.out) hA _ _)
                unfold put2 at hwz
                rw [← hwz]
                clear hwz KA S6 K6 KAb K6b S6b HSL HBW HSx HMx HBx HO HW B5 V5 x1 x2 x3 x4 y1 y2 y3 y4 hAlt h6lt hne hOlt hOx hz4 hAx hmn c1 c2
                as_aux_lemma =>
                  have kz := HKz.out
                  have sz := HZz.out
                  have HSz := Lib.hid (show SetVar wz w2.heap.size mst ns' from ⟨_, _, _, kz, sz⟩)
                  obtain ⟨aoo, leno, capo, ko, so⟩ := HOz.out
                  have KZ : Hid (∀ y, Below wz.heap.size wz y → (y.cell? ⟨w2.heap.size, 0, none⟩ = some (.int .i64 mst) ∧ y.cell? ⟨w2.heap.size, 1, none⟩ = some (.slice ao6 len6 cap6)) ∧ (y.cell? ⟨O, 0, none⟩ = some (.int .i64 mst) ∧ y.cell? ⟨O, 1, none⟩ = some (.slice aoo leno capo)) ∧ SetV y (.agg #[.int .i64 mst, .slice ao6 len6 cap6]) mst ns' ∧ SetV y (.agg #[.int .i64 mst, .slice aoo leno capo]) mst ns ∧ Below w.heap.size w y) := by
                    intro y hy
                    obtain ⟨d1, d2, _, _⟩ := (bk_below kz hy kz.lt).two
                    obtain ⟨d3, d4, _, _⟩ := (bk_below ko hy ko.lt).two
                    exact ⟨⟨d1, d2⟩, ⟨d3, d4⟩, sz.below hy, so.below hy, below_then HBz.out hy⟩
                  have hg' : Good mst ns' := by obtain ⟨_, _, _, hg⟩ := sz; exact hg
                  have hg0 : Good mst ns := by obtain ⟨_, _, _, hg⟩ := so; exact hg
                  have HL1 := Lib.hid (show ns'.length ≤ 1000000 by have := hg'.le; have := hg'.cap; omega)
                  have HL0 := Lib.hid (show ns.length ≤ 1000000 by have := hg0.le; have := hg0.cap; omega)
                  have HLM := Lib.hid (show ms'.length ≤ 1000000 by rw [HTz.out.len hg'.asc]; exact HL1.out)
                  have HSRT : Hid (∀ L : List Int, L.Perm ms' → L.Pairwise (· ≤ ·) → L = ns') := fun L h1 h2 => HTz.out.sorted hg'.asc h1 h2
                  obtain ⟨cb, hcb⟩ : ∃ cb, ns'.contains n = cb := ⟨_, rfl⟩
                  have HCON := Lib.hid ((HTz.out.contains n).trans hcb)
                  have HCB := Lib.hid hcb
                  clear hcb
                  obtain ⟨⟨z1, z2⟩, _, sA, _, _⟩ := KZ.out wz (Below.refl _ _)
                  have C1 := Lib.hid (all_set _ mst ns' wz sA)
                  clear kz sz ko so hg' hg0 sA
                  refine C1.out.mono ?_
                  rintro e y1 ⟨o1, p1, rfl, G1, b1⟩
                  have D1 := Lib.hid b1.out
                  have C2 := Lib.hid (sorted_ref _ ms' y1 (HMz.out.below b1.out) HLM.out)
                  clear C1 b1 z1 z2
                  go_wp2_with fail
                  refine C2.out.mono ?_
                  rintro e y2 ⟨v2, L, rfl, G2, hp, hpw, b2⟩
                  obtain rfl := (HSRT.out L hp hpw).symm
                  have D2 := Lib.hid (below_then D1.out b2)
                  have C3 := Lib.hid (same_self' _ _ y2 HL1.out (G1.out.below b2) G2)
                  clear C2 G1 G2 hp hpw b2 D1
                  go_wp2_with fail
                  refine C3.out.mono ?_
                  rintro e y3 ⟨rfl, q, rfl⟩
                  have D3 := Lib.hid (bdN D2.out q)
                  obtain ⟨wq, hwq⟩ : ∃ wq, wq = y2.drewN q := ⟨_, rfl⟩
                  rw [← hwq] at D3 ⊢
                  clear hwq C3 D2
                  obtain ⟨⟨z1, z2⟩, _, sA, _, _⟩ := KZ.out wq D3.out
                  have C4 := Lib.hid (len_set _ mst ns' wq sA)
                  clear sA
                  go_wp2_with fail
                  refine C4.out.mono ?_
                  rintro e y4 ⟨rfl, b4⟩
                  have D4 := Lib.hid (below_then D3.out b4)
                  obtain ⟨⟨x1, x2⟩, _, sA, _, _⟩ := KZ.out y4 D4.out
                  have C5 := Lib.hid (full_set _ mst ns' y4 sA)
                  clear sA C4 b4 D3 z1 z2
                  go_wp2_with fail
                  refine C5.out.mono ?_
                  rintro e y5 ⟨rfl, b5⟩
                  have D5 := Lib.hid (below_then D4.out b5)
                  obtain ⟨⟨z1, z2⟩, _, sA, _, _⟩ := KZ.out y5 D5.out
                  have c6 := has_set _ mst ns' n y5 sA
                  rw [HCB.out] at c6
                  have C6 := Lib.hid c6
                  clear sA C5 b5 D4 x1 x2 c6
                  go_wp2_with fail
                  refine C6.out.mono ?_
                  rintro e y6 ⟨rfl, b6⟩
                  have D6 := Lib.hid (below_then D5.out b6)
                  have c7 := has_ref _ ms' n y6 (HMz.out.below D6.out) HLM.out
                  rw [HCON.out] at c7
                  have C7 := Lib.hid c7
                  clear C6 b6 D5 z1 z2 c7
                  go_wp2_with fail
                  refine C7.out.mono ?_
                  rintro e y7 ⟨rfl, rfl⟩
                  obtain ⟨_, ⟨z1, z2⟩, _, sO, _⟩ := KZ.out y7 D6.out
                  have C8 := Lib.hid (all_set _ mst ns y7 sO)
                  clear sO C7 HCON
                  go_wp2_with fail
                  refine C8.out.mono ?_
                  rintro e y8 ⟨o8, p8, rfl, G8, b8⟩
                  have D8 := Lib.hid (below_then D6.out b8.out)
                  have C9 := Lib.hid (same_self' _ _ y8 HL0.out G8.out (HWz.out.below D8.out))
                  clear C8 G8 b8 D6 z1 z2
                  go_wp2_with fail
                  refine C9.out.mono ?_
                  rintro e y9 ⟨rfl, q2, rfl⟩
                  have D9 := Lib.hid (bdN D8.out q2)
                  obtain ⟨wq2, hwq2⟩ : ∃ wq2, wq2 = y8.drewN q2 := ⟨_, rfl⟩
                  rw [← hwq2] at D9 ⊢
                  have R1 := Lib.hid (HMz.out.below D9.out)
                  have R2 := Lib.hid (HSz.out.below D9.out)
                  have R3 := Lib.hid (below_then HBz.out D9.out)
                  clear hwq2 C9 D8
                  go_wp2_with fail
                  go_roundw
                  case rel => exact ⟨i + 1, ms', ns', by omega, by go_num, HTz, R1, R2, R3⟩
                  case measure => simp [intOf]; omega
              · have hsame : ns' = ns ∧ addM mst ms ns n = ms := by
                  have hin : ib = true ↔ n ∈ ns := by rw [← HIB.out]; exact List.contains_iff_mem
                  have hBB : B = true ↔ n ∈ ns ∨ (1 ≤ n ∧ n ≤ 65535) ∧ ns.length < mst := by rw [← HBB.out]; exact decide_eq_true_iff
                  have hc : ¬ (n ∉ ns ∧ (1 ≤ n ∧ n ≤ 65535) ∧ ns.length < mst) := fun h => hnew ⟨hBB.2 (.inr h.2), by rw [← Bool.not_eq_true]; exact fun h' => h.1 (hin.1 h')⟩
                  exact ⟨by rw [HNS.out]; exact if_neg hc, if_neg hc⟩
                have hcases : B = false ∨ (B = true ∧ ib = true) := by
                  cases B <;> cases ib <;> simp at hnew ⊢
                obtain ⟨ms', hms'⟩ : ∃ ms', ms' = ms := ⟨_, rfl⟩
                have HTz := hT0
                rw [hsame.2, ← hms'] at HTz
                have HMz0 := Lib.hid (show Slr wc (.slice mo ns.length mc) (ints ms') by rw [hms']; exact HMx.out.below B5.out)
                obtain rfl : ns = ns' := hsame.1.symm
                clear hnew hsame hms' hT0
                rcases hcases with rfl | ⟨rfl, rfl⟩
                · skip
                  go_wp2_with fail
                  obtain ⟨wz, hwz⟩ : ∃ wz, wz = put2 wc w2.heap.size (.int .i64 mst) (.slice ao6 len6 cap6) := ⟨_, rfl⟩
                  have HKz := Lib.hid (show Bk wz w2.heap.size 26 #[.int .i64 mst, .slice ao6 len6 cap6] by rw [hwz]; exact bk_put2 KA.out _ _)
                  have HZz := Lib.hid (show SetV wz (.agg #[.int .i64 mst, .slice ao6 len6 cap6]) mst ns by rw [hwz]; exact S6.out.put2 KA.out set_ne_int _ _)
                  have HOz := Lib.hid (show SetVar wz O mst ns by rw [hwz]; exact (HO.out.below B5.out).apart KA.out (by omega))
                  have HMz := Lib.hid (show Slr wz (.slice mo ns.length mc) (ints ms') by rw [hwz]; exact HMz0.out.put2 KA.out set_ne_int _ _)
                  have HWz := Lib.hid (show Slr wz (.slice o ns.length p) (ints ns) by rw [hwz]; exact (HW.out.below B5.out).put2 KA.out set_ne_int _ _)
                  have HBz := Lib.hid (show Below w.heap.size w wz by rw [hwz]; exact below_put2 (below_then HBx.out B5.out) hA _ _)
                  unfold put2 at hwz
                  rw [← hwz]
                  clear hwz KA S6 K6 HMz0 HSx HMx HBx HO HW B5 V5 u1 u2 u3 u4' v1 v2 v3 v4 hAlt h6lt hne hOlt hOx hz4 hAx hmn c1 c2
                  as_aux_lemma =>
                    have kz := HKz.out
                    have sz := HZz.out
                    have HSz := Lib.hid (show SetVar wz w2.heap.size mst ns from ⟨_, _, _, kz, sz⟩)
                    obtain ⟨aoo, leno, capo, ko, so⟩ := HOz.out
                    have KZ : Hid (∀ y, Below wz.heap.size wz y → (y.cell? ⟨w2.heap.size, 0, none⟩ = some (.int .i64 mst) ∧ y.cell? ⟨w2.heap.size, 1, none⟩ = some (.slice ao6 len6 cap6)) ∧ (y.cell? ⟨O, 0, none⟩ = some (.int .i64 mst) ∧ y.cell? ⟨O, 1, none⟩ = some (.slice aoo leno capo)) ∧ SetV y (.agg #[.int .i64 mst, .slice ao6 len6 cap6]) mst ns ∧ SetV y (.agg #[.int .i64 mst, .slice aoo leno capo]) mst ns ∧ Below w.heap.size w y) := by
                      intro y hy
                      obtain ⟨d1, d2, _, _⟩ := (bk_below kz hy kz.lt).two
                      obtain ⟨d3, d4, _, _⟩ := (bk_below ko hy ko.lt).two
                      exact ⟨⟨d1, d2⟩, ⟨d3, d4⟩, sz.below hy, so.below hy, below_then HBz.out hy⟩
                    have hg' : Good mst ns := by obtain ⟨_, _, _, hg⟩ := sz; exact hg
                    have hg0 : Good mst ns := by obtain ⟨_, _, _, hg⟩ := so; exact hg
                    have HL1 := Lib.hid (show ns.length ≤ 1000000 by have := hg'.le; have := hg'.cap; omega)
                    have HL0 := Lib.hid (show ns.length ≤ 1000000 by have := hg0.le; have := hg0.cap; omega)
                    have HLM := Lib.hid (show ms'.length ≤ 1000000 by rw [HTz.out.len hg'.asc]; exact HL1.out)
                    have HSRT : Hid (∀ L : List Int, L.Perm ms' → L.Pairwise (· ≤ ·) → L = ns) := fun L h1 h2 => HTz.out.sorted hg'.asc h1 h2
                    obtain ⟨cb, hcb⟩ : ∃ cb, ns.contains n = cb := ⟨_, rfl⟩
                    have HCON := Lib.hid ((HTz.out.contains n).trans hcb)
                    have HCB := Lib.hid hcb
                    clear hcb
                    obtain ⟨⟨z1, z2⟩, _, sA, _, _⟩ := KZ.out wz (Below.refl _ _)
                    have C1 := Lib.hid (all_set _ mst ns wz sA)
                    clear kz sz ko so hg' hg0 sA
                    refine C1.out.mono ?_
                    rintro e y1 ⟨o1, p1, rfl, G1, b1⟩
                    have D1 := Lib.hid b1.out
                    have C2 := Lib.hid (sorted_ref _ ms' y1 (HMz.out.below b1.out) HLM.out)
                    clear C1 b1 z1 z2
                    go_wp2_with fail
                    refine C2.out.mono ?_
                    rintro e y2 ⟨v2, L, rfl, G2, hp, hpw, b2⟩
                    obtain rfl := (HSRT.out L hp hpw).symm
                    have D2 := Lib.hid (below_then D1.out b2)
                    have C3 := Lib.hid (same_self' _ _ y2 HL1.out (G1.out.below b2) G2)
                    clear C2 G1 G2 hp hpw b2 D1
                    go_wp2_with fail
                    refine C3.out.mono ?_
                    rintro e y3 ⟨rfl, q, rfl⟩
                    have D3 := Lib.hid (bdN D2.out q)
                    obtain ⟨wq, hwq⟩ : ∃ wq, wq = y2.drewN q := ⟨_, rfl⟩
                    rw [← hwq] at D3 ⊢
                    clear hwq C3 D2
                    obtain ⟨⟨z1, z2⟩, _, sA, _, _⟩ := KZ.out wq D3.out
                    have C4 := Lib.hid (len_set _ mst ns wq sA)
                    clear sA
                    go_wp2_with fail
                    refine C4.out.mono ?_
                    rintro e y4 ⟨rfl, b4⟩
                    have D4 := Lib.hid (below_then D3.out b4)
                    obtain ⟨⟨x1, x2⟩, _, sA, _, _⟩ := KZ.out y4 D4.out
                    have C5 := Lib.hid (full_set _ mst ns y4 sA)
                    clear sA C4 b4 D3 z1 z2
                    go_wp2_with fail
                    refine C5.out.mono ?_
                    rintro e y5 ⟨rfl, b5⟩
                    have D5 := Lib.hid (below_then D4.out b5)
                    obtain ⟨⟨z1, z2⟩, _, sA, _, _⟩ := KZ.out y5 D5.out
                    have c6 := has_set _ mst ns n y5 sA
                    rw [HCB.out] at c6
                    have C6 := Lib.hid c6
                    clear sA C5 b5 D4 x1 x2 c6
                    go_wp2_with fail
                    refine C6.out.mono ?_
                    rintro e y6 ⟨rfl, b6⟩
                    have D6 := Lib.hid (below_then D5.out b6)
                    have c7 := has_ref _ ms' n y6 (HMz.out.below D6.out) HLM.out
                    rw [HCON.out] at c7
                    have C7 := Lib.hid c7
                    clear C6 b6 D5 z1 z2 c7
                    go_wp2_with fail
                    refine C7.out.mono ?_
                    rintro e y7 ⟨rfl, rfl⟩
                    obtain ⟨_, ⟨z1, z2⟩, _, sO, _⟩ := KZ.out y7 D6.out
                    have C8 := Lib.hid (all_set _ mst ns y7 sO)
                    clear sO C7 HCON
                    go_wp2_with fail
                    refine C8.out.mono ?_
                    rintro e y8 ⟨o8, p8, rfl, G8, b8⟩
                    have D8 := Lib.hid (below_then D6.out b8.out)
                    have C9 := Lib.hid (same_self' _ _ y8 HL0.out G8.out (HWz.out.below D8.out))
                    clear C8 G8 b8 D6 z1 z2
                    go_wp2_with fail
                    refine C9.out.mono ?_
                    rintro e y9 ⟨rfl, q2, rfl⟩
                    have D9 := Lib.hid (bdN D8.out q2)
                    obtain ⟨wq2, hwq2⟩ : ∃ wq2, wq2 = y8.drewN q2 := ⟨_, rfl⟩
                    rw [← hwq2] at D9 ⊢
                    have R1 := Lib.hid (HMz.out.below D9.out)
                    have R2 := Lib.hid (HSz.out.below D9.out)
                    have R3 := Lib.hid (below_then HBz.out D9.out)
                    clear hwq2 C9 D8
                    go_wp2_with fail
                    go_roundw
                    case rel => exact ⟨i + 1, ms', ns, by omega, by go_num, HTz, R1, R2, R3⟩
                    case measure => simp [intOf]; omega
                · skip
                  go_wp2_with fail
                  obtain ⟨wz, hwz⟩ : ∃ wz, wz = put2 wc w2.heap.size (.int .i64 mst) (.slice ao6 len6 cap6) := ⟨_, rfl⟩
                  have HKz := Lib.hid (show Bk wz w2.heap.size 26 #[.int .i64 mst, .slice ao6 len6 cap6] by rw [hwz]; exact bk_put2 KA.out _ _)
                  have HZz := Lib.hid (show SetV wz (.agg #[.int .i64 mst, .slice ao6 len6 cap6]) mst ns by rw [hwz]; exact S6.out.put2 KA.out set_ne_int _ _)
                  have HOz := Lib.hid (show SetVar wz O mst ns by rw [hwz]; exact (HO.out.below B5.out).apart KA.out (by omega))
                  have HMz := Lib.hid (show Slr wz (.slice mo ns.length mc) (ints ms') by rw [hwz]; exact HMz0.out.put2 KA.out set_ne_int _ _)
                  have HWz := Lib.hid (show Slr wz (.slice o ns.length p) (ints ns) by rw [hwz]; exact (HW.out.below B5.out).put2 KA.out set_ne_int _ _)
                  have HBz := Lib.hid (show Below w.heap.size w wz by rw [hwz]; exact below_put2 (below_then HBx.out B5.out) hA _ _)
                  unfold put2 at hwz
                  rw [← hwz]
                  clear hwz KA S6 K6 HMz0 HSx HMx HBx HO HW B5 V5 u1 u2 u3 u4' v1 v2 v3 v4 hAlt h6lt hne hOlt hOx hz4 hAx hmn c1 c2
                  as_aux_lemma =>
                    have kz := HKz.out
                    have sz := HZz.out
                    have HSz := Lib.hid (show SetVar wz w2.heap.size mst ns from ⟨_, _, _, kz, sz⟩)
                    obtain ⟨aoo, leno, capo, ko, so⟩ := HOz.out
                    have KZ : Hid (∀ y, Below wz.heap.size wz y → (y.cell? ⟨w2.heap.size, 0, none⟩ = some (.int .i64 mst) ∧ y.cell? ⟨w2.heap.size, 1, none⟩ = some (.slice ao6 len6 cap6)) ∧ (y.cell? ⟨O, 0, none⟩ = some (.int .i64 mst) ∧ y.cell? ⟨O, 1, none⟩ = some (.slice aoo leno capo)) ∧ SetV y (.agg #[.int .i64 mst, .slice ao6 len6 cap6]) mst ns ∧ SetV y (.agg #[.int .i64 mst, .slice aoo leno capo]) mst ns ∧ Below w.heap.size w y) := by
                      intro y hy
                      obtain ⟨d1, d2, _, _⟩ := (bk_below kz hy kz.lt).two
                      obtain ⟨d3, d4, _, _⟩ := (bk_below ko hy ko.lt).two
                      exact ⟨⟨d1, d2⟩, ⟨d3, d4⟩, sz.below hy, so.below hy, below_then HBz.out hy⟩
                    have hg' : Good mst ns := by obtain ⟨_, _, _, hg⟩ := sz; exact hg
                    have hg0 : Good mst ns := by obtain ⟨_, _, _, hg⟩ := so; exact hg
                    have HL1 := Lib.hid (show ns.length ≤ 1000000 by have := hg'.le; have := hg'.cap; omega)
                    have HL0 := Lib.hid (show ns.length ≤ 1000000 by have := hg0.le; have := hg0.cap; omega)
                    have HLM := Lib.hid (show ms'.length ≤ 1000000 by rw [HTz.out.len hg'.asc]; exact HL1.out)
                    have HSRT : Hid (∀ L : List Int, L.Perm ms' → L.Pairwise (· ≤ ·) → L = ns) := fun L h1 h2 => HTz.out.sorted hg'.asc h1 h2
                    obtain ⟨cb, hcb⟩ : ∃ cb, ns.contains n = cb := ⟨_, rfl⟩
                    have HCON := Lib.hid ((HTz.out.contains n).trans hcb)
                    have HCB := Lib.hid hcb
                    clear hcb
                    obtain ⟨⟨z1, z2⟩, _, sA, _, _⟩ := KZ.out wz (Below.refl _ _)
                    have C1 := Lib.hid (all_set _ mst ns wz sA)
                    clear kz sz ko so hg' hg0 sA
                    refine C1.out.mono ?_
                    rintro e y1 ⟨o1, p1, rfl, G1, b1⟩
                    have D1 := Lib.hid b1.out
                    have C2 := Lib.hid (sorted_ref _ ms' y1 (HMz.out.below b1.out) HLM.out)
                    clear C1 b1 z1 z2
                    go_wp2_with fail
                    refine C2.out.mono ?_
                    rintro e y2 ⟨v2, L, rfl, G2, hp, hpw, b2⟩
                    obtain rfl := (HSRT.out L hp hpw).symm
                    have D2 := Lib.hid (below_then D1.out b2)
                    have C3 := Lib.hid (same_self' _ _ y2 HL1.out (G1.out.below b2) G2)
                    clear C2 G1 G2 hp hpw b2 D1
                    go_wp2_with fail
                    refine C3.out.mono ?_
                    rintro e y3 ⟨rfl, q, rfl⟩
                    have D3 := Lib.hid (bdN D2.out q)
                    obtain ⟨wq, hwq⟩ : ∃ wq, wq = y2.drewN q := ⟨_, rfl⟩
                    rw [← hwq] at D3 ⊢
                    clear hwq C3 D2
                    obtain ⟨⟨z1, z2⟩, _, sA, _, _⟩ := KZ.out wq D3.out
                    have C4 := Lib.hid (len_set _ mst ns wq sA)
                    clear sA
                    go_wp2_with fail
                    refine C4.out.mono ?_
                    rintro e y4 ⟨rfl, b4⟩
                    have D4 := Lib.hid (below_then D3.out b4)
                    obtain ⟨⟨x1, x2⟩, _, sA, _, _⟩ := KZ.out y4 D4.out
                    have C5 := Lib.hid (full_set _ mst ns y4 sA)
                    clear sA C4 b4 D3 z1 z2
                    go_wp2_with fail
                    refine C5.out.mono ?_
                    rintro e y5 ⟨rfl, b5⟩
                    have D5 := Lib.hid (below_then D4.out b5)
                    obtain ⟨⟨z1, z2⟩, _, sA, _, _⟩ := KZ.out y5 D5.out
                    have c6 := has_set _ mst ns n y5 sA
                    rw [HCB.out] at c6
                    have C6 := Lib.hid c6
                    clear sA C5 b5 D4 x1 x2 c6
                    go_wp2_with fail
                    refine C6.out.mono ?_
                    rintro e y6 ⟨rfl, b6⟩
                    have D6 := Lib.hid (below_then D5.out b6)
                    have c7 := has_ref _ ms' n y6 (HMz.out.below D6.out) HLM.out
                    rw [HCON.out] at c7
                    have C7 := Lib.hid c7
                    clear C6 b6 D5 z1 z2 c7
                    go_wp2_with fail
                    refine C7.out.mono ?_
                    rintro e y7 ⟨rfl, rfl⟩
                    obtain ⟨_, ⟨z1, z2⟩, _, sO, _⟩ := KZ.out y7 D6.out
                    have C8 := Lib.hid (all_set _ mst ns y7 sO)
                    clear sO C7 HCON
                    go_wp2_with fail
                    refine C8.out.mono ?_
                    rintro e y8 ⟨o8, p8, rfl, G8, b8⟩
                    have D8 := Lib.hid (below_then D6.out b8.out)
                    have C9 := Lib.hid (same_self' _ _ y8 HL0.out G8.out (HWz.out.below D8.out))
                    clear C8 G8 b8 D6 z1 z2
                    go_wp2_with fail
                    refine C9.out.mono ?_
                    rintro e y9 ⟨rfl, q2, rfl⟩
                    have D9 := Lib.hid (bdN D8.out q2)
                    obtain ⟨wq2, hwq2⟩ : ∃ wq2, wq2 = y8.drewN q2 := ⟨_, rfl⟩
                    rw [← hwq2] at D9 ⊢
                    have R1 := Lib.hid (HMz.out.below D9.out)
                    have R2 := Lib.hid (HSz.out.below D9.out)
                    have R3 := Lib.hid (below_then HBz.out D9.out)
                    clear hwq2 C9 D8
                    go_wp2_with fail
                    go_roundw
                    case rel => exact ⟨i + 1, ms', ns, by omega, by go_num, HTz, R1, R2, R3⟩
                    case measure => simp [intOf]; omega
        · have t0 := bne_ q0
          clear q0
          by_cases q3 : c = 3
          · have t3 := beq_ q3
            clear q3
            as_aux_lemma =>
              obtain ⟨aoa, lena, capa, ka, sa⟩ := HSx.out
              obtain ⟨a1, a2, _, _⟩ := ka.two
              have CA := Lib.hid (add_set _ mst ns n wx sa)
              have hg := Lib.hid (HSx.out.good)
              clear ka sa
              go_wp2_with fail
              refine CA.out.mono ?_
              intro e w4 hq
              obtain ⟨ao4, len4, cap4, rfl, H4, B4⟩ := hq.lay
              obtain ⟨W5, hW5⟩ : ∃ W5, W5 = w4.alloc (.cells #[.int .i64 mst, .slice ao4 len4 cap4] 26) := ⟨_, rfl⟩
              have V5 := Lib.hid (show SetVar W5 w4.heap.size mst (addL mst ns n) by rw [hW5]; exact setVar_alloc H4.out)
              have B5 := Lib.hid (show Below wx.heap.size wx W5 by rw [hW5]; exact below_then B4.out (below_alloc _ _))
              have CH := Lib.hid (has_ref _ ms n W5 (HMx.out.below B5.out) (by rw [HT.out.len hg.out.asc]; have := hg.out.le; omega))
              have HCO := Lib.hid (HT.out.contains n)
              have hOx := HO.out.lt
              have hz4 := B4.out.size
              have hAx := HSx.out.lt
              have hmn := hg.out.le
              clear hq H4 CA a1 a2
              go_wp2_with fail
              rw [← hW5]
              clear hW5 B4
              refine CH.out.mono ?_
              rintro e W6 ⟨rfl, rfl⟩
              rw [HCO.out]
              obtain ⟨ib, hib⟩ : ∃ ib, ns.contains n = ib := ⟨_, rfl⟩
              rw [hib]
              have HIB := Lib.hid hib
              obtain ⟨B, hB⟩ : ∃ B, addB mst ns n = B := ⟨_, rfl⟩
              rw [hB]
              have HBB := Lib.hid hB
              clear hib hB CH HCO
              go_upto_region 24 with (fail)
              go_cut [15] (fun vb wy => vb = .bool B ∧ wy = W6)
              case first =>
                as_aux_lemma =>
                  have hin : ib = true ↔ n ∈ ns := by rw [← HIB.out]; exact List.contains_iff_mem
                  have hBB : B = true ↔ n ∈ ns ∨ (1 ≤ n ∧ n ≤ 65535) ∧ ns.length < mst := by rw [← HBB.out]; exact decide_eq_true_iff
                  by_cases hi : n ∈ ns
                  · obtain rfl := hin.2 hi
                    obtain rfl := hBB.2 (.inl hi)
                    clear hin hBB hi
                    go_wp2_with fail
                    go_meet
                    exact ⟨rfl, rfl⟩
                  · obtain rfl : ib = false := by rw [← Bool.not_eq_true]; exact fun h => hi (hin.1 h)
                    rcases (show ((1 ≤ n ∧ n ≤ 65535) ∧ ns.length < mst) ∨ n < 1 ∨ (1 ≤ n ∧ 65535 < n) ∨ ((1 ≤ n ∧ n ≤ 65535) ∧ mst ≤ ns.length) by omega) with ⟨⟨v1, v2⟩, v3⟩ | v1 | ⟨v1, v2⟩ | ⟨⟨v1, v2⟩, v3⟩
                    · obtain rfl := hBB.2 (.inr ⟨⟨v1, v2⟩, v3⟩)
                      have g1 := dec_ v1
                      have g2 := dec_ v2
                      have g3 := dec_ v3
                      clear hin hBB hi
                      go_wp2_with fail
                      go_meet
                      exact ⟨rfl, rfl⟩
                    · obtain rfl : B = false := by rw [← Bool.not_eq_true]; exact fun h => by rcases hBB.1 h with h | h; exact hi h; omega
                      have g1 := decn_ (show ¬ 1 ≤ n by omega)
                      clear hin hBB hi
                      go_wp2_with fail
                      go_meet
                      exact ⟨rfl, rfl⟩
                    · obtain rfl : B = false := by rw [← Bool.not_eq_true]; exact fun h => by rcases hBB.1 h with h | h; exact hi h; omega
                      have g1 := dec_ v1
                      have g2 := decn_ (show ¬ n ≤ 65535 by omega)
                      clear hin hBB hi
                      go_wp2_with fail
                      go_meet
                      exact ⟨rfl, rfl⟩
                    · obtain rfl : B = false := by rw [← Bool.not_eq_true]; exact fun h => by rcases hBB.1 h with h | h; exact hi h; omega
                      have g1 := dec_ v1
                      have g2 := dec_ v2
                      have g3 := decn_ (show ¬ ns.length < mst by omega)
                      clear hin hBB hi
                      go_wp2_with fail
                      go_meet
                      exact ⟨rfl, rfl⟩
              case rest =>
                obtain ⟨rfl, hwc⟩ := hcut
                subst hwc
                obtain ⟨ns', hns'⟩ : ∃ ns', ns' = addL mst ns n := ⟨_, rfl⟩
                rw [← hns'] at V5
                obtain ⟨ao6, len6, cap6, k6, s6⟩ := V5.out
                obtain ⟨aoA, lenA, capA, kA, sA⟩ := HSx.out.below B5.out
                obtain ⟨u1, u2, u3, u4'⟩ := k6.two
                obtain ⟨v1, v2, v3, v4⟩ := kA.two
                have KA := Lib.hid kA
                have S6 := Lib.hid s6
                have K6 := Lib.hid k6
                have hT0 := Lib.hid (HT.out.addM (most := mst) n)
                rw [← hns'] at hT0
                have HNS := Lib.hid hns'
                have hAlt := kA.lt
                have h6lt := k6.lt
                have hne : w4.heap.size ≠ w2.heap.size := by omega
                have hOlt : O < wc.heap.size := Nat.lt_of_lt_of_le hOx B5.out.size
                clear k6 s6 kA sA hns'
                by_cases hnew : B = true ∧ ib = false
                · obtain ⟨rfl, rfl⟩ := hnew
                  have hB : n ∉ ns ∧ (1 ≤ n ∧ n ≤ 65535) ∧ ns.length < mst := by
                    have hin : n ∉ ns := by
                      have := HIB.out
                      rw [← Bool.not_eq_true, List.contains_iff_mem] at this
                      exact this
                    have := decide_eq_true_iff.1 HBB.out
                    exact ⟨hin, this.elim (fun h => absurd h hin) id⟩
                  obtain ⟨i0, hi, hz0, hz1, hz2⟩ := info_parts info_int
                  have e1 : addM mst ms ns n = ms ++ [n] := if_pos hB
                  have e2 : ns'.length = ns.length + 1 := by rw [HNS.out, addL, if_pos hB, insL_length]
                  obtain ⟨ms', hms'⟩ : ∃ ms', ms' = ms ++ [n] := ⟨_, rfl⟩
                  have HTz := hT0
                  rw [e1, ← hms'] at HTz
                  have HE2 := Lib.hid e2
                  have HMS := Lib.hid hms'
                  have hsm : ns.length < mst := hB.2.2
                  have hML := HMx.out.below B5.out
                  have hnew : 0 < ns.length → ∃ ad, mo = some ad ∧ ∀ (j : Nat) (u : Value), (ints ms)[j]? = some u → (wc.alloc (.cells #[] 3)).cell? (ad.add j) = some u := by
                    intro hp
                    have hlen := HT.out.len hg.out.asc
                    obtain ⟨ao', cap', e, _, _, _, h4⟩ := slr_ints hML
                    injection e with e1 e2 e3
                    obtain ⟨b, off, e, _, hb, hc⟩ := h4 (by omega)
                    refine ⟨_, e1.trans e, fun j u hu => ?_⟩
                    obtain ⟨hj, rfl⟩ := List.getElem?_eq_some_iff.1 hu
                    rw [Addr.add_lit, World.cell?_of_block (w := wc) (Below.heap_alloc _ _ _ (by exact hb)), hc j (by rw [ints_length] at hj; exact hj), ints_get']
                  have hml : (ints ms).length = ns.length := by rw [ints_length]; exact HT.out.len hg.out.asc
                  have hm1 : 0 + ns.length ≤ maxLen := by unfold maxLen; omega
                  have hm2 : (0 + ns.length) * 8 ≤ 140737488355328 := by omega
                  have hm0 : mo = none → ns.length = 0 := fun h => by have := HM3.out h; have := m1; have := HT.out.len hg.out.asc; omega
                  clear hB e1 e2 hms' hT0 hML
                  have hm3 : 0 + ns.length + 1 ≤ maxLen := by unfold maxLen; omega
                  have hm4 : (0 + ns.length + 1) * 8 ≤ 140737488355328 := by omega
                  go_upto_region 29 with (at_builtin; first | (refine list_app rfl (.tmp 122) (.tmp 123) 24 rfl wc.heap.size 3 i0 (.int .i64 0) 8 Try.underlying24 hi hz0 hz1 hz2 rfl (.slice (some ⟨wc.heap.size, 0, none⟩) 0 0) 0 [] rfl (World.ownsRow_made wc #[] 0 (Nat.le_refl _) (Nat.zero_le _) rfl) mo ns.length mc (ints ms) rfl hml HM3.out hm0 hnew (ints_one ms) hm1 hm2 (by simp) ?_; intro va wa howna hgrowa) | (refine list_app rfl (.tmp 124) (.tmp 126) 24 rfl wc.heap.size 3 i0 (.int .i64 0) 8 Try.underlying24 hi hz0 hz1 hz2 rfl va (0 + ns.length) ([] ++ ints ms) rfl (own_tch howna.out (Tch.alloc (Tch.refl (fun _ => False) _) _) (by simp)) (some ⟨wa.heap.size, 0, none⟩) 1 1 [.int .i64 n] rfl rfl (by simp) (by simp) (fun _ => ⟨_, rfl, cells_one wa _ _⟩) (by intro u hu; simp at hu; subst hu; rfl) hm3 hm4 (by have := hgrowa.out.size; simp at this ⊢; omega) ?_; intro vb wb hownb hgrowb))
                  have hownb' : wb.ownsRow wc.heap.size 3 1 vb (0 + ns.length + 1) (ints ms') := by
                    have := hownb.out
                    rw [show ([] ++ ints ms) ++ [Value.int .i64 n] = ints ms' by rw [HMS.out]; simp [ints]] at this
                    exact this
                  have hslr := own_slr hownb'
                  obtain ⟨mo', mc', em', _, _, _, _⟩ := slr_ints hslr
                  have hgd : Good mst ns' := by obtain ⟨_, _, _, h⟩ := S6.out; exact h
                  rw [HTz.out.len hgd.asc] at em'
                  subst em'
                  have hba : Below wc.heap.size wc wa := (below_alloc _ _).grown hgrowa.out (by simp) (fun k hk => by simp [Value.ownBlock] at hk; omega)
                  have hbb : Below wc.heap.size wc wb := (hba.alloc hba.size _).grown hgrowb.out (by have := hba.size; simp; omega) (fun k hk => (own_base howna.out hk).1)
                  have HBW := Lib.hid hbb
                  have HSL := Lib.hid hslr
                  have KAb := Lib.hid (bk_below KA.out hbb KA.out.lt)
                  have K6b := Lib.hid (bk_below K6.out hbb K6.out.lt)
                  have S6b := Lib.hid (S6.out.below hbb)
                  obtain ⟨x1, x2, x3, x4⟩ := KAb.out.two
                  obtain ⟨y1, y2, y3, y4⟩ := K6b.out.two
                  clear hownb hgrowb howna hgrowa hownb' hslr hba hbb hgd hm1 hm2 hm3 hm4 hm0 hml hnew hi hz0 hz1 hz2 u1 u2 u3 u4' v1 v2 v3 v4
                  go_wp2_with fail
                  obtain ⟨wz, hwz⟩ : ∃ wz, wz = put2 wb w2.heap.size (.int .i64 mst) (.slice ao6 len6 cap6) := ⟨_, rfl⟩
                  have HKz := Lib.hid (show Bk wz w2.heap.size 26 #[.int .i64 mst, .slice ao6 len6 cap6] by rw [hwz]; exact bk_put2 KAb.out _ _)
                  have HZz := Lib.hid (show SetV wz (.agg #[.int .i64 mst, .slice ao6 len6 cap6]) mst ns' by rw [hwz]; exact S6b.out.put2 KAb.out set_ne_int _ _)
                  have HOz := Lib.hid (show SetVar wz O mst ns by rw [hwz]; exact ((HO.out.below B5.out).below HBW.out).apart KAb.out (by omega))
                  have HMz := Lib.hid (show Slr wz (.slice mo' ns'.length mc') (ints ms') by rw [hwz]; exact HSL.out.put2 KAb.out set_ne_int _ _)
                  have HWz := Lib.hid (show Slr wz (.slice o ns.length p) (ints ns) by rw [hwz]; exact ((HW.out.below B5.out).below HBW.out).put2 KAb.out set_ne_int _ _)
                  have HBz := Lib.hid (show Below w.heap.size w wz by rw [hwz]; exact below_put2 (below_then (below_then HBx.out B5.out) HBW.out) hA _ _)
                  unfold put2 at hwz
                  rw [← hwz]
                  clear hwz KA S6 K6 KAb K6b S6b HSL HBW HSx HMx HBx HO HW B5 V5 x1 x2 x3 x4 y1 y2 y3 y4 hAlt h6lt hne hOlt hOx hz4 hAx hmn c1 c2
                  as_aux_lemma =>
                    have kz := HKz.out
                    have sz := HZz.out
                    have HSz := Lib.hid (show SetVar wz w2.heap.size mst ns' from ⟨_, _, _, kz, sz⟩)
                    obtain ⟨aoo, leno, capo, ko, so⟩ := HOz.out
                    have KZ : Hid (∀ y, Below wz.heap.size wz y → (y.cell? ⟨w2.heap.size, 0, none⟩ = some (.int .i64 mst) ∧ y.cell? ⟨w2.heap.size, 1, none⟩ = some (.slice ao6 len6 cap6)) ∧ (y.cell? ⟨O, 0, none⟩ = some (.int .i64 mst) ∧ y.cell? ⟨O, 1, none⟩ = some (.slice aoo leno capo)) ∧ SetV y (.agg #[.int .i64 mst, .slice ao6 len6 cap6]) mst ns' ∧ SetV y (.agg #[.int .i64 mst, .slice aoo leno capo]) mst ns ∧ Below w.heap.size w y) := by
                      intro y hy
                      obtain ⟨d1, d2, _, _⟩ := (bk_below kz hy kz.lt).two
                      obtain ⟨d3, d4, _, _⟩ := (bk_below ko hy ko.lt).two
                      exact ⟨⟨d1, d2⟩, ⟨d3, d4⟩, sz.below hy, so.below hy, below_then HBz.out hy⟩
                    have hg' : Good mst ns' := by obtain ⟨_, _, _, hg⟩ := sz; exact hg
                    have hg0 : Good mst ns := by obtain ⟨_, _, _, hg⟩ := so; exact hg
                    have HL1 := Lib.hid (show ns'.length ≤ 1000000 by have := hg'.le; have := hg'.cap; omega)
                    have HL0 := Lib.hid (show ns.length ≤ 1000000 by have := hg0.le; have := hg0.cap; omega)
                    have HLM := Lib.hid (show ms'.length ≤ 1000000 by rw [HTz.out.len hg'.asc]; exact HL1.out)
                    have HSRT : Hid (∀ L : List Int, L.Perm ms' → L.Pairwise (· ≤ ·) → L = ns') := fun L h1 h2 => HTz.out.sorted hg'.asc h1 h2
                    obtain ⟨cb, hcb⟩ : ∃ cb, ns'.contains n = cb := ⟨_, rfl⟩
                    have HCON := Lib.hid ((HTz.out.contains n).trans hcb)
                    have HCB := Lib.hid hcb
                    clear hcb
                    obtain ⟨⟨z1, z2⟩, _, sA, _, _⟩ := KZ.out wz (Below.refl _ _)
                    have C1 := Lib.hid (all_set _ mst ns' wz sA)
                    clear kz sz ko so hg' hg0 sA
                    refine C1.out.mono ?_
                    rintro e y1 ⟨o1, p1, rfl, G1, b1⟩
                    have D1 := Lib.hid b1.out
                    have C2 := Lib.hid (sorted_ref _ ms' y1 (HMz.out.below b1.out) HLM.out)
                    clear C1 b1 z1 z2
                    go_wp2_with fail
                    refine C2.out.mono ?_
                    rintro e y2 ⟨v2, L, rfl, G2, hp, hpw, b2⟩
                    obtain rfl := (HSRT.out L hp hpw).symm
                    have D2 := Lib.hid (below_then D1.out b2)
                    have C3 := Lib.hid (same_self' _ _ y2 HL1.out (G1.out.below b2) G2)
                    clear C2 G1 G2 hp hpw b2 D1
                    go_wp2_with fail
                    refine C3.out.mono ?_
                    rintro e y3 ⟨rfl, q, rfl⟩
                    have D3 := Lib.hid (bdN D2.out q)
                    obtain ⟨wq, hwq⟩ : ∃ wq, wq = y2.drewN q := ⟨_, rfl⟩
                    rw [← hwq] at D3 ⊢
                    clear hwq C3 D2
                    obtain ⟨⟨z1, z2⟩, _, sA, _, _⟩ := KZ.out wq D3.out
                    have C4 := Lib.hid (len_set _ mst ns' wq sA)
                    clear sA
                    go_wp2_with fail
                    refine C4.out.mono ?_
                    rintro e y4 ⟨rfl, b4⟩
                    have D4 := Lib.hid (below_then D3.out b4)
                    obtain ⟨⟨x1, x2⟩, _, sA, _, _⟩ := KZ.out y4 D4.out
                    have C5 := Lib.hid (full_set _ mst ns' y4 sA)
                    clear sA C4 b4 D3 z1 z2
                    go_wp2_with fail
                    refine C5.out.mono ?_
                    rintro e y5 ⟨rfl, b5⟩
                    have D5 := Lib.hid (below_then D4.out b5)
                    obtain ⟨⟨z1, z2⟩, _, sA, _, _⟩ := KZ.out y5 D5.out
                    have c6 := has_set _ mst ns' n y5 sA
                    rw [HCB.out] at c6
                    have C6 := Lib.hid c6
                    clear sA C5 b5 D4 x1 x2 c6
                    go_wp2_with fail
                    refine C6.out.mono ?_
                    rintro e y6 ⟨rfl, b6⟩
                    have D6 := Lib.hid (below_then D5.out b6)
                    have c7 := has_ref _ ms' n y6 (HMz.out.below D6.out) HLM.out
                    rw [HCON.out] at c7
                    have C7 := Lib.hid c7
                    clear C6 b6 D5 z1 z2 c7
                    go_wp2_with fail
                    refine C7.out.mono ?_
                    rintro e y7 ⟨rfl, rfl⟩
                    obtain ⟨_, ⟨z1, z2⟩, _, sO, _⟩ := KZ.out y7 D6.out
                    have C8 := Lib.hid (all_set _ mst ns y7 sO)
                    clear sO C7 HCON
                    go_wp2_with fail
                    refine C8.out.mono ?_
                    rintro e y8 ⟨o8, p8, rfl, G8, b8⟩
                    have D8 := Lib.hid (below_then D6.out b8.out)
                    have C9 := Lib.hid (same_self' _ _ y8 HL0.out G8.out (HWz.out.below D8.out))
                    clear C8 G8 b8 D6 z1 z2
                    go_wp2_with fail
                    refine C9.out.mono ?_
                    rintro e y9 ⟨rfl, q2, rfl⟩
                    have D9 := Lib.hid (bdN D8.out q2)
                    obtain ⟨wq2, hwq2⟩ : ∃ wq2, wq2 = y8.drewN q2 := ⟨_, rfl⟩
                    rw [← hwq2] at D9 ⊢
                    have R1 := Lib.hid (HMz.out.below D9.out)
                    have R2 := Lib.hid (HSz.out.below D9.out)
                    have R3 := Lib.hid (below_then HBz.out D9.out)
                    clear hwq2 C9 D8
                    go_wp2_with fail
                    go_roundw
                    case rel => exact ⟨i + 1, ms', ns', by omega, by go_num, HTz, R1, R2, R3⟩
                    case measure => simp [intOf]; omega
                · have hsame : ns' = ns ∧ addM mst ms ns n = ms := by
                    have hin : ib = true ↔ n ∈ ns := by rw [← HIB.out]; exact List.contains_iff_mem
                    have hBB : B = true ↔ n ∈ ns ∨ (1 ≤ n ∧ n ≤ 65535) ∧ ns.length < mst := by rw [← HBB.out]; exact decide_eq_true_iff
                    have hc : ¬ (n ∉ ns ∧ (1 ≤ n ∧ n ≤ 65535) ∧ ns.length < mst) := fun h => hnew ⟨hBB.2 (.inr h.2), by rw [← Bool.not_eq_true]; exact fun h' => h.1 (hin.1 h')⟩
                    exact ⟨by rw [HNS.out]; exact if_neg hc, if_neg hc⟩
                  have hcases : B = false ∨ (B = true ∧ ib = true) := by
                    cases B <;> cases ib <;> simp at hnew ⊢
                  obtain ⟨ms', hms'⟩ : ∃ ms', ms' = ms := ⟨_, rfl⟩
                  have HTz := hT0
                  rw [hsame.2, ← hms'] at HTz
                  have HMz0 := Lib.hid (show Slr wc (.slice mo ns.length mc) (ints ms') by rw [hms']; exact HMx.out.below B5.out)
                  obtain rfl : ns = ns' := hsame.1.symm
                  clear hnew hsame hms' hT0
                  rcases hcases with rfl | ⟨rfl, rfl⟩
                  · skip
                    go_wp2_with fail
                    obtain ⟨wz, hwz⟩ : ∃ wz, wz = put2 wc w2.heap.size (.int .i64 mst) (.slice ao6 len6 cap6) := ⟨_, rfl⟩
                    have HKz := Lib.hid (show Bk wz w2.heap.size 26 #[.int .i64 mst, .slice ao6 len6 cap6] by rw [hwz]; exact bk_put2 KA.out _ _)
                    have HZz := Lib.hid (show SetV wz (.agg #[.int .i64 mst, .slice ao6 len6 cap6]) mst ns by rw [hwz]; exact S6.out.put2 KA.out set_ne_int _ _)
                    have HOz := Lib.hid (show SetVar wz O mst ns by rw [hwz]; exact (HO.out.below B5.out).apart KA.out (by omega))
                    have HMz := Lib.hid (show Slr wz (.slice mo ns.length mc) (ints ms') by rw [hwz]; exact HMz0.out.put2 KA.out set_ne_int _ _)
                    have HWz := Lib.hid (show Slr wz (.slice o ns.length p) (ints ns) by rw [hwz]; exact (HW.out.below B5.out).put2 KA.out set_ne_int _ _)
                    have HBz := Lib.hid (show Below w.heap.size w wz by rw [hwz]; exact below_put2 (below_then HBx.out B5.out) hA _ _)
                    unfold put2 at hwz
                    rw [← hwz]
                    clear hwz KA S6 K6 HMz0 HSx HMx HBx HO HW B5 V5 u1 u2 u3 u4' v1 v2 v3 v4 hAlt h6lt hne hOlt hOx hz4 hAx hmn c1 c2
                    as_aux_lemma =>
                      have kz := HKz.out
                      have sz := HZz.out
                      have HSz := Lib.hid (show SetVar wz w2.heap.size mst ns from ⟨_, _, _, kz, sz⟩)
                      obtain ⟨aoo, leno, capo, ko, so⟩ := HOz.out
                      have KZ : Hid (∀ y, Below wz.heap.size wz y → (y.cell? ⟨w2.heap.size, 0, none⟩ = some (.int .i64 mst) ∧ y.cell? ⟨w2.heap.size, 1, none⟩ = some (.slice ao6 len6 cap6)) ∧ (y.cell? ⟨O, 0, none⟩ = some (.int .i64 mst) ∧ y.cell? ⟨O, 1, none⟩ = some (.slice aoo leno capo)) ∧ SetV y (.agg #[.int .i64 mst, .slice ao6 len6 cap6]) mst ns ∧ SetV y (.agg #[.int .i64 mst, .slice aoo leno capo]) mst ns ∧ Below w.heap.size w y) := by
                        intro y hy
                        obtain ⟨d1, d2, _, _⟩ := (bk_below kz hy kz.lt).two
                        obtain ⟨d3, d4, _, _⟩ := (bk_below ko hy ko.lt).two
                        exact ⟨⟨d1, d2⟩, ⟨d3, d4⟩, sz.below hy, so.below hy, below_then HBz.out hy⟩
                      have hg' : Good mst ns := by obtain ⟨_, _, _, hg⟩ := sz; exact hg
                      have hg0 : Good mst ns := by obtain ⟨_, _, _, hg⟩ := so; exact hg
                      have HL1 := Lib.hid (show ns.length ≤ 1000000 by have := hg'.le; have := hg'.cap; omega)
                      have HL0 := Lib.hid (show ns.length ≤ 1000000 by have := hg0.le; have := hg0.cap; omega)
                      have HLM := Lib.hid (show ms'.length ≤ 1000000 by rw [HTz.out.len hg'.asc]; exact HL1.out)
                      have HSRT : Hid (∀ L : List Int, L.Perm ms' → L.Pairwise (· ≤ ·) → L = ns) := fun L h1 h2 => HTz.out.sorted hg'.asc h1 h2
                      obtain ⟨cb, hcb⟩ : ∃ cb, ns.contains n = cb := ⟨_, rfl⟩
                      have HCON := Lib.hid ((HTz.out.contains n).trans hcb)
                      have HCB := Lib.hid hcb
                      clear hcb
                      obtain ⟨⟨z1, z2⟩, _, sA, _, _⟩ := KZ.out wz (Below.refl _ _)
                      have C1 := Lib.hid (all_set _ mst ns wz sA)
                      clear kz sz ko so hg' hg0 sA
                      refine C1.out.mono ?_
                      rintro e y1 ⟨o1, p1, rfl, G1, b1⟩
                      have D1 := Lib.hid b1.out
                      have C2 := Lib.hid (sorted_ref _ ms' y1 (HMz.out.below b1.out) HLM.out)
                      clear C1 b1 z1 z2
                      go_wp2_with fail
                      refine C2.out.mono ?_
                      rintro e y2 ⟨v2, L, rfl, G2, hp, hpw, b2⟩
                      obtain rfl := (HSRT.out L hp hpw).symm
                      have D2 := Lib.hid (below_then D1.out b2)
                      have C3 := Lib.hid (same_self' _ _ y2 HL1.out (G1.out.below b2) G2)
                      clear C2 G1 G2 hp hpw b2 D1
                      go_wp2_with fail
                      refine C3.out.mono ?_
                      rintro e y3 ⟨rfl, q, rfl⟩
                      have D3 := Lib.hid (bdN D2.out q)
                      obtain ⟨wq, hwq⟩ : ∃ wq, wq = y2.drewN q := ⟨_, rfl⟩
                      rw [← hwq] at D3 ⊢
                      clear hwq C3 D2
                      obtain ⟨⟨z1, z2⟩, _, sA, _, _⟩ := KZ.out wq D3.out
                      have C4 := Lib.hid (len_set _ mst ns wq sA)
                      clear sA
                      go_wp2_with fail
                      refine C4.out.mono ?_
                      rintro e y4 ⟨rfl, b4⟩
                      have D4 := Lib.hid (below_then D3.out b4)
                      obtain ⟨⟨x1, x2⟩, _, sA, _, _⟩ := KZ.out y4 D4.out
                      have C5 := Lib.hid (full_set _ mst ns y4 sA)
                      clear sA C4 b4 D3 z1 z2
                      go_wp2_with fail
                      refine C5.out.mono ?_
                      rintro e y5 ⟨rfl, b5⟩
                      have D5 := Lib.hid (below_then D4.out b5)
                      obtain ⟨⟨z1, z2⟩, _, sA, _, _⟩ := KZ.out y5 D5.out
                      have c6 := has_set _ mst ns n y5 sA
                      rw [HCB.out] at c6
                      have C6 := Lib.hid c6
                      clear sA C5 b5 D4 x1 x2 c6
                      go_wp2_with fail
                      refine C6.out.mono ?_
                      rintro e y6 ⟨rfl, b6⟩
                      have D6 := Lib.hid (below_then D5.out b6)
                      have c7 := has_ref _ ms' n y6 (HMz.out.below D6.out) HLM.out
                      rw [HCON.out] at c7
                      have C7 := Lib.hid c7
                      clear C6 b6 D5 z1 z2 c7
                      go_wp2_with fail
                      refine C7.out.mono ?_
                      rintro e y7 ⟨rfl, rfl⟩
                      obtain ⟨_, ⟨z1, z2⟩, _, sO, _⟩ := KZ.out y7 D6.out
                      have C8 := Lib.hid (all_set _ mst ns y7 sO)
                      clear sO C7 HCON
                      go_wp2_with fail
                      refine C8.out.mono ?_
                      rintro e y8 ⟨o8, p8, rfl, G8, b8⟩
                      have D8 := Lib.hid (below_then D6.out b8.out)
                      have C9 := Lib.hid (same_self' _ _ y8 HL0.out G8.out (HWz.out.below D8.out))
                      clear C8 G8 b8 D6 z1 z2
                      go_wp2_with fail
                      refine C9.out.mono ?_
                      rintro e y9 ⟨rfl, q2, rfl⟩
                      have D9 := Lib.hid (bdN D8.out q2)
                      obtain ⟨wq2, hwq2⟩ : ∃ wq2, wq2 = y8.drewN q2 := ⟨_, rfl⟩
                      rw [← hwq2] at D9 ⊢
                      have R1 := Lib.hid (HMz.out.below D9.out)
                      have R2 := Lib.hid (HSz.out.below D9.out)
                      have R3 := Lib.hid (below_then HBz.out D9.out)
                      clear hwq2 C9 D8
                      go_wp2_with fail
                      go_roundw
                      case rel => exact ⟨i + 1, ms', ns, by omega, by go_num, HTz, R1, R2, R3⟩
                      case measure => simp [intOf]; omega
                  · skip
                    go_wp2_with fail
                    obtain ⟨wz, hwz⟩ : ∃ wz, wz = put2 wc w2.heap.size (.int .i64 mst) (.slice ao6 len6 cap6) := ⟨_, rfl⟩
                    have HKz := Lib.hid (show Bk wz w2.heap.size 26 #[.int .i64 mst, .slice ao6 len6 cap6] by rw [hwz]; exact bk_put2 KA.out _ _)
                    have HZz := Lib.hid (show SetV wz (.agg #[.int .i64 mst, .slice ao6 len6 cap6]) mst ns by rw [hwz]; exact S6.out.put2 KA.out set_ne_int _ _)
                    have HOz := Lib.hid (show SetVar wz O mst ns by rw [hwz]; exact (HO.out.below B5.out).apart KA.out (by omega))
                    have HMz := Lib.hid (show Slr wz (.slice mo ns.length mc) (ints ms') by rw [hwz]; exact HMz0.out.put2 KA.out set_ne_int _ _)
                    have HWz := Lib.hid (show Slr wz (.slice o ns.length p) (ints ns) by rw [hwz]; exact (HW.out.below B5.out).put2 KA.out set_ne_int _ _)
                    have HBz := Lib.hid (show Below w.heap.size w wz by rw [hwz]; exact below_put2 (below_then HBx.out B5.out) hA _ _)
                    unfold put2 at hwz
                    rw [← hwz]
                    clear hwz KA S6 K6 HMz0 HSx HMx HBx HO HW B5 V5 u1 u2 u3 u4' v1 v2 v3 v4 hAlt h6lt hne hOlt hOx hz4 hAx hmn c1 c2
                    as_aux_lemma =>
                      have kz := HKz.out
                      have sz := HZz.out
                      have HSz := Lib.hid (show SetVar wz w2.heap.size mst ns from ⟨_, _, _, kz, sz⟩)
                      obtain ⟨aoo, leno, capo, ko, so⟩ := HOz.out
                      have KZ : Hid (∀ y, Below wz.heap.size wz y → (y.cell? ⟨w2.heap.size, 0, none⟩ = some (.int .i64 mst) ∧ y.cell? ⟨w2.heap.size, 1, none⟩ = some (.slice ao6 len6 cap6)) ∧ (y.cell? ⟨O, 0, none⟩ = some (.int .i64 mst) ∧ y.cell? ⟨O, 1, none⟩ = some (.slice aoo leno capo)) ∧ SetV y (.agg #[.int .i64 mst, .slice ao6 len6 cap6]) mst ns ∧ SetV y (.agg #[.int .i64 mst, .slice aoo leno capo]) mst ns ∧ Below w.heap.size w y) := by
                        intro y hy
                        obtain ⟨d1, d2, _, _⟩ := (bk_below kz hy kz.lt).two
                        obtain ⟨d3, d4, _, _⟩ := (bk_below ko hy ko.lt).two
                        exact ⟨⟨d1, d2⟩, ⟨d3, d4⟩, sz.below hy, so.below hy, below_then HBz.out hy⟩
                      have hg' : Good mst ns := by obtain ⟨_, _, _, hg⟩ := sz; exact hg
                      have hg0 : Good mst ns := by obtain ⟨_, _, _, hg⟩ := so; exact hg
                      have HL1 := Lib.hid (show ns.length ≤ 1000000 by have := hg'.le; have := hg'.cap; omega)
                      have HL0 := Lib.hid (show ns.length ≤ 1000000 by have := hg0.le; have := hg0.cap; omega)
                      have HLM := Lib.hid (show ms'.length ≤ 1000000 by rw [HTz.out.len hg'.asc]; exact HL1.out)
                      have HSRT : Hid (∀ L : List Int, L.Perm ms' → L.Pairwise (· ≤ ·) → L = ns) := fun L h1 h2 => HTz.out.sorted hg'.asc h1 h2
                      obtain ⟨cb, hcb⟩ : ∃ cb, ns.contains n = cb := ⟨_, rfl⟩
                      have HCON := Lib.hid ((HTz.out.contains n).trans hcb)
                      have HCB := Lib.hid hcb
                      clear hcb
                      obtain ⟨⟨z1, z2⟩, _, sA, _, _⟩ := KZ.out wz (Below.refl _ _)
                      have C1 := Lib.hid (all_set _ mst ns wz sA)
                      clear kz sz ko so hg' hg0 sA
                      refine C1.out.mono ?_
                      rintro e y1 ⟨o1, p1, rfl, G1, b1⟩
                      have D1 := Lib.hid b1.out
                      have C2 := Lib.hid (sorted_ref _ ms' y1 (HMz.out.below b1.out) HLM.out)
                      clear C1 b1 z1 z2
                      go_wp2_with fail
                      refine C2.out.mono ?_
                      rintro e y2 ⟨v2, L, rfl, G2, hp, hpw, b2⟩
                      obtain rfl := (HSRT.out L hp hpw).symm
                      have D2 := Lib.hid (below_then D1.out b2)
                      have C3 := Lib.hid (same_self' _ _ y2 HL1.out (G1.out.below b2) G2)
                      clear C2 G1 G2 hp hpw b2 D1
                      go_wp2_with fail
                      refine C3.out.mono ?_
                      rintro e y3 ⟨rfl, q, rfl⟩
                      have D3 := Lib.hid (bdN D2.out q)
                      obtain ⟨wq, hwq⟩ : ∃ wq, wq = y2.drewN q := ⟨_, rfl⟩
                      rw [← hwq] at D3 ⊢
                      clear hwq C3 D2
                      obtain ⟨⟨z1, z2⟩, _, sA, _, _⟩ := KZ.out wq D3.out
                      have C4 := Lib.hid (len_set _ mst ns wq sA)
                      clear sA
                      go_wp2_with fail
                      refine C4.out.mono ?_
                      rintro e y4 ⟨rfl, b4⟩
                      have D4 := Lib.hid (below_then D3.out b4)
                      obtain ⟨⟨x1, x2⟩, _, sA, _, _⟩ := KZ.out y4 D4.out
                      have C5 := Lib.hid (full_set _ mst ns y4 sA)
                      clear sA C4 b4 D3 z1 z2
                      go_wp2_with fail
                      refine C5.out.mono ?_
                      rintro e y5 ⟨rfl, b5⟩
                      have D5 := Lib.hid (below_then D4.out b5)
                      obtain ⟨⟨z1, z2⟩, _, sA, _, _⟩ := KZ.out y5 D5.out
                      have c6 := has_set _ mst ns n y5 sA
                      rw [HCB.out] at c6
                      have C6 := Lib.hid c6
                      clear sA C5 b5 D4 x1 x2 c6
                      go_wp2_with fail
                      refine C6.out.mono ?_
                      rintro e y6 ⟨rfl, b6⟩
                      have D6 := Lib.hid (below_then D5.out b6)
                      have c7 := has_ref _ ms' n y6 (HMz.out.below D6.out) HLM.out
                      rw [HCON.out] at c7
                      have C7 := Lib.hid c7
                      clear C6 b6 D5 z1 z2 c7
                      go_wp2_with fail
                      refine C7.out.mono ?_
                      rintro e y7 ⟨rfl, rfl⟩
                      obtain ⟨_, ⟨z1, z2⟩, _, sO, _⟩ := KZ.out y7 D6.out
                      have C8 := Lib.hid (all_set _ mst ns y7 sO)
                      clear sO C7 HCON
                      go_wp2_with fail
                      refine C8.out.mono ?_
                      rintro e y8 ⟨o8, p8, rfl, G8, b8⟩
                      have D8 := Lib.hid (below_then D6.out b8.out)
                      have C9 := Lib.hid (same_self' _ _ y8 HL0.out G8.out (HWz.out.below D8.out))
                      clear C8 G8 b8 D6 z1 z2
                      go_wp2_with fail
                      refine C9.out.mono ?_
                      rintro e y9 ⟨rfl, q2, rfl⟩
                      have D9 := Lib.hid (bdN D8.out q2)
                      obtain ⟨wq2, hwq2⟩ : ∃ wq2, wq2 = y8.drewN q2 := ⟨_, rfl⟩
                      rw [← hwq2] at D9 ⊢
                      have R1 := Lib.hid (HMz.out.below D9.out)
                      have R2 := Lib.hid (HSz.out.below D9.out)
                      have R3 := Lib.hid (below_then HBz.out D9.out)
                      clear hwq2 C9 D8
                      go_wp2_with fail
                      go_roundw
                      case rel => exact ⟨i + 1, ms', ns, by omega, by go_num, HTz, R1, R2, R3⟩
                      case measure => simp [intOf]; omega
          · have t3 := bne_ q3
            clear q3
            by_cases q1 : c = 1
            · have t1 := beq_ q1
              clear q1
              as_aux_lemma =>
                obtain ⟨aoa, lena, capa, ka, sa⟩ := HSx.out
                obtain ⟨a1, a2, _, _⟩ := ka.two
                have CA := Lib.hid (drop_set _ mst ns n wx sa)
                have hg := Lib.hid (HSx.out.good)
                obtain ⟨cb, hcb⟩ : ∃ cb, ns.contains n = cb := ⟨_, rfl⟩
                clear ka sa
                go_wp2_with fail
                refine CA.out.mono ?_
                intro e w4 hq
                obtain ⟨ao4, len4, cap4, rfl, H4, B4⟩ := hq.lay
                rw [hcb]
                obtain ⟨W5, hW5⟩ : ∃ W5, W5 = w4.alloc (.cells #[.int .i64 mst, .slice ao4 len4 cap4] 26) := ⟨_, rfl⟩
                have V5 := Lib.hid (show SetVar W5 w4.heap.size mst (outL ns n) by rw [hW5]; exact setVar_alloc H4.out)
                have B5 := Lib.hid (show Below wx.heap.size wx W5 by rw [hW5]; exact below_then B4.out (below_alloc _ _))
                have ch := has_ref _ ms n W5 (HMx.out.below B5.out) (by rw [HT.out.len hg.out.asc]; have := hg.out.le; omega)
                rw [(HT.out.contains n).trans hcb] at ch
                have CH := Lib.hid ch
                have hOx := HO.out.lt
                have hz4 := B4.out.size
                have hAx := HSx.out.lt
                have hmn := hg.out.le
                clear hq H4 CA a1 a2 ch hcb
                go_wp2_with fail
                rw [← hW5]
                clear hW5 B4
                refine CH.out.mono ?_
                rintro e W6 ⟨rfl, rfl⟩
                clear CH
                go_wp2_with fail
                have hlm := Lib.hid (HT.out.len hg.out.asc)
                obtain ⟨i0, hi0, hz0, hz1, hz2⟩ := info_parts info_int
                go_loopw [18, 19] (fun vr vk wr => ∃ k : Nat, k ≤ ns.length ∧ vk = .int .i64 k ∧ Hid (wr.ownsRow W6.heap.size 3 1 vr (outL (ms.take k) n).length (ints (outL (ms.take k) n))) ∧ Hid (Below W6.heap.size W6 wr)) (fun _ vk _ => ns.length - (intOf vk).toNat)
                case atStart => exact ⟨0, by omega, rfl, World.ownsRow_nil _ _ _ _, Below.refl _ _⟩
                case round =>
                  obtain ⟨k, hk, rfl, HR, HBk⟩ := hrel
                  by_cases hlt2 : k < ns.length
                  · obtain ⟨mb, moff, rfl, hcm⟩ : ∃ mb moff, mo = some ⟨mb, moff, none⟩ ∧ wr.cell? ⟨mb, moff + k, none⟩ = some (.int .i64 (ms.getD k 0)) := by
                      obtain ⟨ao', cap', e, _, _, _, h4⟩ := slr_ints ((HMx.out.below B5.out).below HBk.out)
                      injection e with e1 e2 e3
                      obtain ⟨mb, moff, e, _, _, hc⟩ := h4 (by have := hlm.out; omega)
                      exact ⟨mb, moff, e1.trans e, hc k (by have := hlm.out; omega)⟩
                    obtain ⟨y, hy⟩ : ∃ y, y = ms.getD k 0 := ⟨_, rfl⟩
                    have hstep := outL_take ms n k (by have := hlm.out; omega)
                    rw [← hy] at hcm hstep
                    have hol : (outL (ms.take k) n).length ≤ k := Nat.le_trans (outL_length _ _) (List.length_take_le _ _)
                    clear hy
                    by_cases hyn : y = n
                    · rw [if_pos hyn] at hstep
                      have HST := Lib.hid hstep
                      have ht : (y != n) = false := by simp [hyn]
                      clear hstep hyn
                      go_wp2_with fail
                      go_roundw
                      case rel => exact ⟨k + 1, by omega, by go_num, by rw [HST.out]; exact HR.out, HBk⟩
                      case measure => simp [intOf]; omega
                    · rw [if_neg hyn] at hstep
                      have HST := Lib.hid hstep
                      have ht : (y != n) = true := by simp [hyn]
                      have hm1 : (outL (ms.take k) n).length + 1 ≤ maxLen := by unfold maxLen; omega
                      have hm2 : ((outL (ms.take k) n).length + 1) * 8 ≤ 140737488355328 := by omega
                      have hbs : W6.heap.size ≤ (wr.alloc (.cells #[.int .i64 y] 3)).heap.size := by have := HBk.out.size; simp; omega
                      clear hstep hyn
                      go_wp2_with (at_builtin; refine list_app rfl (.tmp 154) (.tmp 159) 24 rfl W6.heap.size 3 i0 (.int .i64 0) 8 Try.underlying24 hi0 hz0 hz1 hz2 rfl _ (outL (ms.take k) n).length (ints (outL (ms.take k) n)) rfl (own_tch HR.out (Tch.alloc (Tch.refl (fun _ => False) _) _) (by simp)) (some ⟨wr.heap.size, 0, none⟩) 1 1 [.int .i64 y] rfl rfl (by simp) (by simp) (fun _ => ⟨_, rfl, cells_one wr _ _⟩) (by intro u hu; simp at hu; subst hu; rfl) hm1 hm2 hbs ?_; intro vb wb hownb hgrowb)
                      have hownb' : wb.ownsRow W6.heap.size 3 1 vb (outL (ms.take (k + 1)) n).length (ints (outL (ms.take (k + 1)) n)) := by
                        have := hownb.out
                        rw [HST.out]
                        simpa [ints] using this
                      have hbb : Below W6.heap.size W6 wb := (below_alloc' HBk.out _).grown hgrowb.out (by have := HBk.out.size; simp; omega) (fun k hk => (own_base HR.out hk).1)
                      have HOB := Lib.hid hownb'
                      have HBB := Lib.hid hbb
                      clear hownb hgrowb hownb' hbb hm1 hm2 hbs ht
                      go_wp2_with fail
                      go_roundw
                      case rel => exact ⟨k + 1, by omega, by go_num, HOB, HBB⟩
                      case measure => simp [intOf]; omega
                  · obtain ⟨wy, rfl⟩ : ∃ y, y = wr := ⟨_, rfl⟩
                    obtain ⟨ms', hms'⟩ : ∃ ms', ms' = outL ms n := ⟨_, rfl⟩
                    obtain ⟨ns', hns'⟩ : ∃ ns', ns' = outL ns n := ⟨_, rfl⟩
                    have hall : outL (ms.take k) n = ms' := by rw [hms', List.take_of_length_le (by have := hlm.out; omega)]
                    have hor := HR.out
                    rw [hall] at hor
                    have HTz := Lib.hid (show Twin ms' ns' by rw [hms', hns']; exact HT.out.out n)
                    have V6 := V5.out.below HBk.out
                    rw [← hns'] at V6
                    have hslr := own_slr hor
                    obtain ⟨mo', mc', em', _, _, _, _⟩ := slr_ints hslr
                    rw [HTz.out.len V6.good.asc] at em'
                    subst em'
                    have HSL := Lib.hid hslr
                    obtain ⟨ao6, len6, cap6, k6, s6⟩ := V6
                    obtain ⟨aoA, lenA, capA, kA, sA⟩ := (HSx.out.below B5.out).below HBk.out
                    obtain ⟨u1, u2, u3, u4'⟩ := k6.two
                    obtain ⟨v1, v2, v3, v4⟩ := kA.two
                    have KA := Lib.hid kA
                    have S6 := Lib.hid s6
                    have hne : w4.heap.size ≠ w2.heap.size := by omega
                    clear k6 s6 kA sA hns' hms' hall hor hslr hi0 hz0 hz1 hz2
                    go_wp2_with fail
                    go_region
                    obtain ⟨wz, hwz⟩ : ∃ wz, wz = (put2 wy w2.heap.size (.int .i64 mst) (.slice ao6 len6 cap6)).drew := ⟨_, rfl⟩
                    have HKz := Lib.hid (show Bk wz w2.heap.size 26 #[.int .i64 mst, .slice ao6 len6 cap6] by rw [hwz]; exact bk_put2 KA.out _ _)
                    have HZz := Lib.hid (show SetV wz (.agg #[.int .i64 mst, .slice ao6 len6 cap6]) mst ns' by rw [hwz]; exact (S6.out.put2 KA.out set_ne_int _ _).below (Below.refl _ _).drew)
                    have HOz := Lib.hid (show SetVar wz O mst ns by rw [hwz]; exact (((HO.out.below B5.out).below HBk.out).apart KA.out (by omega)).drew)
                    have HMz := Lib.hid (show Slr wz (.slice mo' ns'.length mc') (ints ms') by rw [hwz]; exact slr_drew (HSL.out.put2 KA.out set_ne_int _ _))
                    have HWz := Lib.hid (show Slr wz (.slice o ns.length p) (ints ns) by rw [hwz]; exact slr_drew (((HW.out.below B5.out).below HBk.out).put2 KA.out set_ne_int _ _))
                    have HBz := Lib.hid (show Below w.heap.size w wz by rw [hwz]; exact (below_put2 (below_then (below_then HBx.out B5.out) HBk.out) hA _ _).drew)
                    unfold put2 at hwz
                    rw [← hwz]
                    obtain ⟨z1, z2, _, _⟩ := HKz.out.two
                    clear hwz KA S6 HSL HSx HMx HBx HO HW B5 V5 HBk HR u1 u2 u3 u4' v1 v2 v3 v4 hne hOx hz4 hAx hmn c1 c2
                    go_wp2_with fail
                    clear z1 z2
                    as_aux_lemma =>
                      have kz := HKz.out
                      have sz := HZz.out
                      have HSz := Lib.hid (show SetVar wz w2.heap.size mst ns' from ⟨_, _, _, kz, sz⟩)
                      obtain ⟨aoo, leno, capo, ko, so⟩ := HOz.out
                      have KZ : Hid (∀ y, Below wz.heap.size wz y → (y.cell? ⟨w2.heap.size, 0, none⟩ = some (.int .i64 mst) ∧ y.cell? ⟨w2.heap.size, 1, none⟩ = some (.slice ao6 len6 cap6)) ∧ (y.cell? ⟨O, 0, none⟩ = some (.int .i64 mst) ∧ y.cell? ⟨O, 1, none⟩ = some (.slice aoo leno capo)) ∧ SetV y (.agg #[.int .i64 mst, .slice ao6 len6 cap6]) mst ns' ∧ SetV y (.agg #[.int .i64 mst, .slice aoo leno capo]) mst ns ∧ Below w.heap.size w y) := by
                        intro y hy
                        obtain ⟨d1, d2, _, _⟩ := (bk_below kz hy kz.lt).two
                        obtain ⟨d3, d4, _, _⟩ := (bk_below ko hy ko.lt).two
                        exact ⟨⟨d1, d2⟩, ⟨d3, d4⟩, sz.below hy, so.below hy, below_then HBz.out hy⟩
                      have hg' : Good mst ns' := by obtain ⟨_, _, _, hg⟩ := sz; exact hg
                      have hg0 : Good mst ns := by obtain ⟨_, _, _, hg⟩ := so; exact hg
                      have HL1 := Lib.hid (show ns'.length ≤ 1000000 by have := hg'.le; have := hg'.cap; omega)
                      have HL0 := Lib.hid (show ns.length ≤ 1000000 by have := hg0.le; have := hg0.cap; omega)
                      have HLM := Lib.hid (show ms'.length ≤ 1000000 by rw [HTz.out.len hg'.asc]; exact HL1.out)
                      have HSRT : Hid (∀ L : List Int, L.Perm ms' → L.Pairwise (· ≤ ·) → L = ns') := fun L h1 h2 => HTz.out.sorted hg'.asc h1 h2
                      obtain ⟨cb, hcb⟩ : ∃ cb, ns'.contains n = cb := ⟨_, rfl⟩
                      have HCON := Lib.hid ((HTz.out.contains n).trans hcb)
                      have HCB := Lib.hid hcb
                      clear hcb
                      obtain ⟨⟨z1, z2⟩, _, sA, _, _⟩ := KZ.out wz (Below.refl _ _)
                      have C1 := Lib.hid (all_set _ mst ns' wz sA)
                      clear kz sz ko so hg' hg0 sA
                      refine C1.out.mono ?_
                      rintro e y1 ⟨o1, p1, rfl, G1, b1⟩
                      have D1 := Lib.hid b1.out
                      have C2 := Lib.hid (sorted_ref _ ms' y1 (HMz.out.below b1.out) HLM.out)
                      clear C1 b1 z1 z2
                      go_wp2_with fail
                      refine C2.out.mono ?_
                      rintro e y2 ⟨v2, L, rfl, G2, hp, hpw, b2⟩
                      obtain rfl := (HSRT.out L hp hpw).symm
                      have D2 := Lib.hid (below_then D1.out b2)
                      have C3 := Lib.hid (same_self' _ _ y2 HL1.out (G1.out.below b2) G2)
                      clear C2 G1 G2 hp hpw b2 D1
                      go_wp2_with fail
                      refine C3.out.mono ?_
                      rintro e y3 ⟨rfl, q, rfl⟩
                      have D3 := Lib.hid (bdN D2.out q)
                      obtain ⟨wq, hwq⟩ : ∃ wq, wq = y2.drewN q := ⟨_, rfl⟩
                      rw [← hwq] at D3 ⊢
                      clear hwq C3 D2
                      obtain ⟨⟨z1, z2⟩, _, sA, _, _⟩ := KZ.out wq D3.out
                      have C4 := Lib.hid (len_set _ mst ns' wq sA)
                      clear sA
                      go_wp2_with fail
                      refine C4.out.mono ?_
                      rintro e y4 ⟨rfl, b4⟩
                      have D4 := Lib.hid (below_then D3.out b4)
                      obtain ⟨⟨x1, x2⟩, _, sA, _, _⟩ := KZ.out y4 D4.out
                      have C5 := Lib.hid (full_set _ mst ns' y4 sA)
                      clear sA C4 b4 D3 z1 z2
                      go_wp2_with fail
                      refine C5.out.mono ?_
                      rintro e y5 ⟨rfl, b5⟩
                      have D5 := Lib.hid (below_then D4.out b5)
                      obtain ⟨⟨z1, z2⟩, _, sA, _, _⟩ := KZ.out y5 D5.out
                      have c6 := has_set _ mst ns' n y5 sA
                      rw [HCB.out] at c6
                      have C6 := Lib.hid c6
                      clear sA C5 b5 D4 x1 x2 c6
                      go_wp2_with fail
                      refine C6.out.mono ?_
                      rintro e y6 ⟨rfl, b6⟩
                      have D6 := Lib.hid (below_then D5.out b6)
                      have c7 := has_ref _ ms' n y6 (HMz.out.below D6.out) HLM.out
                      rw [HCON.out] at c7
                      have C7 := Lib.hid c7
                      clear C6 b6 D5 z1 z2 c7
                      go_wp2_with fail
                      refine C7.out.mono ?_
                      rintro e y7 ⟨rfl, rfl⟩
                      obtain ⟨_, ⟨z1, z2⟩, _, sO, _⟩ := KZ.out y7 D6.out
                      have C8 := Lib.hid (all_set _ mst ns y7 sO)
                      clear sO C7 HCON
                      go_wp2_with fail
                      refine C8.out.mono ?_
                      rintro e y8 ⟨o8, p8, rfl, G8, b8⟩
                      have D8 := Lib.hid (below_then D6.out b8.out)
                      have C9 := Lib.hid (same_self' _ _ y8 HL0.out G8.out (HWz.out.below D8.out))
                      clear C8 G8 b8 D6 z1 z2
                      go_wp2_with fail
                      refine C9.out.mono ?_
                      rintro e y9 ⟨rfl, q2, rfl⟩
                      have D9 := Lib.hid (bdN D8.out q2)
                      obtain ⟨wq2, hwq2⟩ : ∃ wq2, wq2 = y8.drewN q2 := ⟨_, rfl⟩
                      rw [← hwq2] at D9 ⊢
                      have R1 := Lib.hid (HMz.out.below D9.out)
                      have R2 := Lib.hid (HSz.out.below D9.out)
                      have R3 := Lib.hid (below_then HBz.out D9.out)
                      clear hwq2 C9 D8
                      go_wp2_with fail
                      go_roundw
                      case rel => exact ⟨i + 1, ms', ns', by omega, by go_num, HTz, R1, R2, R3⟩
                      case measure => simp [intOf]; omega
            · have t1 := bne_ q1
              clear q1
              as_aux_lemma =>
                have hg := Lib.hid (HSx.out.good)
                have hlm := Lib.hid (HT.out.len hg.out.asc)
                have hmn := hg.out.le
                have hOx := HO.out.lt
                obtain ⟨i0, hi0, hz0, hz1, hz2⟩ := info_parts info_int
                go_wp2_with fail
                go_loopw [20, 21] (fun vr vk wr => ∃ k : Nat, k ≤ ns.length ∧ vk = .int .i64 k ∧ Hid (wr.ownsRow wx.heap.size 3 1 vr (but5 (ms.take k) n).length (ints (but5 (ms.take k) n))) ∧ Hid (Below wx.heap.size wx wr)) (fun _ vk _ => ns.length - (intOf vk).toNat)
                case atStart => exact ⟨0, by omega, rfl, World.ownsRow_nil _ _ _ _, Below.refl _ _⟩
                case round =>
                  obtain ⟨k, hk, rfl, HR, HBk⟩ := hrel
                  by_cases hlt2 : k < ns.length
                  · obtain ⟨mb, moff, rfl, hcm⟩ : ∃ mb moff, mo = some ⟨mb, moff, none⟩ ∧ wr.cell? ⟨mb, moff + k, none⟩ = some (.int .i64 (ms.getD k 0)) := by
                      obtain ⟨ao', cap', e, _, _, _, h4⟩ := slr_ints (HMx.out.below HBk.out)
                      injection e with e1 e2 e3
                      obtain ⟨mb, moff, e, _, _, hc⟩ := h4 (by have := hlm.out; omega)
                      exact ⟨mb, moff, e1.trans e, hc k (by have := hlm.out; omega)⟩
                    obtain ⟨y, hy⟩ : ∃ y, y = ms.getD k 0 := ⟨_, rfl⟩
                    have hstep := but5_take ms n k (by have := hlm.out; omega)
                    rw [← hy] at hcm hstep
                    have hol : (but5 (ms.take k) n).length ≤ k := Nat.le_trans (but5_length _ _) (List.length_take_le _ _)
                    clear hy
                    by_cases hyn : y = n
                    · rw [if_pos (.inl hyn)] at hstep
                      have HST := Lib.hid hstep
                      have ht : (y != n) = false := by simp [hyn]
                      clear hstep hyn
                      go_wp2_with fail
                      go_roundw
                      case rel => exact ⟨k + 1, by omega, by go_num, by rw [HST.out]; exact HR.out, HBk⟩
                      case measure => simp [intOf]; omega
                    · have ht : (y != n) = true := by simp [hyn]
                      by_cases hy5 : y = 5
                      · rw [if_pos (.inr hy5)] at hstep
                        have HST := Lib.hid hstep
                        have ht5 : (y != 5) = false := by simp [hy5]
                        clear hstep hyn hy5
                        go_wp2_with fail
                        go_roundw
                        case rel => exact ⟨k + 1, by omega, by go_num, by rw [HST.out]; exact HR.out, HBk⟩
                        case measure => simp [intOf]; omega
                      · rw [if_neg (by rintro (h | h); exact hyn h; exact hy5 h)] at hstep
                        have HST := Lib.hid hstep
                        have ht5 : (y != 5) = true := by simp [hy5]
                        have hm1 : (but5 (ms.take k) n).length + 1 ≤ maxLen := by unfold maxLen; omega
                        have hm2 : ((but5 (ms.take k) n).length + 1) * 8 ≤ 140737488355328 := by omega
                        have hbs : wx.heap.size ≤ (wr.alloc (.cells #[.int .i64 y] 3)).heap.size := by have := HBk.out.size; simp; omega
                        clear hstep hyn hy5
                        go_wp2_with (at_builtin; refine list_app rfl (.tmp 72) (.tmp 77) 24 rfl wx.heap.size 3 i0 (.int .i64 0) 8 Try.underlying24 hi0 hz0 hz1 hz2 rfl _ (but5 (ms.take k) n).length (ints (but5 (ms.take k) n)) rfl (own_tch HR.out (Tch.alloc (Tch.refl (fun _ => False) _) _) (by simp)) (some ⟨wr.heap.size, 0, none⟩) 1 1 [.int .i64 y] rfl rfl (by simp) (by simp) (fun _ => ⟨_, rfl, cells_one wr _ _⟩) (by intro u hu; simp at hu; subst hu; rfl) hm1 hm2 hbs ?_; intro vb wb hownb hgrowb)
                        have hownb' : wb.ownsRow wx.heap.size 3 1 vb (but5 (ms.take (k + 1)) n).length (ints (but5 (ms.take (k + 1)) n)) := by
                          have := hownb.out
                          rw [HST.out]
                          simpa [ints] using this
                        have hbb : Below wx.heap.size wx wb := (below_alloc' HBk.out _).grown hgrowb.out (by have := HBk.out.size; simp; omega) (fun k hk => (own_base HR.out hk).1)
                        have HOB := Lib.hid hownb'
                        have HBB := Lib.hid hbb
                        clear hownb hgrowb hownb' hbb hm1 hm2 hbs ht ht5
                        go_wp2_with fail
                        go_roundw
                        case rel => exact ⟨k + 1, by omega, by go_num, HOB, HBB⟩
                        case measure => simp [intOf]; omega
                  · obtain ⟨wy, rfl⟩ : ∃ y, y = wr := ⟨_, rfl⟩
                    have hall : but5 (ms.take k) n = but5 ms n := by rw [List.take_of_length_le (by have := hlm.out; omega)]
                    have hor := HR.out
                    rw [hall] at hor
                    have hslr := own_slr hor
                    obtain ⟨ro, rc, er, _, _, _, _⟩ := slr_ints hslr
                    subst er
                    have HSL := Lib.hid hslr
                    obtain ⟨ao6, len6, cap6, k6, s6⟩ := HSx.out.below HBk.out
                    obtain ⟨u1, u2, u3, u4'⟩ := k6.two
                    have KA := Lib.hid k6
                    have S6 := Lib.hid s6
                    obtain ⟨fs, hfs⟩ : ∃ fs, fs = ns.filter fun x => !([n, 5] : List Int).contains x := ⟨_, rfl⟩
                    have hcb := but_set _ mst ns [n, 5] (.slice (some ⟨wy.heap.size, 0, none⟩) 2 2) _ (s6.below (below_alloc wy (.cells #[.int .i64 n, .int .i64 5] 3))) (sl_made wy 3 (ints [n, 5]) (by simp [ints]; decide)) (by simp)
                    rw [← hfs] at hcb
                    have CB := Lib.hid hcb
                    have HFT := Lib.hid (show Twin (but5 ms n) fs by rw [hfs]; exact HT.out.but n)
                    have HFA := Lib.hid (show Asc fs by rw [hfs]; exact asc_but hg.out.asc _)
                    have HFL := Lib.hid (show fs.length ≤ 1000000 by rw [hfs]; exact Nat.le_trans (List.length_filter_le _ _) (by omega))
                    clear k6 s6 hall hor hslr hi0 hz0 hz1 hz2 hcb hfs u3 u4'
                    go_wp2_with fail
                    refine CB.out.mono ?_
                    rintro e ya ⟨va, rfl, hva, ba⟩
                    have HVA := Lib.hid hva
                    have BA := Lib.hid (below_then (below_alloc wy (.cells #[.int .i64 n, .int .i64 5] 3)) ba)
                    have CS := Lib.hid (sorted_ref _ (but5 ms n) ya (HSL.out.below BA.out) (by rw [HFT.out.len HFA.out]; exact HFL.out))
                    clear CB hva ba u1 u2
                    go_wp2_with fail
                    refine CS.out.mono ?_
                    rintro e yb ⟨vc, L, rfl, hvc, hp, hpw, bb⟩
                    obtain rfl := (HFT.out.sorted HFA.out hp hpw).symm
                    have BB := Lib.hid (below_then BA.out bb)
                    have CM := Lib.hid (same_self' _ _ yb HFL.out (HVA.out.below bb) hvc)
                    clear CS HVA hvc hp hpw bb BA
                    go_wp2_with fail
                    refine CM.out.mono ?_
                    rintro e yc ⟨rfl, qq, rfl⟩
                    obtain ⟨wz, hwz⟩ : ∃ wz, wz = yb.drewN qq := ⟨_, rfl⟩
                    have BZ := Lib.hid (show Below wy.heap.size wy wz by rw [hwz]; exact bdN BB.out qq)
                    obtain ⟨ms', hms'⟩ : ∃ ms', ms' = ms := ⟨_, rfl⟩
                    have HTz := Lib.hid (show Twin ms' ns by rw [hms']; exact HT.out)
                    have HKz := Lib.hid (bk_below KA.out BZ.out KA.out.lt)
                    have HZz := Lib.hid (S6.out.below BZ.out)
                    have HOz := Lib.hid ((HO.out.below HBk.out).below BZ.out)
                    have HMz := Lib.hid (show Slr wz (.slice mo ns.length mc) (ints ms') by rw [hms']; exact (HMx.out.below HBk.out).below BZ.out)
                    have HWz := Lib.hid ((HW.out.below HBk.out).below BZ.out)
                    have HBz := Lib.hid (below_then (below_then HBx.out HBk.out) BZ.out)
                    rw [← hwz]
                    obtain ⟨z1, z2, _, _⟩ := HKz.out.two
                    clear hwz hms' KA S6 HSL HSx HMx HBx HO HW HBk HR BZ BB CM HFT HFA HFL hOx hmn c1 c2
                    go_wp2_with fail
                    clear z1 z2
                    as_aux_lemma =>
                      have kz := HKz.out
                      have sz := HZz.out
                      have HSz := Lib.hid (show SetVar wz w2.heap.size mst ns from ⟨_, _, _, kz, sz⟩)
                      obtain ⟨aoo, leno, capo, ko, so⟩ := HOz.out
                      have KZ : Hid (∀ y, Below wz.heap.size wz y → (y.cell? ⟨w2.heap.size, 0, none⟩ = some (.int .i64 mst) ∧ y.cell? ⟨w2.heap.size, 1, none⟩ = some (.slice ao6 len6 cap6)) ∧ (y.cell? ⟨O, 0, none⟩ = some (.int .i64 mst) ∧ y.cell? ⟨O, 1, none⟩ = some (.slice aoo leno capo)) ∧ SetV y (.agg #[.int .i64 mst, .slice ao6 len6 cap6]) mst ns ∧ SetV y (.agg #[.int .i64 mst, .slice aoo leno capo]) mst ns ∧ Below w.heap.size w y) := by
                        intro y hy
                        obtain ⟨d1, d2, _, _⟩ := (bk_below kz hy kz.lt).two
                        obtain ⟨d3, d4, _, _⟩ := (bk_below ko hy ko.lt).two
                        exact ⟨⟨d1, d2⟩, ⟨d3, d4⟩, sz.below hy, so.below hy, below_then HBz.out hy⟩
                      have hg' : Good mst ns := by obtain ⟨_, _, _, hg⟩ := sz; exact hg
                      have hg0 : Good mst ns := by obtain ⟨_, _, _, hg⟩ := so; exact hg
                      have HL1 := Lib.hid (show ns.length ≤ 1000000 by have := hg'.le; have := hg'.cap; omega)
                      have HL0 := Lib.hid (show ns.length ≤ 1000000 by have := hg0.le; have := hg0.cap; omega)
                      have HLM := Lib.hid (show ms'.length ≤ 1000000 by rw [HTz.out.len hg'.asc]; exact HL1.out)
                      have HSRT : Hid (∀ L : List Int, L.Perm ms' → L.Pairwise (· ≤ ·) → L = ns) := fun L h1 h2 => HTz.out.sorted hg'.asc h1 h2
                      obtain ⟨cb, hcb⟩ : ∃ cb, ns.contains n = cb := ⟨_, rfl⟩
                      have HCON := Lib.hid ((HTz.out.contains n).trans hcb)
                      have HCB := Lib.hid hcb
                      clear hcb
                      obtain ⟨⟨z1, z2⟩, _, sA, _, _⟩ := KZ.out wz (Below.refl _ _)
                      have C1 := Lib.hid (all_set _ mst ns wz sA)
                      clear kz sz ko so hg' hg0 sA
                      refine C1.out.mono ?_
                      rintro e y1 ⟨o1, p1, rfl, G1, b1⟩
                      have D1 := Lib.hid b1.out
                      have C2 := Lib.hid (sorted_ref _ ms' y1 (HMz.out.below b1.out) HLM.out)
                      clear C1 b1 z1 z2
                      go_wp2_with fail
                      refine C2.out.mono ?_
                      rintro e y2 ⟨v2, L, rfl, G2, hp, hpw, b2⟩
                      obtain rfl := (HSRT.out L hp hpw).symm
                      have D2 := Lib.hid (below_then D1.out b2)
                      have C3 := Lib.hid (same_self' _ _ y2 HL1.out (G1.out.below b2) G2)
                      clear C2 G1 G2 hp hpw b2 D1
                      go_wp2_with fail
                      refine C3.out.mono ?_
                      rintro e y3 ⟨rfl, q, rfl⟩
                      have D3 := Lib.hid (bdN D2.out q)
                      obtain ⟨wq, hwq⟩ : ∃ wq, wq = y2.drewN q := ⟨_, rfl⟩
                      rw [← hwq] at D3 ⊢
                      clear hwq C3 D2
                      obtain ⟨⟨z1, z2⟩, _, sA, _, _⟩ := KZ.out wq D3.out
                      have C4 := Lib.hid (len_set _ mst ns wq sA)
                      clear sA
                      go_wp2_with fail
                      refine C4.out.mono ?_
                      rintro e y4 ⟨rfl, b4⟩
                      have D4 := Lib.hid (below_then D3.out b4)
                      obtain ⟨⟨x1, x2⟩, _, sA, _, _⟩ := KZ.out y4 D4.out
                      have C5 := Lib.hid (full_set _ mst ns y4 sA)
                      clear sA C4 b4 D3 z1 z2
                      go_wp2_with fail
                      refine C5.out.mono ?_
                      rintro e y5 ⟨rfl, b5⟩
                      have D5 := Lib.hid (below_then D4.out b5)
                      obtain ⟨⟨z1, z2⟩, _, sA, _, _⟩ := KZ.out y5 D5.out
                      have c6 := has_set _ mst ns n y5 sA
                      rw [HCB.out] at c6
                      have C6 := Lib.hid c6
                      clear sA C5 b5 D4 x1 x2 c6
                      go_wp2_with fail
                      refine C6.out.mono ?_
                      rintro e y6 ⟨rfl, b6⟩
                      have D6 := Lib.hid (below_then D5.out b6)
                      have c7 := has_ref _ ms' n y6 (HMz.out.below D6.out) HLM.out
                      rw [HCON.out] at c7
                      have C7 := Lib.hid c7
                      clear C6 b6 D5 z1 z2 c7
                      go_wp2_with fail
                      refine C7.out.mono ?_
                      rintro e y7 ⟨rfl, rfl⟩
                      obtain ⟨_, ⟨z1, z2⟩, _, sO, _⟩ := KZ.out y7 D6.out
                      have C8 := Lib.hid (all_set _ mst ns y7 sO)
                      clear sO C7 HCON
                      go_wp2_with fail
                      refine C8.out.mono ?_
                      rintro e y8 ⟨o8, p8, rfl, G8, b8⟩
                      have D8 := Lib.hid (below_then D6.out b8.out)
                      have C9 := Lib.hid (same_self' _ _ y8 HL0.out G8.out (HWz.out.below D8.out))
                      clear C8 G8 b8 D6 z1 z2
                      go_wp2_with fail
                      refine C9.out.mono ?_
                      rintro e y9 ⟨rfl, q2, rfl⟩
                      have D9 := Lib.hid (bdN D8.out q2)
                      obtain ⟨wq2, hwq2⟩ : ∃ wq2, wq2 = y8.drewN q2 := ⟨_, rfl⟩
                      rw [← hwq2] at D9 ⊢
                      have R1 := Lib.hid (HMz.out.below D9.out)
                      have R2 := Lib.hid (HSz.out.below D9.out)
                      have R3 := Lib.hid (below_then HBz.out D9.out)
                      clear hwq2 C9 D8
                      go_wp2_with fail
                      go_roundw
                      case rel => exact ⟨i + 1, ms', ns, by omega, by go_num, HTz, R1, R2, R3⟩
                      case measure => simp [intOf]; omega
    · obtain ⟨mo, mc, rfl, m1, m2, m3, _⟩ := slr_ints HM.out
      have HBB := Lib.hid HB.out
      rcases (show ps.length ≤ i ∨ (i < ps.length ∧ 90 ≤ i) by omega) with h | ⟨h, h'⟩
      · clear hlt m3
        go_wp2_with fail
        go_ret
        exact ⟨rfl, HBB.out⟩
      · clear hlt m3
        have hd90 : decide ((i : Int) < 90) = false := decn_ (by omega)
        go_wp2_with fail
        go_ret
        exact ⟨rfl, HBB.out⟩
end Go.Proofs.Ytohpbjbbkpllaaa
