/-
  ViewEvicts: the core.
-/
import Derived.Test.YtdhafagihfdolaaViewSaneCore
import Derived.Test.YtdhafagihfdolaaViwEvMath
import Derived.Test.YtdhafagihfdolaaHeldBy
import Derived.Deep.RegionHeld3
import Derived.BigQuiet
set_option linter.unusedVariables false
set_option linter.unusedSimpArgs false
set_option maxRecDepth 100000
namespace Go.Proofs.Ytdhafagihfdolaa
open Go.RowKit Go.Lib Go.Sort Go.Shelf

/-- A view stored into a block made for it. -/
theorem viw_fresh {w1 : World} {X : Nat} {y : VA} {ta tp a0 b0 c0 d0 e0 : Value} {s a p : Int} (k : Bk w1 X 30 #[a0, b0, c0, d0, e0]) (hs : ViwS w1 y ta tp) (e1 : s = y.self) (e2 : a = y.A) (e3 : p = y.P) : ViwAt (put5 w1 X s a ta p tp) X y ta tp := by
  subst e1 e2 e3
  have hni := not_int k view_ne_int
  have ht := tch_put5 w1 X y.self y.A ta y.P tp
  exact ⟨bk_put5 k _ _ _ _ _, ⟨hs.act.held ht.size fun b hb hi => ht.block b hb (fun e => hni (e ▸ hi)), hs.pas.held ht.size fun b hb hi => ht.block b hb (fun e => hni (e ▸ hi)), hs.good⟩⟩
theorem sli_u8 {w : World} {S : Nat → Prop} {ao : Option Addr} {n cap : Nat} {l : List Int} (h : Sl w S (.slice ao n cap) (l.map (Value.int .u8))) (j : Nat) (hj : j < l.length) :
    ∃ b off, ao = some ⟨b, off, none⟩ ∧ w.cell? ⟨b, off + j, none⟩ = some (.int .u8 l[j]) := by
  obtain ⟨ao', cap', e, _, _, _, h4⟩ := h
  injection e with e1 _ _
  subst e1
  obtain ⟨b, off, e, _, _, hc⟩ := h4 (by simp; omega)
  have := hc j (by simpa using hj)
  simp only [List.getElem_map] at this
  exact ⟨b, off, e, this⟩
theorem joinV_stay (x : VA) (n : Int) : (joinV x n).self = x.self ∧ (joinV x n).A = x.A ∧ (joinV x n).P = x.P := by
  unfold joinV
  split <;> exact ⟨rfl, rfl, rfl⟩
theorem joinV_pas (x : VA) (n : Int) (h : x.pas = []) : (joinV x n).pas = [] := by
  unfold joinV
  split
  · simp [h, outL]
  · exact h
/-- A view and a draw, all made by the call. -/
structure EvS (W w : World) (V : Nat) (x : VA) (sa sp : Value) (D g : Nat) (ds : List Int) : Prop where
  v : ViwAt w V x sa sp
  dr : DrawIs w D g ds
  new : New W w
  base : W.heap.size ≤ V ∧ W.heap.size ≤ D ∧ W.heap.size ≤ g
  vg : 0 < ds.length → V ≠ g
theorem EvS.later {W w w' : World} {V : Nat} {x : VA} {sa sp : Value} {D g : Nat} {ds : List Int} (h : EvS W w V x sa sp D g ds) (k : New w w') : EvS W w' V x sa sp D g ds :=
  ⟨h.v.new k, h.dr.tch k (by have := h.dr.lt; omega) (fun h0 => by have := h.dr.glt h0; omega), h.new.then k, h.base, h.vg⟩
theorem EvS.dp {W w : World} {V : Nat} {x : VA} {sa sp : Value} {D g : Nat} {ds : List Int} (h : EvS W w V x sa sp D g ds) : DrawP w (.pointer (some ⟨D, 0, none⟩)) (some D) g ds := .inr ⟨D, rfl, rfl, h.dr⟩
/-- Another view stored into the variable. -/
theorem EvS.put {W w : World} {V : Nat} {x y : VA} {sa sp ta tp : Value} {D g : Nat} {ds : List Int} {s a p : Int} (h : EvS W w V x sa sp D g ds) (hs : ViwS w y ta tp) (e1 : s = y.self) (e2 : a = y.A) (e3 : p = y.P) : EvS W (put5 w V s a ta p tp) V y ta tp D g ds := by
  have ht := tch_put5 w V s a ta p tp
  refine ⟨viw_put h.v.bk hs e1 e2 e3, h.dr.tch ht (fun e => ?_) (fun h0 e => h.vg h0 e.symm), Tch.trans h.new ht (fun b hb e => by rw [e]; exact h.base.1), h.base, h.vg⟩
  obtain ⟨cs, hb⟩ := h.dr.bk
  have hv := h.v.bk
  unfold Bk at hb hv
  rw [e, hv] at hb
  injection hb with hb
  injection hb with _ h3
  exact absurd h3 (by decide)
/-- A step of the draw. -/
theorem EvS.vt {W w w' : World} {V : Nat} {x : VA} {sa sp : Value} {D g : Nat} {ds ds' : List Int} (h : EvS W w V x sa sp D g ds) (hd : DrawP w' (.pointer (some ⟨D, 0, none⟩)) (some D) g ds') (k : VT (some D) w w') (hl : 0 < ds'.length → 0 < ds.length) : EvS W w' V x sa sp D g ds' := by
  refine ⟨h.v.vt h.dp k, ?_, VT.new h.new k (fun d e => by injection e with e; rw [← e]; exact h.base.2.1), h.base, fun h0 => h.vg (hl h0)⟩
  rcases hd with ⟨e, _, _⟩ | ⟨d, e, _, hd⟩
  · cases e
  · injection e with e; injection e with e; injection e with e; subst e; exact hd
set_option maxHeartbeats 8000000 in
theorem viewEvicts_core (v0 : Value) (l0 : List Int) (s0 s1 : Int) (v2 : Value) (ls : List Int) (W : World) (h0 : Sl W (· < W.heap.size) v0 (l0.map (Value.int .u8))) (hl0 : ∀ x ∈ l0, 0 ≤ x ∧ x ≤ 255) (hs0 : 0 ≤ s0 ∧ s0 ≤ 255) (hs1 : 0 ≤ s1 ∧ s1 ≤ 255)
    (h2 : Sl W (· < W.heap.size) v2 (u32s ls)) (hu : U32s ls) (hb : ls.length ≤ 1048576) :
    Calls Try.prog 5 #[v0, .agg #[.int .u8 s0, .int .u8 s1], v2] W fun e W' => e = .returned (.bool true) ∧ Below W.heap.size W W' := by
  have H0 := Lib.hid h0
  have HL0 := Lib.hid hl0
  have H2 := Lib.hid h2
  have HU := Lib.hid hu
  have HBB := Lib.hid hb
  obtain ⟨ao2, cap2, rfl, _, _, _, _⟩ := H2.out
  obtain ⟨ao0, cap0, rfl, _, _, _, _⟩ := H0.out
  obtain ⟨sa, hsa, hsa2⟩ : ∃ k : Nat, k < 20 ∧ s0 % 20 = (k : Int) := ⟨(s0 % 20).toNat, by omega, by omega⟩
  obtain ⟨sp, hsp, hsp2⟩ : ∃ k : Nat, k < 20 ∧ s1 % 20 = (k : Int) := ⟨(s1 % 20).toNat, by omega, by omega⟩
  clear h0 hl0 h2 hu hb
  go_enter Try.func5, Try.ntmps5
  go_wp2_with fail
  refine (speaks09 _).mono ?_
  rintro e w1 ⟨rfl, hn1⟩
  have HB1 := Lib.hid (hn1.out.bk (Bk.made W 61 #[.int .u8 s0, .int .u8 s1]))
  have HN1 := Lib.hid (show New W w1 from ((New.refl W).alloc _).then hn1.out)
  have q0 := HB1.out.cell 0
  have q1 := HB1.out.cell 1
  simp at q0 q1
  clear hn1
  go_upto_region 3 with fail
  go_quiet (fail)
  have HN2 := Lib.hid (HN1.out.drewN nq)
  clear HN1 HB1 q0 q1
  generalize w1.drewN nq = w2 at HN2 ⊢
  rw [hsa2, hsp2]
  clear hsa2 hsp2 hs0 hs1
  obtain ⟨A, hA⟩ : ∃ A : Nat, A = 1 + sa := ⟨_, rfl⟩
  have hA2 : (1 : Int) + sa = (A : Int) := by omega
  rw [hA2]
  have HA := Lib.hid (show 1 ≤ A ∧ A ≤ 20 by omega)
  have HP := Lib.hid hsp
  clear hA2 hA hsa
  go_wp2_with fail
  refine (vnew_ok 300 A sp A sp w2 (by have := HA.out; omega) (by omega) (by have := HA.out; omega) (by omega)).mono ?_
  rintro e w3 ⟨ta, tp, rfl, hs3, hn3⟩
  obtain ⟨⟨bo, bl, bc, rfl⟩, po, pl, pc, rfl⟩ := hs3.slices
  obtain ⟨V, hV⟩ : ∃ V, V = w3.heap.size := ⟨_, rfl⟩
  obtain ⟨w4, hw4⟩ : ∃ w4, w4 = w3.alloc (.cells #[.int .i64 300, .int .i64 A, .slice bo bl bc, .int .i64 sp, .slice po pl pc] 30) := ⟨_, rfl⟩
  have HV4 := Lib.hid (show ViwAt w4 V ⟨300, A, sp, [], []⟩ (.slice bo bl bc) (.slice po pl pc) by rw [hw4, hV]; exact viw_made hs3)
  have HN4 := Lib.hid (show New W w4 by rw [hw4]; exact (HN2.out.then hn3).alloc _)
  have HVW := Lib.hid (show W.heap.size ≤ V by rw [hV]; exact (HN2.out.then hn3).size)
  have HNW := Lib.hid (new_is (.slice ao2 (u32s ls).length cap2) ls (· < W.heap.size) w4 (H2.out.keep HN4.out.size (fun b hb _ => HN4.out.block b hb (by omega))) HU.out (by have := HBB.out; omega))
  clear hs3 hn3 HN2
  unfold viwV
  simp only
  go_upto_region 5 with fail
  rw [← hw4, ← hV]
  clear hw4 hV
  go_wp2_with fail
  refine HNW.out.mono ?_
  rintro e w5 ⟨D, g, rfl, hD, hg, hdr, hb5⟩
  have HE := Lib.hid (show EvS W w5 V ⟨300, A, sp, [], []⟩ (.slice bo bl bc) (.slice po pl pc) D g ls from ⟨HV4.out.new (New.of hb5), hdr, HN4.out.then (New.of hb5), ⟨HVW.out, by have := HN4.out.size; omega, by have := HN4.out.size; omega⟩, fun _ => by have := HV4.out.lt; omega⟩)
  clear HNW hD hg hdr hb5 HV4 HN4
  go_upto_block 0 with fail
  go_cut [11] (fun _ wx => ∃ (x : VA) (ta tp : Value), Hid (x.Sane ∧ x.self = 300 ∧ x.A = A ∧ x.P = sp ∧ x.pas = []) ∧ Hid (EvS W wx V x ta tp D g ls))
  case first =>
    go_wp2_with fail
    go_loopw [11] (fun vi wr => ∃ (i : Nat) (x : VA) (ta tp : Value), vi = .int .i64 i ∧ Hid (i ≤ 40) ∧ Hid (x.Sane ∧ x.self = 300 ∧ x.A = A ∧ x.P = sp ∧ x.pas = []) ∧ Hid (EvS W wr V x ta tp D g ls)) (fun vi _ => 40 - (intOf vi).toNat)
    case atStart => exact ⟨0, _, _, _, rfl, Lib.hid (Nat.zero_le _), Lib.hid ⟨⟨by simp, by simp, by simp⟩, rfl, rfl, rfl, rfl⟩, HE⟩
    case round =>
      clear HE
      obtain ⟨i, x, ta, tp, rfl, HI, HX, HE⟩ := hrel
      by_cases hc : i < l0.length ∧ i < 40
      · have hc1 : (i : Int) < l0.length := by omega
        have hc2 : (i : Int) < 40 := by omega
        obtain ⟨⟨bo, bl, bc, rfl⟩, po, pl, pc, rfl⟩ := HE.out.v.s.slices
        obtain ⟨b, off, hao, cy⟩ := sli_u8 (H0.out.keep HE.out.new.size (fun b hb _ => HE.out.new.block b hb (by omega))) i hc.1
        subst hao
        obtain ⟨y, hy⟩ : ∃ y, y = l0[i] := ⟨_, rfl⟩
        have HYB := Lib.hid (HL0.out y (by rw [hy]; exact List.getElem_mem _))
        rw [← hy] at cy
        have hy0 := HYB.out.1
        have hy1 := HYB.out.2
        obtain ⟨n, hn, hn1, hn2⟩ : ∃ n : Int, n = 1 + y ∧ 1 ≤ n ∧ n ≤ 256 := ⟨1 + y, rfl, by omega, by omega⟩
        have HNB := Lib.hid (show 1 ≤ n ∧ n ≤ 256 from ⟨hn1, hn2⟩)
        have HJ := Lib.hid (fun (z : World) (k : New wr z) => join_ok x _ _ (1 + y) z (HE.out.v.s.new k))
        rw [← hn] at HJ
        have HSE := Lib.hid (joinV_stay x n)
        have HSN := Lib.hid (joinV_sane HX.out.1 n)
        have HPN := Lib.hid (joinV_pas x n HX.out.2.2.2.2)
        have HJB := Lib.hid (show joinB x n = false → A ≤ x.act.length from fun e => by
          unfold joinB at e
          have hne : n ≠ x.self := by rw [HX.out.2.1]; omega
          rw [decn_ hne] at e
          simp at e
          have h3 := of_decide_eq_false e
          have h4 : ¬ x.act.length < x.A := fun h => h3 (.inr ⟨⟨by omega, by omega⟩, h⟩)
          rw [HX.out.2.2.1] at h4
          omega)
        obtain ⟨q, hq⟩ : ∃ q, q = joinV x n := ⟨_, rfl⟩
        obtain ⟨ok, hok⟩ : ∃ ok, ok = joinB x n := ⟨_, rfl⟩
        rw [← hq, ← hok] at HJ
        rw [← hq] at HSE HSN HPN
        rw [← hok] at HJB
        have HV := Lib.hid HE.out.v
        have HX2 := Lib.hid HX.out.2
        obtain ⟨xs, xA, xP, xact, xpas⟩ := x
        obtain ⟨qs, qA, qP, qact, qpas⟩ := q
        obtain ⟨rfl, rfl, rfl⟩ := (show qs = xs ∧ qA = xA ∧ qP = xP from HSE.out)
        have KEEP : Hid (∀ z, New wr z → z.cell? ⟨V, 0, none⟩ = some (.int .i64 qs) ∧ z.cell? ⟨V, 1, none⟩ = some (.int .i64 qA) ∧ z.cell? ⟨V, 2, none⟩ = some (.slice bo bl bc) ∧ z.cell? ⟨V, 3, none⟩ = some (.int .i64 qP) ∧ z.cell? ⟨V, 4, none⟩ = some (.slice po pl pc) ∧ z.cell? ⟨b, off + i, none⟩ = some (.int .u8 y)) := fun z hz => by
          obtain ⟨⟨y0, y1, y2, y3, y4⟩, _⟩ := (HV.out.new hz).five
          exact ⟨y0, y1, y2, y3, y4, hz.cell cy⟩
        have NB1 := Lib.hid (show New wr wr.drew from (New.refl _).drew)
        have NB2 := Lib.hid (show New wr (wr.alloc (.cells #[.int .i64 0, .int .i64 0, .slice none 0 0, .int .i64 0, .slice none 0 0] 30)).drew from ((New.refl _).alloc _).drew)
        have HY2 := Lib.hid (show Bk (wr.alloc (.cells #[.int .i64 0, .int .i64 0, .slice none 0 0, .int .i64 0, .slice none 0 0] 30)).drew wr.heap.size 30 #[.int .i64 0, .int .i64 0, .slice none 0 0, .int .i64 0, .slice none 0 0] from ((New.refl _).drew).bk (Bk.made wr 30 #[.int .i64 0, .int .i64 0, .slice none 0 0, .int .i64 0, .slice none 0 0]))
        have BC := NB1
        have hwy : IntKind.i64.wrap y = y := by simp only [IntKind.wrap, IntKind.bits, IntKind.signed]; simp; omega
        have hwn : IntKind.i64.wrap (1 + IntKind.i64.wrap y) = n := by rw [hwy, hn]; simp only [IntKind.wrap, IntKind.bits, IntKind.signed]; simp; omega
        unfold viwV at HJ
        simp only at HJ
        clear hy hq hok hn hn1 hn2 cy HSE hwy
        go_upto_region 9 with fail
        go_cut [12, 13] (fun vy vb wx => ∃ Y ta tp, vy = .pointer (some ⟨Y, 0, none⟩) ∧ vb = .bool ok ∧ Hid (ViwAt wx Y ⟨qs, qA, qP, qact, qpas⟩ ta tp) ∧ Hid (New wr wx))
        case first =>
          go_region_held3 (fun z => z.cell? ⟨V, 0, none⟩ = some (.int .i64 qs) ∧ z.cell? ⟨V, 1, none⟩ = some (.int .i64 qA) ∧ z.cell? ⟨V, 2, none⟩ = some (.slice bo bl bc) ∧ z.cell? ⟨V, 3, none⟩ = some (.int .i64 qP) ∧ z.cell? ⟨V, 4, none⟩ = some (.slice po pl pc) ∧ z.cell? ⟨b, off + i, none⟩ = some (.int .u8 y))
            ((refine KEEP.out _ ?_; first | with_reducible exact BC.out | with_reducible exact BC.out.drew | with_reducible exact BC.out.alloc _ | with_reducible exact BC.out.drew.alloc _ | with_reducible exact NB2.out | with_reducible exact HP7.out | with_reducible exact HQ7.out))
            (first
         | (go_at_call 25; (try rw [hwn]); refine (HJ.out _ NB1.out).mono ?_; rintro e w7 ⟨sa7, sp7, rfl, hs7, hn7⟩; obtain ⟨⟨ao7, al7, ac7, rfl⟩, po7, pl7, pc7, rfl⟩ := hs7.slices; have HS7 := Lib.hid hs7; replace BC := Lib.hid (NB1.out.then hn7); have HQ7 := Lib.hid (show New wr (put5 (w7.alloc (.cells #[.int .i64 0, .int .i64 0, .slice none 0 0, .int .i64 0, .slice none 0 0] 30)) w7.heap.size qs qA (.slice ao7 al7 ac7) qP (.slice po7 pl7 pc7)) from Tch.trans (BC.out.alloc _) (tch_put5 _ _ _ _ _ _ _) (fun b hb e => by rw [e]; exact BC.out.below.size)); (try unfold put5 at HQ7); clear hs7 hn7; (try simp only [viwV]))
         | (go_at_call 25; (try rw [hwn]); refine (HJ.out _ NB2.out).mono ?_; rintro e w7 ⟨sa7, sp7, rfl, hs7, hn7⟩; obtain ⟨⟨ao7, al7, ac7, rfl⟩, po7, pl7, pc7, rfl⟩ := hs7.slices; have HS7 := Lib.hid hs7; have HY7 := Lib.hid (hn7.bk HY2.out); obtain ⟨⟨y0, y1, y2, y3, y4⟩, y5, y6, y7, y8, y9⟩ := Bk.five HY7.out; replace BC := Lib.hid (NB2.out.then hn7); have HP7 := Lib.hid (show New wr (put5 w7 wr.heap.size qs qA (.slice ao7 al7 ac7) qP (.slice po7 pl7 pc7)) from Tch.trans BC.out (tch_put5 _ _ _ _ _ _ _) (fun b hb e => by rw [e]; exact Nat.le_refl _)); (try unfold put5 at HP7); clear hs7 hn7; (try simp only [viwV]))
            )
          all_goals
            go_wp2_with fail
            go_meet
            first
              | exact ⟨_, _, _, rfl, rfl, Lib.hid (viw_made HS7.out), Lib.hid (BC.out.alloc _)⟩
              | exact ⟨_, _, _, rfl, rfl, Lib.hid (viw_fresh HY7.out HS7.out rfl rfl rfl), Lib.hid (Tch.trans BC.out (tch_put5 _ _ _ _ _ _ _) (fun b hb e => by rw [e]; exact Nat.le_refl _))⟩
        case rest =>
          obtain ⟨Y, ta, tp, rfl, rfl, HVY, HNY⟩ := hcut
          obtain ⟨wk, hwk⟩ : ∃ x, x = wc := ⟨_, rfl⟩
          subst hwk
          obtain ⟨⟨t9o, tl, tc, rfl⟩, uo, ul, uc, rfl⟩ := HVY.out.s.slices
          have HEK := Lib.hid (HE.out.later HNY.out)
          have HLN := Lib.hid (fun (z : World) (k : New wk z) => len_lay qA (.slice bo bl bc) xact z (HEK.out.v.s.new k).seta)
          clear KEEP NB1 NB2 HY2 BC HJ HV HE HNY
          obtain ⟨⟨y0, y1, y2, y3, y4⟩, y5, y6, y7, y8, y9⟩ := HVY.out.five
          obtain ⟨⟨x0, x1, x2, x3, x4⟩, x5, x6, x7, x8, x9⟩ := HEK.out.v.five
          simp only at y0 y1 y2 y3 y4 x0 x1 x2 x3 x4
          cases ok with
          | false =>
            have hA := HJB.out rfl
            have hlt : ¬ (xact.length : Int) < A := by simp only at hA; omega
            go_wp2_with fail
            refine (HLN.out _ (by first | exact New.refl _ | exact (New.refl _).drewN _)).mono ?_
            rintro e wl ⟨rfl, hnl⟩
            clear x0 x1 x2 x3 x4 x5 x6 x7 x8 x9 y0 y1 y2 y3 y4 y5 y6 y7 y8 y9
            have hnl1 : New wk wl := hnl.out
            obtain ⟨⟨y0, y1, y2, y3, y4⟩, y5, y6, y7, y8, y9⟩ := (HVY.out.new hnl1).five
            obtain ⟨⟨x0, x1, x2, x3, x4⟩, x5, x6, x7, x8, x9⟩ := (HEK.out.later hnl1).v.five
            simp only at y0 y1 y2 y3 y4 x0 x1 x2 x3 x4
            obtain ⟨w6, hw6⟩ : ∃ w6, w6 = put5 wl V qs qA (.slice t9o tl tc) qP (.slice uo ul uc) := ⟨_, rfl⟩
            have HE6 := Lib.hid (show EvS W w6 V ⟨qs, qA, qP, qact, qpas⟩ (.slice t9o tl tc) (.slice uo ul uc) D g ls by rw [hw6]; exact (HEK.out.later hnl1).put (HVY.out.s.new hnl1) rfl rfl rfl)
            unfold put5 at hw6
            go_wp2_with fail
            rw [← hw6]
            go_roundw
            case rel => exact ⟨i + 1, _, _, _, rfl, Lib.hid (by omega), Lib.hid ⟨HSN.out, HX2.out.1, HX2.out.2.1, HX2.out.2.2.1, HPN.out⟩, HE6⟩
            case measure => simp [intOf]; omega
          | true =>
            obtain ⟨w6, hw6⟩ : ∃ w6, w6 = put5 wk V qs qA (.slice t9o tl tc) qP (.slice uo ul uc) := ⟨_, rfl⟩
            have HE6 := Lib.hid (show EvS W w6 V ⟨qs, qA, qP, qact, qpas⟩ (.slice t9o tl tc) (.slice uo ul uc) D g ls by rw [hw6]; exact HEK.out.put HVY.out.s rfl rfl rfl)
            unfold put5 at hw6
            go_wp2_with fail
            rw [← hw6]
            go_roundw
            case rel => exact ⟨i + 1, _, _, _, rfl, Lib.hid (by omega), Lib.hid ⟨HSN.out, HX2.out.1, HX2.out.2.1, HX2.out.2.2.1, HPN.out⟩, HE6⟩
            case measure => simp [intOf]; omega
      · go_wp2_with fail
        all_goals
          go_meet
          exact ⟨_, _, _, HX, HE⟩
  case rest =>
    obtain ⟨x, ta, tp, HX, HEX⟩ := hcut
    obtain ⟨wk, hwk⟩ : ∃ x, x = wc := ⟨_, rfl⟩
    subst hwk
    clear HE H0 HL0
    obtain ⟨c, hc⟩ : ∃ c, c = x.act.length := ⟨_, rfl⟩
    have HC := Lib.hid (show c ≤ 20 by rw [hc]; have := HEX.out.v.s.good.act.le; have h2 := HX.out.2.2.1; have h3 := HA.out; omega)
    obtain ⟨⟨ao, al, ac, rfl⟩, po, pl, pc, rfl⟩ := HEX.out.v.s.slices
    have HXA := HX.out.2.2.1
    have HLN := Lib.hid (len_lay x.A (.slice ao al ac) x.act wk HEX.out.v.s.seta)
    rw [← hc, HXA] at HLN
    have HX1 := Lib.hid (show x.Sane ∧ x.self = 300 ∧ x.A = A ∧ x.P = sp ∧ x.act.length = c - 0 ∧ x.pas.length = min 0 sp from ⟨HX.out.1, HX.out.2.1, HX.out.2.2.1, HX.out.2.2.2.1, by omega, by rw [HX.out.2.2.2.2]; simp⟩)
    obtain ⟨⟨x0, x1, x2, x3, x4⟩, x5, x6, x7, x8, x9⟩ := HEX.out.v.five
    rw [HXA] at x1
    clear HX HXA hc
    go_wp2_with fail
    refine HLN.out.mono ?_
    rintro e wl ⟨rfl, hnl⟩
    have HEL := Lib.hid (HEX.out.later hnl.out)
    clear x0 x1 x2 x3 x4 x5 x6 x7 x8 x9 hnl HLN HEX
    go_upto_block 2 with fail
    go_cut [15] (fun vs wx => vs = .int .i64 c ∧ ∃ (y : VA) (ta tp : Value) (ds : List Int), Hid (y.Sane ∧ y.self = 300 ∧ y.A = A ∧ y.P = sp ∧ y.act = [] ∧ y.pas.length = min c sp) ∧ Hid (EvS W wx V y ta tp D g ds))
    case first =>
      go_wp2_with fail
      go_loopw [15, 16] (fun vs vi wr => ∃ (i : Nat) (y : VA) (ta tp : Value) (ds : List Int), vs = .int .i64 i ∧ vi = .int .i64 i ∧ Hid (i ≤ c) ∧ Hid (y.Sane ∧ y.self = 300 ∧ y.A = A ∧ y.P = sp ∧ y.act.length = c - i ∧ y.pas.length = min i sp) ∧ Hid (EvS W wr V y ta tp D g ds)) (fun _ vi _ => c - (intOf vi).toNat)
      case atStart => exact ⟨0, _, _, _, _, rfl, rfl, Lib.hid (Nat.zero_le _), HX1, HEL⟩
      case round =>
        clear HEL HX1
        obtain ⟨i, y, ta, tp, ds, rfl, rfl, HI, HY, HE⟩ := hrel
        have hib := HI.out
        have hcb := HC.out
        by_cases hc : i < c
        · have hc1 : (i : Int) < c := by omega
          obtain ⟨⟨ao, al, ac, rfl⟩, po, pl, pc, rfl⟩ := HE.out.v.s.slices
          have HV := Lib.hid HE.out.v
          have hne : y.act ≠ [] := fun e => by have := HY.out.2.2.2.2.1; rw [e] at this; simp at this; omega
          have HEV := Lib.hid (evictV_evi HE.out.v.s.good HY.out.1 hne ds)
          have HOK := Lib.hid (show (!decide (y.act = [])) = true by rw [decn_ hne]; rfl)
          have HGL := Lib.hid (fun e => evictV_gl (x := y) (ds := ds) e)
          obtain ⟨⟨z, ds2⟩, hz⟩ : ∃ q, q = evictV y ds := ⟨_, rfl⟩
          obtain ⟨n, hn⟩ : ∃ n, n = evictN y ds := ⟨_, rfl⟩
          obtain ⟨wa, hwa⟩ : ∃ wa, wa = wr.alloc (.cells (viwC y (.slice ao al ac) (.slice po pl pc)) 30) := ⟨_, rfl⟩
          have HNA := Lib.hid (show New wr wa by rw [hwa]; exact (New.refl _).alloc _)
          have HVU := Lib.hid (show ViwAt wa wr.heap.size y (.slice ao al ac) (.slice po pl pc) by rw [hwa]; exact viw_made HE.out.v.s)
          have HEA := Lib.hid (HE.out.later HNA.out)
          have HCA := Lib.hid (evict_ok y _ _ _ _ _ ds wa (HE.out.v.s.new HNA.out) HEA.out.dp)
          rw [HOK.out, ← hn, ← hz] at HCA
          rw [← hn, ← hz] at HEV
          rw [← hz] at HGL
          simp only at HCA HEV HGL
          have HAI := Lib.hid HY.out.2
          obtain ⟨ys, yA, yP, yact, ypas⟩ := y
          obtain ⟨zs, zA, zP, zact, zpas⟩ := z
          obtain ⟨rfl, rfl, rfl⟩ := (show zs = ys ∧ zA = yA ∧ zP = yP from ⟨HEV.out.self, HEV.out.A, HEV.out.P⟩)
          obtain ⟨⟨x0, x1, x2, x3, x4⟩, x5, x6, x7, x8, x9⟩ := HV.out.five
          unfold viwC at hwa
          unfold viwV at HCA
          simp only at x0 x1 x2 x3 x4 HCA hwa
          clear hz hn hne HE HOK
          go_upto_region 19 with fail
          rw [← hwa]
          have hlt : V < wr.heap.size := HV.out.lt
          obtain ⟨U, hU⟩ : ∃ U, U = wr.heap.size := ⟨_, rfl⟩
          rw [← hU] at HVU hlt ⊢
          clear hwa hU x0 x1 x2 x3 x4 x5 x6 x7 x8 x9
          obtain ⟨⟨x0, x1, x2, x3, x4⟩, x5, x6, x7, x8, x9⟩ := HEA.out.v.five
          simp only at x0 x1 x2 x3 x4
          go_wp2_with fail
          refine HCA.out.mono ?_
          rintro e w2 ⟨sa2, sp2, rfl, hs2, hd2, hv2⟩
          have HEB := Lib.hid (HEA.out.vt hd2 hv2 HGL.out)
          have HVU2 := Lib.hid (HVU.out.vt HEA.out.dp hv2)
          obtain ⟨⟨qo, ql, qc, rfl⟩, ro, rl, rc, rfl⟩ := hs2.slices
          obtain ⟨wb, hwb⟩ : ∃ wb, wb = w2.alloc (.cells (viwC ⟨zs, zA, zP, zact, zpas⟩ (.slice qo ql qc) (.slice ro rl rc)) 30) := ⟨_, rfl⟩
          have HNB := Lib.hid (show New w2 wb by rw [hwb]; exact (New.refl _).alloc _)
          have HVY := Lib.hid (show ViwAt wb w2.heap.size ⟨zs, zA, zP, zact, zpas⟩ (.slice qo ql qc) (.slice ro rl rc) by rw [hwb]; exact viw_made hs2)
          have HEC := Lib.hid (HEB.out.later HNB.out)
          have HVU3 := Lib.hid (HVU2.out.new HNB.out)
          clear x0 x1 x2 x3 x4 x5 x6 x7 x8 x9 hs2 hd2 hv2 HCA HVU HEA HEB HVU2 HV HNA HGL
          unfold viwV
          unfold viwC at hwb
          simp only at hwb ⊢
          go_upto_region 20 with fail
          rw [← hwb]
          obtain ⟨Y, hY⟩ : ∃ Y, Y = w2.heap.size := ⟨_, rfl⟩
          rw [← hY] at HVY ⊢
          have HVYlt := Lib.hid (show Y < wb.heap.size from HVY.out.lt)
          clear hwb hY HNB
          have H1 := Lib.hid (fun (q : World) (k : New wb q) => has_lay zA (.slice ao al ac) yact n q (HVU3.out.s.new k).seta)
          have H2 := Lib.hid (fun (q : World) (k : New wb q) => has_lay zA (.slice qo ql qc) zact n q (HVY.out.s.new k).seta)
          have H3 := Lib.hid (fun (q : World) (k : New wb q) => has_lay zP (.slice ro rl rc) zpas n q (HVY.out.s.new k).setp)
          have H4 := Lib.hid (fun (q : World) (k : New wb q) => sane_ok ⟨zs, zA, zP, zact, zpas⟩ (.slice qo ql qc) (.slice ro rl rc) q (HVY.out.s.new k))
          have H5 := Lib.hid (fun (q : World) (k : New wb q) => len_lay zA (.slice qo ql qc) zact q (HVY.out.s.new k).seta)
          have H6 := Lib.hid (fun (q : World) (k : New wb q) => len_lay zA (.slice ao al ac) yact q (HVU3.out.s.new k).seta)
          have hw1 := HEV.out.was
          have hw2 := HEV.out.gone
          have hw3 := HEV.out.held
          have hw4 := HEV.out.sane
          have hw5 := HEV.out.fewer
          have hw6 := HEV.out.more
          simp only at hw1 hw2 hw3 hw4 hw5 hw6
          rw [dec_ hw1] at H1
          rw [decn_ hw2] at H2
          rw [dec_ hw4] at H4
          rw [← hw5] at H6
          have HST := Lib.hid (show VA.Sane ⟨zs, zA, zP, zact, zpas⟩ ∧ zs = 300 ∧ zA = A ∧ zP = sp ∧ zact.length = c - (i + 1) ∧ zpas.length = min (i + 1) sp from ⟨hw4, HAI.out.1, HAI.out.2.1, HAI.out.2.2.1, by have := HAI.out.2.2.2.1; (try simp only at this); omega, by
            have h1 := HAI.out.2.2.2.2
            have h2 := HAI.out.2.2.1
            try simp only at h1 h2
            rw [hw6, h1, h2]
            omega⟩)
          have hP2 : zP = sp := HAI.out.2.2.1
          unfold viwV at H4
          try simp only at H4
          obtain ⟨k, hk⟩ : ∃ k, k = zact.length := ⟨_, rfl⟩
          rw [← hk] at H5 H6
          have hk1 : k ≤ 64 := by rw [hk]; have h1 := HVY.out.s.good.act.le; have h2 := HVY.out.s.good.act.cap; simp only at h1 h2; omega
          have hwl : IntKind.i64.wrap (k : Int) = (k : Int) := by
            simp only [IntKind.wrap, IntKind.bits, IntKind.signed]
            simp
            omega
          have hwl2 : ((k + 1 : Nat) : Int) - 1 = (k : Int) := by omega
          have KEEP : Hid (∀ q, New wb q → (q.cell? ⟨U, 1, none⟩ = some (.int .i64 zA) ∧ q.cell? ⟨U, 2, none⟩ = some (.slice ao al ac)) ∧ q.cell? ⟨Y, 0, none⟩ = some (.int .i64 zs) ∧ q.cell? ⟨Y, 1, none⟩ = some (.int .i64 zA) ∧ q.cell? ⟨Y, 2, none⟩ = some (.slice qo ql qc) ∧ q.cell? ⟨Y, 3, none⟩ = some (.int .i64 zP) ∧ q.cell? ⟨Y, 4, none⟩ = some (.slice ro rl rc)) := fun q hq => by
            obtain ⟨⟨y0, y1, y2, y3, y4⟩, _⟩ := (HVY.out.new hq).five
            obtain ⟨⟨v0, v1, v2, v3, v4⟩, _⟩ := (HVU3.out.new hq).five
            exact ⟨⟨v1, v2⟩, y0, y1, y2, y3, y4⟩
          have BC := Lib.hid (show New wb wb.drew from (New.refl _).drew)
          obtain ⟨pb, hpb⟩ : ∃ b, b = decide (n ∈ zpas) := ⟨_, rfl⟩
          rw [← hpb] at H3
          have HPB := Lib.hid (show pb = decide (0 < sp) by rw [hpb, decide_eq_decide, hw3, hP2])
          clear hw1 hw2 hw3 hw4 hw5 hw6 hk hpb HEV HAI hP2
          go_upto_region 20 with fail
          by_cases hs0 : 0 < sp
          case pos =>
            have hs1 : (0 : Int) < sp := by omega
            obtain rfl : pb = true := by rw [HPB.out]; exact dec_ hs0
            clear HPB
            refine wp_region_noPanic ?_
            refine wp_region_held_drew (S := (fun q => (q.cell? ⟨U, 1, none⟩ = some (.int .i64 zA) ∧ q.cell? ⟨U, 2, none⟩ = some (.slice ao al ac)) ∧ q.cell? ⟨Y, 0, none⟩ = some (.int .i64 zs) ∧ q.cell? ⟨Y, 1, none⟩ = some (.int .i64 zA) ∧ q.cell? ⟨Y, 2, none⟩ = some (.slice qo ql qc) ∧ q.cell? ⟨Y, 3, none⟩ = some (.int .i64 zP) ∧ q.cell? ⟨Y, 4, none⟩ = some (.slice ro rl rc))) (by kernel_rfl) (KEEP.out _ BC.out) (fun hHeld => ?_)
            refine takeH (i := 0) (v := .bool true) (some 87) rfl rfl (by kernel_rfl) (by kernel_rfl) (by kernel_rfl) (fun _ _ _ h => h) (Or.inl ⟨by rfl, ?_⟩) hHeld ?_
            · (intro x hSw; (try dsimp only at hSw); go_simp)
            try simp only [Act.put, List.setIfInBounds_toArray, List.set_cons_zero, List.set_cons_succ]
            refine takeH (i := 1) (v := .bool false) (some 88) rfl rfl (by kernel_rfl) (by kernel_rfl) (by kernel_rfl) (fun _ _ _ h => h) (Or.inl ⟨by rfl, ?_⟩) hHeld ?_
            · (intro x hSw; (try dsimp only at hSw); go_simp)
            try simp only [Act.put, List.setIfInBounds_toArray, List.set_cons_zero, List.set_cons_succ]
            refine takeH (i := 2) (v := .bool false) (some 89) rfl rfl (by kernel_rfl) (by kernel_rfl) (by kernel_rfl) (fun _ _ _ h => h) (Or.inl ⟨by rfl, ?_⟩) hHeld ?_
            · (intro x hSw; (try dsimp only at hSw); go_simp)
            try simp only [Act.put, List.setIfInBounds_toArray, List.set_cons_zero, List.set_cons_succ]
            refine takeH (i := 3) (v := .pointer (some ⟨U, 1, none⟩)) (some 90) rfl rfl (by kernel_rfl) (by kernel_rfl) (by kernel_rfl) (fun _ _ _ h => h) (Or.inl ⟨by rfl, ?_⟩) hHeld ?_
            · (intro x hSw; (try dsimp only at hSw); go_simp)
            try simp only [Act.put, List.setIfInBounds_toArray, List.set_cons_zero, List.set_cons_succ]
            refine takeH (i := 4) (v := .agg #[.int .i64 zA, .slice ao al ac]) (some 91) rfl rfl (by kernel_rfl) (by kernel_rfl) (by kernel_rfl) (fun _ _ _ h => h) (Or.inl ⟨by rfl, ?_⟩) hHeld ?_
            · (intro x hSw; (try dsimp only at hSw); go_simp)
            try simp only [Act.put, List.setIfInBounds_toArray, List.set_cons_zero, List.set_cons_succ]
            refine takeH (i := 5) (v := .int .i64 n) (some 92) rfl rfl (by kernel_rfl) (by kernel_rfl) (by kernel_rfl) (fun _ _ _ h => h) (Or.inl ⟨by rfl, ?_⟩) hHeld ?_
            · (intro x hSw; (try dsimp only at hSw); go_simp)
            try simp only [Act.put, List.setIfInBounds_toArray, List.set_cons_zero, List.set_cons_succ]
            refine wpAnyH_ready (rs := [6]) (by kernel_rfl) (by simp) (AllReadyH.cons rfl (fun K hK => ?_) AllReadyH.nil)
            go_simp
            refine (H1.out _ BC.out).mono ?_
            rintro e w6 ⟨rfl, hn6⟩
            replace BC := Lib.hid (New.then BC.out hn6.out)
            clear hn6
            go_wp2_with fail
            refine hK.out _ _ (KEEP.out _ BC.out) (fun hHeld => ?_)
            clear hK K
            try simp only [Act.put, List.setIfInBounds_toArray, List.set_cons_zero, List.set_cons_succ]
            refine takeH (i := 7) (v := .bool false) (some 94) rfl rfl (by kernel_rfl) (by kernel_rfl) (by kernel_rfl) (fun _ _ _ h => h) (Or.inl ⟨by rfl, ?_⟩) hHeld ?_
            · (intro x hSw; (try dsimp only at hSw); go_simp)
            try simp only [Act.put, List.setIfInBounds_toArray, List.set_cons_zero, List.set_cons_succ]
            refine takeH (i := 8) (v := .bool false) (some 95) rfl rfl (by kernel_rfl) (by kernel_rfl) (by kernel_rfl) (fun _ _ _ h => h) (Or.inl ⟨by rfl, ?_⟩) hHeld ?_
            · (intro x hSw; (try dsimp only at hSw); go_simp)
            try simp only [Act.put, List.setIfInBounds_toArray, List.set_cons_zero, List.set_cons_succ]
            refine takeH (i := 9) (v := .bool false) (some 96) rfl rfl (by kernel_rfl) (by kernel_rfl) (by kernel_rfl) (fun _ _ _ h => h) (Or.inl ⟨by rfl, ?_⟩) hHeld ?_
            · (intro x hSw; (try dsimp only at hSw); go_simp)
            try simp only [Act.put, List.setIfInBounds_toArray, List.set_cons_zero, List.set_cons_succ]
            refine takeH (i := 10) (v := .pointer (some ⟨Y, 1, none⟩)) (some 97) rfl rfl (by kernel_rfl) (by kernel_rfl) (by kernel_rfl) (fun _ _ _ h => h) (Or.inl ⟨by rfl, ?_⟩) hHeld ?_
            · (intro x hSw; (try dsimp only at hSw); go_simp)
            try simp only [Act.put, List.setIfInBounds_toArray, List.set_cons_zero, List.set_cons_succ]
            refine takeH (i := 11) (v := .agg #[.int .i64 zA, .slice qo ql qc]) (some 98) rfl rfl (by kernel_rfl) (by kernel_rfl) (by kernel_rfl) (fun _ _ _ h => h) (Or.inl ⟨by rfl, ?_⟩) hHeld ?_
            · (intro x hSw; (try dsimp only at hSw); go_simp)
            try simp only [Act.put, List.setIfInBounds_toArray, List.set_cons_zero, List.set_cons_succ]
            refine takeH (i := 12) (v := .int .i64 n) (some 99) rfl rfl (by kernel_rfl) (by kernel_rfl) (by kernel_rfl) (fun _ _ _ h => h) (Or.inl ⟨by rfl, ?_⟩) hHeld ?_
            · (intro x hSw; (try dsimp only at hSw); go_simp)
            try simp only [Act.put, List.setIfInBounds_toArray, List.set_cons_zero, List.set_cons_succ]
            refine wpAnyH_ready (rs := [13]) (by kernel_rfl) (by simp) (AllReadyH.cons rfl (fun K hK => ?_) AllReadyH.nil)
            go_simp
            refine (H2.out _ BC.out).mono ?_
            rintro e w6 ⟨rfl, hn6⟩
            replace BC := Lib.hid (New.then BC.out hn6.out)
            clear hn6
            go_wp2_with fail
            refine hK.out _ _ (KEEP.out _ BC.out) (fun hHeld => ?_)
            clear hK K
            try simp only [Act.put, List.setIfInBounds_toArray, List.set_cons_zero, List.set_cons_succ]
            refine takeH (i := 14) (v := .bool false) (some 101) rfl rfl (by kernel_rfl) (by kernel_rfl) (by kernel_rfl) (fun _ _ _ h => h) (Or.inl ⟨by rfl, ?_⟩) hHeld ?_
            · (intro x hSw; (try dsimp only at hSw); go_simp)
            try simp only [Act.put, List.setIfInBounds_toArray, List.set_cons_zero, List.set_cons_succ]
            refine takeH (i := 15) (v := .bool false) (some 102) rfl rfl (by kernel_rfl) (by kernel_rfl) (by kernel_rfl) (fun _ _ _ h => h) (Or.inl ⟨by rfl, ?_⟩) hHeld ?_
            · (intro x hSw; (try dsimp only at hSw); go_simp)
            try simp only [Act.put, List.setIfInBounds_toArray, List.set_cons_zero, List.set_cons_succ]
            refine takeH (i := 16) (v := .pointer (some ⟨Y, 3, none⟩)) (some 103) rfl rfl (by kernel_rfl) (by kernel_rfl) (by kernel_rfl) (fun _ _ _ h => h) (Or.inl ⟨by rfl, ?_⟩) hHeld ?_
            · (intro x hSw; (try dsimp only at hSw); go_simp)
            try simp only [Act.put, List.setIfInBounds_toArray, List.set_cons_zero, List.set_cons_succ]
            refine takeH (i := 17) (v := .agg #[.int .i64 zP, .slice ro rl rc]) (some 104) rfl rfl (by kernel_rfl) (by kernel_rfl) (by kernel_rfl) (fun _ _ _ h => h) (Or.inl ⟨by rfl, ?_⟩) hHeld ?_
            · (intro x hSw; (try dsimp only at hSw); go_simp)
            try simp only [Act.put, List.setIfInBounds_toArray, List.set_cons_zero, List.set_cons_succ]
            refine takeH (i := 18) (v := .int .i64 n) (some 105) rfl rfl (by kernel_rfl) (by kernel_rfl) (by kernel_rfl) (fun _ _ _ h => h) (Or.inl ⟨by rfl, ?_⟩) hHeld ?_
            · (intro x hSw; (try dsimp only at hSw); go_simp)
            try simp only [Act.put, List.setIfInBounds_toArray, List.set_cons_zero, List.set_cons_succ]
            refine takeH (i := 20) (v := .int .i64 sp) (some 107) rfl rfl (by kernel_rfl) (by kernel_rfl) (by kernel_rfl) (fun _ _ _ h => h) (Or.inl ⟨by rfl, ?_⟩) hHeld ?_
            · (intro x hSw; (try dsimp only at hSw); go_simp)
            try simp only [Act.put, List.setIfInBounds_toArray, List.set_cons_zero, List.set_cons_succ]
            refine takeH (i := 21) (v := .bool true) (some 108) rfl rfl (by kernel_rfl) (by kernel_rfl) (by kernel_rfl) (fun _ _ _ h => h) (Or.inl ⟨by rfl, ?_⟩) hHeld ?_
            · (intro x hSw; (try dsimp only at hSw); go_simp)
            try simp only [Act.put, List.setIfInBounds_toArray, List.set_cons_zero, List.set_cons_succ]
            refine wpAnyH_ready (rs := [19]) (by kernel_rfl) (by simp) (AllReadyH.cons rfl (fun K hK => ?_) AllReadyH.nil)
            go_simp
            refine (H3.out _ BC.out).mono ?_
            rintro e w6 ⟨rfl, hn6⟩
            replace BC := Lib.hid (New.then BC.out hn6.out)
            clear hn6
            go_wp2_with fail
            refine hK.out _ _ (KEEP.out _ BC.out) (fun hHeld => ?_)
            clear hK K
            try simp only [Act.put, List.setIfInBounds_toArray, List.set_cons_zero, List.set_cons_succ]
            refine takeH (i := 22) (v := .bool false) (some 109) rfl rfl (by kernel_rfl) (by kernel_rfl) (by kernel_rfl) (fun _ _ _ h => h) (Or.inl ⟨by rfl, ?_⟩) hHeld ?_
            · (intro x hSw; (try dsimp only at hSw); go_simp)
            try simp only [Act.put, List.setIfInBounds_toArray, List.set_cons_zero, List.set_cons_succ]
            refine takeH (i := 23) (v := .bool false) (some 110) rfl rfl (by kernel_rfl) (by kernel_rfl) (by kernel_rfl) (fun _ _ _ h => h) (Or.inl ⟨by rfl, ?_⟩) hHeld ?_
            · (intro x hSw; (try dsimp only at hSw); go_simp)
            try simp only [Act.put, List.setIfInBounds_toArray, List.set_cons_zero, List.set_cons_succ]
            refine takeH (i := 24) (v := .bool false) (some 111) rfl rfl (by kernel_rfl) (by kernel_rfl) (by kernel_rfl) (fun _ _ _ h => h) (Or.inl ⟨by rfl, ?_⟩) hHeld ?_
            · (intro x hSw; (try dsimp only at hSw); go_simp)
            try simp only [Act.put, List.setIfInBounds_toArray, List.set_cons_zero, List.set_cons_succ]
            refine takeH (i := 25) (v := .agg #[.int .i64 zs, .int .i64 zA, .slice qo ql qc, .int .i64 zP, .slice ro rl rc]) (some 112) rfl rfl (by kernel_rfl) (by kernel_rfl) (by kernel_rfl) (fun _ _ _ h => h) (Or.inl ⟨by rfl, ?_⟩) hHeld ?_
            · (intro x hSw; (try dsimp only at hSw); go_simp)
            try simp only [Act.put, List.setIfInBounds_toArray, List.set_cons_zero, List.set_cons_succ]
            refine wpAnyH_ready (rs := [26]) (by kernel_rfl) (by simp) (AllReadyH.cons rfl (fun K hK => ?_) AllReadyH.nil)
            go_simp
            refine (H4.out _ BC.out).mono ?_
            rintro e w6 ⟨rfl, hn6⟩
            replace BC := Lib.hid (New.then BC.out hn6.out)
            clear hn6
            go_wp2_with fail
            refine hK.out _ _ (KEEP.out _ BC.out) (fun hHeld => ?_)
            clear hK K
            try simp only [Act.put, List.setIfInBounds_toArray, List.set_cons_zero, List.set_cons_succ]
            refine takeH (i := 27) (v := .bool false) (some 114) rfl rfl (by kernel_rfl) (by kernel_rfl) (by kernel_rfl) (fun _ _ _ h => h) (Or.inl ⟨by rfl, ?_⟩) hHeld ?_
            · (intro x hSw; (try dsimp only at hSw); go_simp)
            try simp only [Act.put, List.setIfInBounds_toArray, List.set_cons_zero, List.set_cons_succ]
            refine takeH (i := 28) (v := .bool false) (some 115) rfl rfl (by kernel_rfl) (by kernel_rfl) (by kernel_rfl) (fun _ _ _ h => h) (Or.inl ⟨by rfl, ?_⟩) hHeld ?_
            · (intro x hSw; (try dsimp only at hSw); go_simp)
            try simp only [Act.put, List.setIfInBounds_toArray, List.set_cons_zero, List.set_cons_succ]
            refine takeH (i := 29) (v := .bool false) (some 116) rfl rfl (by kernel_rfl) (by kernel_rfl) (by kernel_rfl) (fun _ _ _ h => h) (Or.inl ⟨by rfl, ?_⟩) hHeld ?_
            · (intro x hSw; (try dsimp only at hSw); go_simp)
            try simp only [Act.put, List.setIfInBounds_toArray, List.set_cons_zero, List.set_cons_succ]
            refine takeH (i := 30) (v := .pointer (some ⟨Y, 1, none⟩)) (some 117) rfl rfl (by kernel_rfl) (by kernel_rfl) (by kernel_rfl) (fun _ _ _ h => h) (Or.inl ⟨by rfl, ?_⟩) hHeld ?_
            · (intro x hSw; (try dsimp only at hSw); go_simp)
            try simp only [Act.put, List.setIfInBounds_toArray, List.set_cons_zero, List.set_cons_succ]
            refine takeH (i := 31) (v := .agg #[.int .i64 zA, .slice qo ql qc]) (some 118) rfl rfl (by kernel_rfl) (by kernel_rfl) (by kernel_rfl) (fun _ _ _ h => h) (Or.inl ⟨by rfl, ?_⟩) hHeld ?_
            · (intro x hSw; (try dsimp only at hSw); go_simp)
            try simp only [Act.put, List.setIfInBounds_toArray, List.set_cons_zero, List.set_cons_succ]
            refine takeH (i := 33) (v := .pointer (some ⟨U, 1, none⟩)) (some 120) rfl rfl (by kernel_rfl) (by kernel_rfl) (by kernel_rfl) (fun _ _ _ h => h) (Or.inl ⟨by rfl, ?_⟩) hHeld ?_
            · (intro x hSw; (try dsimp only at hSw); go_simp)
            try simp only [Act.put, List.setIfInBounds_toArray, List.set_cons_zero, List.set_cons_succ]
            refine takeH (i := 34) (v := .agg #[.int .i64 zA, .slice ao al ac]) (some 121) rfl rfl (by kernel_rfl) (by kernel_rfl) (by kernel_rfl) (fun _ _ _ h => h) (Or.inl ⟨by rfl, ?_⟩) hHeld ?_
            · (intro x hSw; (try dsimp only at hSw); go_simp)
            try simp only [Act.put, List.setIfInBounds_toArray, List.set_cons_zero, List.set_cons_succ]
            refine wpAnyH_ready (rs := [32]) (by kernel_rfl) (by simp) (AllReadyH.cons rfl (fun K hK => ?_) AllReadyH.nil)
            go_simp
            refine (H5.out _ BC.out).mono ?_
            rintro e w6 ⟨rfl, hn6⟩
            replace BC := Lib.hid (New.then BC.out hn6.out)
            clear hn6
            go_wp2_with fail
            refine hK.out _ _ (KEEP.out _ BC.out) (fun hHeld => ?_)
            clear hK K
            try simp only [Act.put, List.setIfInBounds_toArray, List.set_cons_zero, List.set_cons_succ]
            refine wpAnyH_ready (rs := [35]) (by kernel_rfl) (by simp) (AllReadyH.cons rfl (fun K hK => ?_) AllReadyH.nil)
            go_simp
            refine (H6.out _ BC.out).mono ?_
            rintro e w6 ⟨rfl, hn6⟩
            replace BC := Lib.hid (New.then BC.out hn6.out)
            clear hn6
            go_wp2_with fail
            refine hK.out _ _ (KEEP.out _ BC.out) (fun hHeld => ?_)
            clear hK K
            try simp only [Act.put, List.setIfInBounds_toArray, List.set_cons_zero, List.set_cons_succ]
            refine takeH (i := 36) (v := .int .i64 k) (some 123) rfl rfl (by kernel_rfl) (by kernel_rfl) (by kernel_rfl) (fun _ _ _ h => h) (Or.inl ⟨by rfl, ?_⟩) hHeld ?_
            · (intro x hSw; (try dsimp only at hSw); go_simp)
            try simp only [Act.put, List.setIfInBounds_toArray, List.set_cons_zero, List.set_cons_succ]
            refine takeH (i := 37) (v := .bool false) (some 124) rfl rfl (by kernel_rfl) (by kernel_rfl) (by kernel_rfl) (fun _ _ _ h => h) (Or.inl ⟨by rfl, ?_⟩) hHeld ?_
            · (intro x hSw; (try dsimp only at hSw); go_simp)
            try simp only [Act.put, List.setIfInBounds_toArray, List.set_cons_zero, List.set_cons_succ]
            refine takeH (i := 38) (v := .bool false) (some 125) rfl rfl (by kernel_rfl) (by kernel_rfl) (by kernel_rfl) (fun _ _ _ h => h) (Or.inl ⟨by rfl, ?_⟩) hHeld ?_
            · (intro x hSw; (try dsimp only at hSw); go_simp)
            try simp only [Act.put, List.setIfInBounds_toArray, List.set_cons_zero, List.set_cons_succ]
            refine wpAnyH_done (by kernel_rfl) ?_ _
            refine NoPanic.normal ?_
            have hek := HEC.out.later BC.out
            have hvy := HVY.out.new BC.out
            have HEK := Lib.hid hek
            have HVZ := Lib.hid hvy
            obtain ⟨⟨x0, x1, x2, x3, x4⟩, x5, x6, x7, x8, x9⟩ := hek.v.five
            obtain ⟨⟨y0, y1, y2, y3, y4⟩, y5, y6, y7, y8, y9⟩ := hvy.five
            simp only at x0 x1 x2 x3 x4 y0 y1 y2 y3 y4
            obtain ⟨wq, hwq⟩ : ∃ q, q = put5 w6 V zs zA (.slice qo ql qc) zP (.slice ro rl rc) := ⟨_, rfl⟩
            have HEQ := Lib.hid (show EvS W wq V ⟨zs, zA, zP, zact, zpas⟩ (.slice qo ql qc) (.slice ro rl rc) D g ds2 by rw [hwq]; exact HEK.out.put HVZ.out.s rfl rfl rfl)
            unfold put5 at hwq
            clear hek hvy H1 H2 H3 H4 H5 H6 KEEP BC
            go_wp2_with fail
            rw [← hwq]
            go_roundw
            case rel => exact ⟨i + 1, _, _, _, _, rfl, rfl, Lib.hid (by omega), HST, HEQ⟩
            case measure => simp [intOf]; omega
          case neg =>
            have hs1 : ¬ (0 : Int) < sp := by omega
            obtain rfl : pb = false := by rw [HPB.out]; exact decn_ hs0
            clear HPB
            refine wp_region_noPanic ?_
            refine wp_region_held_drew (S := (fun q => (q.cell? ⟨U, 1, none⟩ = some (.int .i64 zA) ∧ q.cell? ⟨U, 2, none⟩ = some (.slice ao al ac)) ∧ q.cell? ⟨Y, 0, none⟩ = some (.int .i64 zs) ∧ q.cell? ⟨Y, 1, none⟩ = some (.int .i64 zA) ∧ q.cell? ⟨Y, 2, none⟩ = some (.slice qo ql qc) ∧ q.cell? ⟨Y, 3, none⟩ = some (.int .i64 zP) ∧ q.cell? ⟨Y, 4, none⟩ = some (.slice ro rl rc))) (by kernel_rfl) (KEEP.out _ BC.out) (fun hHeld => ?_)
            refine takeH (i := 0) (v := .bool true) (some 87) rfl rfl (by kernel_rfl) (by kernel_rfl) (by kernel_rfl) (fun _ _ _ h => h) (Or.inl ⟨by rfl, ?_⟩) hHeld ?_
            · (intro x hSw; (try dsimp only at hSw); go_simp)
            try simp only [Act.put, List.setIfInBounds_toArray, List.set_cons_zero, List.set_cons_succ]
            refine takeH (i := 1) (v := .bool false) (some 88) rfl rfl (by kernel_rfl) (by kernel_rfl) (by kernel_rfl) (fun _ _ _ h => h) (Or.inl ⟨by rfl, ?_⟩) hHeld ?_
            · (intro x hSw; (try dsimp only at hSw); go_simp)
            try simp only [Act.put, List.setIfInBounds_toArray, List.set_cons_zero, List.set_cons_succ]
            refine takeH (i := 2) (v := .bool false) (some 89) rfl rfl (by kernel_rfl) (by kernel_rfl) (by kernel_rfl) (fun _ _ _ h => h) (Or.inl ⟨by rfl, ?_⟩) hHeld ?_
            · (intro x hSw; (try dsimp only at hSw); go_simp)
            try simp only [Act.put, List.setIfInBounds_toArray, List.set_cons_zero, List.set_cons_succ]
            refine takeH (i := 3) (v := .pointer (some ⟨U, 1, none⟩)) (some 90) rfl rfl (by kernel_rfl) (by kernel_rfl) (by kernel_rfl) (fun _ _ _ h => h) (Or.inl ⟨by rfl, ?_⟩) hHeld ?_
            · (intro x hSw; (try dsimp only at hSw); go_simp)
            try simp only [Act.put, List.setIfInBounds_toArray, List.set_cons_zero, List.set_cons_succ]
            refine takeH (i := 4) (v := .agg #[.int .i64 zA, .slice ao al ac]) (some 91) rfl rfl (by kernel_rfl) (by kernel_rfl) (by kernel_rfl) (fun _ _ _ h => h) (Or.inl ⟨by rfl, ?_⟩) hHeld ?_
            · (intro x hSw; (try dsimp only at hSw); go_simp)
            try simp only [Act.put, List.setIfInBounds_toArray, List.set_cons_zero, List.set_cons_succ]
            refine takeH (i := 5) (v := .int .i64 n) (some 92) rfl rfl (by kernel_rfl) (by kernel_rfl) (by kernel_rfl) (fun _ _ _ h => h) (Or.inl ⟨by rfl, ?_⟩) hHeld ?_
            · (intro x hSw; (try dsimp only at hSw); go_simp)
            try simp only [Act.put, List.setIfInBounds_toArray, List.set_cons_zero, List.set_cons_succ]
            refine wpAnyH_ready (rs := [6]) (by kernel_rfl) (by simp) (AllReadyH.cons rfl (fun K hK => ?_) AllReadyH.nil)
            go_simp
            refine (H1.out _ BC.out).mono ?_
            rintro e w6 ⟨rfl, hn6⟩
            replace BC := Lib.hid (New.then BC.out hn6.out)
            clear hn6
            go_wp2_with fail
            refine hK.out _ _ (KEEP.out _ BC.out) (fun hHeld => ?_)
            clear hK K
            try simp only [Act.put, List.setIfInBounds_toArray, List.set_cons_zero, List.set_cons_succ]
            refine takeH (i := 7) (v := .bool false) (some 94) rfl rfl (by kernel_rfl) (by kernel_rfl) (by kernel_rfl) (fun _ _ _ h => h) (Or.inl ⟨by rfl, ?_⟩) hHeld ?_
            · (intro x hSw; (try dsimp only at hSw); go_simp)
            try simp only [Act.put, List.setIfInBounds_toArray, List.set_cons_zero, List.set_cons_succ]
            refine takeH (i := 8) (v := .bool false) (some 95) rfl rfl (by kernel_rfl) (by kernel_rfl) (by kernel_rfl) (fun _ _ _ h => h) (Or.inl ⟨by rfl, ?_⟩) hHeld ?_
            · (intro x hSw; (try dsimp only at hSw); go_simp)
            try simp only [Act.put, List.setIfInBounds_toArray, List.set_cons_zero, List.set_cons_succ]
            refine takeH (i := 9) (v := .bool false) (some 96) rfl rfl (by kernel_rfl) (by kernel_rfl) (by kernel_rfl) (fun _ _ _ h => h) (Or.inl ⟨by rfl, ?_⟩) hHeld ?_
            · (intro x hSw; (try dsimp only at hSw); go_simp)
            try simp only [Act.put, List.setIfInBounds_toArray, List.set_cons_zero, List.set_cons_succ]
            refine takeH (i := 10) (v := .pointer (some ⟨Y, 1, none⟩)) (some 97) rfl rfl (by kernel_rfl) (by kernel_rfl) (by kernel_rfl) (fun _ _ _ h => h) (Or.inl ⟨by rfl, ?_⟩) hHeld ?_
            · (intro x hSw; (try dsimp only at hSw); go_simp)
            try simp only [Act.put, List.setIfInBounds_toArray, List.set_cons_zero, List.set_cons_succ]
            refine takeH (i := 11) (v := .agg #[.int .i64 zA, .slice qo ql qc]) (some 98) rfl rfl (by kernel_rfl) (by kernel_rfl) (by kernel_rfl) (fun _ _ _ h => h) (Or.inl ⟨by rfl, ?_⟩) hHeld ?_
            · (intro x hSw; (try dsimp only at hSw); go_simp)
            try simp only [Act.put, List.setIfInBounds_toArray, List.set_cons_zero, List.set_cons_succ]
            refine takeH (i := 12) (v := .int .i64 n) (some 99) rfl rfl (by kernel_rfl) (by kernel_rfl) (by kernel_rfl) (fun _ _ _ h => h) (Or.inl ⟨by rfl, ?_⟩) hHeld ?_
            · (intro x hSw; (try dsimp only at hSw); go_simp)
            try simp only [Act.put, List.setIfInBounds_toArray, List.set_cons_zero, List.set_cons_succ]
            refine wpAnyH_ready (rs := [13]) (by kernel_rfl) (by simp) (AllReadyH.cons rfl (fun K hK => ?_) AllReadyH.nil)
            go_simp
            refine (H2.out _ BC.out).mono ?_
            rintro e w6 ⟨rfl, hn6⟩
            replace BC := Lib.hid (New.then BC.out hn6.out)
            clear hn6
            go_wp2_with fail
            refine hK.out _ _ (KEEP.out _ BC.out) (fun hHeld => ?_)
            clear hK K
            try simp only [Act.put, List.setIfInBounds_toArray, List.set_cons_zero, List.set_cons_succ]
            refine takeH (i := 14) (v := .bool false) (some 101) rfl rfl (by kernel_rfl) (by kernel_rfl) (by kernel_rfl) (fun _ _ _ h => h) (Or.inl ⟨by rfl, ?_⟩) hHeld ?_
            · (intro x hSw; (try dsimp only at hSw); go_simp)
            try simp only [Act.put, List.setIfInBounds_toArray, List.set_cons_zero, List.set_cons_succ]
            refine takeH (i := 15) (v := .bool false) (some 102) rfl rfl (by kernel_rfl) (by kernel_rfl) (by kernel_rfl) (fun _ _ _ h => h) (Or.inl ⟨by rfl, ?_⟩) hHeld ?_
            · (intro x hSw; (try dsimp only at hSw); go_simp)
            try simp only [Act.put, List.setIfInBounds_toArray, List.set_cons_zero, List.set_cons_succ]
            refine takeH (i := 16) (v := .pointer (some ⟨Y, 3, none⟩)) (some 103) rfl rfl (by kernel_rfl) (by kernel_rfl) (by kernel_rfl) (fun _ _ _ h => h) (Or.inl ⟨by rfl, ?_⟩) hHeld ?_
            · (intro x hSw; (try dsimp only at hSw); go_simp)
            try simp only [Act.put, List.setIfInBounds_toArray, List.set_cons_zero, List.set_cons_succ]
            refine takeH (i := 17) (v := .agg #[.int .i64 zP, .slice ro rl rc]) (some 104) rfl rfl (by kernel_rfl) (by kernel_rfl) (by kernel_rfl) (fun _ _ _ h => h) (Or.inl ⟨by rfl, ?_⟩) hHeld ?_
            · (intro x hSw; (try dsimp only at hSw); go_simp)
            try simp only [Act.put, List.setIfInBounds_toArray, List.set_cons_zero, List.set_cons_succ]
            refine takeH (i := 18) (v := .int .i64 n) (some 105) rfl rfl (by kernel_rfl) (by kernel_rfl) (by kernel_rfl) (fun _ _ _ h => h) (Or.inl ⟨by rfl, ?_⟩) hHeld ?_
            · (intro x hSw; (try dsimp only at hSw); go_simp)
            try simp only [Act.put, List.setIfInBounds_toArray, List.set_cons_zero, List.set_cons_succ]
            refine takeH (i := 20) (v := .int .i64 sp) (some 107) rfl rfl (by kernel_rfl) (by kernel_rfl) (by kernel_rfl) (fun _ _ _ h => h) (Or.inl ⟨by rfl, ?_⟩) hHeld ?_
            · (intro x hSw; (try dsimp only at hSw); go_simp)
            try simp only [Act.put, List.setIfInBounds_toArray, List.set_cons_zero, List.set_cons_succ]
            refine takeH (i := 21) (v := .bool false) (some 108) rfl rfl (by kernel_rfl) (by kernel_rfl) (by kernel_rfl) (fun _ _ _ h => h) (Or.inl ⟨by rfl, ?_⟩) hHeld ?_
            · (intro x hSw; (try dsimp only at hSw); go_simp)
            try simp only [Act.put, List.setIfInBounds_toArray, List.set_cons_zero, List.set_cons_succ]
            refine wpAnyH_ready (rs := [19]) (by kernel_rfl) (by simp) (AllReadyH.cons rfl (fun K hK => ?_) AllReadyH.nil)
            go_simp
            refine (H3.out _ BC.out).mono ?_
            rintro e w6 ⟨rfl, hn6⟩
            replace BC := Lib.hid (New.then BC.out hn6.out)
            clear hn6
            go_wp2_with fail
            refine hK.out _ _ (KEEP.out _ BC.out) (fun hHeld => ?_)
            clear hK K
            try simp only [Act.put, List.setIfInBounds_toArray, List.set_cons_zero, List.set_cons_succ]
            refine takeH (i := 22) (v := .bool false) (some 109) rfl rfl (by kernel_rfl) (by kernel_rfl) (by kernel_rfl) (fun _ _ _ h => h) (Or.inl ⟨by rfl, ?_⟩) hHeld ?_
            · (intro x hSw; (try dsimp only at hSw); go_simp)
            try simp only [Act.put, List.setIfInBounds_toArray, List.set_cons_zero, List.set_cons_succ]
            refine takeH (i := 23) (v := .bool false) (some 110) rfl rfl (by kernel_rfl) (by kernel_rfl) (by kernel_rfl) (fun _ _ _ h => h) (Or.inl ⟨by rfl, ?_⟩) hHeld ?_
            · (intro x hSw; (try dsimp only at hSw); go_simp)
            try simp only [Act.put, List.setIfInBounds_toArray, List.set_cons_zero, List.set_cons_succ]
            refine takeH (i := 24) (v := .bool false) (some 111) rfl rfl (by kernel_rfl) (by kernel_rfl) (by kernel_rfl) (fun _ _ _ h => h) (Or.inl ⟨by rfl, ?_⟩) hHeld ?_
            · (intro x hSw; (try dsimp only at hSw); go_simp)
            try simp only [Act.put, List.setIfInBounds_toArray, List.set_cons_zero, List.set_cons_succ]
            refine takeH (i := 25) (v := .agg #[.int .i64 zs, .int .i64 zA, .slice qo ql qc, .int .i64 zP, .slice ro rl rc]) (some 112) rfl rfl (by kernel_rfl) (by kernel_rfl) (by kernel_rfl) (fun _ _ _ h => h) (Or.inl ⟨by rfl, ?_⟩) hHeld ?_
            · (intro x hSw; (try dsimp only at hSw); go_simp)
            try simp only [Act.put, List.setIfInBounds_toArray, List.set_cons_zero, List.set_cons_succ]
            refine wpAnyH_ready (rs := [26]) (by kernel_rfl) (by simp) (AllReadyH.cons rfl (fun K hK => ?_) AllReadyH.nil)
            go_simp
            refine (H4.out _ BC.out).mono ?_
            rintro e w6 ⟨rfl, hn6⟩
            replace BC := Lib.hid (New.then BC.out hn6.out)
            clear hn6
            go_wp2_with fail
            refine hK.out _ _ (KEEP.out _ BC.out) (fun hHeld => ?_)
            clear hK K
            try simp only [Act.put, List.setIfInBounds_toArray, List.set_cons_zero, List.set_cons_succ]
            refine takeH (i := 27) (v := .bool false) (some 114) rfl rfl (by kernel_rfl) (by kernel_rfl) (by kernel_rfl) (fun _ _ _ h => h) (Or.inl ⟨by rfl, ?_⟩) hHeld ?_
            · (intro x hSw; (try dsimp only at hSw); go_simp)
            try simp only [Act.put, List.setIfInBounds_toArray, List.set_cons_zero, List.set_cons_succ]
            refine takeH (i := 28) (v := .bool false) (some 115) rfl rfl (by kernel_rfl) (by kernel_rfl) (by kernel_rfl) (fun _ _ _ h => h) (Or.inl ⟨by rfl, ?_⟩) hHeld ?_
            · (intro x hSw; (try dsimp only at hSw); go_simp)
            try simp only [Act.put, List.setIfInBounds_toArray, List.set_cons_zero, List.set_cons_succ]
            refine takeH (i := 29) (v := .bool false) (some 116) rfl rfl (by kernel_rfl) (by kernel_rfl) (by kernel_rfl) (fun _ _ _ h => h) (Or.inl ⟨by rfl, ?_⟩) hHeld ?_
            · (intro x hSw; (try dsimp only at hSw); go_simp)
            try simp only [Act.put, List.setIfInBounds_toArray, List.set_cons_zero, List.set_cons_succ]
            refine takeH (i := 30) (v := .pointer (some ⟨Y, 1, none⟩)) (some 117) rfl rfl (by kernel_rfl) (by kernel_rfl) (by kernel_rfl) (fun _ _ _ h => h) (Or.inl ⟨by rfl, ?_⟩) hHeld ?_
            · (intro x hSw; (try dsimp only at hSw); go_simp)
            try simp only [Act.put, List.setIfInBounds_toArray, List.set_cons_zero, List.set_cons_succ]
            refine takeH (i := 31) (v := .agg #[.int .i64 zA, .slice qo ql qc]) (some 118) rfl rfl (by kernel_rfl) (by kernel_rfl) (by kernel_rfl) (fun _ _ _ h => h) (Or.inl ⟨by rfl, ?_⟩) hHeld ?_
            · (intro x hSw; (try dsimp only at hSw); go_simp)
            try simp only [Act.put, List.setIfInBounds_toArray, List.set_cons_zero, List.set_cons_succ]
            refine takeH (i := 33) (v := .pointer (some ⟨U, 1, none⟩)) (some 120) rfl rfl (by kernel_rfl) (by kernel_rfl) (by kernel_rfl) (fun _ _ _ h => h) (Or.inl ⟨by rfl, ?_⟩) hHeld ?_
            · (intro x hSw; (try dsimp only at hSw); go_simp)
            try simp only [Act.put, List.setIfInBounds_toArray, List.set_cons_zero, List.set_cons_succ]
            refine takeH (i := 34) (v := .agg #[.int .i64 zA, .slice ao al ac]) (some 121) rfl rfl (by kernel_rfl) (by kernel_rfl) (by kernel_rfl) (fun _ _ _ h => h) (Or.inl ⟨by rfl, ?_⟩) hHeld ?_
            · (intro x hSw; (try dsimp only at hSw); go_simp)
            try simp only [Act.put, List.setIfInBounds_toArray, List.set_cons_zero, List.set_cons_succ]
            refine wpAnyH_ready (rs := [32]) (by kernel_rfl) (by simp) (AllReadyH.cons rfl (fun K hK => ?_) AllReadyH.nil)
            go_simp
            refine (H5.out _ BC.out).mono ?_
            rintro e w6 ⟨rfl, hn6⟩
            replace BC := Lib.hid (New.then BC.out hn6.out)
            clear hn6
            go_wp2_with fail
            refine hK.out _ _ (KEEP.out _ BC.out) (fun hHeld => ?_)
            clear hK K
            try simp only [Act.put, List.setIfInBounds_toArray, List.set_cons_zero, List.set_cons_succ]
            refine wpAnyH_ready (rs := [35]) (by kernel_rfl) (by simp) (AllReadyH.cons rfl (fun K hK => ?_) AllReadyH.nil)
            go_simp
            refine (H6.out _ BC.out).mono ?_
            rintro e w6 ⟨rfl, hn6⟩
            replace BC := Lib.hid (New.then BC.out hn6.out)
            clear hn6
            go_wp2_with fail
            refine hK.out _ _ (KEEP.out _ BC.out) (fun hHeld => ?_)
            clear hK K
            try simp only [Act.put, List.setIfInBounds_toArray, List.set_cons_zero, List.set_cons_succ]
            refine takeH (i := 36) (v := .int .i64 k) (some 123) rfl rfl (by kernel_rfl) (by kernel_rfl) (by kernel_rfl) (fun _ _ _ h => h) (Or.inl ⟨by rfl, ?_⟩) hHeld ?_
            · (intro x hSw; (try dsimp only at hSw); go_simp)
            try simp only [Act.put, List.setIfInBounds_toArray, List.set_cons_zero, List.set_cons_succ]
            refine takeH (i := 37) (v := .bool false) (some 124) rfl rfl (by kernel_rfl) (by kernel_rfl) (by kernel_rfl) (fun _ _ _ h => h) (Or.inl ⟨by rfl, ?_⟩) hHeld ?_
            · (intro x hSw; (try dsimp only at hSw); go_simp)
            try simp only [Act.put, List.setIfInBounds_toArray, List.set_cons_zero, List.set_cons_succ]
            refine takeH (i := 38) (v := .bool false) (some 125) rfl rfl (by kernel_rfl) (by kernel_rfl) (by kernel_rfl) (fun _ _ _ h => h) (Or.inl ⟨by rfl, ?_⟩) hHeld ?_
            · (intro x hSw; (try dsimp only at hSw); go_simp)
            try simp only [Act.put, List.setIfInBounds_toArray, List.set_cons_zero, List.set_cons_succ]
            refine wpAnyH_done (by kernel_rfl) ?_ _
            refine NoPanic.normal ?_
            have hek := HEC.out.later BC.out
            have hvy := HVY.out.new BC.out
            have HEK := Lib.hid hek
            have HVZ := Lib.hid hvy
            obtain ⟨⟨x0, x1, x2, x3, x4⟩, x5, x6, x7, x8, x9⟩ := hek.v.five
            obtain ⟨⟨y0, y1, y2, y3, y4⟩, y5, y6, y7, y8, y9⟩ := hvy.five
            simp only at x0 x1 x2 x3 x4 y0 y1 y2 y3 y4
            obtain ⟨wq, hwq⟩ : ∃ q, q = put5 w6 V zs zA (.slice qo ql qc) zP (.slice ro rl rc) := ⟨_, rfl⟩
            have HEQ := Lib.hid (show EvS W wq V ⟨zs, zA, zP, zact, zpas⟩ (.slice qo ql qc) (.slice ro rl rc) D g ds2 by rw [hwq]; exact HEK.out.put HVZ.out.s rfl rfl rfl)
            unfold put5 at hwq
            clear hek hvy H1 H2 H3 H4 H5 H6 KEEP BC
            go_wp2_with fail
            rw [← hwq]
            go_roundw
            case rel => exact ⟨i + 1, _, _, _, _, rfl, rfl, Lib.hid (by omega), HST, HEQ⟩
            case measure => simp [intOf]; omega
        · obtain rfl : i = c := by omega
          have HXE := Lib.hid (show y.Sane ∧ y.self = 300 ∧ y.A = A ∧ y.P = sp ∧ y.act = [] ∧ y.pas.length = min i sp from ⟨HY.out.1, HY.out.2.1, HY.out.2.2.1, HY.out.2.2.2.1, List.eq_nil_of_length_eq_zero (by have := HY.out.2.2.2.2.1; omega), HY.out.2.2.2.2.2⟩)
          go_wp2_with fail
          go_meet
          exact ⟨rfl, _, _, _, _, HXE, HE⟩
    case rest =>
      obtain ⟨rfl, y, ta, tp, ds, HY, HE⟩ := hcut
      obtain ⟨wz, hwz⟩ : ∃ x, x = wc := ⟨_, rfl⟩
      subst hwz
      obtain ⟨⟨ao, al, ac, rfl⟩, po, pl, pc, rfl⟩ := HE.out.v.s.slices
      have hact := HY.out.2.2.2.2.1
      have HCA := Lib.hid (evict_ok y _ _ _ _ _ ds wz HE.out.v.s HE.out.dp)
      rw [show (evictV y ds) = (y, ds) by unfold evictV; rw [if_pos hact], show evictN y ds = 0 by unfold evictN; rw [if_pos hact], show (!decide (y.act = [])) = false by rw [dec_ hact]; rfl] at HCA
      have HPL := Lib.hid (show y.pas.length = min c sp from HY.out.2.2.2.2.2)
      have HPS := Lib.hid HY.out.2.2.2.1
      obtain ⟨ys, yA, yP, yact, ypas⟩ := y
      obtain rfl : yP = sp := HPS.out
      obtain ⟨⟨x0, x1, x2, x3, x4⟩, x5, x6, x7, x8, x9⟩ := HE.out.v.five
      unfold viwV at HCA
      simp only at x0 x1 x2 x3 x4 HCA
      clear hact HX1 HEL HY HPS
      go_wp2_with fail
      refine HCA.out.mono ?_
      rintro e w2 ⟨sa2, sp2, rfl, hs2, hd2, hv2⟩
      obtain ⟨⟨qo, ql, qc, rfl⟩, ro, rl, rc, rfl⟩ := hs2.slices
      have HE2 := Lib.hid (HE.out.vt hd2 hv2 (fun e => e))
      clear x0 x1 x2 x3 x4 x5 x6 x7 x8 x9 hs2 hd2 hv2 HCA HE
      obtain ⟨wb, hwb⟩ : ∃ wb, wb = w2.alloc (.cells #[.int .i64 ys, .int .i64 yA, .slice qo ql qc, .int .i64 yP, .slice ro rl rc] 30) := ⟨_, rfl⟩
      have HE3 := Lib.hid (HE2.out.later (show New w2 wb by rw [hwb]; exact (New.refl _).alloc _))
      have HLN := Lib.hid (len_lay yP (.slice po pl pc) ypas wb HE3.out.v.s.setp)
      obtain ⟨⟨x0, x1, x2, x3, x4⟩, x5, x6, x7, x8, x9⟩ := HE3.out.v.five
      obtain ⟨m, hm⟩ : ∃ m, m = ypas.length := ⟨_, rfl⟩
      rw [← hm] at HLN
      have HM := Lib.hid (show (m : Int) = min (c : Int) (yP : Int) by rw [hm]; have := HPL.out; (try simp only at this); omega)
      simp only at x0 x1 x2 x3 x4
      clear hm
      unfold viwV
      simp only
      go_upto_region 25 with fail
      rw [← hwb]
      clear hwb
      go_wp2_with fail
      refine HLN.out.mono ?_
      rintro e w4 ⟨rfl, hn4⟩
      have HB := Lib.hid (show Below W.heap.size W w4 from (HE3.out.new.then hn4.out).below)
      clear HLN HE2 HE3 hn4 x0 x1 x2 x3 x4 x5 x6 x7 x8 x9
      go_wp2_with fail
      go_ret
      refine ⟨?_, HB.out⟩
      show Ending.returned (Value.bool ((m : Int) == min (c : Int) (yP : Int))) = _
      rw [← HM.out]
      simp
end Go.Proofs.Ytdhafagihfdolaa
