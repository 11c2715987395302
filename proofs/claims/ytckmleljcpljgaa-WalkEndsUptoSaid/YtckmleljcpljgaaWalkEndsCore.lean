/-
  WalkEnds: the core.
-/
import Derived.Test.YtckmleljcpljgaaWlkSpk
import Derived.BigQuiet
import Derived.BigRegion
set_option linter.unusedVariables false
set_option linter.unusedSimpArgs false
set_option maxRecDepth 100000
namespace Go.Proofs.Ytckmleljcpljgaa
open Go.RowKit Go.Lib Go.Sort Go.Shelf

/-- What a step keeps. -/
abbrev StGood (x : VA) (a b left : Int) (s : StA) : Prop := (s.e = true → s.n = 0 ∧ s.k = false) ∧ (s.e = false → s.n ∈ x.act ∧ s.n ≠ a ∧ s.n ≠ b ∧ 1 ≤ left)
theorem stepA_st (x : VA) (a b left : Int) (ds : List Int) : StGood x a b left (stepA x a b left ds).1 := by
  unfold stepA
  split
  · exact ⟨fun _ => ⟨rfl, rfl⟩, fun h => by cases h⟩
  · split
    · exact ⟨fun _ => ⟨rfl, rfl⟩, fun h => by cases h⟩
    · rename_i h1 h2
      refine ⟨fun h => (by cases h), fun _ => ?_⟩
      have hm := pick_mem h2 ds
      show pick (offL x a b) ds ∈ x.act ∧ pick (offL x a b) ds ≠ a ∧ pick (offL x a b) ds ≠ b ∧ 1 ≤ left
      generalize pick (offL x a b) ds = y at hm ⊢
      unfold offL at hm
      obtain ⟨h3, h4⟩ := List.mem_filter.1 hm
      simp at h4
      exact ⟨h3, h4.1, h4.2, by omega⟩
theorem joinA_st (x : VA) (a b left know : Int) (ds : List Int) : StGood x a b left (joinA x a b left know ds).1 := by
  unfold joinA
  split
  · exact ⟨fun _ => ⟨rfl, rfl⟩, fun h => by cases h⟩
  · obtain ⟨h1, h2⟩ := stepA_st x a b left ds
    refine ⟨fun h => ⟨(h1 h).1, ?_⟩, h2⟩
    simp only at h ⊢
    rw [h]
    rfl
/-- The nodes of a view lie in 1 to 6, none is itself. -/
def Six (x : VA) : Prop := x.Sane ∧ ∀ y ∈ x.act, 1 ≤ y ∧ y ≤ 6
theorem six_join {x : VA} (h : Six x) {n : Int} (h1 : 1 ≤ n ∧ n ≤ 6) : Six (joinV x n) := by
  refine ⟨joinV_sane h.1 n, fun y hy => ?_⟩
  unfold joinV at hy
  split at hy
  · rcases addL_mem hy with e | e
    · rw [e]; exact h1
    · exact h.2 y e
  · exact h.2 y hy
theorem joinV_self (x : VA) (n : Int) : (joinV x n).self = x.self ∧ (joinV x n).A = x.A ∧ (joinV x n).P = x.P := by
  unfold joinV
  split <;> exact ⟨rfl, rfl, rfl⟩
/-- The links: six numbers in a block. -/
def LkAt (w : World) (L : Nat) (f : Nat → Int) : Prop := ∀ i, i < 6 → w.cell? ⟨L, i, none⟩ = some (.int .u8 (f i))
theorem LkAt.keep {w w' : World} {L : Nat} {f : Nat → Int} (h : LkAt w L f) (k : w'.heap[L]? = w.heap[L]?) : LkAt w' L f := fun i hi => (World.cell?_of_block k).trans (h i hi)
/-- The state of the walk: the links, the draw. -/
structure WkS (W w : World) (L : Nat) (f : Nat → Int) (D g : Nat) (ds : List Int) : Prop where
  lk : Bk w L 71 #[.int .u8 (f 0), .int .u8 (f 1), .int .u8 (f 2), .int .u8 (f 3), .int .u8 (f 4), .int .u8 (f 5)]
  dr : DrawIs w D g ds
  new : New W w
  base : W.heap.size ≤ L ∧ W.heap.size ≤ D ∧ W.heap.size ≤ g
theorem WkS.vt {W w w' : World} {L : Nat} {f : Nat → Int} {D g : Nat} {ds ds' : List Int} (h : WkS W w L f D g ds) (hd : DrawP w' (.pointer (some ⟨D, 0, none⟩)) (some D) g ds') (k : VT (some D) w w') : WkS W w' L f D g ds' := by
  refine ⟨k.bk h.lk (fun e => ?_), ?_, VT.new h.new k (fun d e => by injection e with e; rw [← e]; exact h.base.2.1), h.base⟩
  · injection e with e
    obtain ⟨cs, hb⟩ := h.dr.bk
    have hl := h.lk
    unfold Bk at hb hl
    rw [e, hb] at hl
    injection hl with hl
    injection hl with _ h3
    exact absurd h3 (by decide)
  · rcases hd with ⟨e, _, _⟩ | ⟨d, e, _, hd⟩
    · cases e
    · injection e with e; injection e with e; injection e with e; subst e; exact hd
theorem WkS.new2 {W w w' : World} {L : Nat} {f : Nat → Int} {D g : Nat} {ds : List Int} (h : WkS W w L f D g ds) (k : New w w') : WkS W w' L f D g ds :=
  ⟨k.bk h.lk, h.dr.tch k (by have := h.dr.lt; omega) (fun h0 => by have := h.dr.glt h0; omega), h.new.then k, h.base⟩
theorem WkS.dp {W w : World} {L : Nat} {f : Nat → Int} {D g : Nat} {ds : List Int} (h : WkS W w L f D g ds) : DrawP w (.pointer (some ⟨D, 0, none⟩)) (some D) g ds := .inr ⟨D, rfl, rfl, h.dr⟩
/-- A store into a view's variable. -/
theorem WkS.put {W w : World} {L X : Nat} {f : Nat → Int} {D g : Nat} {ds : List Int} {cs : Array Value} (h : WkS W w L f D g ds) (hX : Bk w X 30 cs) (hW : W.heap.size ≤ X) {w' : World} (k : Tch (· = X) w w') (hg : 0 < ds.length → X ≠ g) : WkS W w' L f D g ds := by
  refine ⟨h.lk.tch k (fun e => ?_), h.dr.tch k (fun e => ?_) (fun h0 e => hg h0 e.symm), Tch.trans h.new k (fun b hb e => by rw [e]; exact hW), h.base⟩
  · have hl := h.lk
    unfold Bk at hX hl
    rw [e, hX] at hl
    injection hl with hl
    injection hl with _ h3
    exact absurd h3 (by decide)
  · obtain ⟨cs2, hb⟩ := h.dr.bk
    unfold Bk at hX hb
    rw [e, hX] at hb
    injection hb with hb
    injection hb with _ h3
    exact absurd h3 (by decide)
theorem step_ne_int : (67 : TypeId) ≠ 3 := by decide
/-- A store into a step's variable. -/
theorem WkS.puts {W w : World} {L X : Nat} {f : Nat → Int} {D g : Nat} {ds : List Int} {cs : Array Value} (h : WkS W w L f D g ds) (hX : Bk w X 67 cs) (hW : W.heap.size ≤ X) {w' : World} (k : Tch (· = X) w w') (hg : 0 < ds.length → X ≠ g) : WkS W w' L f D g ds := by
  refine ⟨h.lk.tch k (fun e => ?_), h.dr.tch k (fun e => ?_) (fun h0 e => hg h0 e.symm), Tch.trans h.new k (fun b hb e => by rw [e]; exact hW), h.base⟩
  · have hl := h.lk
    unfold Bk at hX hl
    rw [e, hX] at hl
    injection hl with hl
    injection hl with _ h3
    exact absurd h3 (by decide)
  · obtain ⟨cs2, hb⟩ := h.dr.bk
    unfold Bk at hX hb
    rw [e, hX] at hb
    injection hb with hb
    injection hb with _ h3
    exact absurd h3 (by decide)
theorem small_mod (x : Int) (m : Nat) (h0 : 0 ≤ x) (hm : 0 < m) : ∃ k : Nat, k < m ∧ x % (m : Int) = (k : Int) := by
  have h1 := Int.emod_nonneg x (show (m : Int) ≠ 0 by omega)
  have h2 := Int.emod_lt_of_pos x (show (0 : Int) < m by omega)
  exact ⟨(x % m).toNat, by omega, by omega⟩
set_option maxHeartbeats 1000000 in
theorem walkEnds_core (f : Nat → Int) (node left : Int) (v : Value) (ls : List Int) (W : World) (hf : ∀ i, 0 ≤ f i ∧ f i ≤ 255) (hnode : 0 ≤ node ∧ node ≤ 255) (hleft : 0 ≤ left ∧ left ≤ 255)
    (hs : Sl W (· < W.heap.size) v (u32s ls)) (hu : U32s ls) (hb : ls.length ≤ 1048576) :
    Calls Try.prog 7 #[.agg #[.int .u8 (f 0), .int .u8 (f 1), .int .u8 (f 2), .int .u8 (f 3), .int .u8 (f 4), .int .u8 (f 5), .int .u8 node, .int .u8 left, v]] W fun e W' => e = .returned (.bool true) ∧ Below W.heap.size W W' := by
  have HS := Lib.hid hs
  have HU := Lib.hid hu
  have HBB := Lib.hid hb
  obtain ⟨ao, cap, rfl, _, _, _, _⟩ := HS.out
  obtain ⟨nm, hnm, hnm2⟩ := small_mod node 6 hnode.1 (by omega)
  obtain ⟨cnt, hcnt, hcnt2⟩ := small_mod left 20 hleft.1 (by omega)
  obtain ⟨fm, hfm, hfm2⟩ := small_mod (f 0) 6 (hf 0).1 (by omega)
  have hwn : IntKind.i64.wrap (1 + (nm : Int)) = 1 + (nm : Int) := by simp only [IntKind.wrap, IntKind.bits, IntKind.signed]; simp; omega
  have hwf : IntKind.i64.wrap (1 + (fm : Int)) = 1 + (fm : Int) := by simp only [IntKind.wrap, IntKind.bits, IntKind.signed]; simp; omega
  clear hu hb
  go_enter Try.func7, Try.ntmps7
  go_wp2_with fail
  refine (speaks10 _).mono ?_
  rintro e w1 ⟨rfl, hn1⟩
  have HB1 := Lib.hid (hn1.out.bk (Bk.made W 73 #[.int .u8 (f 0), .int .u8 (f 1), .int .u8 (f 2), .int .u8 (f 3), .int .u8 (f 4), .int .u8 (f 5), .int .u8 node, .int .u8 left, .slice ao (u32s ls).length cap]))
  have HN1 := Lib.hid (show New W w1 from ((New.refl W).alloc _).then hn1.out)
  have q0 := HB1.out.cell 0
  have q1 := HB1.out.cell 1
  have q2 := HB1.out.cell 2
  have q3 := HB1.out.cell 3
  have q4 := HB1.out.cell 4
  have q5 := HB1.out.cell 5
  simp at q0 q1 q2 q3 q4 q5
  clear hn1
  go_upto_region 4 with fail
  obtain ⟨L, hL⟩ : ∃ L, L = w1.heap.size := ⟨_, rfl⟩
  obtain ⟨w2, hw2⟩ : ∃ w2, w2 = w1.alloc (.cells #[.int .u8 (f 0), .int .u8 (f 1), .int .u8 (f 2), .int .u8 (f 3), .int .u8 (f 4), .int .u8 (f 5)] 71) := ⟨_, rfl⟩
  have hn2 : New w1 w2 := by rw [hw2]; exact (New.refl _).alloc _
  have HL2 := Lib.hid (show Bk w2 L 71 #[.int .u8 (f 0), .int .u8 (f 1), .int .u8 (f 2), .int .u8 (f 3), .int .u8 (f 4), .int .u8 (f 5)] by rw [hw2, hL]; exact Bk.made _ _ _)
  have HB2 := Lib.hid (hn2.bk HB1.out)
  have HN2 := Lib.hid (HN1.out.then hn2)
  have HLW := Lib.hid (show W.heap.size ≤ L by rw [hL]; exact HN1.out.size)
  rw [← hw2, ← hL]
  clear hw2 hL hn2 HB1 HN1 q0 q1 q2 q3 q4 q5
  have q8 := HB2.out.cell 8
  simp at q8
  have HNW := Lib.hid (new_is (.slice ao (u32s ls).length cap) ls (· < W.heap.size) w2 (HS.out.keep HN2.out.size (fun b hb _ => HN2.out.block b hb (by omega))) HU.out (by have := HBB.out; omega))
  go_wp2_with fail
  refine HNW.out.mono ?_
  rintro e w3 ⟨D, g, rfl, hD, hg, hdr, hb3⟩
  have hn3 : New w2 w3 := New.of hb3
  have HB3 := Lib.hid (hn3.bk HB2.out)
  have HW3 := Lib.hid (show WkS W w3 L f D g ls from ⟨hn3.bk HL2.out, hdr, HN2.out.then hn3, HLW.out, by have := HN2.out.size; omega, by have := HN2.out.size; omega⟩)
  clear hD hg hdr hb3 hn3 HNW q8 HL2 HB2 HN2
  have q6 := HB3.out.cell 6
  have q7 := HB3.out.cell 7
  simp at q6 q7
  go_upto_region 5 with fail
  go_quiet (fail)
  have HW4 := Lib.hid (show WkS W (w3.drewN nq) L f D g ls from HW3.out.new2 ((New.refl _).drewN _))
  clear HW3 HB3 q6 q7
  generalize w3.drewN nq = w4 at HW4 ⊢
  clear hwn hwf
  have HFM := Lib.hid hfm2
  clear hfm2
  have HNM := Lib.hid hnm
  have HCN := Lib.hid hcnt
  rw [show node % 6 = (nm : Int) from hnm2, show left % 20 = (cnt : Int) from hcnt2]
  obtain ⟨wk, hwk⟩ : ∃ wk : Int, wk = 1 + (nm : Int) := ⟨_, rfl⟩
  rw [← hwk]
  have HWK := Lib.hid hwk
  clear hwk
  have HF := Lib.hid hf
  clear hf hnode hleft hnm2 hcnt2
  go_wp2_with fail
  go_loopw [7] (fun vk wr => ∃ (kd : Nat) (ds : List Int), vk = .int .i64 kd ∧ Hid (kd ≤ 2) ∧ Hid (WkS W wr L f D g ds)) (fun vk _ => 2 - (intOf vk).toNat)
  case atStart => exact ⟨0, ls, rfl, Lib.hid (by omega), HW4⟩
  case round =>
    clear HW4
    obtain ⟨kd, ds, rfl, HKD, HW⟩ := hrel
    have hkd := HKD.out
    by_cases hk2 : kd < 2
    · have hk2i : (kd : Int) < 2 := by omega
      have q0 := HW.out.lk.cell 0
      simp at q0
      have hfm2 : f 0 % 6 = (fm : Int) := HFM.out
      have hf0 := (HF.out 0).1
      have hf1 := (HF.out 0).2
      have hwf : IntKind.i64.wrap (1 + (fm : Int)) = 1 + (fm : Int) := by simp only [IntKind.wrap, IntKind.bits, IntKind.signed]; simp; omega
      go_upto_block 2 with fail
      clear q0 hfm2 hf0 hf1 hwf
      go_cut [11] (fun vs wx => ∃ (n : Nat) (ds2 : List Int), vs = .int .i64 ((cnt : Int) - n) ∧ Hid (n ≤ cnt) ∧ Hid (WkS W wx L f D g ds2))
      case first =>
        go_wp2_with fail
        go_loopw [8, 9, 10, 11] (fun va vf vn vs wr => ∃ (i n : Nat) (fr : Int) (ds2 : List Int), va = .int .i64 (1 + i) ∧ vf = .int .i64 fr ∧ vn = .int .i64 n ∧ vs = .int .i64 ((cnt : Int) - n) ∧ Hid (i < 6) ∧ Hid (n ≤ cnt) ∧ Hid (WkS W wr L f D g ds2)) (fun _ _ vn _ _ => (intOf vn).toNat)
        case atStart => exact ⟨fm, cnt, 0, ds, by first | rfl | simp, rfl, rfl, by simp, Lib.hid hfm, Lib.hid (Nat.le_refl _), HW⟩
        case round =>
          clear HW
          obtain ⟨i, n, fr, ds2, rfl, rfl, rfl, rfl, HI, HN, HW⟩ := hrel
          have hi6 := HI.out
          obtain ⟨at_, hat⟩ : ∃ x : Int, x = 1 + (i : Int) := ⟨_, rfl⟩
          have HAT := Lib.hid hat
          rw [← hat]
          have hnc := HN.out
          have hc20 := HCN.out
          clear hat
          go_wp2_with fail
          refine (vnew_ok at_ 8 8 8 8 wr (by omega) (by omega) (by omega) (by omega)).mono ?_
          rintro e w5 ⟨sa, sp, rfl, hs5, hn5⟩
          obtain ⟨⟨ao5, al5, ac5, rfl⟩, po5, pl5, pc5, rfl⟩ := hs5.slices
          obtain ⟨V, hV⟩ : ∃ V, V = w5.heap.size := ⟨_, rfl⟩
          obtain ⟨w6, hw6⟩ : ∃ w6, w6 = w5.alloc (.cells #[.int .i64 at_, .int .i64 8, .slice ao5 al5 ac5, .int .i64 8, .slice po5 pl5 pc5] 30) := ⟨_, rfl⟩
          have HV6 := Lib.hid (show ViwAt w6 V ⟨at_, 8, 8, [], []⟩ (.slice ao5 al5 ac5) (.slice po5 pl5 pc5) by rw [hw6, hV]; exact viw_made hs5)
          have hn6 : New wr w6 := by rw [hw6]; exact hn5.alloc _
          have HW6 := Lib.hid (HW.out.new2 hn6)
          have HVG := Lib.hid (show W.heap.size ≤ V ∧ (0 < ds2.length → V ≠ g) from ⟨by rw [hV]; exact (HW.out.new.then hn5).size, fun h0 => by have := (HW.out.new2 hn5).dr.glt h0; omega⟩)
          clear hs5 hn5 hn6 HW
          unfold viwV
          simp only
          rw [show ((8 : Nat) : Int) = 8 from rfl]
          go_upto_region 12 with fail
          rw [← hw6, ← hV]
          clear hw6 hV
          go_wp2_with fail
          go_loopw [13] (fun vk wr => ∃ (k : Nat) (x : VA) (sa sp : Value), vk = .int .i64 k ∧ Hid (k ≤ 6) ∧ Hid (ViwAt wr V x sa sp) ∧ Hid (Six x ∧ x.self = at_ ∧ x.A = 8 ∧ x.P = 8) ∧ Hid (WkS W wr L f D g ds2)) (fun vk _ => 6 - (intOf vk).toNat)
          case atStart => exact ⟨0, _, _, _, rfl, Lib.hid (by omega), HV6, Lib.hid ⟨⟨⟨by simp, by simp, by simp⟩, by simp⟩, rfl, rfl, rfl⟩, HW6⟩
          case round =>
            clear HV6 HW6
            obtain ⟨k, x, sa, sp, rfl, HK, HV, HX, HW⟩ := hrel
            have hk6 := HK.out
            obtain ⟨⟨ao5, al5, ac5, rfl⟩, po5, pl5, pc5, rfl⟩ := HV.out.s.slices
            by_cases hk : k < 6
            · have hki : (k : Int) < 6 := by omega
              have hwi : IntKind.i64.wrap (at_ - 1) = (i : Int) := by
                have := HAT.out
                simp only [IntKind.wrap, IntKind.bits, IntKind.signed]
                simp
                omega
              have cl : wr.cell? ⟨L, i, none⟩ = some (.int .u8 (f i)) := by
                have h := HW.out.lk.cell i
                match i, hi6 with
                | 0, _ => simpa using h
                | 1, _ => simpa using h
                | 2, _ => simpa using h
                | 3, _ => simpa using h
                | 4, _ => simpa using h
                | 5, _ => simpa using h
              have hi6i : (i : Int) < 6 := by omega
              have HJ := Lib.hid (join_ok x _ _ ((k : Int) + 1) wr HV.out.s)
              obtain ⟨⟨x0, x1, x2, x3, x4⟩, x5, x6, x7, x8, x9⟩ := HV.out.five
              obtain ⟨xs, xA, xP, xact, xpas⟩ := x
              unfold viwV at HJ
              simp only at HJ x0 x1 x2 x3 x4
              have HSX := Lib.hid (show Six (joinV ⟨xs, xA, xP, xact, xpas⟩ ((k : Int) + 1)) from six_join HX.out.1 ⟨by omega, by omega⟩)
              have HSE := Lib.hid (joinV_self ⟨xs, xA, xP, xact, xpas⟩ ((k : Int) + 1))
              obtain ⟨y, hy⟩ : ∃ y, y = joinV ⟨xs, xA, xP, xact, xpas⟩ ((k : Int) + 1) := ⟨_, rfl⟩
              rw [← hy] at HJ HSX HSE
              clear hy
              go_wp2_with fail
              · refine HJ.out.mono ?_
                rintro e w7 ⟨sa7, sp7, rfl, hs7, hn7⟩
                obtain ⟨⟨ao7, al7, ac7, rfl⟩, po7, pl7, pc7, rfl⟩ := hs7.slices
                have HK7 := Lib.hid (hn7.bk HV.out.bk)
                have HS7 := Lib.hid hs7
                have HW7 := Lib.hid (HW.out.new2 hn7)
                obtain ⟨ys, yA, yP, yact, ypas⟩ := y
                have hse := HSE.out
                simp only at hse
                obtain ⟨rfl, rfl, rfl⟩ := hse
                obtain ⟨⟨z0, z1, z2, z3, z4⟩, z5, z6, z7, z8, z9⟩ := (show Bk w7 V 30 #[.int .i64 ys, .int .i64 yA, .slice ao5 al5 ac5, .int .i64 yP, .slice po5 pl5 pc5] from HK7.out).five
                clear HJ hs7 hn7 x0 x1 x2 x3 x4 x5 x6 x7 x8 x9
                unfold viwV
                simp only
                go_upto_region 14 with fail
                obtain ⟨w8, hw8⟩ : ∃ w8, w8 = put5 w7 V ys yA (.slice ao7 al7 ac7) yP (.slice po7 pl7 pc7) := ⟨_, rfl⟩
                have HV8 := Lib.hid (show ViwAt w8 V ⟨ys, yA, yP, yact, ypas⟩ (.slice ao7 al7 ac7) (.slice po7 pl7 pc7) by rw [hw8]; exact viw_put HK7.out HS7.out rfl rfl rfl)
                have HW8 := Lib.hid (show WkS W w8 L f D g ds2 by rw [hw8]; exact HW7.out.put HK7.out HVG.out.1 (tch_put5 _ _ _ _ _ _ _) HVG.out.2)
                have HX8 := Lib.hid (show Six ⟨ys, yA, yP, yact, ypas⟩ ∧ ys = at_ ∧ yA = 8 ∧ yP = 8 from ⟨HSX.out, HX.out.2⟩)
                unfold put5 at hw8
                rw [← hw8]
                clear hw8 HK7 HS7 HW7 HX HV HW z0 z1 z2 z3 z4 z5 z6 z7 z8 z9
                go_wp2_with fail
                exact ⟨⟨k + 1, _, _, _, rfl, Lib.hid (by omega), HV8, HX8, HW8⟩, by simp [intOf]; omega⟩
              · exact ⟨⟨k + 1, _, _, _, rfl, Lib.hid (by omega), HV, HX, HW⟩, by simp [intOf]; omega⟩
            · have hki : ¬ (k : Int) < 6 := by omega
              have hnc := HN.out
              have HJ := Lib.hid (wjoin_ok x _ _ fr wk n 1 (.pointer (some ⟨D, 0, none⟩)) (some D) g ds2 wr HV.out.s HW.out.dp)
              have HG1 := Lib.hid (joinA_st x fr wk n 1 ds2)
              obtain ⟨⟨s, ds3⟩, hs⟩ : ∃ q, q = joinA x fr wk n 1 ds2 := ⟨_, rfl⟩
              rw [← hs] at HJ HG1
              have HGL := Lib.hid (show 0 < ds3.length → 0 < ds2.length from fun e => joinA_gl (x := x) (a := fr) (b := wk) (left := n) (know := 1) (ds := ds2) (by rw [← hs]; exact e))
              simp only at HJ HG1
              clear hs
              obtain ⟨⟨x0, x1, x2, x3, x4⟩, x5, x6, x7, x8, x9⟩ := HV.out.five
              obtain ⟨xs, xA, xP, xact, xpas⟩ := x
              unfold viwV at HJ
              simp only at HJ x0 x1 x2 x3 x4
              go_wp2_with fail
              refine HJ.out.mono ?_
              rintro e w7 ⟨rfl, hd7, hv7⟩
              have HW7 := Lib.hid (HW.out.vt hd7.out hv7.out)
              have HV7 := Lib.hid (HV.out.vt HW.out.dp hv7.out)
              obtain ⟨se, sn, sk⟩ := s
              obtain ⟨S, hS⟩ : ∃ S, S = w7.heap.size := ⟨_, rfl⟩
              obtain ⟨w8, hw8⟩ : ∃ w8, w8 = w7.alloc (.cells #[.bool se, .int .i64 sn, .bool sk] 67) := ⟨_, rfl⟩
              have hn8 : New w7 w8 := by rw [hw8]; exact (New.refl _).alloc _
              have HS8 := Lib.hid (show Bk w8 S 67 #[.bool se, .int .i64 sn, .bool sk] by rw [hw8, hS]; exact Bk.made _ _ _)
              have HW8 := Lib.hid (HW7.out.new2 hn8)
              have HV8 := Lib.hid (HV7.out.new hn8)
              have HSG := Lib.hid (show W.heap.size ≤ S ∧ (0 < ds3.length → S ≠ g) from ⟨by rw [hS]; exact HW7.out.new.size, fun h0 => by have := HW7.out.dr.glt h0; omega⟩)
              clear HJ hd7 hv7 hn8 HV HW HV7 HW7 x0 x1 x2 x3 x4 x5 x6 x7 x8 x9
              unfold stV
              simp only
              go_upto_if 69 with (fail)
              rw [← hw8, ← hS]
              clear hw8 hS
              go_cut [14] (fun vs wx => ∃ (s : StA) (ds4 : List Int), vs = .pointer (some ⟨S, 0, none⟩) ∧ Hid (StGood ⟨xs, xA, xP, xact, xpas⟩ fr wk n s) ∧ Hid (Bk wx S 67 #[.bool s.e, .int .i64 s.n, .bool s.k]) ∧ Hid (ViwAt wx V ⟨xs, xA, xP, xact, xpas⟩ (.slice ao5 al5 ac5) (.slice po5 pl5 pc5)) ∧ Hid (WkS W wx L f D g ds4))
              case first =>
                obtain ⟨⟨x0, x1, x2, x3, x4⟩, x5, x6, x7, x8, x9⟩ := HV8.out.five
                obtain ⟨⟨c0, c1, c2⟩, c3, c4, c5⟩ := HS8.out.three
                simp only at x0 x1 x2 x3 x4
                by_cases hk1 : kd = 1
                · have hk1i : ((kd : Int) == 1) = true := by simp [hk1]
                  have HM := Lib.hid (mix_ok ⟨xs, xA, xP, xact, xpas⟩ _ _ fr wk n (.pointer (some ⟨D, 0, none⟩)) (some D) g ds3 w8 HV8.out.s HW8.out.dp)
                  have HG2 := Lib.hid (stepA_st ⟨xs, xA, xP, xact, xpas⟩ fr wk n ds3)
                  obtain ⟨⟨s2, ds5⟩, hs⟩ : ∃ q, q = stepA ⟨xs, xA, xP, xact, xpas⟩ fr wk n ds3 := ⟨_, rfl⟩
                  rw [← hs] at HM HG2
                  have HGL2 := Lib.hid (show 0 < ds5.length → 0 < ds3.length from fun e => stepA_gl (x := ⟨xs, xA, xP, xact, xpas⟩) (a := fr) (b := wk) (left := n) (ds := ds3) (by rw [← hs]; exact e))
                  unfold viwV at HM
                  simp only at HM HG2
                  clear hs hk1
                  go_wp2_with fail
                  refine HM.out.mono ?_
                  rintro e w9 ⟨rfl, hd9, hv9⟩
                  have HW9 := Lib.hid (HW8.out.vt hd9.out hv9.out)
                  have HV9 := Lib.hid (HV8.out.vt HW8.out.dp hv9.out)
                  have hs9 := hv9.out.bk HS8.out (HW8.out.dp.ne HS8.out step_ne_draw)
                  have HS9 := Lib.hid hs9
                  clear c0 c1 c2 c3 c4 c5 x0 x1 x2 x3 x4 x5 x6 x7 x8 x9 hd9 hv9 hs9
                  obtain ⟨⟨c0, c1, c2⟩, c3, c4, c5⟩ := HS9.out.three
                  obtain ⟨te, tn, tk⟩ := s2
                  unfold stV
                  simp only
                  go_wp2_with fail
                  go_meet
                  refine ⟨⟨te, tn, tk⟩, ds5, rfl, HG2, ?_, ?_, ?_⟩
                  · exact Lib.hid (((HS9.out.store 0 _).store 1 _).store 2 _)
                  · have ht : Tch (· = S) w9 _ := (((Tch.refl (· = S) w9).setCell (p := ⟨S, 0, none⟩) (fun _ => rfl) (.bool te)).setCell (p := ⟨S, 1, none⟩) (fun _ => rfl) (.int .i64 tn)).setCell (p := ⟨S, 2, none⟩) (fun _ => rfl) (.bool tk)
                    have hni := not_int HS9.out step_ne_int
                    exact Lib.hid ⟨HV9.out.bk.tch ht (fun e => by
                      have h1 := HV9.out.bk
                      have h2 := HS9.out
                      unfold Bk at h1 h2
                      rw [e, h2] at h1
                      injection h1 with h1
                      injection h1 with _ h3
                      exact absurd h3 (by decide)), ⟨HV9.out.s.act.held ht.size fun b hb hi => ht.block b hb (fun e => hni (e ▸ hi)), HV9.out.s.pas.held ht.size fun b hb hi => ht.block b hb (fun e => hni (e ▸ hi)), HV9.out.s.good⟩⟩
                  · have ht : Tch (· = S) w9 _ := (((Tch.refl (· = S) w9).setCell (p := ⟨S, 0, none⟩) (fun _ => rfl) (.bool te)).setCell (p := ⟨S, 1, none⟩) (fun _ => rfl) (.int .i64 tn)).setCell (p := ⟨S, 2, none⟩) (fun _ => rfl) (.bool tk)
                    exact Lib.hid (HW9.out.puts HS9.out HSG.out.1 ht (fun h0 => HSG.out.2 (HGL2.out h0)))
                · have hk1i : ((kd : Int) == 1) = false := by simp; omega
                  clear hk1
                  go_wp2_with fail
                  go_meet
                  exact ⟨⟨se, sn, sk⟩, ds3, rfl, HG1, HS8, HV8, HW8⟩
              case rest =>
                clear HV8 HS8 HW8 HG1
                obtain ⟨⟨te, tn, tk⟩, ds4, rfl, HG, HS, HV, HW⟩ := hcut
                obtain ⟨wd, hwd⟩ : ∃ x, x = wc := ⟨_, rfl⟩
                subst hwd
                obtain ⟨⟨c0, c1, c2⟩, c3, c4, c5⟩ := HS.out.three
                simp only at c0 c1 c2
                cases te with
                | true =>
                  obtain ⟨hn0, hk0⟩ := HG.out.1 rfl
                  simp only at hn0 hk0
                  subst hn0 hk0
                  go_wp2_with fail
                  go_meet
                  exact ⟨n, _, rfl, HN, HW⟩
                | false =>
                  obtain ⟨hin, hn1, hn2, hn3⟩ := HG.out.2 rfl
                  simp only at hin hn1 hn2
                  have HIN := Lib.hid hin
                  have h15 := HX.out.1.2 tn hin
                  have hself : tn ≠ at_ := fun e => HX.out.1.1.1 (show xs ∈ xact by rw [show xs = at_ from HX.out.2.1, ← e]; exact hin)
                  have t1 : (tn == fr) = false := by simp [hn1]
                  have t2 : (tn == wk) = false := by simp [hn2]
                  have t3 : (tn == at_) = false := by simp [hself]
                  obtain ⟨⟨x0, x1, x2, x3, x4⟩, x5, x6, x7, x8, x9⟩ := HV.out.five
                  simp only at x0 x1 x2 x3 x4
                  have HH := Lib.hid (has_lay xA (.slice ao5 al5 ac5) xact tn wd HV.out.s.seta)
                  rw [dec_ hin] at HH
                  obtain ⟨i2, hi2⟩ : ∃ i2 : Nat, tn = 1 + (i2 : Int) := ⟨(tn - 1).toNat, by omega⟩
                  obtain ⟨n2, hn4⟩ : ∃ n2 : Nat, n = n2 + 1 := ⟨n - 1, by omega⟩
                  have HI2 := Lib.hid hi2
                  have HN4 := Lib.hid hn4
                  have h16 := Lib.hid h15
                  have hn3i : ¬ (n : Int) < 1 := by omega
                  have hn20 : (n : Int) < 20 := by omega
                  clear hin hn1 hn2 hn3 hself hi2 hn4 h15
                  go_wp2_with fail
                  refine HH.out.mono ?_
                  rintro e w9 ⟨rfl, hn9⟩
                  have HW9 := Lib.hid (HW.out.new2 hn9.out)
                  have HS9 := Lib.hid (hn9.out.bk HS.out)
                  clear HH hn9 c0 c1 c2 c3 c4 c5 x0 x1 x2 x3 x4 x5 x6 x7 x8 x9
                  obtain ⟨⟨c0, c1, c2⟩, c3, c4, c5⟩ := HS9.out.three
                  go_upto_region 25 with fail
                  go_quiet (fail)
                  have HW10 := Lib.hid (HW9.out.new2 ((New.refl _).drewN nq))
                  clear c0 c1 c2 c3 c4 c5 HW9 HS9
                  go_wp2_with fail
                  go_roundw
                  case rel => exact ⟨i2, n2, at_, ds4, by rw [HI2.out], rfl, by (have := HN4.out; first | (congr 1; omega) | omega), by (have := HN4.out; first | (congr 1; omega) | omega), Lib.hid (by have := h16.out; have := HI2.out; omega), Lib.hid (by have := HN4.out; omega), HW10⟩
                  case measure => have := HN4.out; simp [intOf]; omega
      case rest =>
        clear HW
        obtain ⟨n, ds2, rfl, HN, HW⟩ := hcut
        have hnc := HN.out
        have hcc : ¬ (cnt : Int) < (cnt : Int) - n := by omega
        go_wp2_with fail
        go_roundw
        case rel => exact ⟨kd + 1, _, rfl, Lib.hid (by omega), HW⟩
        case measure => simp [intOf]; omega
    · obtain rfl : kd = 2 := by omega
      have hk2i : ¬ ((2 : Nat) : Int) < 2 := by decide
      go_wp2_with fail
      go_ret
      exact ⟨rfl, HW.out.new.below⟩
end Go.Proofs.Ytckmleljcpljgaa
