/-
  ViewSane: the core.
-/
import Derived.Test.YtdhafagihfdolaaViwSpk
import Derived.Deep.RegionWith
set_option linter.unusedVariables false
set_option linter.unusedSimpArgs false
set_option maxRecDepth 100000
namespace Go.Proofs.Ytdhafagihfdolaa
open Go.RowKit Go.Lib Go.Sort Go.Shelf

theorem and7_i64 (x : Int) : 0 ≤ bits BinOp.and IntKind.i64 x 7 ∧ bits BinOp.and IntKind.i64 x 7 ≤ 7 := by
  have h : (BitVec.ofInt 64 x &&& BitVec.ofInt 64 7).toNat ≤ 7 := by
    rw [BitVec.toNat_and]
    exact Nat.le_trans Nat.and_le_right (by decide)
  obtain ⟨r, hr⟩ : ∃ r, r = (BitVec.ofInt 64 x &&& BitVec.ofInt 64 7).toNat := ⟨_, rfl⟩
  rw [← hr] at h
  have e : bits BinOp.and IntKind.i64 x 7 = IntKind.i64.wrap (r : Int) := by rw [hr]; rfl
  rw [e]
  simp only [IntKind.wrap, IntKind.bits, IntKind.signed]
  constructor <;> (simp; omega)
theorem and7_wrap (x : Int) : ∃ n : Int, IntKind.i64.wrap (1 + bits BinOp.and IntKind.i64 x 7) = n ∧ 1 ≤ n ∧ n ≤ 8 := by
  have := and7_i64 x
  refine ⟨1 + bits BinOp.and IntKind.i64 x 7, ?_, by omega, by omega⟩
  simp only [IntKind.wrap, IntKind.bits, IntKind.signed]
  simp
  omega
theorem addL_len (m : Nat) (ns : List Int) (n : Int) : (addL m ns n).length ≤ ns.length + 1 := by
  unfold addL
  split
  · rw [insL_length]; omega
  · omega
theorem addL_iff {m : Nat} {ns : List Int} {n x : Int} (h1 : 1 ≤ n ∧ n ≤ 65535) (h2 : ns.length < m) : x ∈ addL m ns n ↔ x = n ∨ x ∈ ns := by
  unfold addL
  by_cases h : n ∈ ns
  · rw [if_neg (fun e => e.1 h)]
    exact ⟨.inr, fun e => by rcases e with e | e; rw [e]; exact h; exact e⟩
  · rw [if_pos ⟨h, h1, h2⟩]
    exact insL_mem _ _ _
/-- An element of a slice of numbers. -/
theorem sli_get {w : World} {S : Nat → Prop} {ao : Option Addr} {n cap : Nat} {l : List Int} (h : Sl w S (.slice ao n cap) (ints l)) (j : Nat) (hj : j < l.length) :
    ∃ b off, ao = some ⟨b, off, none⟩ ∧ w.cell? ⟨b, off + j, none⟩ = some (.int .i64 (l.getD j 0)) := by
  obtain ⟨ao', cap', e, _, _, _, h4⟩ := slr_ints h
  injection e with e1 _ _
  subst e1
  obtain ⟨b, off, e, _, _, hc⟩ := h4 (by omega)
  exact ⟨b, off, e, hc j hj⟩
/-- Another set stored into the active nodes, the passive ones. -/
theorem viw_seta {w1 : World} {X : Nat} {x : VA} {sa sp ta : Value} {a : Int} {l : List Int} (k : Bk w1 X 30 (viwC x sa sp)) (hs : ViwS w1 x sa sp) (ht : Slr w1 ta (ints l)) (hg : Good x.A l) (e : a = x.A) : ViwAt ((w1.setCell ⟨X, 1, none⟩ (.int .i64 a)).setCell ⟨X, 2, none⟩ ta) X { x with act := l } ta sp := by
  subst e
  have hni := not_int k view_ne_int
  have htc : Tch (· = X) w1 ((w1.setCell ⟨X, 1, none⟩ (.int .i64 x.A)).setCell ⟨X, 2, none⟩ ta) := ((Tch.refl (· = X) w1).setCell (p := ⟨X, 1, none⟩) (fun _ => rfl) _).setCell (p := ⟨X, 2, none⟩) (fun _ => rfl) _
  exact ⟨(k.store 1 _).store 2 _, ⟨ht.held htc.size fun b hb hi => htc.block b hb (fun e => hni (e ▸ hi)), hs.pas.held htc.size fun b hb hi => htc.block b hb (fun e => hni (e ▸ hi)), ⟨hg, hs.good.pas⟩⟩⟩
theorem viw_setp {w1 : World} {X : Nat} {x : VA} {sa sp tp : Value} {p : Int} {l : List Int} (k : Bk w1 X 30 (viwC x sa sp)) (hs : ViwS w1 x sa sp) (ht : Slr w1 tp (ints l)) (hg : Good x.P l) (e : p = x.P) : ViwAt ((w1.setCell ⟨X, 3, none⟩ (.int .i64 p)).setCell ⟨X, 4, none⟩ tp) X { x with pas := l } sa tp := by
  subst e
  have hni := not_int k view_ne_int
  have htc : Tch (· = X) w1 ((w1.setCell ⟨X, 3, none⟩ (.int .i64 x.P)).setCell ⟨X, 4, none⟩ tp) := ((Tch.refl (· = X) w1).setCell (p := ⟨X, 3, none⟩) (fun _ => rfl) _).setCell (p := ⟨X, 4, none⟩) (fun _ => rfl) _
  exact ⟨(k.store 3 _).store 4 _, ⟨hs.act.held htc.size fun b hb hi => htc.block b hb (fun e => hni (e ▸ hi)), ht.held htc.size fun b hb hi => htc.block b hb (fun e => hni (e ▸ hi)), ⟨hs.good.act, hg⟩⟩⟩
theorem tch_two (w : World) (X i j : Nat) (a b : Value) : Tch (· = X) w ((w.setCell ⟨X, i, none⟩ a).setCell ⟨X, j, none⟩ b) := ((Tch.refl (· = X) w).setCell (p := ⟨X, i, none⟩) (fun _ => rfl) _).setCell (p := ⟨X, j, none⟩) (fun _ => rfl) _
set_option maxHeartbeats 2000000 in
theorem viewSane_core (v0 v1 : Value) (l0 l1 : List Int) (self : Int) (W : World) (h0 : Sl W (· < W.heap.size) v0 (l0.map (Value.int .i64))) (h1 : Sl W (· < W.heap.size) v1 (l1.map (Value.int .i64))) :
    Calls Try.prog 4 #[v0, v1, .int .i64 self] W fun e W' => e = .returned (.bool true) ∧ Below W.heap.size W W' := by
  have H0 := Lib.hid (show Sl W (· < W.heap.size) v0 (ints l0) from h0)
  have H1 := Lib.hid (show Sl W (· < W.heap.size) v1 (ints l1) from h1)
  clear h0 h1
  obtain ⟨ao0, cap0, rfl, _, _, _, _⟩ := slr_ints H0.out
  obtain ⟨ao1, cap1, rfl, _, _, _, _⟩ := slr_ints H1.out
  go_enter Try.func4, Try.ntmps4
  go_wp2_with fail
  refine (speaks09 W).mono ?_
  rintro e w1 ⟨rfl, hn1⟩
  have HN1 := hn1
  clear hn1
  go_wp2_with fail
  refine (vnew_ok 0 64 64 64 64 w1 (by omega) (by omega) (by omega) (by omega)).mono ?_
  rintro e w2 ⟨sa, sp, rfl, hs2, hn2⟩
  obtain ⟨⟨sao, sal, sac, rfl⟩, spo, spl, spc, rfl⟩ := hs2.slices
  obtain ⟨X, hX⟩ : ∃ X, X = w2.heap.size := ⟨_, rfl⟩
  obtain ⟨w3, hw3⟩ : ∃ w3, w3 = w2.alloc (.cells (viwC ⟨0, 64, 64, [], []⟩ (.slice sao sal sac) (.slice spo spl spc)) 30) := ⟨_, rfl⟩
  have HV := Lib.hid (show ViwAt w3 X ⟨0, 64, 64, [], []⟩ (.slice sao sal sac) (.slice spo spl spc) by rw [hw3, hX]; exact viw_made hs2)
  have HN := Lib.hid (show New W w3 by rw [hw3]; exact (HN1.out.then hn2).alloc _)
  have HZ := Lib.hid (show W.heap.size ≤ X by rw [hX]; exact (HN1.out.then hn2).size)
  unfold viwC at hw3
  simp only at hw3
  clear hs2 hn2 HN1
  unfold viwV
  simp only
  rw [show ((64 : Nat) : Int) = 64 from rfl]
  go_upto_region 4 with fail
  have hw3' : w3 = w2.alloc (.cells #[.int .i64 0, .int .i64 64, .slice sao sal sac, .int .i64 64, .slice spo spl spc] 30) := hw3
  rw [← hw3', ← hX]
  clear hw3 hw3' hX
  go_upto_block 0 with fail
  go_cut [9] (fun _ wx => ∃ (act : List Int) (ta tp : Value), Hid (act.length ≤ 20) ∧ Hid (ViwAt wx X ⟨0, 64, 64, act, []⟩ ta tp) ∧ Hid (New W wx))
  case first =>
   go_wp2_with fail
   go_loopw [9] (fun vi wr => ∃ (i : Nat) (act : List Int) (ta tp : Value), vi = .int .i64 i ∧ Hid (i ≤ l0.length ∧ i ≤ 20 ∧ act.length ≤ i) ∧ Hid (ViwAt wr X ⟨0, 64, 64, act, []⟩ ta tp) ∧ Hid (New W wr)) (fun vi _ => 20 - (intOf vi).toNat)
   case atStart => exact ⟨0, [], _, _, rfl, Lib.hid ⟨Nat.zero_le _, Nat.zero_le _, Nat.le_refl _⟩, HV, HN⟩
   case round =>
     clear HV HN
     obtain ⟨i, act, ta, tp, rfl, HI, HV, HN⟩ := hrel
     by_cases hc : i < l0.length ∧ i < 20
     · have hc1 : (i : Int) < l0.length := by omega
       have hc2 : (i : Int) < 20 := by omega
       obtain ⟨⟨ao, al, ac, rfl⟩, po, pl, pc, rfl⟩ := HV.out.s.slices
       obtain ⟨b, off, hao, cy⟩ := sli_get (H0.out.keep HN.out.size (fun b hb _ => HN.out.block b hb (by omega))) i hc.1
       subst hao
       obtain ⟨y, hy⟩ : ∃ y, y = l0.getD i 0 := ⟨_, rfl⟩
       rw [← hy] at cy
       obtain ⟨⟨x0, x1, x2, x3, x4⟩, x5, x6, x7, x8, x9⟩ := HV.out.five
       obtain ⟨n, hn, hn1, hn2⟩ := and7_wrap y
       have HNB := Lib.hid (show 1 ≤ n ∧ n ≤ 8 from ⟨hn1, hn2⟩)
       have KEEP : Hid (∀ z, New wr z → z.cell? ⟨X, 1, none⟩ = some (.int .i64 64) ∧ z.cell? ⟨X, 2, none⟩ = some (.slice ao al ac) ∧ z.cell? ⟨b, off + i, none⟩ = some (.int .i64 y)) := fun z hz => ⟨hz.cell x1, hz.cell x2, hz.cell cy⟩
       have HADD := Lib.hid (fun (z : World) (k : New wr z) => add_lay 64 (.slice ao al ac) act n z (HV.out.s.new k).seta)
       clear hy cy hn1 hn2 x0 x1 x2 x3 x4 x5 x6 x7 x8 x9
       go_upto_region 8 with fail
       obtain ⟨⟨x0, x1, x2, x3, x4⟩, x5, x6, x7, x8, x9⟩ := HV.out.five
       have cy := (KEEP.out _ (New.refl _)).2.2
       go_region_with (go_at_call 33; refine (HADD.out _ (by first | exact New.refl _ | exact (New.refl _).drew)).mono ?_; rintro e w5 ⟨ao5, al5, ac5, rfl, hs5, hn5⟩; have HS5 := Lib.hid hs5.out; have HN5 := Lib.hid (show New wr w5 from (New.refl _).drew.then hn5.out); clear hs5 hn5; obtain ⟨⟨z0, z1, z2, z3, z4⟩, z5, z6, z7, z8, z9⟩ := (HV.out.new HN5.out).five)
       go_goals
       all_goals
         obtain ⟨w6, hw6⟩ : ∃ w6, w6 = (w5.setCell ⟨X, 1, none⟩ (.int .i64 64)).setCell ⟨X, 2, none⟩ (.slice ao5 al5 ac5) := ⟨_, rfl⟩
         have HV6 := Lib.hid (show ViwAt w6 X ⟨0, 64, 64, addL 64 act n, []⟩ (.slice ao5 al5 ac5) (.slice po pl pc) by
           rw [hw6]
           exact viw_seta (x := ⟨0, 64, 64, act, []⟩) (HN5.out.bk HV.out.bk) (HV.out.s.new HN5.out) HS5.out (addL_good HV.out.s.good.act n) rfl)
         have HN6 := Lib.hid (show New W w6 by rw [hw6]; exact Tch.trans (HN.out.then HN5.out) (tch_two _ _ _ _ _ _) (fun b hb e => by rw [e]; exact HZ.out))
         have HL6 := Lib.hid (addL_len 64 act n)
         rw [← hw6]
         clear hw6 x0 x1 x2 x3 x4 x5 x6 x7 x8 x9 z0 z1 z2 z3 z4 z5 z6 z7 z8 z9 cy HV HN HN5 HS5
         go_wp2_with fail
         go_roundw
         case rel => exact ⟨i + 1, _, _, _, rfl, Lib.hid ⟨by omega, by omega, by have := HL6.out; have := HI.out; omega⟩, HV6, HN6⟩
         case measure => simp [intOf]; omega
     · have HI2 := Lib.hid (show act.length ≤ 20 from by have := HI.out; omega)
       go_wp2_with fail
       all_goals
         go_meet
         exact ⟨_, _, _, HI2, HV, HN⟩
  case rest =>
    clear HV HN
    obtain ⟨act, ta, tp, HA, HV, HN⟩ := hcut
    obtain ⟨wd, hwd⟩ : ∃ x, x = wc := ⟨_, rfl⟩
    subst hwd
    obtain ⟨⟨ao, al, ac, rfl⟩, po, pl, pc, rfl⟩ := HV.out.s.slices
    go_upto_block 2 with fail
    go_cut [8, 10] (fun vg _ wx => ∃ (pas : List Int) (tp : Value), vg = .bool (decide (∀ x ∈ pas, x ∉ act)) ∧ Hid (ViwAt wx X ⟨0, 64, 64, act, pas⟩ (.slice ao al ac) tp) ∧ Hid (New W wx))
    case first =>
      go_wp2_with fail
      go_loopw [8, 10] (fun vg vi wr => ∃ (i : Nat) (pas : List Int) (tp : Value), vi = .int .i64 i ∧ vg = .bool (decide (∀ x ∈ pas, x ∉ act)) ∧ Hid (i ≤ l1.length ∧ i ≤ 20 ∧ pas.length ≤ i) ∧ Hid (ViwAt wr X ⟨0, 64, 64, act, pas⟩ (.slice ao al ac) tp) ∧ Hid (New W wr)) (fun _ vi _ => 20 - (intOf vi).toNat)
      case atStart => exact ⟨0, [], _, rfl, by rw [dec_ (by simp)], Lib.hid ⟨Nat.zero_le _, Nat.zero_le _, Nat.le_refl _⟩, HV, HN⟩
      case round =>
        clear HV HN
        obtain ⟨i, pas, tp, rfl, rfl, HI, HV, HN⟩ := hrel
        obtain ⟨good, hgood⟩ : ∃ good, good = decide (∀ x ∈ pas, x ∉ act) := ⟨_, rfl⟩
        rw [← hgood]
        have HG := Lib.hid hgood
        clear hgood
        by_cases hc : i < l1.length ∧ i < 20
        · have hc1 : (i : Int) < l1.length := by omega
          have hc2 : (i : Int) < 20 := by omega
          obtain ⟨_, po2, pl2, pc2, rfl⟩ := HV.out.s.slices
          obtain ⟨b, off, hao, cy⟩ := sli_get (H1.out.keep HN.out.size (fun b hb _ => HN.out.block b hb (by omega))) i hc.1
          subst hao
          obtain ⟨y, hy⟩ : ∃ y, y = l1.getD i 0 := ⟨_, rfl⟩
          rw [← hy] at cy
          obtain ⟨⟨x0, x1, x2, x3, x4⟩, x5, x6, x7, x8, x9⟩ := HV.out.five
          obtain ⟨n, hn, hn1, hn2⟩ := and7_wrap y
          have HNB := Lib.hid (show 1 ≤ n ∧ n ≤ 8 from ⟨hn1, hn2⟩)
          have hadd := add_lay 64 (.slice po2 pl2 pc2) pas n wr HV.out.s.setp
          clear hy hn1 hn2
          go_wp2_with fail
          refine hadd.mono ?_
          rintro e w5 ⟨ao5, al5, ac5, rfl, hs5, hn5⟩
          have HS5 := Lib.hid hs5.out
          have HN5 := Lib.hid hn5.out
          clear hs5 hn5 hadd cy x0 x1 x2 x3 x4 x5 x6 x7 x8 x9
          obtain ⟨⟨x0, x1, x2, x3, x4⟩, x5, x6, x7, x8, x9⟩ := (HV.out.new HN5.out).five
          have HME := Lib.hid (fun x => addL_iff (m := 64) (ns := pas) (n := n) (x := x) ⟨by have := HNB.out; omega, by have := HNB.out; omega⟩ (by have := HI.out; omega))
          have HL6 := Lib.hid (addL_len 64 pas n)
          go_upto_region 14 with fail
          obtain ⟨w6, hw6⟩ : ∃ w6, w6 = (w5.setCell ⟨X, 3, none⟩ (.int .i64 64)).setCell ⟨X, 4, none⟩ (.slice ao5 al5 ac5) := ⟨_, rfl⟩
          have HV6 := Lib.hid (show ViwAt w6 X ⟨0, 64, 64, act, addL 64 pas n⟩ (.slice ao al ac) (.slice ao5 al5 ac5) by
            rw [hw6]
            exact viw_setp (x := ⟨0, 64, 64, act, pas⟩) (HN5.out.bk HV.out.bk) (HV.out.s.new HN5.out) HS5.out (addL_good HV.out.s.good.pas n) rfl)
          have HN6 := Lib.hid (show New W w6 by rw [hw6]; exact Tch.trans (HN.out.then HN5.out) (tch_two _ _ _ _ _ _) (fun b hb e => by rw [e]; exact HZ.out))
          rw [← hw6]
          clear hw6 x0 x1 x2 x3 x4 x5 x6 x7 x8 x9 HV HN HN5 HS5
          obtain ⟨⟨x0, x1, x2, x3, x4⟩, x5, x6, x7, x8, x9⟩ := HV6.out.five
          have hhas := has_lay 64 (.slice ao al ac) act n w6 HV6.out.s.seta
          cases good with
          | false =>
            have HE := Lib.hid (show decide (∀ x ∈ addL 64 pas n, x ∉ act) = false from decn_ (fun h => of_decide_eq_false HG.out.symm (fun x hx => h x ((HME.out x).2 (.inr hx)))))
            clear hhas
            go_wp2_with fail
            go_roundw
            case rel => exact ⟨i + 1, _, _, rfl, by rw [HE.out], Lib.hid ⟨by omega, by omega, by have := HL6.out; have := HI.out; omega⟩, HV6, HN6⟩
            case measure => simp [intOf]; omega
          | true =>
            have hall := of_decide_eq_true HG.out.symm
            by_cases hin : n ∈ act
            · rw [dec_ hin] at hhas
              have HE := Lib.hid (show decide (∀ x ∈ addL 64 pas n, x ∉ act) = false from decn_ (fun h => h n ((HME.out n).2 (.inl rfl)) hin))
              clear hin hall
              go_wp2_with fail
              refine hhas.mono ?_
              rintro e w7 ⟨rfl, hn7⟩
              have HV7 := Lib.hid (HV6.out.new hn7.out)
              have HN7 := Lib.hid (HN6.out.then hn7.out)
              clear hn7 hhas
              go_wp2_with fail
              go_roundw
              case rel => exact ⟨i + 1, _, _, rfl, by rw [HE.out], Lib.hid ⟨by omega, by omega, by have := HL6.out; have := HI.out; omega⟩, HV7, HN7⟩
              case measure => simp [intOf]; omega
            · rw [decn_ hin] at hhas
              have HE := Lib.hid (show decide (∀ x ∈ addL 64 pas n, x ∉ act) = true from dec_ (fun x hx => by
                rcases (HME.out x).1 hx with e | e
                · rw [e]; exact hin
                · exact hall x e))
              clear hin hall
              go_wp2_with fail
              refine hhas.mono ?_
              rintro e w7 ⟨rfl, hn7⟩
              have HV7 := Lib.hid (HV6.out.new hn7.out)
              have HN7 := Lib.hid (HN6.out.then hn7.out)
              clear hn7 hhas
              go_wp2_with fail
              go_roundw
              case rel => exact ⟨i + 1, _, _, rfl, by rw [HE.out], Lib.hid ⟨by omega, by omega, by have := HL6.out; have := HI.out; omega⟩, HV7, HN7⟩
              case measure => simp [intOf]; omega
        · go_wp2_with fail
          all_goals
            go_meet
            exact ⟨_, _, by rw [HG.out], HV, HN⟩
    case rest =>
      clear HV HN
      obtain ⟨pas, tp, rfl, HV, HN⟩ := hcut
      obtain ⟨we, hwe⟩ : ∃ x, x = wc := ⟨_, rfl⟩
      subst hwe
      obtain ⟨_, po2, pl2, pc2, rfl⟩ := HV.out.s.slices
      obtain ⟨good, hgood⟩ : ∃ good, good = decide (∀ x ∈ pas, x ∉ act) := ⟨_, rfl⟩
      rw [← hgood]
      have HG := Lib.hid hgood
      obtain ⟨n, hn, hn1, hn2⟩ := and7_wrap self
      have HK := Lib.hid HV.out.bk
      obtain ⟨⟨x0, x1, x2, x3, x4⟩, x5, x6, x7, x8, x9⟩ := HV.out.five
      clear hgood hn1 hn2
      go_upto_region 16 with fail
      obtain ⟨w6, hw6⟩ : ∃ w6, w6 = we.setCell ⟨X, 0, none⟩ (.int .i64 n) := ⟨_, rfl⟩
      have HV6 := Lib.hid (show ViwAt w6 X ⟨n, 64, 64, act, pas⟩ (.slice ao al ac) (.slice po2 pl2 pc2) by
        rw [hw6]
        have hni := not_int HV.out.bk view_ne_int
        have htc : Tch (· = X) we (we.setCell ⟨X, 0, none⟩ (.int .i64 n)) := (Tch.refl (· = X) we).setCell (p := ⟨X, 0, none⟩) (fun _ => rfl) _
        exact ⟨HV.out.bk.store 0 _, ⟨HV.out.s.act.held htc.size fun b hb hi => htc.block b hb (fun e => hni (e ▸ hi)), HV.out.s.pas.held htc.size fun b hb hi => htc.block b hb (fun e => hni (e ▸ hi)), ⟨HV.out.s.good.act, HV.out.s.good.pas⟩⟩⟩)
      have HN6 := Lib.hid (show New W w6 by rw [hw6]; exact Tch.trans HN.out ((Tch.refl (· = X) we).setCell (p := ⟨X, 0, none⟩) (fun _ => rfl) _) (fun b hb e => by rw [e]; exact HZ.out))
      rw [← hw6]
      clear hw6 x0 x1 x2 x3 x4 x5 x6 x7 x8 x9 HV HN HK
      obtain ⟨g2, hg2⟩ : ∃ g2, g2 = decide (VA.Sane ⟨n, 64, 64, act, pas⟩) := ⟨_, rfl⟩
      have HG2 := Lib.hid hg2
      clear hg2
      go_cut [8] (fun vg wx => vg = .bool g2 ∧ Hid (New w6 wx))
      case first =>
        obtain ⟨⟨x0, x1, x2, x3, x4⟩, x5, x6, x7, x8, x9⟩ := HV6.out.five
        cases good with
        | false =>
          have HE := Lib.hid (show g2 = false from HG2.out.trans (decn_ (fun h => of_decide_eq_false HG.out.symm (fun x hx e => h.2.2 x e hx))))
          go_wp2_with fail
          go_meet
          exact ⟨by rw [HE.out], New.refl _⟩
        | true =>
          have hall := of_decide_eq_true HG.out.symm
          have hha := has_lay 64 (.slice ao al ac) act n w6 HV6.out.s.seta
          by_cases h1 : n ∈ act
          · have HE := Lib.hid (show g2 = false from HG2.out.trans (decn_ (fun h => h.1 h1)))
            rw [dec_ h1] at hha
            clear h1 hall
            go_wp2_with fail
            refine hha.mono ?_
            rintro e w7 ⟨rfl, hn7⟩
            go_wp2_with fail
            go_meet
            exact ⟨by rw [HE.out], hn7⟩
          · rw [decn_ h1] at hha
            by_cases h2 : n ∈ pas
            · have HE := Lib.hid (show g2 = false from HG2.out.trans (decn_ (fun h => h.2.1 h2)))
              have HT := Lib.hid (dec_ h2)
              clear h1 h2 hall
              go_wp2_with fail
              refine hha.mono ?_
              rintro e w7 ⟨rfl, hn7⟩
              have hhp := has_lay 64 (.slice po2 pl2 pc2) pas n w7 (HV6.out.new hn7.out).s.setp
              rw [HT.out] at hhp
              clear x0 x1 x2 x3 x4 x5 x6 x7 x8 x9
              obtain ⟨⟨x0, x1, x2, x3, x4⟩, x5, x6, x7, x8, x9⟩ := (HV6.out.new hn7.out).five
              go_wp2_with fail
              refine hhp.mono ?_
              rintro e w8 ⟨rfl, hn8⟩
              go_wp2_with fail
              go_meet
              exact ⟨by rw [HE.out], hn7.out.then hn8.out⟩
            · have HE := Lib.hid (show g2 = true from HG2.out.trans (dec_ ⟨h1, h2, fun x hx e => hall x e hx⟩))
              have HT := Lib.hid (decn_ h2)
              clear h1 h2 hall
              go_wp2_with fail
              refine hha.mono ?_
              rintro e w7 ⟨rfl, hn7⟩
              have hhp := has_lay 64 (.slice po2 pl2 pc2) pas n w7 (HV6.out.new hn7.out).s.setp
              rw [HT.out] at hhp
              clear x0 x1 x2 x3 x4 x5 x6 x7 x8 x9
              obtain ⟨⟨x0, x1, x2, x3, x4⟩, x5, x6, x7, x8, x9⟩ := (HV6.out.new hn7.out).five
              go_wp2_with fail
              refine hhp.mono ?_
              rintro e w8 ⟨rfl, hn8⟩
              go_wp2_with fail
              go_meet
              exact ⟨by rw [HE.out], hn7.out.then hn8.out⟩
      case rest =>
        obtain ⟨rfl, hnc⟩ := hcut
        obtain ⟨wf, hwf⟩ : ∃ x, x = wc := ⟨_, rfl⟩
        subst hwf
        have HVF := Lib.hid (HV6.out.new hnc.out)
        have HNF := Lib.hid (HN6.out.then hnc.out)
        have hsn := sane_ok _ _ _ wf HVF.out.s
        rw [← HG2.out] at hsn
        unfold viwV at hsn
        simp only at hsn
        obtain ⟨⟨x0, x1, x2, x3, x4⟩, x5, x6, x7, x8, x9⟩ := HVF.out.five
        clear HV6 HN6 hnc
        go_wp2_with fail
        refine hsn.mono ?_
        rintro e wg ⟨rfl, hng⟩
        have HNG := Lib.hid (HNF.out.then hng.out)
        go_wp2_with fail
        go_ret
        exact ⟨by cases g2 <;> rfl, HNG.out.below⟩
end Go.Proofs.Ytdhafagihfdolaa
