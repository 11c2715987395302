/-
  PackReads: the acts by definition; the closure that Read runs.
-/
import Derived.Test.YtgnpnlelkkkmeaaPackLaw
import Derived.Deep.CutBlock
import Derived.Deep.DeepCutAuto
import Derived.Deep.RegionWith
set_option linter.unusedVariables false
namespace Go.Proofs.Ytgnpnlelkkkmeaa
open Go.RowKit

/-- Get: the number of these bytes. -/
theorem get_is (l : List UInt8) (w : World) (hl : l.length ≤ 8) :
    Calls Try.prog 24 #[.string (str l)] w fun e w' => e = .returned (.int .u64 (beV l)) ∧ w = w' := by
  have HSZ := Lib.hid (str_size l)
  have hlt : ∀ k, k < 8 → beV (l.take k) < 72057594037927936 := by
    intro k hk
    have h1 := beV_lt (l.take k)
    have h2 : (256 : Nat) ^ (l.take k).length ≤ 256 ^ 7 := Nat.pow_le_pow_right (by omega) (by rw [List.length_take]; omega)
    have h3 : (256 : Nat) ^ 7 = 72057594037927936 := by decide
    omega
  have HLT := Lib.hid hlt
  clear hlt
  go_enter Try.func24, Try.ntmps24
  go_wp2_with fail
  go_loop [3, 4] (fun vn vi => ∃ k : Nat, k ≤ l.length ∧ vi = .int .i64 k ∧ vn = .int .u64 (beV (l.take k))) (fun _ vi => l.length - (intOf vi).toNat)
  case atStart => exact ⟨0, by omega, rfl, by simp [beV]⟩
  case round =>
    obtain ⟨k, hk, rfl, rfl⟩ := hrel
    by_cases hlt : k < l.length
    · have hks : k < (str l).size := by rw [HSZ.out]; exact hlt
      obtain ⟨m, hm⟩ : ∃ m, m = beV (l.take k) := ⟨_, rfl⟩
      rw [← hm]
      have hmb : m < 72057594037927936 := by rw [hm]; exact HLT.out k (by omega)
      have HM := Lib.hid hm
      clear hm
      go_wp2_with fail
      go_roundw
      case rel =>
        refine ⟨k + 1, by omega, by go_num, ?_⟩
        have hu : ((str l).data[k]'hks).toNat < 256 := UInt8.toNat_lt _
        rw [List.take_add_one, List.getElem?_eq_getElem hlt, Option.toList_some, beV_snoc, ← HM.out]
        have e1 : IntKind.u64.wrap (((str l).data[k]'hks).toNat : Int) = (((str l).data[k]'hks).toNat : Int) := IntWalk.u64_in _ (by omega)
        have e2 : ((str l).data[k]'hks) = l[k] := rfl
        show Value.int .u64 (IntKind.u64.wrap (256 * (m : Int) + IntKind.u64.wrap (((str l).data[k]'hks).toNat : Int))) = _
        rw [e1, IntWalk.u64_in _ (by omega), e2]
        rfl
      case measure => simp [intOf]; omega
    · obtain rfl : k = l.length := by omega
      have hks : ¬ l.length < (str l).size := by rw [HSZ.out]; omega
      go_wp2_with fail
      go_ret
      refine ⟨?_, rfl⟩
      show Ending.returned (.int .u64 _) = _
      simp

/-- What these acts read of these bytes: the texts, what is wrong (0: nothing), and what is left. -/
def RdGo : List Int → List UInt8 → List (List UInt8) → Nat → List UInt8 → Prop
  | [], r, ws, e, rF => ws = [] ∧ e = 0 ∧ rF = r
  | a :: l, r, ws, e, rF =>
    (a < 1 ∧ ws = [] ∧ e = 11 ∧ rF = r) ∨
    ((1 ≤ a ∧ a < 9) ∧ (r.length : Int) < a ∧ ws = [] ∧ e = 2 ∧ rF = r) ∨
    (∃ (n : Nat) (ws' : List (List UInt8)), a = n ∧ (1 ≤ n ∧ n < 9) ∧ n ≤ r.length ∧ ws = r.take n :: ws' ∧ RdGo l (r.drop n) ws' e rF) ∨
    (a = 9 ∧ r = [] ∧ ws = [] ∧ e = 2 ∧ rF = r) ∨
    (a = 9 ∧ ∃ b r1, r = b :: r1 ∧ r1.length < b.toNat ∧ ws = [] ∧ e = 2 ∧ rF = r) ∨
    (a = 9 ∧ ∃ b r1 ws', r = b :: r1 ∧ b.toNat ≤ r1.length ∧ ws = r1.take b.toNat :: ws' ∧ RdGo l (r1.drop b.toNat) ws' e rF) ∨
    (10 ≤ a ∧ (r.length : Int) < a - 10 ∧ ws = [] ∧ e = 2 ∧ rF = r) ∨
    (∃ (n : Nat) (ws' : List (List UInt8)), a = (n : Int) + 10 ∧ n ≤ r.length ∧ ws = r.take n :: ws' ∧ RdGo l (r.drop n) ws' e rF)

def intsV (xs : List Int) : List Value := xs.map (Value.int .i64)
def strs (ws : List (List UInt8)) : List Value := ws.map fun t => .string (str t)

/-- The blocks that the closure writes. -/
def RdT (W SB NB : Nat) (b : Nat) : Prop := b = W ∨ b = SB ∨ b = NB

set_option maxHeartbeats 4000000 in
theorem reads1 (W LB SB NB WB RB : Nat) (zs : List Int) (xs rF : List UInt8) (ws : List (List UInt8)) (er : Nat) (ao aw : Option Addr) (cap capw : Nat) (w : World)
    (h : RdIs w W xs) (hL : Bk w LB 44 #[.slice ao zs.length cap]) (hl : Sl w (fun b => ¬ RdT W SB NB b) (.slice ao zs.length cap) (intsV zs))
    (hs : Bk w SB 4 #[.bool true]) (hn : Bk w NB 3 #[.int .i64 0]) (hW : Bk w WB 45 #[.slice aw ws.length capw]) (hws : Sl w (fun b => ¬ RdT W SB NB b) (.slice aw ws.length capw) (strs ws))
    (hr : Bk w RB 9 #[.string (str rF)]) (hd : (LB ≠ W ∧ LB ≠ SB ∧ LB ≠ NB) ∧ (WB ≠ W ∧ WB ≠ SB ∧ WB ≠ NB) ∧ (RB ≠ W ∧ RB ≠ SB ∧ RB ≠ NB) ∧ W ≠ SB ∧ W ≠ NB ∧ SB ≠ NB)
    (hgo : RdGo zs xs ws er rF) (hzs : ∀ z ∈ zs, -9223372036854775808 ≤ z ∧ z ≤ 9223372036854775807) (hz12 : zs.length ≤ 12) (hw12 : ws.length ≤ 12) :
    Calls Try.prog 23 #[.pointer (some ⟨W, 0, none⟩), .pointer (some ⟨LB, 0, none⟩), .pointer (some ⟨SB, 0, none⟩), .pointer (some ⟨NB, 0, none⟩), .pointer (some ⟨WB, 0, none⟩), .pointer (some ⟨RB, 0, none⟩)] w
      (RFOut W (fun b => b = SB ∨ b = NB) (fun l w2 => er = 0 ∧ l = rF ∧ w2.cell? ⟨NB, 0, none⟩ = some (.int .i64 ws.length) ∧ w2.cell? ⟨SB, 0, none⟩ = some (.bool true))
        (fun en w2 => (en = er ∧ er ≠ 0) ∧ w2.cell? ⟨NB, 0, none⟩ = some (.int .i64 ws.length) ∧ w2.cell? ⟨SB, 0, none⟩ = some (.bool true)) (fun _ _ => False) w) := by
  have H := Lib.hid h
  have HL := Lib.hid hL
  have HLs := Lib.hid hl
  have HS := Lib.hid hs
  have HN := Lib.hid hn
  have HW := Lib.hid hW
  have HWs := Lib.hid hws
  have HR := Lib.hid hr
  have HD := Lib.hid hd
  have HG := Lib.hid hgo
  have HZ := Lib.hid hzs
  clear h hL hl hs hn hW hws hr hd hgo hzs
  go_enter Try.func23, Try.ntmps23
  go_wp2_with fail
  go_loopw [7, 8, 9] (fun vi x t wr => ∃ (k : Nat) (r : List UInt8), vi = .int .i64 k ∧ k ≤ zs.length ∧ k ≤ ws.length ∧ Hid (RdGo (zs.drop k) r (ws.drop k) er rF) ∧ Hid (RdIs wr W r) ∧ Hid (Bk wr NB 3 #[.int .i64 k]) ∧ Hid (Bk wr SB 4 #[.bool true]) ∧ Hid (Tch (RdT W SB NB) w wr)) (fun vi _ _ _ => zs.length - (intOf vi).toNat)
  case atStart => exact ⟨0, xs, rfl, by omega, by omega, by simpa [Hid] using HG, H, HN, HS, Tch.refl _ _⟩
  case round =>
    obtain ⟨k, r, rfl, hk, hkw, HG, HRd, HNr, HSr, HT⟩ := hrel
    obtain ⟨hd1, hd2, hd3, hd4, hd5, hd6⟩ := HD.out
    have cL := (HL.out.tch HT.out (by unfold RdT; omega)).cell 0
    have cW := (HW.out.tch HT.out (by unfold RdT; omega)).cell 0
    have cR := (HR.out.tch HT.out (by unfold RdT; omega)).cell 0
    have cN := HNr.out.cell 0
    have cS := HSr.out.cell 0
    have fN := HNr.out.frozen 0
    have fS := HSr.out.frozen 0
    simp at cL cW cR cN cS
    by_cases hlt : k < zs.length
    · obtain ⟨a, ha⟩ : ∃ a, a = zs[k] := ⟨_, rfl⟩
      have hdr : zs.drop k = a :: zs.drop (k + 1) := by rw [ha]; exact List.drop_eq_getElem_cons hlt
      have hab : -9223372036854775808 ≤ a ∧ a ≤ 9223372036854775807 := HZ.out a (by rw [ha]; exact List.getElem_mem _)
      obtain ⟨b, off, rfl, hcz⟩ : ∃ b off, ao = some ⟨b, off, none⟩ ∧ wr.cell? ⟨b, off + k, none⟩ = some (.int .i64 a) := by
        obtain ⟨ao', cap', e, _, _, _, hc⟩ := HLs.out.tch HT.out (fun b hb h => hb h)
        injection e with e1 e2 e3
        subst e1
        obtain ⟨b, off, e, _, _, hc⟩ := hc (by simp [intsV]; omega)
        exact ⟨b, off, e, by rw [hc k (by simp [intsV]; omega), ha]; simp [intsV]⟩
      have hg := HG.out
      rw [hdr] at hg
      clear hdr ha
      have bad : ∀ (en : Nat) (wb : World), er = en → en ≠ 0 → ws.drop k = [] → RdBad wb W en → Tch (· = W) wr wb →
          RFOut W (fun b => b = SB ∨ b = NB) (fun l w2 => er = 0 ∧ l = rF ∧ w2.cell? ⟨NB, 0, none⟩ = some (.int .i64 ws.length) ∧ w2.cell? ⟨SB, 0, none⟩ = some (.bool true))
            (fun en w2 => (en = er ∧ er ≠ 0) ∧ w2.cell? ⟨NB, 0, none⟩ = some (.int .i64 ws.length) ∧ w2.cell? ⟨SB, 0, none⟩ = some (.bool true)) (fun _ _ => False) w (.panicked [stopE (.pointer (some ⟨W, 0, none⟩)) en]) wb := by
        intro en wb h1 h2 h3 h4 h5
        have hk2 : (k : Int) = ws.length := by
          have := congrArg List.length h3
          simp at this
          omega
        have n2 := (HNr.out.tch h5 (by omega)).cell 0
        have s2 := (HSr.out.tch h5 (by omega)).cell 0
        simp at n2 s2
        rw [hk2] at n2
        exact ⟨HT.out.then (h5.more (fun b _ h => .inl h)), .inr (.inr (.inl ⟨en, en, by omega, rfl, h4, ⟨by omega, by omega⟩, n2, s2⟩))⟩
      have BAD := Lib.hid bad
      clear bad
      rcases hg with ⟨g1, g2, g3, g4⟩ | ⟨⟨g1, g1'⟩, gl, g2, g3, g4⟩ | ⟨n, ws', rfl, ⟨g1, g1'⟩, gl, g2, g3⟩ | ⟨rfl, rfl, g2, g3, g4⟩ | ⟨rfl, b1, r1, rfl, gl, g2, g3, g4⟩ | ⟨rfl, b1, r1, ws', rfl, gl, g2, g3⟩ | ⟨g1, gl, g2, g3, g4⟩ | ⟨n, ws', rfl, gl, g2, g3⟩
      · have K2 := Lib.hid g2
        have K3 := Lib.hid g3
        clear g2 g3 g4
        have g9 : a < 9 := by omega
        go_wp2_with fail
        refine (rnum_bad W r a _ HRd.out (by omega)).mono ?_
        rintro e w2 ⟨rfl, hb2, ht2⟩
        exact ⟨rfl, BAD.out 11 w2 K3.out (by decide) K2.out hb2 ht2⟩
      · have K2 := Lib.hid g2
        have K3 := Lib.hid g3
        clear g2 g3 g4
        have gx := Lib.hid (show 1 ≤ a ∧ a ≤ 8 by omega)
        have GL := Lib.hid gl
        clear gl
        go_wp2_with fail
        refine (rnum_no W r a _ HRd.out gx.out GL.out).mono ?_
        rintro e w2 ⟨rfl, hb2, ht2⟩
        exact ⟨rfl, BAD.out 2 w2 K3.out (by decide) K2.out hb2 ht2⟩
      · have hwk : k < ws.length := by
          have := congrArg List.length g2
          simp at this
          omega
        have hwk1 : ws[k]'hwk = r.take n := by
          have := List.drop_eq_getElem_cons hwk
          rw [g2] at this
          exact (List.cons.inj this).1.symm
        have hwk2 : ws.drop (k + 1) = ws' := by
          have := List.drop_eq_getElem_cons hwk
          rw [g2] at this
          exact (List.cons.inj this).2.symm
        rw [← hwk2] at g3
        have K3 := Lib.hid g3
        have KW := Lib.hid hwk1
        clear g2 g3 hwk1 hwk2
        have HTL := Lib.hid (show (r.take n).length ≤ 8 by rw [List.length_take]; omega)
        have g9 : (n : Int) < 9 := by omega
        go_wp2_with fail
        refine (rnum_ok W r n _ HRd.out (by omega) gl).mono ?_
        rintro e w2 ⟨rfl, hb2, ht2⟩
        have ht := HT.out.then (ht2.more (T := RdT W SB NB) (fun b _ h => .inl h))
        have kN := HNr.out.tch ht2 (by omega)
        have kS := HSr.out.tch ht2 (by omega)
        have cL2 := (HL.out.tch ht (by unfold RdT; omega)).cell 0
        have cW2 := (HW.out.tch ht (by unfold RdT; omega)).cell 0
        have cN2 := kN.cell 0
        have cS2 := kS.cell 0
        have fN2 := kN.frozen 0
        have fS2 := kS.frozen 0
        simp at cL2 cW2 cN2 cS2
        obtain ⟨b', off', rfl, hcw⟩ : ∃ b off, aw = some ⟨b, off, none⟩ ∧ w2.cell? ⟨b, off + k, none⟩ = some (.string (str (r.take n))) := by
          obtain ⟨ao', cap', e, _, _, _, hc⟩ := HWs.out.tch ht (fun b hb h => hb h)
          injection e with e1 e2 e3
          subst e1
          obtain ⟨b, off, e, _, _, hc⟩ := hc (by simp [strs]; omega)
          exact ⟨b, off, e, by rw [hc k (by simp [strs]; omega)]; simp only [strs, List.getElem_map, KW.out]⟩
        have HT2 := Lib.hid ht
        have KN := Lib.hid kN
        have KS := Lib.hid kS
        have HB2 := Lib.hid hb2
        clear ht ht2 kN kS hb2 cL cW cR cN cS fN fS
        go_wp2_with (go_at_call 24; refine (get_is (r.take n) _ HTL.out).mono ?_; rintro e w3 ⟨rfl, rfl⟩)
        go_roundw
        case rel =>
          refine ⟨k + 1, _, by go_num, by omega, by omega, K3.out, Bk.other (Bk.other HB2.out (p := ⟨SB, 0, none⟩) hd4 _) (p := ⟨NB, 0, none⟩) hd5 _, ?_, ?_, ?_⟩
          · have := (KN.out.other (p := ⟨SB, 0, none⟩) (Ne.symm hd6) (.bool true)).store 0 (.int .i64 ((k + 1 : Nat) : Int))
            exact (by simpa using this : Bk _ _ _ _)
          · have h1 : Bk (w2.setCell ⟨SB, 0, none⟩ (.bool true)) SB 4 #[.bool true] := by simpa using KS.out.store 0 (.bool true)
            exact h1.other (p := ⟨NB, 0, none⟩) hd6 _
          · exact (HT2.out.setCell (p := ⟨SB, 0, none⟩) (fun _ => .inr (.inl rfl)) _).setCell (p := ⟨NB, 0, none⟩) (fun _ => .inr (.inr rfl)) _
        case measure => simp [intOf]; omega
      · have K2 := Lib.hid g2
        have K3 := Lib.hid g3
        clear g2 g3 g4
        go_wp2_with fail
        refine (rtext_no1 W _ HRd.out).mono ?_
        rintro e w2 ⟨rfl, hb2, ht2⟩
        exact ⟨rfl, BAD.out 2 w2 K3.out (by decide) K2.out hb2 ht2⟩
      · have K2 := Lib.hid g2
        have K3 := Lib.hid g3
        clear g2 g3 g4
        have GL := Lib.hid gl
        clear gl
        go_wp2_with fail
        refine (rtext_no2 W b1 r1 _ HRd.out GL.out).mono ?_
        rintro e w2 ⟨rfl, hb2, ht2⟩
        exact ⟨rfl, BAD.out 2 w2 K3.out (by decide) K2.out hb2 ht2⟩
      · have hwk : k < ws.length := by
          have := congrArg List.length g2
          simp at this
          omega
        have hwk1 : ws[k]'hwk = r1.take b1.toNat := by
          have := List.drop_eq_getElem_cons hwk
          rw [g2] at this
          exact (List.cons.inj this).1.symm
        have hwk2 : ws.drop (k + 1) = ws' := by
          have := List.drop_eq_getElem_cons hwk
          rw [g2] at this
          exact (List.cons.inj this).2.symm
        rw [← hwk2] at g3
        have K3 := Lib.hid g3
        have KW := Lib.hid hwk1
        clear g2 g3 hwk1 hwk2
        have GL := Lib.hid gl
        clear gl
        go_wp2_with fail
        refine (rtext_ok W b1 r1 _ HRd.out GL.out).mono ?_
        rintro e w2 ⟨rfl, hb2, ht2⟩
        have ht := HT.out.then (ht2.more (T := RdT W SB NB) (fun b _ h => .inl h))
        have kN := HNr.out.tch ht2 (by omega)
        have kS := HSr.out.tch ht2 (by omega)
        have cL2 := (HL.out.tch ht (by unfold RdT; omega)).cell 0
        have cW2 := (HW.out.tch ht (by unfold RdT; omega)).cell 0
        have cN2 := kN.cell 0
        have cS2 := kS.cell 0
        have fN2 := kN.frozen 0
        have fS2 := kS.frozen 0
        simp at cL2 cW2 cN2 cS2
        obtain ⟨b', off', rfl, hcw⟩ : ∃ b off, aw = some ⟨b, off, none⟩ ∧ w2.cell? ⟨b, off + k, none⟩ = some (.string (str (r1.take b1.toNat))) := by
          obtain ⟨ao', cap', e, _, _, _, hc⟩ := HWs.out.tch ht (fun b hb h => hb h)
          injection e with e1 e2 e3
          subst e1
          obtain ⟨b, off, e, _, _, hc⟩ := hc (by simp [strs]; omega)
          exact ⟨b, off, e, by rw [hc k (by simp [strs]; omega)]; simp only [strs, List.getElem_map, KW.out]⟩
        have HT2 := Lib.hid ht
        have KN := Lib.hid kN
        have KS := Lib.hid kS
        have HB2 := Lib.hid hb2
        clear ht ht2 kN kS hb2 cL cW cR cN cS fN fS
        go_wp2_with fail
        go_roundw
        case rel =>
          refine ⟨k + 1, _, by go_num, by omega, by omega, K3.out, Bk.other (Bk.other HB2.out (p := ⟨SB, 0, none⟩) hd4 _) (p := ⟨NB, 0, none⟩) hd5 _, ?_, ?_, ?_⟩
          · have := (KN.out.other (p := ⟨SB, 0, none⟩) (Ne.symm hd6) (.bool true)).store 0 (.int .i64 ((k + 1 : Nat) : Int))
            exact (by simpa using this : Bk _ _ _ _)
          · have h1 : Bk (w2.setCell ⟨SB, 0, none⟩ (.bool true)) SB 4 #[.bool true] := by simpa using KS.out.store 0 (.bool true)
            exact h1.other (p := ⟨NB, 0, none⟩) hd6 _
          · exact (HT2.out.setCell (p := ⟨SB, 0, none⟩) (fun _ => .inr (.inl rfl)) _).setCell (p := ⟨NB, 0, none⟩) (fun _ => .inr (.inr rfl)) _
        case measure => simp [intOf]; omega
      · have K2 := Lib.hid g2
        have K3 := Lib.hid g3
        clear g2 g3 g4
        have g9 : ¬ a < 9 := by omega
        have g10 : (a == 9) = false := bne_ (by omega)
        have g11 : IntKind.i64.wrap (a - 10) = a - 10 := IntWalk.i64_in _ (by have := hab; omega)
        have GL := Lib.hid gl
        clear gl
        go_wp2_with fail
        refine (rraw_no W r (a - 10) _ HRd.out GL.out).mono ?_
        rintro e w2 ⟨rfl, hb2, ht2⟩
        exact ⟨rfl, BAD.out 2 w2 K3.out (by decide) K2.out hb2 ht2⟩
      · have hwk : k < ws.length := by
          have := congrArg List.length g2
          simp at this
          omega
        have hwk1 : ws[k]'hwk = r.take n := by
          have := List.drop_eq_getElem_cons hwk
          rw [g2] at this
          exact (List.cons.inj this).1.symm
        have hwk2 : ws.drop (k + 1) = ws' := by
          have := List.drop_eq_getElem_cons hwk
          rw [g2] at this
          exact (List.cons.inj this).2.symm
        rw [← hwk2] at g3
        have K3 := Lib.hid g3
        have KW := Lib.hid hwk1
        clear g2 g3 hwk1 hwk2
        have g9 : ¬ (n : Int) + 10 < 9 := by omega
        have g10 : ((n : Int) + 10 == 9) = false := bne_ (by omega)
        have g11 : IntKind.i64.wrap ((n : Int) + 10 - 10) = n := by rw [IntWalk.i64_in _ (by omega)]; omega
        have GL := Lib.hid gl
        clear gl
        go_wp2_with fail
        refine (rraw_ok W r n _ HRd.out GL.out).mono ?_
        rintro e w2 ⟨rfl, hb2, ht2⟩
        have ht := HT.out.then (ht2.more (T := RdT W SB NB) (fun b _ h => .inl h))
        have kN := HNr.out.tch ht2 (by omega)
        have kS := HSr.out.tch ht2 (by omega)
        have cL2 := (HL.out.tch ht (by unfold RdT; omega)).cell 0
        have cW2 := (HW.out.tch ht (by unfold RdT; omega)).cell 0
        have cN2 := kN.cell 0
        have cS2 := kS.cell 0
        have fN2 := kN.frozen 0
        have fS2 := kS.frozen 0
        simp at cL2 cW2 cN2 cS2
        obtain ⟨b', off', rfl, hcw⟩ : ∃ b off, aw = some ⟨b, off, none⟩ ∧ w2.cell? ⟨b, off + k, none⟩ = some (.string (str (r.take n))) := by
          obtain ⟨ao', cap', e, _, _, _, hc⟩ := HWs.out.tch ht (fun b hb h => hb h)
          injection e with e1 e2 e3
          subst e1
          obtain ⟨b, off, e, _, _, hc⟩ := hc (by simp [strs]; omega)
          exact ⟨b, off, e, by rw [hc k (by simp [strs]; omega)]; simp only [strs, List.getElem_map, KW.out]⟩
        have HT2 := Lib.hid ht
        have KN := Lib.hid kN
        have KS := Lib.hid kS
        have HB2 := Lib.hid hb2
        clear ht ht2 kN kS hb2 cL cW cR cN cS fN fS
        go_wp2_with fail
        go_roundw
        case rel =>
          refine ⟨k + 1, _, by go_num, by omega, by omega, K3.out, Bk.other (Bk.other HB2.out (p := ⟨SB, 0, none⟩) hd4 _) (p := ⟨NB, 0, none⟩) hd5 _, ?_, ?_, ?_⟩
          · have := (KN.out.other (p := ⟨SB, 0, none⟩) (Ne.symm hd6) (.bool true)).store 0 (.int .i64 ((k + 1 : Nat) : Int))
            exact (by simpa using this : Bk _ _ _ _)
          · have h1 : Bk (w2.setCell ⟨SB, 0, none⟩ (.bool true)) SB 4 #[.bool true] := by simpa using KS.out.store 0 (.bool true)
            exact h1.other (p := ⟨NB, 0, none⟩) hd6 _
          · exact (HT2.out.setCell (p := ⟨SB, 0, none⟩) (fun _ => .inr (.inl rfl)) _).setCell (p := ⟨NB, 0, none⟩) (fun _ => .inr (.inr rfl)) _
        case measure => simp [intOf]; omega
    · obtain rfl : k = zs.length := by omega
      have hg := HG.out
      rw [List.drop_of_length_le (Nat.le_refl _)] at hg
      obtain ⟨g1, g2, g3⟩ := hg
      have hkw' : zs.length = ws.length := by
        have := congrArg List.length g1
        simp at this
        omega
      have HE := Lib.hid g2
      have HF := Lib.hid g3
      have HKW := Lib.hid hkw'
      clear g1 g2 g3 hkw'
      rw [HF.out] at cR
      have HSZ := Lib.hid (str_size r)
      have hrd : RdIs wr.drew W r := HRd.out
      have HRdD := Lib.hid hrd
      clear hrd
      have heq : ((r.length : Int) == ((str r).size : Int)) = true := beq_ (by rw [HSZ.out])
      go_wp2_with fail
      go_region_with (go_at_call 25; refine (left_rd W r wr.drew HRdD.out).mono ?_; rintro e w2 ⟨rfl, rfl⟩)
      all_goals
        go_wp2_with fail
        go_end0
        have k1 : Tch (RdT W SB NB) w (wr.setCell ⟨SB, 0, none⟩ (.bool true)) := HT.out.setCell (p := ⟨SB, 0, none⟩) (fun _ => .inr (.inl rfl)) _
        refine ⟨k1.drew, .inl ⟨r, rfl, Bk.other HRd.out (p := ⟨SB, 0, none⟩) hd4 _, HE.out, HF.out.symm, ?_, ?_⟩⟩
        · show (wr.setCell ⟨SB, 0, none⟩ (.bool true)).cell? _ = _
          have := (HNr.out.other (p := ⟨SB, 0, none⟩) (Ne.symm hd6) (.bool true)).cell 0
          rw [HKW.out] at this
          simpa using this
        · show (wr.setCell ⟨SB, 0, none⟩ (.bool true)).cell? _ = _
          have := (HSr.out.store 0 (.bool true)).cell 0
          simpa using this
end Go.Proofs.Ytgnpnlelkkkmeaa
