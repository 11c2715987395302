/-
  PackWrites: the closure that Write runs.
-/
import Derived.Test.YtgnpnlelkkkmeaaWrites
set_option linter.unusedVariables false
namespace Go.Proofs.Ytgnpnlelkkkmeaa
open Go.RowKit

/-- The bytes of a part. -/
def PtIs (p : Pt) (t : List UInt8) : Prop :=
  (p.what % 4 = 0 ∧ ∃ n : Nat, p.size = n ∧ (1 ≤ n ∧ n ≤ 8) ∧ p.num < 256 ^ n ∧ t = beL n p.num) ∨
  (p.what % 4 = 1 ∧ p.text.size ≤ 255 ∧ t = UInt8.ofNat p.text.size :: p.text.data.toList) ∨
  (p.what % 4 = 2 ∧ t = p.text.data.toList)
/-- A part that ends the Write. -/
def PtBad (p : Pt) (er : Nat) : Prop :=
  (p.what % 4 = 0 ∧ ¬ (1 ≤ p.size ∧ p.size ≤ 8) ∧ er = 11) ∨
  (p.what % 4 = 0 ∧ ∃ n : Nat, p.size = n ∧ (1 ≤ n ∧ n ≤ 8) ∧ 256 ^ n ≤ p.num ∧ er = 11) ∨
  (p.what % 4 = 1 ∧ 255 < p.text.size ∧ er = 3) ∨
  (p.what % 4 = 3 ∧ (1 ≤ p.size ∧ p.size ≤ 16) ∧ (er : Int) = p.size) ∨
  (p.what % 4 = 3 ∧ ¬ (1 ≤ p.size ∧ p.size ≤ 16) ∧ er = 4)
/-- What these parts write: the bytes up to the error, the error (0: none), and how many parts went well. -/
def WrGo : List Pt → List UInt8 → Nat → Nat → Prop
  | [], bs, er, k => bs = [] ∧ er = 0 ∧ k = 0
  | p :: l, bs, er, k => (∃ t bs' k', PtIs p t ∧ bs = t ++ bs' ∧ k = k' + 1 ∧ WrGo l bs' er k') ∨ (PtBad p er ∧ bs = [] ∧ k = 0)

/-- How the closure ends. -/
def W1Out (W KB n : Nat) (bs : List UInt8) (er k : Nat) (w : World) : Ending → World → Prop :=
  WFOut W (fun b => b = KB) (fun b2 w2 => er = 0 ∧ b2 = bs ∧ w2.cell? ⟨KB, 0, none⟩ = some (.int .i64 ((n : Int) - 1))) (fun en w2 => en = er ∧ er ≠ 0 ∧ w2.cell? ⟨KB, 0, none⟩ = some (.int .i64 k)) (fun _ _ => False) w

theorem kind4 (z : Int) : (wrap64 (z.tmod 4 + 4)).tmod 4 = z % 4 := by
  have h : z.tmod 4 = z % 4 ∨ z.tmod 4 = z % 4 - 4 := by
    rcases Int.le_total 0 z with h | h
    · exact .inl (Int.tmod_eq_emod_of_nonneg h)
    · obtain ⟨y, rfl⟩ : ∃ y, z = -y := ⟨-z, by omega⟩
      rw [Int.neg_tmod, Int.tmod_eq_emod_of_nonneg (by omega)]
      omega
  have hw : wrap64 (z.tmod 4 + 4) = z.tmod 4 + 4 := by unfold wrap64; omega
  rw [hw, Int.tmod_eq_emod_of_nonneg (by omega)]
  omega

def WrT (W KB B : Nat) (b : Nat) : Prop := b = W ∨ b = KB ∨ B ≤ b

set_option maxHeartbeats 1500000 in
theorem writes1 (W LB KB : Nat) (ps : List Pt) (bs : List UInt8) (er k : Nat) (ao : Option Addr) (cap : Nat) (v0 : Value) (w : World)
    (h : WrIs w W w.heap.size v0 []) (hL : Bk w LB 22 #[.slice ao ps.length cap]) (hl : Ps w (fun b => ¬ WrT W KB w.heap.size b) (.slice ao ps.length cap) ps)
    (hK : Bk w KB 3 #[.int .i64 (-1)]) (hd : LB ≠ W ∧ LB ≠ KB ∧ W ≠ KB) (hgo : WrGo ps bs er k) (hok : ∀ q ∈ ps, PtOk q) (h12 : ps.length ≤ 12) (hbl : bs.length ≤ 140737488355000) :
    Calls Try.prog 13 #[.pointer (some ⟨W, 0, none⟩), .pointer (some ⟨LB, 0, none⟩), .pointer (some ⟨KB, 0, none⟩)] w
      (W1Out W KB ps.length bs er k w) := by
  have H := Lib.hid h
  have HL := Lib.hid hL
  have HLs := Lib.hid hl
  have HK := Lib.hid hK
  have HD := Lib.hid hd
  have HG := Lib.hid hgo
  have HOK := Lib.hid hok
  have HBL := Lib.hid hbl
  have hLl := hL.lt
  have hKl := hK.lt
  clear h hL hl hK hd hgo hok hbl
  go_enter Try.func13, Try.ntmps13
  go_wp2_with fail
  go_loopw [4] (fun vi wr => ∃ (i k2 : Nat) (b0 b2 : List UInt8) (v : Value), vi = .int .i64 i ∧ i ≤ ps.length ∧ Hid (k = i + k2 ∧ bs = b0 ++ b2) ∧ Hid (WrGo (ps.drop i) b2 er k2) ∧ Hid (WrIs wr W w.heap.size v b0) ∧ Hid (Bk wr KB 3 #[.int .i64 ((i : Int) - 1)]) ∧ Hid (Tch (WrT W KB w.heap.size) w wr)) (fun vi _ => ps.length - (intOf vi).toNat)
  case atStart => exact ⟨0, k, [], bs, v0, rfl, by omega, Lib.hid ⟨by omega, rfl⟩, Lib.hid (by simpa using HG.out), H, HK, Lib.hid (Tch.refl _ _)⟩
  case round =>
    obtain ⟨i, k2, b0, b2, v, rfl, hi, HE, HG, HW, HKr, HT⟩ := hrel
    obtain ⟨hd1, hd2, hd3⟩ := HD.out
    have cL := (HL.out.tch HT.out (by unfold WrT; omega)).cell 0
    have cK := HKr.out.cell 0
    have fK := HKr.out.frozen 0
    simp at cL cK
    by_cases hlt : i < ps.length
    · obtain ⟨p, hp⟩ : ∃ p, p = ps[i] := ⟨_, rfl⟩
      have hdr : ps.drop i = p :: ps.drop (i + 1) := by rw [hp]; exact List.drop_eq_getElem_cons hlt
      have hpk : PtOk p := HOK.out p (by rw [hp]; exact List.getElem_mem _)
      obtain ⟨b, off, rfl, hbT, hx0, hx1, hx2, hx3⟩ : ∃ b off, ao = some ⟨b, off, none⟩ ∧ ¬ WrT W KB w.heap.size b ∧ wr.cell? ⟨b, off + i * 4, none⟩ = some (.int .i64 p.what) ∧ wr.cell? ⟨b, off + i * 4 + 1, none⟩ = some (.int .u64 p.num) ∧
          wr.cell? ⟨b, off + i * 4 + 2, none⟩ = some (.int .i64 p.size) ∧ wr.cell? ⟨b, off + i * 4 + 3, none⟩ = some (.string p.text) := by
        obtain ⟨ao', cap', e, _, _, hc⟩ := HLs.out.tch HT.out (fun b hb h => hb h)
        injection e with e1 e2 e3
        subst e1
        obtain ⟨b, off, e, hs, _, hc⟩ := hc (by omega)
        exact ⟨b, off, e, hs, by rw [hp]; exact hc i hlt⟩
      have hbK : b ≠ KB := fun h => hbT (.inr (.inl h))
      clear hp hbT
      have hk4 := kind4 p.what
      obtain ⟨w1, hw1⟩ : ∃ w1, w1 = (wr.setCell ⟨KB, 0, none⟩ (.int .i64 i)).alloc (.cells #[.int .i64 p.what, .int .u64 p.num, .int .i64 p.size, .string p.text] 26) := ⟨_, rfl⟩
      have hrs := HT.out.size
      have t1 : Tch (· = KB) wr w1 := by rw [hw1]; exact ((Tch.refl (· = KB) wr).setCell (p := ⟨KB, 0, none⟩) (fun _ => rfl) _).alloc _
      have k1 : Bk w1 KB 3 #[.int .i64 i] := by
        rw [hw1]
        have : Bk (wr.setCell ⟨KB, 0, none⟩ (.int .i64 i)) KB 3 #[.int .i64 i] := by simpa using HKr.out.store 0 (.int .i64 i)
        exact this.alloc _
      have q1 : WrIs w1 W w.heap.size v b0 := by
        obtain ⟨x1, x2, x3⟩ := HW.out
        exact ⟨x1.tch t1 hd3, own_tch x2 t1 (fun b hb h => by have := (own_base x2 hb).1; omega), Nat.le_trans x3 t1.size⟩
      have tt : Tch (WrT W KB w.heap.size) w w1 := HT.out.then (t1.more (fun b _ h => .inr (.inl h)))
      have hs1 := tt.size
      have bad1 : ∀ (en : Nat) (wb : World), er = en → en ≠ 0 → k2 = 0 → WrBad wb W en → Tch (· = W) w1 wb → W1Out W KB ps.length bs er k w (.panicked [stopE (.pointer (some ⟨W, 0, none⟩)) en]) wb := by
        intro en wb h1 h2 h3 h4 h5
        have ck := (k1.tch h5 (Ne.symm hd3)).cell 0
        simp at ck
        have hki : (k : Int) = i := by have := HE.out.1; omega
        refine ⟨(tt.then (h5.more (fun b _ h => .inl h))).more ?_, .inr (.inr (.inl ⟨en, en, by omega, rfl, h4, by omega, by omega, by rw [hki]; exact ck⟩))⟩
        intro b hb h
        rcases h with h | h | h
        · exact .inl h
        · exact .inr h
        · omega
      have bad2 : ∀ (en : Int), (er : Int) = en → en ≠ 0 → k2 = 0 → W1Out W KB ps.length bs er k w (.panicked [stopE (.pointer none) en]) w1 := by
        intro en h1 h2 h3
        have ck := k1.cell 0
        simp at ck
        have hki : (k : Int) = i := by have := HE.out.1; omega
        refine ⟨tt.more ?_, .inr (.inl ⟨en, v, b0, h2, rfl, q1, by omega, by omega, by rw [hki]; exact ck⟩)⟩
        intro b hb h
        rcases h with h | h | h
        · exact .inl h
        · exact .inr h
        · omega
      have BAD1 := Lib.hid bad1
      have BAD2 := Lib.hid bad2
      have Q1 := Lib.hid q1
      have K1 := Lib.hid k1
      have TT := Lib.hid tt
      have HW1 := Lib.hid hw1
      obtain ⟨pk1, pk2, pk3⟩ := hpk
      have hg := HG.out
      rw [hdr] at hg
      clear bad1 bad2 q1 k1 tt t1 hdr hw1
      rcases hg with ⟨t, bs', k', hpt, hbb, hkk, hgo⟩ | ⟨hpb, hb2, hk2⟩
      · have HGO := Lib.hid hgo
        have hln : (b0 ++ (t ++ bs')).length ≤ 140737488355000 := by have := HBL.out; rw [HE.out.2, hbb] at this; exact this
        simp only [List.length_append] at hln
        have okw : ∀ w2 v2, WrIs w2 W w.heap.size v2 (b0 ++ t) → Tch (WrS W w.heap.size) w1 w2 → ∃ (i' k2 : Nat) (b0 b2 : List UInt8) (v : Value), Value.int .i64 ((i : Int) + 1) = .int .i64 i' ∧ i' ≤ ps.length ∧ Hid (k = i' + k2 ∧ bs = b0 ++ b2) ∧ Hid (WrGo (ps.drop i') b2 er k2) ∧ Hid (WrIs w2 W w.heap.size v b0) ∧ Hid (Bk w2 KB 3 #[.int .i64 ((i' : Int) - 1)]) ∧ Hid (Tch (WrT W KB w.heap.size) w w2) := by
          intro w2 v2 h1 h2
          refine ⟨i + 1, k', b0 ++ t, bs', v2, by go_num, by omega, Lib.hid ⟨by have := HE.out.1; omega, by rw [HE.out.2, hbb, List.append_assoc]⟩, HGO, Lib.hid h1, Lib.hid ?_, Lib.hid (TT.out.then (h2.more (fun b _ h => by rcases h with h | h; exact .inl h; exact .inr (.inr h))))⟩
          have : ((i + 1 : Nat) : Int) - 1 = i := by omega
          rw [this]
          exact K1.out.tch h2 (by unfold WrS; omega)
        have OKW := Lib.hid okw
        clear hgo hbb hkk okw
        rcases hpt with ⟨c0, n, c1, c2, c3, rfl⟩ | ⟨c0, c1, rfl⟩ | ⟨c0, rfl⟩
        · rw [c0] at hk4
          have hcall := num_ok W _ v b0 p.num n w1 Q1.out c2 c3 (by omega) pk2
          rw [← c1] at hcall
          have HCALL := Lib.hid hcall
          clear hcall c1 c2 c3
          go_wp2_with fail
          rw [← HW1.out]
          refine HCALL.out.mono ?_
          rintro e w2 ⟨rfl, ⟨v2, hv2⟩, ht2⟩
          have HV2 := Lib.hid hv2
          have HT2 := Lib.hid ht2
          clear hv2 ht2
          go_wp2_with fail
          go_roundw
          case rel => exact OKW.out _ v2 HV2.out HT2.out
          case measure => simp [intOf]; omega
        · rw [c0] at hk4
          go_wp2_with fail
          rw [← HW1.out]
          refine (text_ok W _ v b0 p.text w1 Q1.out c1 (by simp at hln; omega)).mono ?_
          rintro e w2 ⟨rfl, ⟨v2, hv2⟩, ht2⟩
          have HV2 := Lib.hid hv2
          have HT2 := Lib.hid ht2
          clear hv2 ht2
          go_wp2_with fail
          go_roundw
          case rel => exact OKW.out _ v2 HV2.out HT2.out
          case measure => simp [intOf]; omega
        · rw [c0] at hk4
          go_wp2_with fail
          rw [← HW1.out]
          refine (raw_ok W _ v b0 p.text w1 Q1.out (by simp at hln; omega)).mono ?_
          rintro e w2 ⟨rfl, ⟨v2, hv2⟩, ht2⟩
          have HV2 := Lib.hid hv2
          have HT2 := Lib.hid ht2
          clear hv2 ht2
          go_wp2_with fail
          go_roundw
          case rel => exact OKW.out _ v2 HV2.out HT2.out
          case measure => simp [intOf]; omega
      · rcases hpb with ⟨c0, c1, c2⟩ | ⟨c0, n, c1, c2, c3, c4⟩ | ⟨c0, c1, c2⟩ | ⟨c0, c1, c2⟩ | ⟨c0, c1, c2⟩
        · rw [c0] at hk4
          have C1 := Lib.hid c1
          go_wp2_with fail
          rw [← HW1.out]
          refine (num_no W _ v b0 p.num p.size w1 Q1.out c1).mono ?_
          rintro e w2 ⟨rfl, hb, ht⟩
          exact ⟨rfl, BAD1.out 11 w2 c2 (by decide) hk2 hb ht⟩
        · rw [c0] at hk4
          have hcall := num_big W _ v b0 p.num n w1 Q1.out c2 c3
          rw [← c1] at hcall
          have HCALL := Lib.hid hcall
          clear hcall c1 c2 c3
          go_wp2_with fail
          rw [← HW1.out]
          refine HCALL.out.mono ?_
          rintro e w2 ⟨rfl, hb, ht⟩
          exact ⟨rfl, BAD1.out 11 w2 c4 (by decide) hk2 hb ht⟩
        · rw [c0] at hk4
          go_wp2_with fail
          rw [← HW1.out]
          refine (text_no W _ v b0 p.text w1 Q1.out c1).mono ?_
          rintro e w2 ⟨rfl, hb, ht⟩
          exact ⟨rfl, BAD1.out 3 w2 c2 (by decide) hk2 hb ht⟩
        · rw [c0] at hk4
          have d1 : 0 < p.size := by omega
          have d2 : p.size < 17 := by omega
          go_wp2_with fail
          rw [← HW1.out]
          refine (refuse_ok p.size w1).mono ?_
          rintro e w2 ⟨rfl, rfl⟩
          rw [if_neg (by omega)]
          exact ⟨rfl, BAD2.out p.size c2 (by omega) hk2⟩
        · rw [c0] at hk4
          by_cases d1 : 0 < p.size
          · have d2 : ¬ p.size < 17 := by omega
            clear c1
            go_wp2_with fail
            rw [← HW1.out]
            refine (refuse_ok 0 w1).mono ?_
            rintro e w2 ⟨rfl, rfl⟩
            exact ⟨rfl, BAD2.out 4 (by omega) (by omega) hk2⟩
          · clear c1
            go_wp2_with fail
            rw [← HW1.out]
            refine (refuse_ok 0 w1).mono ?_
            rintro e w2 ⟨rfl, rfl⟩
            exact ⟨rfl, BAD2.out 4 (by omega) (by omega) hk2⟩
    · obtain rfl : i = ps.length := by omega
      have hg := HG.out
      rw [List.drop_of_length_le (Nat.le_refl _)] at hg
      obtain ⟨g1, g2, g3⟩ := hg
      have HE0 := Lib.hid g2
      have HB2 := Lib.hid g1
      clear g1 g2 g3
      go_wp2_with fail
      go_end0
      refine ⟨HT.out.more ?_, .inl ⟨v, b0, rfl, HW.out, HE0.out, ?_, cK⟩⟩
      · intro b hb h
        rcases h with h | h | h
        · exact .inl h
        · exact .inr h
        · omega
      · rw [HE.out.2, HB2.out, List.append_nil]
end Go.Proofs.Ytgnpnlelkkkmeaa
