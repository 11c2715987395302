/-
  PackWrites' walk.
-/
import Derived.Test.YtgnpnlelkkkmeaaWrites2
set_option linter.unusedVariables false
namespace Go.Proofs.Ytgnpnlelkkkmeaa
open Go.RowKit

theorem text_le : ∀ (ps : List Pt) (q : Pt), q ∈ ps → q.text.size ≤ textSum ps
  | p :: l, q, h => by
    rcases List.mem_cons.1 h with rfl | h
    · simp [textSum]
    · have := text_le l q h
      simp only [textSum, List.map_cons, List.sum_cons] at this ⊢
      omega
theorem enters13 (args : Array Value) (w : World) : (callFunc 13 args).run Try.prog w = .ok (.enter 13 args) w := by simp [go_sem]
theorem enters19 (args : Array Value) (w : World) : (callFunc 19 args).run Try.prog w = .ok (.enter 19 args) w := by simp [go_sem]

/-- How the reference's loop stands after i parts. -/
def RefAt (L : List Pt) (want : Value) (er : Nat) (dn : Int) (i : Nat) : Prop :=
  (er = 0 ∧ ∃ b0 : List UInt8, want = .string (str b0) ∧ b0.length ≤ i * 1048840 ∧ dn = (i - 1 : Nat) ∧ ∀ b2 e2 k2, WrGo (L.drop i) b2 e2 k2 → WrGo L (b0 ++ b2) e2 (i + k2)) ∨
  (er ≠ 0 ∧ (∃ s, want = .string s) ∧ ∃ bs k, WrGo L bs er k ∧ dn = (k : Nat) ∧ i = k + 1 ∧ bs.length ≤ i * 1048840)

theorem PtIs.len {p : Pt} {t : List UInt8} (h : PtIs p t) (hp : p.text.size ≤ 1048576) : t.length ≤ 1048840 := by
  have hl : p.text.data.toList.length = p.text.size := Array.length_toList
  rcases h with ⟨_, n, _, ⟨_, h2⟩, _, rfl⟩ | ⟨_, _, rfl⟩ | ⟨_, rfl⟩
  · rw [beL_length]; omega
  · rw [List.length_cons, hl]; omega
  · rw [hl]; omega
theorem ref_ok {L : List Pt} {p : Pt} {t b0 : List UInt8} {i : Nat} (hpt : PtIs p t) (hp : p.text.size ≤ 1048576) (hb0 : b0.length ≤ i * 1048840)
    (hco : ∀ b2 e2 k2, WrGo (p :: L.drop (i + 1)) b2 e2 k2 → WrGo L (b0 ++ b2) e2 (i + k2)) : RefAt L (.string (str b0 ++ str t)) 0 (i : Nat) (i + 1) := by
  refine .inl ⟨rfl, b0 ++ t, by rw [str_append], ?_, rfl, fun b2 e2 k2 h => ?_⟩
  · have := hpt.len hp
    rw [List.length_append]
    omega
  · have := hco (t ++ b2) e2 (k2 + 1) (.inl ⟨t, b2, k2, hpt, rfl, rfl, h⟩)
    rw [List.append_assoc]
    rwa [show i + (k2 + 1) = i + 1 + k2 by omega] at this
theorem ref_bad {L : List Pt} {p : Pt} {b0 : List UInt8} {s : ByteArray} {i er : Nat} (hpb : PtBad p er) (h0 : er ≠ 0) (hb0 : b0.length ≤ i * 1048840)
    (hco : ∀ b2 e2 k2, WrGo (p :: L.drop (i + 1)) b2 e2 k2 → WrGo L (b0 ++ b2) e2 (i + k2)) : RefAt L (.string s) er (i : Nat) (i + 1) :=
  .inr ⟨h0, ⟨s, rfl⟩, b0, i, by simpa using hco [] er 0 (.inr ⟨hpb, rfl, rfl⟩), rfl, rfl, Nat.le_trans hb0 (Nat.mul_le_mul_right _ (Nat.le_succ i))⟩

set_option maxRecDepth 100000 in
set_option maxHeartbeats 4000000 in
theorem packWrites_core (v : Value) (ps : List Pt) (w : World) (h : Ps w (· < w.heap.size) v ps) (hok : ∀ q ∈ ps, PtOk q) (htx : ∀ q ∈ ps, q.text.size ≤ 1048576) :
    Calls Try.prog 3 #[v] w fun e w' => e = .returned (.bool true) ∧ Below w.heap.size w w' := by
  have H := Lib.hid h
  have HOK0 := Lib.hid hok
  have HTX0 := Lib.hid htx
  obtain ⟨ao, cap, rfl, hlc, hlm, _⟩ := h
  unfold maxLen at hlm
  clear hok htx
  go_enter Try.func3, Try.ntmps3
  go_upto_region 3 with (go_at_call 10; refine (speaks01 _).mono ?_; rintro e w1 ⟨rfl, hb1⟩; have HB1 := Lib.hid hb1; clear hb1)
  have hbk : Bk w1 w.heap.size 22 #[.slice ao ps.length cap] := (Bk.made w 22 #[.slice ao ps.length cap]).keep (HB1.out.block _ (by simp))
  have hbw : Below w.heap.size w w1 := ((Below.refl _ w).alloc (Nat.le_refl _) _).trans (HB1.out.mono (by simp))
  have HBk := Lib.hid hbk
  have HBw := Lib.hid hbw
  have c0 := hbk.cell 0
  have f0 := hbk.frozen 0
  simp at c0
  clear hbk hbw
  go_cut [] (fun wx => ∃ m : Nat, Hid (Ps w (· < w.heap.size) (.slice ao m cap) (ps.take 12)) ∧ Hid (Bk wx w.heap.size 22 #[.slice ao m cap]) ∧ Hid (Below w.heap.size w wx))
  case first =>
    have HT : ∀ M, (M = 12 ∧ 12 ≤ ps.length ∨ M = ps.length ∧ ps.length ≤ 12) → Hid (Ps w (· < w.heap.size) (.slice ao M cap) (ps.take 12)) := by
      intro M hM
      have := H.out.head (n := M) (by omega)
      rcases hM with ⟨rfl, _⟩ | ⟨rfl, h⟩
      · exact this
      · rw [List.take_of_length_le h]; rwa [List.take_of_length_le (Nat.le_refl _)] at this
    have HK : ∀ M, Hid (Bk (w1.setCell ⟨w.heap.size, 0, none⟩ (.slice ao M cap)) w.heap.size 22 #[.slice ao M cap]) := by
      intro M
      have : Bk (w1.setCell ⟨w.heap.size, 0, none⟩ (.slice ao M cap)) w.heap.size 22 #[.slice ao M cap] := by
        simpa using HBk.out.store 0 (.slice ao M cap)
      exact this
    have HBW : ∀ M, Hid (Below w.heap.size w (w1.setCell ⟨w.heap.size, 0, none⟩ (.slice ao M cap))) := fun M => HBw.out.setCell (p := ⟨w.heap.size, 0, none⟩) (Nat.le_refl _) _
    rcases (show 12 ≤ ps.length ∨ ps.length < 12 by omega) with h3 | h3
    all_goals go_wp2_with fail
    all_goals go_meet
    all_goals refine ⟨_, HT _ ?_, HK _, HBW _⟩
    all_goals omega
  case rest =>
    obtain ⟨m, HS, HB, HBl⟩ := hcut
    obtain ⟨wd, hwd⟩ : ∃ x, x = wc := ⟨_, rfl⟩
    subst hwd
    obtain ⟨L, hL⟩ : ∃ L, L = ps.take 12 := ⟨_, rfl⟩
    have hok : ∀ q ∈ L, PtOk q := fun q h => HOK0.out q (List.mem_of_mem_take (hL ▸ h))
    have htx : ∀ q ∈ L, q.text.size ≤ 1048576 := fun q h => HTX0.out q (List.mem_of_mem_take (hL ▸ h))
    rw [← hL] at HS
    have hll : L.length ≤ 12 := by rw [hL, List.length_take]; omega
    have hm : m = L.length := by obtain ⟨ao', cap', e, _⟩ := HS.out; injection e with e1 e2 e3
    subst hm
    have HOK := Lib.hid hok
    have HTX := Lib.hid htx
    have hwz : w.heap.size < wd.heap.size := HB.out.lt
    clear hok htx hL HBk HBw c0 f0 HOK0 HTX0 H HB1 hlc
    go_upto_block 0 with fail
    go_cut [3, 4, 5, 6] (fun want bad dn iv wx => ∃ (er i : Nat) (d : Int), bad = .int .i64 er ∧ dn = .int .i64 d ∧ i ≤ L.length ∧ (er = 0 → i = L.length) ∧ Hid (RefAt L want er d i) ∧ Hid (Bk wx w.heap.size 22 #[.slice ao L.length cap]) ∧ Hid (Below w.heap.size w wx))
    case first =>
      go_wp2_with fail
      go_loopw [3, 4, 5, 6] (fun want bad dn iv wr => ∃ (er i : Nat) (d : Int), bad = .int .i64 er ∧ dn = .int .i64 d ∧ iv = .int .i64 i ∧ i ≤ L.length ∧ Hid (RefAt L want er d i) ∧ Hid (Bk wr w.heap.size 22 #[.slice ao L.length cap]) ∧ Hid (Below w.heap.size w wr)) (fun _ _ _ iv _ => L.length - (intOf iv).toNat)
      case atStart => exact ⟨0, 0, 0, rfl, rfl, rfl, by omega, Lib.hid (.inl ⟨rfl, [], rfl, by simp, rfl, fun b2 e2 k2 h => by simpa using h⟩), HB, HBl⟩
      case round =>
        obtain ⟨er, i, d, rfl, rfl, rfl, hi, HRA, HBr, HBlr⟩ := hrel
        have cL := HBr.out.cell 0
        simp at cL
        by_cases hlt : i < L.length
        · by_cases h0 : er = 0
          · subst h0
            rcases HRA.out with ⟨_, b0, rfl, hb0, hd0, hco⟩ | ⟨h, _⟩
            rotate_left
            · exact absurd rfl h
            · obtain ⟨p, hp⟩ : ∃ p, p = L[i] := ⟨_, rfl⟩
              have hdr : L.drop i = p :: L.drop (i + 1) := by rw [hp]; exact List.drop_eq_getElem_cons hlt
              have hpk : PtOk p := HOK.out p (by rw [hp]; exact List.getElem_mem _)
              have hpt : p.text.size ≤ 1048576 := HTX.out p (by rw [hp]; exact List.getElem_mem _)
              obtain ⟨b, off, rfl, hx0, hx1, hx2, hx3⟩ : ∃ b off, ao = some ⟨b, off, none⟩ ∧ wr.cell? ⟨b, off + i * 4, none⟩ = some (.int .i64 p.what) ∧ wr.cell? ⟨b, off + i * 4 + 1, none⟩ = some (.int .u64 p.num) ∧
                  wr.cell? ⟨b, off + i * 4 + 2, none⟩ = some (.int .i64 p.size) ∧ wr.cell? ⟨b, off + i * 4 + 3, none⟩ = some (.string p.text) := by
                obtain ⟨ao', cap', e, _, _, hc⟩ := HS.out.below HBlr.out
                injection e with e1 e2 e3
                subst e1
                obtain ⟨b, off, e, hs, _, hc⟩ := hc (by omega)
                exact ⟨b, off, e, by rw [hp]; exact hc i hlt⟩
              have hk4 := kind4 p.what
              have hsb : (str b0).size ≤ 12586080 := by rw [str_size]; omega
              have HCO := Lib.hid hco
              have HD0 := Lib.hid hd0
              have hwr := HBlr.out.size
              rw [hdr] at hco
              have HCO := Lib.hid hco
              obtain ⟨pk1, pk2, pk3⟩ := hpk
              clear hp hco hd0 hdr
              rcases (show p.what % 4 = 0 ∨ p.what % 4 = 1 ∨ p.what % 4 = 2 ∨ p.what % 4 = 3 by omega) with c0 | c0 | c0 | c0
              · rw [c0] at hk4
                have hte : (str ([] : List UInt8)).toList = [] := by rw [Lib.toList_data]; rfl
                have hse : (str ([] : List UInt8)).size = 0 := rfl
                by_cases hz : 1 ≤ p.size ∧ p.size ≤ 8
                · obtain ⟨n, hn⟩ : ∃ n : Nat, p.size = n := ⟨p.size.toNat, by omega⟩
                  have hcall := refnum p.num n (wr.alloc (.cells #[.int .i64 p.what, .int .u64 p.num, .int .i64 p.size, .string p.text] 26)) (by omega) pk2
                  rw [← hn] at hcall
                  by_cases hf : p.num < 256 ^ n
                  · rw [if_pos hf] at hcall
                    obtain ⟨x, xs', hxs⟩ : ∃ x xs', beL n p.num = x :: xs' := by
                      cases n with
                      | zero => omega
                      | succ n => exact ⟨_, _, rfl⟩
                    have htl : (str (beL n p.num)).toList = x :: xs' := by rw [Lib.toList_data, str_data, hxs]
                    have hsl : (str (beL n p.num)).size ≤ 8 := by rw [str_size, beL_length]; omega
                    have HPT := Lib.hid (show PtIs p (beL n p.num) from .inl ⟨c0, n, hn, by omega, hf, rfl⟩)
                    clear hxs hf hn hz
                    have HCALL := Lib.hid hcall
                    clear hcall
                    go_wp2_with fail
                    refine HCALL.out.mono ?_
                    rintro e w2 ⟨rfl, ht⟩
                    have hB2 := (HBr.out.alloc (.cells #[.int .i64 p.what, .int .u64 p.num, .int .i64 p.size, .string p.text] 26)).tch ht (by simp; omega)
                    have hBl2 := (HBlr.out.alloc hwr (.cells #[.int .i64 p.what, .int .u64 p.num, .int .i64 p.size, .string p.text] 26)).trans (ht.belowB (by simp; omega) (by simp; omega))
                    have HB2 := Lib.hid hB2
                    have HBL2 := Lib.hid hBl2
                    clear ht hB2 hBl2
                    go_wp2_with fail
                    go_roundw
                    case rel => exact ⟨0, i + 1, i, rfl, rfl, by go_num, by omega, Lib.hid (ref_ok HPT.out hpt hb0 HCO.out), HB2, HBL2⟩
                    case measure => simp [intOf]; omega
                  · rw [if_neg hf] at hcall
                    have HPB := Lib.hid (show PtBad p 11 from .inr (.inl ⟨c0, n, hn, by omega, by omega, rfl⟩))
                    clear hf hn hz
                    have HCALL := Lib.hid hcall
                    clear hcall
                    go_wp2_with fail
                    refine HCALL.out.mono ?_
                    rintro e w2 ⟨rfl, ht⟩
                    have hB2 := (HBr.out.alloc (.cells #[.int .i64 p.what, .int .u64 p.num, .int .i64 p.size, .string p.text] 26)).tch ht (by simp; omega)
                    have hBl2 := (HBlr.out.alloc hwr (.cells #[.int .i64 p.what, .int .u64 p.num, .int .i64 p.size, .string p.text] 26)).trans (ht.belowB (by simp; omega) (by simp; omega))
                    have HB2 := Lib.hid hB2
                    have HBL2 := Lib.hid hBl2
                    clear ht hB2 hBl2
                    go_wp2_with fail
                    go_roundw
                    case rel => exact ⟨11, i + 1, i, rfl, rfl, by go_num, by omega, Lib.hid (ref_bad HPB.out (by decide) hb0 HCO.out), HB2, HBL2⟩
                    case measure => simp [intOf]; omega
                · have hcall := refnum_size p.num p.size (wr.alloc (.cells #[.int .i64 p.what, .int .u64 p.num, .int .i64 p.size, .string p.text] 26)) hz
                  have HPB := Lib.hid (show PtBad p 11 from .inl ⟨c0, hz, rfl⟩)
                  clear hz
                  have HCALL := Lib.hid hcall
                  clear hcall
                  go_wp2_with fail
                  refine HCALL.out.mono ?_
                  rintro e w2 ⟨rfl, ht⟩
                  have hB2 := (HBr.out.alloc (.cells #[.int .i64 p.what, .int .u64 p.num, .int .i64 p.size, .string p.text] 26)).tch ht (by simp; omega)
                  have hBl2 := (HBlr.out.alloc hwr (.cells #[.int .i64 p.what, .int .u64 p.num, .int .i64 p.size, .string p.text] 26)).trans (ht.belowB (by simp; omega) (by simp; omega))
                  have HB2 := Lib.hid hB2
                  have HBL2 := Lib.hid hBl2
                  clear ht hB2 hBl2
                  go_wp2_with fail
                  go_roundw
                  case rel => exact ⟨11, i + 1, i, rfl, rfl, by go_num, by omega, Lib.hid (ref_bad HPB.out (by decide) hb0 HCO.out), HB2, HBL2⟩
                  case measure => simp [intOf]; omega
              · rw [c0] at hk4
                have hbs := byte_str (wr.alloc (.cells #[.int .i64 p.what, .int .u64 p.num, .int .i64 p.size, .string p.text] 26)) ((p.text.size : Int) % 256) (by omega)
                have hmn : ((p.text.size : Int) % 256).toNat = p.text.size % 256 := by omega
                rw [hmn, World.size_alloc, byte_mod] at hbs
                clear hmn
                have hs1 : (str [UInt8.ofNat p.text.size]).size = 1 := rfl
                have hs3 : (str [UInt8.ofNat p.text.size] ++ p.text).size = 1 + p.text.size := by rw [ByteArray.size_append, hs1]
                by_cases hz : 255 < p.text.size
                · have HPB := Lib.hid (show PtBad p 3 from .inr (.inr (.inl ⟨c0, hz, rfl⟩)))
                  go_wp2_with fail
                  go_roundw
                  case rel => exact ⟨3, i + 1, i, rfl, rfl, by go_num, by omega, Lib.hid (ref_bad HPB.out (by decide) hb0 HCO.out), Lib.hid ((HBr.out.alloc _).alloc _), Lib.hid ((HBlr.out.alloc hwr _).alloc (by simp; omega) _)⟩
                  case measure => simp [intOf]; omega
                · have hz' : ¬ (255 : Int) < (p.text.size : Int) := by omega
                  have HPT := Lib.hid (show PtIs p (UInt8.ofNat p.text.size :: p.text.data.toList) from .inr (.inl ⟨c0, by omega, rfl⟩))
                  have hj : str [UInt8.ofNat p.text.size] ++ p.text = str (UInt8.ofNat p.text.size :: p.text.data.toList) := by
                    conv => lhs; rw [← str_of p.text]
                    rw [str_append]
                    simp [str]
                  have HJ := Lib.hid hj
                  have hbs2 := byte_str (wr.alloc (.cells #[.int .i64 p.what, .int .u64 p.num, .int .i64 p.size, .string p.text] 26)) (p.text.size : Int) (by omega)
                  rw [Int.toNat_natCast, World.size_alloc] at hbs2
                  clear hj hbs
                  go_wp2_with fail
                  go_roundw
                  case rel => exact ⟨0, i + 1, i, rfl, rfl, by go_num, by omega, Lib.hid (by rw [HJ.out]; exact ref_ok HPT.out hpt hb0 HCO.out), Lib.hid ((HBr.out.alloc _).alloc _), Lib.hid ((HBlr.out.alloc hwr _).alloc (by simp; omega) _)⟩
                  case measure => simp [intOf]; omega
              · rw [c0] at hk4
                have HPT := Lib.hid (show PtIs p p.text.data.toList from .inr (.inr ⟨c0, rfl⟩))
                go_wp2_with fail
                go_roundw
                case rel => exact ⟨0, i + 1, i, rfl, rfl, by go_num, by omega, Lib.hid (by have := ref_ok HPT.out hpt hb0 HCO.out; rwa [str_of] at this), Lib.hid (HBr.out.alloc _), Lib.hid (HBlr.out.alloc hwr _)⟩
                case measure => simp [intOf]; omega
              · rw [c0] at hk4
                by_cases hz : 1 ≤ p.size ∧ p.size ≤ 16
                · obtain ⟨n, hn⟩ : ∃ n : Nat, p.size = n := ⟨p.size.toNat, by omega⟩
                  have HPB := Lib.hid (show PtBad p n from .inr (.inr (.inr (.inl ⟨c0, hz, hn.symm⟩))))
                  have d1 : 0 < p.size := by omega
                  have d2 : p.size < 17 := by omega
                  have hn0 : n ≠ 0 := by omega
                  have HN := Lib.hid hn
                  clear hz hn
                  go_wp2_with fail
                  go_roundw
                  case rel => exact ⟨n, i + 1, i, by rw [HN.out], rfl, by go_num, by omega, Lib.hid (ref_bad HPB.out hn0 hb0 HCO.out), Lib.hid (HBr.out.alloc _), Lib.hid (HBlr.out.alloc hwr _)⟩
                  case measure => simp [intOf]; omega
                · have HPB := Lib.hid (show PtBad p 4 from .inr (.inr (.inr (.inr ⟨c0, hz, rfl⟩))))
                  rcases (show p.size ≤ 0 ∨ (0 < p.size ∧ ¬ p.size < 17) by omega) with d1 | ⟨d1, d2⟩
                  · have d3 : ¬ 0 < p.size := by omega
                    clear hz
                    go_wp2_with fail
                    go_roundw
                    case rel => exact ⟨4, i + 1, i, rfl, rfl, by go_num, by omega, Lib.hid (ref_bad HPB.out (by decide) hb0 HCO.out), Lib.hid (HBr.out.alloc _), Lib.hid (HBlr.out.alloc hwr _)⟩
                    case measure => simp [intOf]; omega
                  · clear hz
                    go_wp2_with fail
                    go_roundw
                    case rel => exact ⟨4, i + 1, i, rfl, rfl, by go_num, by omega, Lib.hid (ref_bad HPB.out (by decide) hb0 HCO.out), Lib.hid (HBr.out.alloc _), Lib.hid (HBlr.out.alloc hwr _)⟩
                    case measure => simp [intOf]; omega
          · have hne : ((er : Int) == 0) = false := bne_ (by omega)
            go_wp2_with fail
            go_meet
            exact ⟨er, i, d, rfl, rfl, hi, fun h => absurd h h0, HRA, HBr, HBlr⟩
        · obtain rfl : i = L.length := by omega
          go_wp2_with fail
          go_meet
          exact ⟨er, L.length, d, rfl, rfl, by omega, fun _ => rfl, HRA, HBr, HBlr⟩
    case rest =>
      obtain ⟨er, i, d, rfl, rfl, hi, hei, HRA, HBr, HBlr⟩ := hcut
      have hwc : w.heap.size < wc.heap.size := HBr.out.lt
      rcases HRA.out with ⟨h0, b0, rfl, hb0, hd0, hco⟩ | ⟨h0, ⟨sw, rfl⟩, bs, k, hgo, hdk, hik, hbl⟩
      · subst h0
        obtain rfl := hei rfl
        have hg : WrGo L b0 0 L.length := by
          have := hco [] 0 0 (by rw [List.drop_of_length_le (Nat.le_refl _)]; exact ⟨rfl, rfl, rfl⟩)
          simpa using this
        have HG := Lib.hid hg
        have hbl : b0.length ≤ 12586080 := by omega
        clear hg hco hei HRA hi
        have kK : Bk (wc.alloc (.cells #[.int .i64 (-1)] 3)) wc.heap.size 3 #[.int .i64 (-1)] := Bk.made _ _ _
        have kL : Bk (wc.alloc (.cells #[.int .i64 (-1)] 3)) w.heap.size 22 #[.slice ao L.length cap] := HBr.out.alloc _
        have kB : Below w.heap.size w (wc.alloc (.cells #[.int .i64 (-1)] 3)) := HBlr.out.alloc (by omega) _
        go_wp2_with fail
        generalize hw4 : wc.alloc (.cells #[.int .i64 (-1)] 3) = w4 at *
        have hs4 : w4.heap.size = wc.heap.size + 1 := by rw [← hw4]; simp
        clear hw4
        refine (write_any 13 #[.pointer (some ⟨w.heap.size, 0, none⟩), .pointer (some ⟨wc.heap.size, 0, none⟩)] (fun b => b = wc.heap.size)
          (fun b2 w2 => 0 = 0 ∧ b2 = b0 ∧ w2.cell? ⟨wc.heap.size, 0, none⟩ = some (.int .i64 ((L.length : Int) - 1))) (fun en w2 => en = (0 : Nat) ∧ 0 ≠ 0 ∧ w2.cell? ⟨wc.heap.size, 0, none⟩ = some (.int .i64 (L.length : Nat))) (fun _ _ => False) w4 (fun b h => by omega) enters13 (fun W w5 hW hb5 hw5 => ?_)).mono ?_
        · exact writes1 W w.heap.size wc.heap.size L b0 0 L.length ao cap _ w5 hw5 (kL.keep (hb5.block _ (by omega))) ((HS.out.below (kB.trans (hb5.mono (by omega)))).more (fun b _ hb h => by have := hb5.size; unfold WrT at h; omega)) (kK.keep (hb5.block _ (by omega))) (by omega) HG.out HOK.out hll (by omega)
        · rintro e w5 ⟨ht, w6, hs6, ht6, hcase⟩
          have hfin : e = .returned (.tuple #[.string (str b0), .int .i64 0]) ∧ w6.cell? ⟨wc.heap.size, 0, none⟩ = some (.int .i64 ((L.length : Int) - 1)) := by
            rcases hcase with ⟨b2, rfl, _, rfl, hc⟩ | ⟨_, _, _, _, h, _⟩ | ⟨_, _, hq⟩
            · exact ⟨rfl, hc⟩
            · exact absurd rfl h
            · exact hq.elim
          obtain ⟨rfl, c6⟩ := hfin
          have cK := (ht6.cell (p := ⟨wc.heap.size, 0, none⟩) (by simp; omega) (by simp; omega)).trans c6
          have kL5 := kL.tch ht (by omega)
          have kB5 : Below w.heap.size w w5 := kB.trans (ht.belowB (by omega) (by omega))
          have cL := kL5.cell 0
          simp at cL
          have hs5 := ht.size
          have KL5 := Lib.hid kL5
          have KB5 := Lib.hid kB5
          clear hcase ht ht6 hs6 c6 kK kL kB kL5 kB5
          rcases (show L.length = 0 ∨ (0 < L.length ∧ d = (L.length : Int) - 1) by omega) with hl0 | ⟨hl0, rfl⟩
          · have hzz : ¬ (0 : Int) < (L.length : Int) := by omega
            clear hd0
            go_wp2_with fail
            have kS : Bk (w5.alloc (.cells #[.bool true] 4)) w5.heap.size 4 #[.bool true] := Bk.made _ _ _
            have kL6 := KL5.out.alloc (.cells #[.bool true] 4)
            have kB6 : Below w.heap.size w (w5.alloc (.cells #[.bool true] 4)) := KB5.out.alloc (by omega) _
            generalize hw7 : w5.alloc (.cells #[.bool true] 4) = w7 at *
            have hs7 : w7.heap.size = w5.heap.size + 1 := by rw [← hw7]; simp
            clear hw7
            refine (read_any b0 19 #[.pointer (some ⟨w.heap.size, 0, none⟩), .pointer (some ⟨w5.heap.size, 0, none⟩)] (fun b => b = w5.heap.size) (fun l w2 => l = [] ∧ w2.cell? ⟨w5.heap.size, 0, none⟩ = some (.bool true)) (fun _ _ => False) (fun _ _ => False) w7 (fun b h => by omega) enters19 (fun R w8 hR hb8 hw8 => ?_)).mono ?_
            · exact writes2 R w.heap.size w5.heap.size L b0 L.length ao cap w8 hw8 (kL6.keep (hb8.block _ (by omega))) ((HS.out.below (kB6.trans (hb8.mono (by omega)))).more (fun b _ hb h => by have := hb8.size; unfold RbT at h; omega)) (kS.keep (hb8.block _ (by omega))) (by omega) HG.out HOK.out hll (fun q hq => by have := HTX.out q hq; omega)
            · rintro e w8 ⟨ht, w9, hs9, ht9, hcase⟩
              have hfin : e = .returned (.int .i64 0) ∧ w9.cell? ⟨w5.heap.size, 0, none⟩ = some (.bool true) := by
                rcases hcase with ⟨rfl, _, hc⟩ | ⟨l, hl, _, hl', _⟩ | ⟨_, _, _, hq⟩ | ⟨_, _, hq⟩
                · exact ⟨rfl, hc⟩
                · exact absurd hl' hl
                · exact hq.elim
                · exact hq.elim
              obtain ⟨rfl, c9⟩ := hfin
              have cS := (ht9.cell (p := ⟨w5.heap.size, 0, none⟩) (by simp; omega) (by simp; omega)).trans c9
              have kB8 : Below w.heap.size w w8 := kB6.trans (ht.belowB (by omega) (by omega))
              have KB8 := Lib.hid kB8
              clear hcase ht ht9 hs9 c9 kS kL6 kB6 kB8
              go_wp2_with fail
              go_ret
              exact ⟨rfl, KB8.out⟩
          · have hzz : (0 : Int) < (L.length : Int) := by omega
            clear hd0
            go_wp2_with fail
            have kS : Bk (w5.alloc (.cells #[.bool true] 4)) w5.heap.size 4 #[.bool true] := Bk.made _ _ _
            have kL6 := KL5.out.alloc (.cells #[.bool true] 4)
            have kB6 : Below w.heap.size w (w5.alloc (.cells #[.bool true] 4)) := KB5.out.alloc (by omega) _
            generalize hw7 : w5.alloc (.cells #[.bool true] 4) = w7 at *
            have hs7 : w7.heap.size = w5.heap.size + 1 := by rw [← hw7]; simp
            clear hw7
            refine (read_any b0 19 #[.pointer (some ⟨w.heap.size, 0, none⟩), .pointer (some ⟨w5.heap.size, 0, none⟩)] (fun b => b = w5.heap.size) (fun l w2 => l = [] ∧ w2.cell? ⟨w5.heap.size, 0, none⟩ = some (.bool true)) (fun _ _ => False) (fun _ _ => False) w7 (fun b h => by omega) enters19 (fun R w8 hR hb8 hw8 => ?_)).mono ?_
            · exact writes2 R w.heap.size w5.heap.size L b0 L.length ao cap w8 hw8 (kL6.keep (hb8.block _ (by omega))) ((HS.out.below (kB6.trans (hb8.mono (by omega)))).more (fun b _ hb h => by have := hb8.size; unfold RbT at h; omega)) (kS.keep (hb8.block _ (by omega))) (by omega) HG.out HOK.out hll (fun q hq => by have := HTX.out q hq; omega)
            · rintro e w8 ⟨ht, w9, hs9, ht9, hcase⟩
              have hfin : e = .returned (.int .i64 0) ∧ w9.cell? ⟨w5.heap.size, 0, none⟩ = some (.bool true) := by
                rcases hcase with ⟨rfl, _, hc⟩ | ⟨l, hl, _, hl', _⟩ | ⟨_, _, _, hq⟩ | ⟨_, _, hq⟩
                · exact ⟨rfl, hc⟩
                · exact absurd hl' hl
                · exact hq.elim
                · exact hq.elim
              obtain ⟨rfl, c9⟩ := hfin
              have cS := (ht9.cell (p := ⟨w5.heap.size, 0, none⟩) (by simp; omega) (by simp; omega)).trans c9
              have kB8 : Below w.heap.size w w8 := kB6.trans (ht.belowB (by omega) (by omega))
              have KB8 := Lib.hid kB8
              clear hcase ht ht9 hs9 c9 kS kL6 kB6 kB8
              go_wp2_with fail
              go_ret
              exact ⟨rfl, KB8.out⟩
      · have HG := Lib.hid hgo
        have hbl' : bs.length ≤ 12586080 := by have : i * 1048840 ≤ 12 * 1048840 := Nat.mul_le_mul_right _ (by omega); omega
        have hl0 : (0 : Int) < (L.length : Int) := by omega
        clear hgo hei HRA
        subst hdk
        have kK : Bk (wc.alloc (.cells #[.int .i64 (-1)] 3)) wc.heap.size 3 #[.int .i64 (-1)] := Bk.made _ _ _
        have kL : Bk (wc.alloc (.cells #[.int .i64 (-1)] 3)) w.heap.size 22 #[.slice ao L.length cap] := HBr.out.alloc _
        have kB : Below w.heap.size w (wc.alloc (.cells #[.int .i64 (-1)] 3)) := HBlr.out.alloc (by omega) _
        go_wp2_with fail
        generalize hw4 : wc.alloc (.cells #[.int .i64 (-1)] 3) = w4 at *
        have hs4 : w4.heap.size = wc.heap.size + 1 := by rw [← hw4]; simp
        clear hw4
        refine (write_any 13 #[.pointer (some ⟨w.heap.size, 0, none⟩), .pointer (some ⟨wc.heap.size, 0, none⟩)] (fun b => b = wc.heap.size)
          (fun b2 w2 => er = 0 ∧ b2 = bs ∧ w2.cell? ⟨wc.heap.size, 0, none⟩ = some (.int .i64 ((L.length : Int) - 1))) (fun en w2 => en = (er : Nat) ∧ er ≠ 0 ∧ w2.cell? ⟨wc.heap.size, 0, none⟩ = some (.int .i64 (k : Nat))) (fun _ _ => False) w4 (fun b h => by omega) enters13 (fun W w5 hW hb5 hw5 => ?_)).mono ?_
        · exact writes1 W w.heap.size wc.heap.size L bs er k ao cap _ w5 hw5 (kL.keep (hb5.block _ (by omega))) ((HS.out.below (kB.trans (hb5.mono (by omega)))).more (fun b _ hb h => by have := hb5.size; unfold WrT at h; omega)) (kK.keep (hb5.block _ (by omega))) (by omega) HG.out HOK.out hll (by omega)
        · rintro e w5 ⟨ht, w6, hs6, ht6, hcase⟩
          have hfin : e = .returned (.tuple #[.string ⟨#[]⟩, .int .i64 er]) ∧ w6.cell? ⟨wc.heap.size, 0, none⟩ = some (.int .i64 (k : Nat)) := by
            rcases hcase with ⟨b2, _, h, _⟩ | ⟨en, _, rfl, rfl, _, hc⟩ | ⟨_, _, hq⟩
            · exact absurd h h0
            · exact ⟨rfl, hc⟩
            · exact hq.elim
          obtain ⟨rfl, c6⟩ := hfin
          have cK := (ht6.cell (p := ⟨wc.heap.size, 0, none⟩) (by simp; omega) (by simp; omega)).trans c6
          have kL5 := kL.tch ht (by omega)
          have kB5 : Below w.heap.size w w5 := kB.trans (ht.belowB (by omega) (by omega))
          have cL := kL5.cell 0
          simp at cL
          have KB5 := Lib.hid kB5
          have hne : ((er : Int) != 0) = true := by rw [bne_iff_ne]; omega
          have hte : (⟨#[]⟩ : ByteArray).toList = [] := by rw [Lib.toList_data]
          clear hcase ht ht6 hs6 c6 kK kL kB kL5 kB5
          go_wp2_with fail
          go_ret
          exact ⟨rfl, KB5.out⟩
end Go.Proofs.Ytgnpnlelkkkmeaa
