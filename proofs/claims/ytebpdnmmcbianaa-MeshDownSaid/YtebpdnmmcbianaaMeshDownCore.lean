/-
  MeshDown: the core.
-/
import Derived.Test.YtebpdnmmcbianaaMesDown2
import Derived.Test.YtebpdnmmcbianaaMesSpk
import Derived.Test.YtebpdnmmcbianaaMActs
import Derived.Deep.RegionHeld3
set_option linter.unusedVariables false
set_option linter.unusedSimpArgs false
set_option maxRecDepth 100000
namespace Go.Proofs.Ytebpdnmmcbianaa
open Go.RowKit Go.Maps

theorem and3_i64 (x : Int) : 0 ≤ bits BinOp.and IntKind.i64 x 3 ∧ bits BinOp.and IntKind.i64 x 3 ≤ 3 := by
  have h : (BitVec.ofInt 64 x &&& BitVec.ofInt 64 3).toNat ≤ 3 := by
    rw [BitVec.toNat_and]
    exact Nat.le_trans Nat.and_le_right (by decide)
  obtain ⟨r, hr⟩ : ∃ r, r = (BitVec.ofInt 64 x &&& BitVec.ofInt 64 3).toNat := ⟨_, rfl⟩
  rw [← hr] at h
  have e : bits BinOp.and IntKind.i64 x 3 = IntKind.i64.wrap (r : Int) := by rw [hr]; rfl
  rw [e]
  simp only [IntKind.wrap, IntKind.bits, IntKind.signed]
  constructor <;> (simp; omega)
theorem and3_u8 (x : Int) : 0 ≤ bits BinOp.and IntKind.u8 x 3 ∧ bits BinOp.and IntKind.u8 x 3 ≤ 3 := by
  have h : (BitVec.ofInt 8 x &&& BitVec.ofInt 8 3).toNat ≤ 3 := by
    rw [BitVec.toNat_and]
    exact Nat.le_trans Nat.and_le_right (by decide)
  obtain ⟨r, hr⟩ : ∃ r, r = (BitVec.ofInt 8 x &&& BitVec.ofInt 8 3).toNat := ⟨_, rfl⟩
  rw [← hr] at h
  have e : bits BinOp.and IntKind.u8 x 3 = IntKind.u8.wrap (r : Int) := by rw [hr]; rfl
  rw [e]
  simp only [IntKind.wrap, IntKind.bits, IntKind.signed]
  constructor <;> (simp; omega)
theorem wrap_small {x : Int} (h0 : 0 ≤ x) (h1 : x ≤ 1000000) : IntKind.i64.wrap x = x := by
  simp only [IntKind.wrap, IntKind.bits, IntKind.signed]
  simp
  omega
theorem I64_small {x : Int} (h0 : 0 ≤ x) (h1 : x ≤ 1000000) : I64 x := ⟨by omega, by omega⟩
theorem MeshA.drawn {w w1 : World} {M B N : Nat} {lv : List Int} {it : Ways} (h : MeshA w M B N lv it) (e1 : w1.heap = w.heap) (e2 : w1.os = w.os) (e3 : w1.tape = w.tape) (e4 : w1.output = w.output) : MeshA w1 M B N lv it :=
  h.new ⟨e2, e3, e4, by rw [e1]; exact Nat.le_refl _, fun k _ _ => by rw [e1]⟩
theorem macs_at {w : World} {S : Nat → Prop} {ao : Option Addr} {n cap : Nat} {l : List MAc} (h : MAcs w S (.slice ao n cap) l) (j : Nat) (hj : j < l.length) :
    ∃ b off, ao = some ⟨b, off, none⟩ ∧ w.cell? ⟨b, off + j * 4 + 1, none⟩ = some (.int .i64 l[j].a) ∧ w.cell? ⟨b, off + j * 4 + 2, none⟩ = some (.int .i64 l[j].b) ∧ w.cell? ⟨b, off + j * 4 + 3, none⟩ = some (.string l[j].text) ∧ S b ∧ b < w.heap.size := by
  obtain ⟨ao', cap', e, _, _, hc⟩ := h
  injection e with e1 _ _
  subst e1
  obtain ⟨b, off, e, hs, hb, hcc⟩ := hc (by omega)
  obtain ⟨c0, c1, c2, c3⟩ := hcc j hj
  exact ⟨b, off, e, c1, c2, c3, hs, hb⟩
/-- What is on the ways while the last loop runs. -/
def playI (d : Int) (it : Ways) (j : Nat) : Ways := fun q => if q.1 = d ∧ 1 ≤ q.2 ∧ q.2 < 1 + (j : Int) then [] else it q
theorem play_zero (d : Int) (it : Ways) : playI d it 0 = it := by
  funext q
  unfold playI
  rw [if_neg (by omega)]
theorem play_same {d : Int} {it : Ways} {j : Nat} (h : it (d, d) = []) (hk : 1 + (j : Int) = d) : playI d it (j + 1) = playI d it j := by
  funext q
  unfold playI
  by_cases hq : q = (d, d)
  · subst hq
    simp [h]
  · have h2 : ¬ (q.1 = d ∧ q.2 = d) := fun e => hq (Prod.ext e.1 e.2)
    by_cases h3 : q.1 = d ∧ 1 ≤ q.2 ∧ q.2 < 1 + (j : Int)
    · rw [if_pos h3, if_pos (by push_cast; omega)]
    · rw [if_neg h3, if_neg (by push_cast; omega)]
theorem play_step {d : Int} {it : Ways} {j : Nat} {k : Int} (hk : k = 1 + (j : Int)) (hkd : k ≠ d) (h : it (k, d) = []) (x y z : List ItA) :
    setI (setI (setI (setI (setI (playI d it j) (d, k) x) (k, d) y) (d, k) z) (d, k) []) (k, d) [] = playI d it (j + 1) := by
  funext q
  unfold setI playI
  by_cases h1 : q = (k, d)
  · subst h1
    simp [hkd, h]
  · by_cases h2 : q = (d, k)
    · subst h2
      rw [if_neg h1, if_pos rfl, if_pos (by push_cast; omega)]
    · rw [if_neg h1, if_neg h2, if_neg h2, if_neg h1, if_neg h2]
      have h4 : ¬ (q.1 = d ∧ q.2 = k) := fun e => h2 (Prod.ext e.1 e.2)
      by_cases h3 : q.1 = d ∧ 1 ≤ q.2 ∧ q.2 < 1 + (j : Int)
      · rw [if_pos h3, if_pos (by push_cast; omega)]
      · rw [if_neg h3, if_neg (by push_cast; omega)]
theorem play_at {d : Int} {it : Ways} {j : Nat} {k : Int} (hk : k = 1 + (j : Int)) : playI d it j (d, k) = it (d, k) := by
  unfold playI
  rw [if_neg (by simp; omega)]
theorem play_back {d : Int} {it : Ways} {j : Nat} {k : Int} (hkd : k ≠ d) : playI d it j (k, d) = it (k, d) := by
  unfold playI
  rw [if_neg (by simp [hkd])]
theorem mem4 {k : Int} : k ∈ ([1, 2, 3, 4] : List Int) ↔ 1 ≤ k ∧ k ≤ 4 := by simp; omega
theorem down4 {k d : Int} : k ∈ downL [1, 2, 3, 4] d ↔ (1 ≤ k ∧ k ≤ 4) ∧ k ≠ d := by rw [downL_mem, mem4]
theorem up4 {k d : Int} (hd : 1 ≤ d ∧ d ≤ 4) : k ∈ upL (downL [1, 2, 3, 4] d) d ↔ 1 ≤ k ∧ k ≤ 4 := by
  unfold upL
  rw [List.mem_append, List.mem_filter, down4]
  simp
  omega
theorem up4_len {d : Int} (hd : 1 ≤ d ∧ d ≤ 4) : (upL (downL [1, 2, 3, 4] d) d).length = 4 := by
  have h : d = 1 ∨ d = 2 ∨ d = 3 ∨ d = 4 := by omega
  rcases h with rfl | rfl | rfl | rfl <;> decide
/-- How many nodes Nodes tells. -/
def NodesLen : Prop := ∀ (M B N : Nat) (lv : List Int) (it : Ways) (w : World), MeshA w M B N lv it → lv.length ≤ 1000000 →
    Calls Try.prog 43 #[.pointer (some ⟨M, 0, none⟩)] w fun e w' => ∃ ao cap, e = .returned (.slice ao lv.length cap) ∧ New w w'
set_option maxHeartbeats 2000000 in
theorem meshDown_core (hnodes : NodesLen) (ac : List MAc) (ao : Option Addr) (la ca : Nat) (n : Int) (W : World) (hs : MAcs W (· < W.heap.size) (.slice ao la ca) ac) (hok : ∀ q ∈ ac, MAcOk q) (hn : 0 ≤ n ∧ n ≤ 255) :
    Calls Try.prog 11 #[.slice ao la ca, .int .u8 n] W fun e W' => e = .returned (.bool true) ∧ Below W.heap.size W W' := by
  have HNODES := Lib.hid hnodes
  clear hnodes
  have HSL := Lib.hid hs
  have HOK := Lib.hid hok
  have hla : la = ac.length := by obtain ⟨ao', cap', e, _⟩ := hs; injection e
  subst hla
  clear hs hok
  go_enter Try.func11, Try.ntmps11
  go_wp2_with fail
  refine (speaks8 W).mono ?_
  rintro e w1 ⟨rfl, hnw⟩
  have HN1 := Lib.hid hnw
  clear hnw
  go_wp2_with fail
  refine (newA w1).mono ?_
  rintro e w2 ⟨rfl, hm, hnw⟩
  obtain ⟨M, hM⟩ : ∃ M, M = w1.heap.size + 1 + 1 := ⟨_, rfl⟩
  obtain ⟨B, hB⟩ : ∃ B, B = w1.heap.size := ⟨_, rfl⟩
  rw [← hM] at hm ⊢
  rw [← hB] at hm
  have HM2 := Lib.hid hm
  have HN2 := Lib.hid (HN1.out.then hnw)
  have HB := Lib.hid (show W.heap.size ≤ B by rw [hB]; exact HN1.out.size)
  clear hM hB hm hnw HN1
  go_wp2_with fail
  go_loopw [6] (fun v wr => ∃ j : Nat, v = .int .i64 (1 + j) ∧ Hid (j ≤ 4) ∧ Hid (MeshA wr M B j (([1, 2, 3, 4] : List Int).take j) (fun _ => [])) ∧ Hid (New W wr)) (fun v _ => 5 - (intOf v).toNat)
  case atStart => exact ⟨0, rfl, Lib.hid (by omega), HM2, HN2⟩
  case round =>
    clear HM2 HN2
    obtain ⟨j, rfl, HJ, HM, HN⟩ := hrel
    have hjb := HJ.out
    by_cases hj : j < 4
    · have hj2 : (1 : Int) + j ≤ 4 := by omega
      have HU := Lib.hid (upA M B j (([1, 2, 3, 4] : List Int).take j) _ (1 + j) wr HM.out ⟨by omega, by omega⟩ (by omega))
      have e1 : upL (([1, 2, 3, 4] : List Int).take j) (1 + j) = ([1, 2, 3, 4] : List Int).take (j + 1) := by
        match j, hj with
        | 0, _ => decide
        | 1, _ => decide
        | 2, _ => decide
        | 3, _ => decide
      rw [e1] at HU
      clear e1
      go_wp2_with fail
      refine HU.out.mono ?_
      rintro e w6 ⟨rfl, hm, ht⟩
      have HM6 := Lib.hid hm
      have HN6 := Lib.hid (MT.new HN.out ht HB.out)
      clear hm ht HU
      go_wp2_with fail
      go_roundw
      case rel => exact ⟨j + 1, by simp [Int.add_assoc], Lib.hid (by omega), HM6, HN6⟩
      case measure => simp [intOf]; omega
    · obtain rfl : j = 4 := by omega
      have hj2 : ¬ (1 : Int) + (4 : Nat) ≤ 4 := by decide
      go_upto_block 2 with fail
      go_cut [7] (fun _ wx => ∃ (Nn : Nat) (it : Ways), Hid (MeshA wx M B Nn [1, 2, 3, 4] it) ∧ Hid (New W wx) ∧ Hid (Nn ≤ 1000))
      case first =>
        go_wp2_with fail
        go_loopw [7] (fun v wr => ∃ (j : Nat) (it : Ways), v = .int .i64 j ∧ Hid (j ≤ ac.length ∧ j ≤ 60) ∧ Hid (MeshA wr M B (4 + 3 * j) [1, 2, 3, 4] it) ∧ Hid (New W wr)) (fun v _ => 60 - (intOf v).toNat)
        case atStart => exact ⟨0, _, rfl, Lib.hid (by omega), HM, HN⟩
        case round =>
          clear HM HN
          obtain ⟨j, it, rfl, HJ, HM, HN⟩ := hrel
          have hjb := HJ.out
          by_cases hj : j < ac.length ∧ j < 60
          · have hj1 : (j : Int) < ac.length := by omega
            have hj2 : (j : Int) < 60 := by omega
            obtain ⟨q, hq⟩ : ∃ q, q = ac[j] := ⟨_, rfl⟩
            obtain ⟨bo, off, rfl, cA, cB, cC, hbw, hbo⟩ := macs_at (HSL.out.below HN.out.below) j hj.1
            rw [← hq] at cA cB cC
            clear hq
            have KEEP : Hid (∀ x, MT B wr x → x.cell? ⟨bo, off + j * 4 + 1, none⟩ = some (.int .i64 q.a) ∧ x.cell? ⟨bo, off + j * 4 + 2, none⟩ = some (.int .i64 q.b) ∧ x.cell? ⟨bo, off + j * 4 + 3, none⟩ = some (.string q.text)) :=
              fun x hx => by
                have hnb : ¬ (B ≤ bo ∧ ∀ cs t z, wr.heap[bo]? ≠ some (.cells cs t z)) := fun h => by have := HB.out; omega
                exact ⟨(Tch.cell hx (p := ⟨bo, off + j * 4 + 1, none⟩) hbo hnb).trans cA, (Tch.cell hx (p := ⟨bo, off + j * 4 + 2, none⟩) hbo hnb).trans cB, (Tch.cell hx (p := ⟨bo, off + j * 4 + 3, none⟩) hbo hnb).trans cC⟩
            have A3 := Lib.hid (and3_i64 q.a)
            have B3 := Lib.hid (and3_i64 q.b)
            have ea : IntKind.i64.wrap (1 + bits BinOp.and IntKind.i64 q.a 3) = 1 + bits BinOp.and IntKind.i64 q.a 3 := wrap_small (by have := A3.out; omega) (by have := A3.out; omega)
            have eb : IntKind.i64.wrap (1 + bits BinOp.and IntKind.i64 q.b 3) = 1 + bits BinOp.and IntKind.i64 q.b 3 := wrap_small (by have := B3.out; omega) (by have := B3.out; omega)
            clear cA cB cC
            have BC := Lib.hid (show MT B wr wr.drew from (Tch.refl _ _).drew)
            have hNN : 4 + 3 * j < 990000 := by omega
            by_cases h4 : (4 : Int) < q.text.size
            · have h5 : (4 : Int) ≤ q.text.size := by omega
              go_upto_region 11 with fail
              go_region_held3 (fun x => x.cell? ⟨bo, off + j * 4 + 1, none⟩ = some (.int .i64 q.a) ∧ x.cell? ⟨bo, off + j * 4 + 2, none⟩ = some (.int .i64 q.b) ∧ x.cell? ⟨bo, off + j * 4 + 3, none⟩ = some (.string q.text))
                ((refine KEEP.out _ ?_; first | exact BC.out | exact BC.out.drew | exact BC.out.drewN _))
                (first
                 | (go_at_call 41; refine (sendA M B (4 + 3 * j) [1, 2, 3, 4] it _ _ _ _ (by exact HM.out.drawn rfl rfl rfl rfl) (by exact I64_small (by have := A3.out; omega) (by have := A3.out; omega)) (by exact I64_small (by have := B3.out; omega) (by have := B3.out; omega)) hNN).mono ?_; rintro e w6 ⟨rfl, hm, ht⟩; have HM6 := Lib.hid hm; replace BC := Lib.hid (show MT B wr w6 from MT.then (by exact BC.out) ht); clear hm ht))
              all_goals
                go_wp2_with fail
                go_roundw
                case rel => exact ⟨j + 1, _, rfl, Lib.hid (by omega), Lib.hid (HM6.out.more (by omega)), Lib.hid (MT.new HN.out BC.out HB.out)⟩
                case measure => simp [intOf]; omega
            · have h5 : (0 : Int) ≤ q.text.size := by omega
              go_upto_region 11 with fail
              go_region_held3 (fun x => x.cell? ⟨bo, off + j * 4 + 1, none⟩ = some (.int .i64 q.a) ∧ x.cell? ⟨bo, off + j * 4 + 2, none⟩ = some (.int .i64 q.b) ∧ x.cell? ⟨bo, off + j * 4 + 3, none⟩ = some (.string q.text))
                ((refine KEEP.out _ ?_; first | exact BC.out | exact BC.out.drew | exact BC.out.drewN _))
                (first
                 | (go_at_call 41; refine (sendA M B (4 + 3 * j) [1, 2, 3, 4] it _ _ _ _ (by exact HM.out.drawn rfl rfl rfl rfl) (by exact I64_small (by have := A3.out; omega) (by have := A3.out; omega)) (by exact I64_small (by have := B3.out; omega) (by have := B3.out; omega)) hNN).mono ?_; rintro e w6 ⟨rfl, hm, ht⟩; have HM6 := Lib.hid hm; replace BC := Lib.hid (show MT B wr w6 from MT.then (by exact BC.out) ht); clear hm ht))
              all_goals
                go_wp2_with fail
                go_roundw
                case rel => exact ⟨j + 1, _, rfl, Lib.hid (by omega), Lib.hid (HM6.out.more (by omega)), Lib.hid (MT.new HN.out BC.out HB.out)⟩
                case measure => simp [intOf]; omega
          · go_wp2_with fail
            all_goals
              go_meet
              exact ⟨_, _, HM, HN, Lib.hid (by omega)⟩
      case rest =>
        clear HM HN
        obtain ⟨Nn, it, HM, HN, HNN⟩ := hcut
        have N3 := Lib.hid (and3_u8 n)
        have en : IntKind.i64.wrap (bits BinOp.and IntKind.u8 n 3) = bits BinOp.and IntKind.u8 n 3 := wrap_small N3.out.1 (by have := N3.out; omega)
        have en2 : IntKind.i64.wrap (1 + bits BinOp.and IntKind.u8 n 3) = 1 + bits BinOp.and IntKind.u8 n 3 := wrap_small (by have := N3.out; omega) (by have := N3.out; omega)
        go_wp2_with fail
        obtain ⟨d, hd⟩ : ∃ d, d = 1 + bits BinOp.and IntKind.u8 n 3 := ⟨_, rfl⟩
        rw [← hd]
        have HD := Lib.hid (show 1 ≤ d ∧ d ≤ 4 by have := N3.out; omega)
        have hdi : I64 d := I64_small (by have := HD.out; omega) (by have := HD.out; omega)
        have HDI := Lib.hid hdi
        clear en en2 hd N3 hdi
        refine (down_live M B Nn [1, 2, 3, 4] it d wc HM.out HDI.out (mem4.2 HD.out) (by have := HNN.out; simp; omega)).mono ?_
        rintro e w1 ⟨rfl, hm, ht⟩
        obtain ⟨itD, hit⟩ : ∃ itD, itD = downI [1, 2, 3, 4] it d := ⟨_, rfl⟩
        rw [← hit] at hm
        have FD := Lib.hid (show itD (d, d) = [] by rw [hit]; simp [downI])
        have FB := Lib.hid (show ∀ k, 1 ≤ k ∧ k ≤ 4 → k ≠ d → itD (d, k) = [brk] from fun k hk hkd => by rw [hit]; unfold downI; rw [if_neg hkd, if_pos ⟨rfl, mem4.2 hk⟩])
        have FN := Lib.hid (show ∀ k, itD (k, d) = [] from fun k => by rw [hit]; simp [downI])
        obtain ⟨lv, hlv⟩ : ∃ lv, lv = downL [1, 2, 3, 4] d := ⟨_, rfl⟩
        rw [← hlv] at hm
        have LVM := Lib.hid (show ∀ k, k ∈ lv ↔ (1 ≤ k ∧ k ≤ 4) ∧ k ≠ d from fun k => by rw [hlv]; exact down4)
        have LVU := Lib.hid (show ∀ k, k ∈ upL lv d ↔ 1 ≤ k ∧ k ≤ 4 from fun k => by rw [hlv]; exact up4 HD.out)
        have LVL := Lib.hid (show (upL lv d).length = 4 by rw [hlv]; exact up4_len HD.out)
        replace HM := Lib.hid (show MeshA w1 M B (Nn + 4) lv itD from hm)
        replace HN := Lib.hid (MT.new HN.out ht HB.out)
        clear hm ht hit hlv
        go_wp2_with fail
        go_loopw [9] (fun v wr => ∃ j N3 : Nat, v = .int .i64 (1 + j) ∧ Hid (j ≤ 4) ∧ Hid (MeshA wr M B N3 lv itD) ∧ Hid (N3 ≤ 2000 + 10 * j) ∧ Hid (New W wr)) (fun v _ => 5 - (intOf v).toNat)
        case atStart => exact ⟨0, _, rfl, Lib.hid (by omega), HM, Lib.hid (by have := HNN.out; omega), HN⟩
        case round =>
          clear HM HN HNN
          obtain ⟨j, N3, rfl, HJ, HM, HNN, HN⟩ := hrel
          have hjb := HJ.out
          by_cases hj : j < 4
          · have hj2 : (1 : Int) + j ≤ 4 := by omega
            obtain ⟨k, hk⟩ : ∃ k : Int, k = 1 + (j : Int) := ⟨_, rfl⟩
            have hkn : IntKind.i64.wrap (k + 1) = 1 + ((j + 1 : Nat) : Int) := by rw [hk]; rw [wrap_small (by omega) (by omega)]; push_cast; omega
            have hk4 : k ≤ 4 := by omega
            rw [← hk]
            have HK := Lib.hid (show 1 ≤ k ∧ k ≤ 4 by omega)
            have HKJ := Lib.hid hk
            have HKI := Lib.hid (show I64 k from I64_small (by omega) (by omega))
            clear hk hj2
            by_cases hkd : k = d
            · have tk : (k == d) = true := beq_ hkd
              clear hkd
              go_wp2_with fail
              go_roundw
              case rel => exact ⟨j + 1, _, by first | rw [hkn] | rfl, Lib.hid (by omega), HM, Lib.hid (by have := HNN.out; omega), HN⟩
              case measure => have := HKJ.out; simp [intOf]; omega
            · have tk : (k == d) = false := bne_ hkd
              have HKD := Lib.hid hkd
              have HL1 := Lib.hid (fun (wx : World) (hx : MeshA wx M B N3 lv itD) => show Calls Try.prog 45 #[.pointer (some ⟨M, 0, none⟩), .int .i64 k, .int .i64 d] wx (fun e w' => e = .returned (.int .i64 0) ∧ w' = wx) by
                have := lenA M B N3 lv itD k d wx hx HKI.out HDI.out
                rw [FN.out k] at this
                exact this)
              have HL2 := Lib.hid (fun (N4 : Nat) (wx : World) (hx : MeshA wx M B N4 lv itD) => show Calls Try.prog 45 #[.pointer (some ⟨M, 0, none⟩), .int .i64 d, .int .i64 k] wx (fun e w' => e = .returned (.int .i64 1) ∧ w' = wx) by
                have := lenA M B N4 lv itD d k wx hx HDI.out HKI.out
                rw [FB.out k HK.out HKD.out] at this
                exact this)
              have HL3 := Lib.hid (fun (N4 : Nat) (wx : World) (hx : MeshA wx M B N4 lv itD) => show Calls Try.prog 45 #[.pointer (some ⟨M, 0, none⟩), .int .i64 k, .int .i64 d] wx (fun e w' => e = .returned (.int .i64 0) ∧ w' = wx) by
                have := lenA M B N4 lv itD k d wx hx HKI.out HDI.out
                rw [FN.out k] at this
                exact this)
              clear hkd
              go_wp2_with fail
              refine (HL1.out _ HM.out).mono ?_
              rintro e w2 ⟨rfl, rfl⟩
              go_wp2_with fail
              refine (HL2.out _ _ HM.out).mono ?_
              rintro e w3 ⟨rfl, rfl⟩
              go_wp2_with fail
              refine (sendA M B N3 lv itD k d ⟨#[108, 111, 115, 116]⟩ w3 HM.out HKI.out HDI.out (by have := HNN.out; omega)).mono ?_
              rintro e w4 ⟨rfl, hm, ht⟩
              have e1 : sendI lv itD k d ⟨#[108, 111, 115, 116]⟩ = itD := by
                unfold sendI
                rw [if_neg (not_or.2 ⟨fun h => h ((LVM.out k).2 ⟨HK.out, HKD.out⟩), HKD.out⟩), if_pos (fun h => ((LVM.out d).1 h).2 rfl), ← FB.out k HK.out HKD.out]
                exact setI_same itD (d, k)
              rw [e1] at hm
              have HM4 := Lib.hid hm
              have HN4 := Lib.hid (MT.new HN.out ht HB.out)
              clear hm ht e1
              go_wp2_with fail
              refine (breakA M B (N3 + 3) lv itD k d w4 HM4.out HKI.out HDI.out (by have := HNN.out; omega)).mono ?_
              rintro e w5 ⟨rfl, hm, ht⟩
              have e1 : breakI lv itD k d = itD := by
                unfold breakI
                rw [if_pos (Or.inr (Or.inr (fun h => ((LVM.out d).1 h).2 rfl)))]
              rw [e1] at hm
              have HM5 := Lib.hid hm
              have HN5 := Lib.hid (MT.new HN4.out ht HB.out)
              clear hm ht e1
              go_wp2_with fail
              refine (HL3.out _ _ HM5.out).mono ?_
              rintro e w6 ⟨rfl, rfl⟩
              go_wp2_with fail
              refine (HL2.out _ _ HM5.out).mono ?_
              rintro e w7 ⟨rfl, rfl⟩
              go_wp2_with fail
              go_roundw
              case rel => exact ⟨j + 1, _, by first | rw [hkn] | rfl, Lib.hid (by omega), HM5, Lib.hid (by have := HNN.out; omega), HN5⟩
              case measure => have := HKJ.out; simp [intOf]; omega
          · obtain rfl : j = 4 := by omega
            have hj2 : ¬ (1 : Int) + (4 : Nat) ≤ 4 := by decide
            go_wp2_with fail
            refine (upA M B N3 lv itD d wr HM.out (by have := HD.out; omega) (by have := HNN.out; omega)).mono ?_
            rintro e w8 ⟨rfl, hm, ht⟩
            obtain ⟨lu, hlu⟩ : ∃ lu, lu = upL lv d := ⟨_, rfl⟩
            rw [← hlu] at hm LVU LVL
            rw [← play_zero d itD] at hm
            replace HM := Lib.hid hm
            replace HN := Lib.hid (MT.new HN.out ht HB.out)
            clear hm ht hlu
            go_wp2_with fail
            go_loopw [10] (fun v wr => ∃ j N4 : Nat, v = .int .i64 (1 + j) ∧ Hid (j ≤ 4) ∧ Hid (MeshA wr M B N4 lu (playI d itD j)) ∧ Hid (N4 ≤ 3000 + 10 * j) ∧ Hid (New W wr)) (fun v _ => 5 - (intOf v).toNat)
            case atStart => exact ⟨0, _, rfl, Lib.hid (by omega), HM, Lib.hid (by have := HNN.out; omega), HN⟩
            case round =>
              clear HM HN HNN
              obtain ⟨j, N4, rfl, HJ2, HM, HNN, HN⟩ := hrel
              have hjb := HJ2.out
              by_cases hj : j < 4
              · have hj2 : (1 : Int) + j ≤ 4 := by omega
                obtain ⟨k, hk⟩ : ∃ k : Int, k = 1 + (j : Int) := ⟨_, rfl⟩
                have hkn : IntKind.i64.wrap (k + 1) = 1 + ((j + 1 : Nat) : Int) := by rw [hk]; rw [wrap_small (by omega) (by omega)]; push_cast; omega
                have hk4 : k ≤ 4 := by omega
                rw [← hk]
                have HK := Lib.hid (show 1 ≤ k ∧ k ≤ 4 by omega)
                have HKJ := Lib.hid hk
                have HKI := Lib.hid (show I64 k from I64_small (by omega) (by omega))
                clear hk hj2
                by_cases hkd : k = d
                · have tk : (k == d) = true := beq_ hkd
                  have HKD := Lib.hid hkd
                  clear hkd
                  go_wp2_with fail
                  go_roundw
                  case rel => exact ⟨j + 1, _, by first | rw [hkn] | rfl, Lib.hid (by omega), by rw [play_same FD.out (by rw [← HKJ.out]; exact HKD.out)]; exact HM, Lib.hid (by have := HNN.out; omega), HN⟩
                  case measure => have := HKJ.out; simp [intOf]; omega
                · have tk : (k == d) = false := bne_ hkd
                  have HKD := Lib.hid hkd
                  have HP := Lib.hid (show playI d itD j (d, k) = [brk] by rw [play_at HKJ.out]; exact FB.out k HK.out HKD.out)
                  have HQ := Lib.hid (show playI d itD j (k, d) = [] by rw [play_back HKD.out]; exact FN.out k)
                  have HST := Lib.hid (fun x y z => play_step (j := j) HKJ.out HKD.out (FN.out k) x y z)
                  obtain ⟨it4, hit4⟩ : ∃ it4, it4 = playI d itD j := ⟨_, rfl⟩
                  rw [← hit4] at HM HP HQ HST
                  clear hkd hit4
                  have HNE := Lib.hid (show ((d, k) : Int × Int) ≠ (k, d) from fun e => HKD.out (Prod.mk.inj e).2)
                  go_wp2_with fail
                  refine (sendA M B N4 lu it4 d k ⟨#[110, 101, 119]⟩ wr HM.out HDI.out HKI.out (by have := HNN.out; omega)).mono ?_
                  rintro e w2 ⟨rfl, hm, ht⟩
                  have e1 : sendI lu it4 d k ⟨#[110, 101, 119]⟩ = setI it4 (d, k) [brk, ⟨false, ⟨#[110, 101, 119]⟩⟩] := by
                    unfold sendI
                    rw [if_neg (not_or.2 ⟨fun h => h ((LVU.out d).2 HD.out), fun h => HKD.out h.symm⟩), if_neg (fun h => h ((LVU.out k).2 HK.out)), HP.out, if_pos (by simp)]
                    rfl
                  rw [e1] at hm
                  have HM2 := Lib.hid hm
                  have HN2 := Lib.hid (MT.new HN.out ht HB.out)
                  clear hm ht e1
                  go_wp2_with fail
                  refine (sendA M B (N4 + 3) lu _ k d ⟨#[98, 97, 99, 107]⟩ w2 HM2.out HKI.out HDI.out (by have := HNN.out; omega)).mono ?_
                  rintro e w3 ⟨rfl, hm, ht⟩
                  have e1 : sendI lu (setI it4 (d, k) [brk, ⟨false, ⟨#[110, 101, 119]⟩⟩]) k d ⟨#[98, 97, 99, 107]⟩ = setI (setI it4 (d, k) [brk, ⟨false, ⟨#[110, 101, 119]⟩⟩]) (k, d) [⟨false, ⟨#[98, 97, 99, 107]⟩⟩] := by
                    have e2 : setI it4 (d, k) [brk, ⟨false, ⟨#[110, 101, 119]⟩⟩] (k, d) = [] := by
                      unfold setI
                      rw [if_neg (fun e => HNE.out e.symm)]
                      exact HQ.out
                    unfold sendI
                    rw [if_neg (not_or.2 ⟨fun h => h ((LVU.out k).2 HK.out), HKD.out⟩), if_neg (fun h => h ((LVU.out d).2 HD.out)), e2, if_pos (by simp)]
                    rfl
                  rw [e1] at hm
                  have HM3 := Lib.hid hm
                  have HN3 := Lib.hid (MT.new HN2.out ht HB.out)
                  clear hm ht e1 HM2 HN2
                  go_wp2_with fail
                  refine (mtake_more M B (N4 + 3 + 3) lu _ d k brk [⟨false, ⟨#[110, 101, 119]⟩⟩] w3 HM3.out HDI.out HKI.out (by unfold setI; rw [if_neg HNE.out, if_pos rfl]) (by simp)).mono ?_
                  rintro e w4 ⟨rfl, hm, ht⟩
                  obtain ⟨w5, hw5⟩ : ∃ w5, w5 = w4.alloc (.cells #[.bool true, .string ⟨#[]⟩] 57) := ⟨_, rfl⟩
                  have HM4 := Lib.hid (show MeshA w5 M B (N4 + 3 + 3) lu _ by rw [hw5]; exact hm.new ((New.refl _).alloc _))
                  have HN4 := Lib.hid (show New W w5 by rw [hw5]; exact (MT.new HN3.out ht HB.out).alloc _)
                  have HX := Lib.hid (show Bk w5 w4.heap.size 57 #[.bool true, .string ⟨#[]⟩] by rw [hw5]; exact Bk.made _ _ _)
                  have HW5 := Lib.hid hw5
                  clear hm ht hw5 HM3 HN3
                  simp only [itV, brk]
                  go_wp2_with fail
                  rw [← HW5.out]
                  clear HW5
                  refine (mtake_last M B (N4 + 3 + 3) lu _ d k ⟨false, ⟨#[110, 101, 119]⟩⟩ w5 HM4.out HDI.out HKI.out (by unfold setI; rw [if_pos rfl])).mono ?_
                  rintro e w6 ⟨rfl, hm, ht⟩
                  obtain ⟨w7, hw7⟩ : ∃ w7, w7 = w6.alloc (.cells #[.bool false, .string ⟨#[110, 101, 119]⟩] 57) := ⟨_, rfl⟩
                  have HM6 := Lib.hid (show MeshA w7 M B (N4 + 3 + 3) lu _ by rw [hw7]; exact hm.new ((New.refl _).alloc _))
                  have HN6 := Lib.hid (show New W w7 by rw [hw7]; exact (MT.new HN4.out ht HB.out).alloc _)
                  have HX6 := Lib.hid (show Bk w7 w4.heap.size 57 #[.bool true, .string ⟨#[]⟩] by rw [hw7]; exact (ht.bk HX.out).alloc _)
                  have HY6 := Lib.hid (show Bk w7 w6.heap.size 57 #[.bool false, .string ⟨#[110, 101, 119]⟩] by rw [hw7]; exact Bk.made _ _ _)
                  have HW7 := Lib.hid hw7
                  clear hm ht hw7 HM4 HN4 HX
                  simp only [itV]
                  go_wp2_with fail
                  rw [← HW7.out]
                  clear HW7
                  refine (mtake_last M B (N4 + 3 + 3) lu _ k d ⟨false, ⟨#[98, 97, 99, 107]⟩⟩ w7 HM6.out HKI.out HDI.out (by unfold setI; rw [if_neg (fun e => HNE.out e.symm), if_neg (fun e => HNE.out e.symm), if_pos rfl])).mono ?_
                  rintro e w8 ⟨rfl, hm, ht⟩
                  obtain ⟨w9, hw9⟩ : ∃ w9, w9 = w8.alloc (.cells #[.bool false, .string ⟨#[98, 97, 99, 107]⟩] 57) := ⟨_, rfl⟩
                  rw [HST.out] at hm
                  have HM8 := Lib.hid (show MeshA w9 M B (N4 + 3 + 3) lu (playI d itD (j + 1)) by rw [hw9]; exact hm.new ((New.refl _).alloc _))
                  have HN8 := Lib.hid (show New W w9 by rw [hw9]; exact (MT.new HN6.out ht HB.out).alloc _)
                  have hx8 : Bk w9 w4.heap.size 57 #[.bool true, .string ⟨#[]⟩] := by rw [hw9]; exact (ht.bk HX6.out).alloc _
                  have hy8 : Bk w9 w6.heap.size 57 #[.bool false, .string ⟨#[110, 101, 119]⟩] := by rw [hw9]; exact (ht.bk HY6.out).alloc _
                  have hz8 : Bk w9 w8.heap.size 57 #[.bool false, .string ⟨#[98, 97, 99, 107]⟩] := by rw [hw9]; exact Bk.made _ _ _
                  have HX8 := Lib.hid hx8
                  have HY8 := Lib.hid hy8
                  have HZ8 := Lib.hid hz8
                  have HW9 := Lib.hid hw9
                  have HL1 := Lib.hid (show Calls Try.prog 45 #[.pointer (some ⟨M, 0, none⟩), .int .i64 d, .int .i64 k] w9 (fun e w' => e = .returned (.int .i64 0) ∧ w' = w9) by
                    have := lenA M B (N4 + 3 + 3) lu _ d k w9 HM8.out HDI.out HKI.out
                    have e1 : playI d itD (j + 1) (d, k) = [] := by unfold playI; rw [if_pos ⟨rfl, HK.out.1, by rw [HKJ.out]; push_cast; omega⟩]
                    rw [e1] at this
                    exact this)
                  have HL2 := Lib.hid (show Calls Try.prog 45 #[.pointer (some ⟨M, 0, none⟩), .int .i64 k, .int .i64 d] w9 (fun e w' => e = .returned (.int .i64 0) ∧ w' = w9) by
                    have := lenA M B (N4 + 3 + 3) lu _ k d w9 HM8.out HKI.out HDI.out
                    rw [play_back HKD.out, FN.out k] at this
                    exact this)
                  clear hm ht hw9 hx8 hy8 hz8 HM6 HN6 HX6 HY6
                  simp only [itV]
                  go_upto_region 34 with fail
                  rw [← HW9.out]
                  clear HW9
                  have x0 := HX8.out.cell 0
                  have y0 := HY8.out.cell 0
                  have y1 := HY8.out.cell 1
                  have z1 := HZ8.out.cell 1
                  have xl := HX8.out.lt
                  have yl := HY8.out.lt
                  have zl := HZ8.out.lt
                  simp at x0 y0 y1 z1
                  go_wp2_with fail
                  refine HL1.out.mono ?_
                  rintro e z2 ⟨rfl, rfl⟩
                  go_wp2_with fail
                  refine HL2.out.mono ?_
                  rintro e z3 ⟨rfl, rfl⟩
                  go_wp2_with fail
                  go_roundw
                  case rel => exact ⟨j + 1, _, by first | rw [hkn] | rfl, Lib.hid (by omega), HM8, Lib.hid (by have := HNN.out; omega), HN8⟩
                  case measure => have := HKJ.out; simp [intOf]; omega
              · obtain rfl : j = 4 := by omega
                have hj2 : ¬ (1 : Int) + (4 : Nat) ≤ 4 := by decide
                have HNO := Lib.hid (HNODES.out M B N4 lu _ wr HM.out (by rw [LVL.out]; decide))
                rw [LVL.out] at HNO
                go_wp2_with fail
                refine HNO.out.mono ?_
                rintro e w9 ⟨ao2, cap2, rfl, hn⟩
                have HN9 := Lib.hid (HN.out.then hn)
                clear hn HNO
                go_wp2_with fail
                go_ret
                exact ⟨rfl, HN9.out.below⟩
end Go.Proofs.Ytebpdnmmcbianaa
