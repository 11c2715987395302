/-
  DrawSome's walk.
-/
import Derived.Test.YtgnpnlelkkkmeaaRefSome
import Derived.Deep.DeepCutAuto
set_option linter.unusedVariables false
namespace Go.Proofs.Ytgnpnlelkkkmeaa
open Go.RowKit

set_option maxRecDepth 100000 in
set_option maxHeartbeats 4000000 in
theorem drawSome_core (v0 v1 : Value) (ls : List Int) (ts : List ByteArray) (n : Int) (w : World) (h0 : Sl w (· < w.heap.size) v0 (u32s ls)) (h1 : Sl w (· < w.heap.size) v1 (ts.map Value.string)) (hls : U32s ls) (hn : -9223372036854775808 ≤ n ∧ n ≤ 9223372036854775807) :
    Calls Try.prog 8 #[v0, v1, .int .i64 n] w fun e w' => e = .returned (.bool true) ∧ Below w.heap.size w w' := by
  have H0 := Lib.hid h0
  have H1 := Lib.hid h1
  have HLS := Lib.hid hls
  obtain ⟨ao, cap0, rfl, hl0, hm0, _, _⟩ := h0
  obtain ⟨bo, cap1, rfl, hl1, hm1, _, _⟩ := h1
  rw [show (u32s ls).length = ls.length from by simp [u32s]] at hl0 ⊢
  rw [List.length_map] at hl1 ⊢
  unfold maxLen at hm0 hm1
  obtain ⟨i0, hi, hz0, hz1, hz2⟩ := info_parts info_Int
  clear hls
  go_enter Try.func8, Try.ntmps8
  go_upto_region 3 with (go_at_call 29; refine (speaks02 _).mono ?_; rintro e w1 ⟨rfl, hb1⟩; have HB1 := Lib.hid hb1; clear hb1)
  go_cut [0, 1] (fun v v' wx => ∃ m m' : Nat, v = .slice ao m cap0 ∧ v' = .slice bo m' cap1 ∧ Hid (Sl w (· < w.heap.size) v (u32s (ls.take 20))) ∧ Hid (Sl w (· < w.heap.size) v' ((ts.take 12).map Value.string)) ∧ Hid (Below w.heap.size w wx))
  case first =>
    have HA : ∀ M, (M = 20 ∧ 20 ≤ ls.length ∨ M = ls.length ∧ ls.length ≤ 20) → Hid (Sl w (· < w.heap.size) (.slice ao M cap0) (u32s (ls.take 20))) := by
      intro M hM
      have := H0.out.head (n := M) (by simp [u32s]; omega)
      have e : (u32s ls).take M = u32s (ls.take 20) := by
        simp only [u32s, ← List.map_take]
        rcases hM with ⟨rfl, _⟩ | ⟨rfl, h⟩
        · rfl
        · rw [List.take_of_length_le (Nat.le_refl _), List.take_of_length_le h]
      rwa [e] at this
    have HT : ∀ M, (M = 12 ∧ 12 ≤ ts.length ∨ M = ts.length ∧ ts.length ≤ 12) → Hid (Sl w (· < w.heap.size) (.slice bo M cap1) ((ts.take 12).map Value.string)) := by
      intro M hM
      have := H1.out.head (n := M) (by simp; omega)
      have e : (ts.map Value.string).take M = (ts.take 12).map Value.string := by
        simp only [← List.map_take]
        rcases hM with ⟨rfl, _⟩ | ⟨rfl, h⟩
        · rfl
        · rw [List.take_of_length_le (Nat.le_refl _), List.take_of_length_le h]
      rwa [e] at this
    rcases (show 20 ≤ ls.length ∨ ls.length < 20 by omega) with h2 | h2
    all_goals rcases (show 12 ≤ ts.length ∨ ts.length < 12 by omega) with h3 | h3
    all_goals go_region
    all_goals go_wp2_with fail
    all_goals go_meet
    all_goals exact ⟨_, _, rfl, rfl, HA _ (by omega), HT _ (by omega), Lib.hid HB1.out.drew⟩
  case rest =>
    obtain ⟨m, m', rfl, rfl, HS, HT, HB⟩ := hcut
    have hls' : U32s (ls.take 20) := fun x hx => HLS.out x (List.mem_of_mem_take hx)
    obtain ⟨L, hL⟩ : ∃ L, L = ls.take 20 := ⟨_, rfl⟩
    obtain ⟨T, hT⟩ : ∃ T, T = ts.take 12 := ⟨_, rfl⟩
    rw [← hL] at HS hls'
    rw [← hT] at HT
    have hLl : L.length ≤ 20 := by rw [hL, List.length_take]; omega
    have hTl : T.length ≤ 12 := by rw [hT, List.length_take]; omega
    have hmL : m = L.length := by obtain ⟨ao', cap', e, _⟩ := HS.out; injection e with e1 e2 e3; simpa [u32s] using e2
    have hmT : m' = T.length := by obtain ⟨ao', cap', e, _⟩ := HT.out; injection e with e1 e2 e3; simpa using e2
    subst hmL hmT
    have HLS' := Lib.hid hls'
    clear hls' hL hT
    go_wp2_with fail
    refine (new_is _ L _ _ (HS.out.below HB.out) HLS'.out (by omega)).mono ?_
    rintro e w2 ⟨D, g, rfl, hD, hg, hd, hb⟩
    have hsr := HB.out.size
    have hB2 := HB.out.trans (hb.mono hsr)
    have HB2 := Lib.hid hB2
    have HD2 := Lib.hid hd
    clear hd hb hB2
    go_wp2_with fail
    refine (some_Str D g _ _ T n _ _ HD2.out (HT.out.below HB2.out) (by omega) hn.2).mono ?_
    rintro e w3 ⟨vg, rfl, hog, hd3, ht3⟩
    have hB3 : Below w.heap.size w w3 := HB2.out.trans (ht3.belowB HB2.out.size (by omega))
    have HB3 := Lib.hid hB3
    have HOG := Lib.hid hog
    have HD3 := Lib.hid hd3
    clear hog hd3 hB3 ht3
    go_wp2_with fail
    refine (ref_some _ _ L T.length n _ (HS.out.below HB3.out) (fun b hb h => by have := HB3.out.size; omega) HLS'.out hLl hTl hn).mono ?_
    rintro e w4 ⟨vw, u, hu, rfl, how, hb4⟩
    have hTf : T = (idx T.length).map (fun i => T.getD i.toNat ByteArray.empty) := by
      apply List.ext_getElem
      · simp [idx]
      · intro j h1 h2
        simp [idx, h1]
    have hmap : someL n.toNat L T = ((someL n.toNat L (idx T.length)).1.map (fun i => T.getD i.toNat ByteArray.empty), (someL n.toNat L (idx T.length)).2) := by
      rw [← someL_map, ← hTf]
    have hog := HOG.out
    have hd3 := HD3.out
    rw [hmap] at hog hd3
    simp only [List.length_map] at hog
    obtain ⟨W, hW⟩ : ∃ W, W = (someL n.toNat L (idx T.length)).1 := ⟨_, rfl⟩
    obtain ⟨R, hR⟩ : ∃ R, R = (someL n.toNat L (idx T.length)).2 := ⟨_, rfl⟩
    rw [← hW] at hog how
    rw [← hR] at hd3 hu
    have hmem : ∀ x ∈ W, 0 ≤ x ∧ x < T.length := by
      intro x hx
      rw [hW] at hx
      have := someL_mem _ _ _ x hx
      simp only [idx, List.mem_map, List.mem_range] at this
      obtain ⟨j, hj, rfl⟩ := this
      omega
    have hB4 : Below w.heap.size w w4 := HB3.out.trans (hb4.mono HB3.out.size)
    have hd4 : DrawIs w4 D g R := hd3.tch (Tch.of_below hb4) (by have := hd3.lt; omega) (fun hp => by have := hd3.glt hp; omega)
    have hog4 := own_tch hog (Tch.of_below hb4) (fun b hb h => by have := (own_base hog hb).2; omega)
    obtain ⟨p, hp⟩ : ∃ p, W.length = p := ⟨_, rfl⟩
    rw [hp] at hog4 how
    obtain ⟨aog, capg, rfl, hpc, hcg, hgn, hgrow⟩ := own_shape hog4
    obtain ⟨aow, capw, rfl, hwc, hcw, hwn, hwrow⟩ := own_shape how
    unfold maxLen at hcg hcw
    have HGN := Lib.hid hgn
    have HWN := Lib.hid hwn
    have HP := Lib.hid hp
    have HME := Lib.hid hmem
    have HB4 := Lib.hid hB4
    have HD4 := Lib.hid hd4
    have HGR := Lib.hid hgrow
    have HWR := Lib.hid hwrow
    have HU := Lib.hid hu
    have hu1 : u ≤ L.length ∧ (R.length : Int) = L.length - u := by omega
    obtain ⟨hu1, hu2⟩ := hu1
    have HU2 := Lib.hid hu2
    have hpT : p ≤ 12 := by
      have := congrArg List.length hW
      rw [someL_length, idx_length] at this
      omega
    clear hTf hmap HOG HD3 hog hd3 hW hR hu how hmem hb4 hB4 hd4 hog4 hp hgrow hwrow hgn hwn hu2
    go_wp2_with (go_at_call 32; refine (left_is D g R _ HD4.out).mono ?_; rintro e w5 ⟨rfl, rfl⟩; rw [HU2.out])
    go_loopw [11] (fun vi wr => ∃ i q : Nat, i ≤ p ∧ vi = .int .i64 i ∧ wr = w4.drewN q) (fun vi _ => p - (intOf vi).toNat)
    case atStart => exact ⟨0, 0, by omega, rfl, rfl⟩
    case round =>
      obtain ⟨i, q, hip, rfl, rfl⟩ := hrel
      by_cases hlt : i < p
      · have hiW : i < W.length := by rw [HP.out]; exact hlt
        obtain ⟨gg, cur, rfl, _, hbk, _, hcur⟩ := HGR.out (fun h => by have := HGN.out h; omega)
        obtain ⟨gw, cuw, rfl, _, hbw, _, hcuw⟩ := HWR.out (fun h => by have := HWN.out h; omega)
        obtain ⟨x, hx⟩ : ∃ x, x = W[i] := ⟨_, rfl⟩
        obtain ⟨hx0, hx1⟩ := HME.out x (by rw [hx]; exact List.getElem_mem _)
        obtain ⟨j, rfl⟩ := Int.eq_ofNat_of_zero_le hx0
        have hj : j < T.length := by omega
        obtain ⟨s, hs⟩ : ∃ s, s = T[j] := ⟨_, rfl⟩
        have hcg1 : w4.cell? ⟨gg, i, none⟩ = some (.string s) := by
          rw [hbk.cell]
          refine hcur i _ ?_
          rw [List.getElem?_map, List.getElem?_map, List.getElem?_eq_getElem hiW, ← hx, hs]
          simp [hj]
        have hcw1 : w4.cell? ⟨gw, i, none⟩ = some (.int .i64 (j : Int)) := by
          rw [hbw.cell]
          refine hcuw i _ ?_
          rw [List.getElem?_map, List.getElem?_eq_getElem hiW, ← hx]
          rfl
        obtain ⟨b, off, rfl, hct⟩ : ∃ b off, bo = some ⟨b, off, none⟩ ∧ w4.cell? ⟨b, off + j, none⟩ = some (.string s) := by
          obtain ⟨ao', cap', e, _, _, _, hc⟩ := HT.out.below HB4.out
          injection e with e1 e2 e3
          subst e1
          obtain ⟨b, off, e, _, _, hc⟩ := hc (by simp; omega)
          exact ⟨b, off, e, by rw [hc j (by simp; omega), hs]; simp⟩
        clear hx hs hbk hbw hcur hcuw
        go_wp2_with fail
        go_quiet (fail)
        go_wp2_with fail
        go_roundw
        case rel => exact ⟨i + 1, _, by omega, by go_num, rfl⟩
        case measure => simp [intOf]; omega
      · go_wp2_with fail
        refine (one_none_Int _ _ _ _).mono ?_
        rintro e w5 ⟨rfl, rfl⟩
        go_wp2_with fail
        go_ret
        exact ⟨rfl, (bdN HB4.out q).alloc (by simpa using HB4.out.size) _⟩
end Go.Proofs.Ytgnpnlelkkkmeaa
