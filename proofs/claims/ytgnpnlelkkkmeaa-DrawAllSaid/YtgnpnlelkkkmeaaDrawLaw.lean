/-
  The statements of package draw.
-/
import Derived.Test.YtgnpnlelkkkmeaaDraw
namespace Go.Proofs.Ytgnpnlelkkkmeaa
open Go.RowKit

theorem speaks02 (w : World) : Calls Try.prog 29 #[] w fun e w' => e = .returned (.bool true) ∧ Below w.heap.size w w' := by
  go_enter Try.func29, Try.ntmps29
  go_wp2_with fail
  refine (new_is _ [5, 1] (· = w.heap.size) _ (sl_made w 55 (u32s [5, 1]) (by decide)) (by simp [U32s]) (by decide)).mono ?_
  rintro e w1 ⟨D, g, rfl, hD, hg, hd, hb⟩
  have hb1 : Below w.heap.size w w1 := ((Below.refl _ _).alloc (Nat.le_refl _) _).trans (hb.mono (by simp))
  simp only [World.size_alloc] at hD hg
  have HB := Lib.hid hb1
  have HD := Lib.hid hd
  clear hb hb1 hd
  go_wp2_with fail
  refine (below_is D g _ _ _ HD.out).mono ?_
  rintro e w2 ⟨rfl, hd, ht⟩
  rw [show belowV [5, 1] 3 = 2 from by decide]
  have HD2 := Lib.hid hd
  have HT2 := Lib.hid ht
  clear hd ht
  go_wp2_with fail
  refine (below_is D g _ _ _ HD2.out).mono ?_
  rintro e w3 ⟨rfl, hd, ht⟩
  rw [show belowV (belowT [5, 1] 3) 3 = 1 from by decide]
  have HD3 := Lib.hid hd
  have HT3 := Lib.hid ht
  clear hd ht
  go_wp2_with fail
  refine (below_is D g _ _ _ HD3.out).mono ?_
  rintro e w4 ⟨rfl, hd, ht⟩
  rw [show belowV (belowT (belowT [5, 1] 3) 3) 3 = 0 from by decide]
  have ht14 := (HT2.out.then HT3.out).then ht
  have hb4 : Below w.heap.size w w4 := HB.out.trans (ht14.belowB HB.out.size (by omega))
  have hs4 := ht14.size
  have HD4 := Lib.hid hd
  have HB4 := Lib.hid hb4
  clear hd ht ht14 hb4
  go_wp2_with fail
  have hDlt := HD4.out.lt
  refine (one_Str D g _ _ [.string ⟨#[120]⟩] (· = w4.heap.size) _ (HD4.out.alloc _) (sl_made w4 9 [.string ⟨#[120]⟩] (by decide)) (by omega) (by simp)).mono ?_
  rintro e w5 ⟨v, hv, rfl, hd, ht⟩
  rw [show (belowV (belowT (belowT (belowT [5, 1] 3) 3) 3) (List.length [Value.string ⟨#[120]⟩])).toNat = 0 from by decide] at hv
  injection hv with hv
  subst hv
  have hb5 : Below w.heap.size w w5 := HB4.out.trans (((Below.refl _ _).alloc HB4.out.size _).trans (ht.belowB (by simp; have := HB4.out.size; omega) (by omega)))
  have HB5 := Lib.hid hb5
  clear hd ht hb5
  go_wp2_with fail
  go_ret
  exact ⟨rfl, HB5.out⟩

def i64s (xs : List Int) : List Value := xs.map (Value.int .i64)

set_option maxHeartbeats 4000000 in
theorem drawBelow_core (v0 v1 : Value) (ls zs : List Int) (w : World) (h0 : Sl w (· < w.heap.size) v0 (u32s ls)) (h1 : Sl w (· < w.heap.size) v1 (i64s zs)) (hls : U32s ls) :
    Calls Try.prog 7 #[v0, v1] w fun e w' => e = .returned (.bool true) ∧ Below w.heap.size w w' := by
  have H0 := Lib.hid h0
  have H1 := Lib.hid h1
  obtain ⟨ao, cap0, rfl, hl0, hm0, hn0, hc0⟩ := h0
  obtain ⟨bo, cap1, rfl, hl1, hm1, hn1, hc1⟩ := h1
  simp only [u32s, i64s, List.length_map] at hl0 hl1
  rw [show (u32s ls).length = ls.length from by simp [u32s], show (i64s zs).length = zs.length from by simp [i64s]]
  clear hc0 hc1 hn0 hn1
  unfold maxLen at hm0 hm1
  have HA : ∀ M, (M = 20 ∧ 20 ≤ ls.length ∨ M = ls.length ∧ ls.length ≤ 20) → Hid ((ls.take 20).length = M ∧ Sl w (· < w.heap.size) (.slice ao M cap0) (u32s (ls.take 20))) := by
    intro M hM
    refine ⟨by rw [List.length_take]; omega, ?_⟩
    have := H0.out.head (n := M) (by simp [u32s]; omega)
    have e : (u32s ls).take M = u32s (ls.take 20) := by
      simp only [u32s, ← List.map_take]
      rcases hM with ⟨rfl, _⟩ | ⟨rfl, h⟩
      · rfl
      · rw [List.take_of_length_le (Nat.le_refl _), List.take_of_length_le h]
    rwa [e] at this
  have hls' : U32s (ls.take 20) := fun x hx => hls x (List.mem_of_mem_take hx)
  have HLS := Lib.hid hls'
  obtain ⟨M, hM⟩ : ∃ M, (ls.take 20).length = M := ⟨_, rfl⟩
  have HM := Lib.hid hM
  have hM1 : M ≤ 20 ∧ M ≤ ls.length ∧ (20 ≤ M ∨ ls.length ≤ M) := by rw [← hM, List.length_take]; omega
  obtain ⟨hM1, hM2, hM3⟩ := hM1
  clear hls hls' hM
  go_enter Try.func7, Try.ntmps7
  go_wp2_with (go_at_call 29; refine (speaks02 _).mono ?_; rintro e w1 ⟨rfl, hb1⟩; have HB1 := Lib.hid hb1; clear hb1)
  all_goals
    refine (new_is _ (ls.take 20) (· < w.heap.size) _ ((HA _ (by omega)).out.2.below HB1.out) HLS.out (by rw [List.length_take]; omega)).mono ?_
    rintro e w2 ⟨D, g, rfl, hD, hg, hd, hb⟩
    have hsz := HB1.out.size
    have hb2 := HB1.out.trans (hb.mono hsz)
    have hDl := hd.lt
    have HD := Lib.hid hd
    have HB2 := Lib.hid hb2
    clear hd hb hb2 hsz
    go_wp2_with fail
    go_loopw [6, 7] (fun a i wr => ∃ k t : Nat, k ≤ zs.length ∧ k ≤ 40 ∧ i = .int .i64 k ∧ t ≤ M ∧ a = .int .i64 t ∧ Hid (DrawIs wr D g ((ls.take 20).drop t)) ∧ Hid (Below w.heap.size w wr))
      (fun _ i _ => 40 - (intOf i).toNat)
    case atStart => exact ⟨0, 0, by omega, by omega, rfl, by omega, rfl, HD, HB2⟩
    case round =>
      obtain ⟨k, t, hk, hk40, rfl, ht, rfl, HDr, HBr⟩ := hrel
      by_cases hlt : k < zs.length ∧ k < 40
      · obtain ⟨hkz, hk4⟩ := hlt
        obtain ⟨z, hz⟩ : ∃ z, z = zs[k] := ⟨_, rfl⟩
        obtain ⟨b, off, rfl, hcz⟩ : ∃ b off, bo = some ⟨b, off, none⟩ ∧ wr.cell? ⟨b, off + k, none⟩ = some (.int .i64 z) := by
          obtain ⟨ao', cap', e, _, _, _, hc⟩ := H1.out.below HBr.out
          injection e with e1 e2 e3
          subst e1
          obtain ⟨b, off, e, _, _, hc⟩ := hc (by simp [i64s]; omega)
          exact ⟨b, off, e, by rw [hc k (by simp [i64s]; omega), hz]; simp [i64s]⟩
        clear hz
        by_cases hin : (2 ≤ z ∧ z < 2147483648) ∧ t < M
        · obtain ⟨⟨hz1, hz2⟩, htM⟩ := hin
          have htl : t < (ls.take 20).length := by rw [HM.out]; exact htM
          obtain ⟨x, hx⟩ : ∃ x, x = (ls.take 20)[t] := ⟨_, rfl⟩
          obtain ⟨b', off', rfl, hcx⟩ : ∃ b off, ao = some ⟨b, off, none⟩ ∧ wr.cell? ⟨b, off + t, none⟩ = some (.int .u32 x) := by
            obtain ⟨ao', cap', e, _, _, _, hc⟩ := (HA M (by omega)).out.2.below HBr.out
            injection e with e1 e2 e3
            subst e1
            obtain ⟨b, off, e, _, _, hc⟩ := hc (by simp only [u32s, List.length_map]; omega)
            exact ⟨b, off, e, by rw [hc t (by simp only [u32s, List.length_map]; omega), hx]; simp only [u32s, List.getElem_map]⟩
          have hxr := HLS.out x (by rw [hx]; exact List.getElem_mem _)
          obtain ⟨hx0, hx1⟩ := hxr
          have e0 := Int.emod_nonneg x (show z ≠ 0 by omega)
          have e1 := Int.emod_lt_of_pos x (show 0 < z by omega)
          have hv : belowV ((ls.take 20).drop t) z = x % z := by
            rw [belowV, if_pos (by omega), hx, List.drop_eq_getElem_cons htl]
            rfl
          have htl' : belowT ((ls.take 20).drop t) z = (ls.take 20).drop (t + 1) := by
            rw [belowT, if_pos (by omega), List.tail_drop]
          have HV := Lib.hid hv
          have HT := Lib.hid htl'
          clear hx hv htl'
          go_wp2_with fail
          go_quiet (fail)
          go_wp2_with fail
          refine (below_is D g _ _ _ (HDr.out.drewN _)).mono ?_
          rintro e w3 ⟨rfl, hd, htt⟩
          rw [HT.out] at hd
          rw [HV.out]
          have hb3 : Below w.heap.size w w3 := (bdN HBr.out _).trans (htt.belowB (S := (· = D)) HBr.out.size (by have := HB1.out.size; omega))
          have HD3 := Lib.hid hd
          have HB3 := Lib.hid hb3
          have hlen : ((ls.take 20).drop (t + 1)).length = M - (t + 1) := by rw [List.length_drop, HM.out]
          have HL := Lib.hid hlen
          clear hd htt hb3 hlen
          go_wp2_with fail
          refine (left_is D g _ _ HD3.out).mono ?_
          rintro e w4 ⟨rfl, rfl⟩
          rw [HL.out]
          go_wp2_with fail
          go_roundw
          case rel => exact ⟨k + 1, t + 1, by omega, by omega, by go_num, by omega, by go_num, HD3, HB3⟩
          case measure => simp [intOf]; omega
        · have hv : belowV ((ls.take 20).drop t) z = 0 := by
            rw [belowV]
            split
            · rw [List.drop_of_length_le (by rw [HM.out]; omega)]; simp
            · rfl
          have htl' : belowT ((ls.take 20).drop t) z = (ls.take 20).drop t := by
            rw [belowT]
            split
            · rw [List.drop_of_length_le (by rw [HM.out]; omega)]; rfl
            · rfl
          have hlen : ((ls.take 20).drop t).length = M - t := by rw [List.length_drop, HM.out]
          have HL := Lib.hid hlen
          have HV := Lib.hid hv
          have HT := Lib.hid htl'
          clear hv htl' hlen
          rcases (show z < 2 ∨ (2 ≤ z ∧ 2147483648 ≤ z) ∨ ((2 ≤ z ∧ z < 2147483648) ∧ M ≤ t) by omega) with h | h | h
          all_goals clear hin
          all_goals
            go_wp2_with fail
            refine (below_is D g _ _ _ HDr.out).mono ?_
            rintro e w3 ⟨rfl, hd, htt⟩
            rw [HT.out] at hd
            rw [HV.out]
            have hb3 : Below w.heap.size w w3 := HBr.out.trans (htt.belowB (S := (· = D)) HBr.out.size (by have := HB1.out.size; omega))
            have HD3 := Lib.hid hd
            have HB3 := Lib.hid hb3
            clear hd htt hb3
            go_wp2_with fail
            refine (left_is D g _ _ HD3.out).mono ?_
            rintro e w4 ⟨rfl, rfl⟩
            rw [HL.out]
            go_wp2_with fail
            go_roundw
            case rel => exact ⟨k + 1, t, by omega, by omega, by go_num, by omega, rfl, HD3, HB3⟩
            case measure => simp [intOf]; omega
      · rcases (show zs.length ≤ k ∨ 40 ≤ k by omega) with h | h
        all_goals clear hlt
        all_goals go_wp2_with (first | (go_at_call 31; refine (below_nil _ _).mono ?_; rintro e w' ⟨rfl, rfl⟩) | (go_at_call 32; refine (left_nil _).mono ?_; rintro e w' ⟨rfl, rfl⟩))
        all_goals go_ret
        all_goals exact ⟨rfl, HBr.out⟩
end Go.Proofs.Ytgnpnlelkkkmeaa
