/-
  DrawAll's walk.
-/
import Derived.Test.YtgnpnlelkkkmeaaSomeMath
import Derived.Test.YtgnpnlelkkkmeaaDrawLaw
import Derived.Deep.DeepCutAuto
set_option linter.unusedVariables false
namespace Go.Proofs.Ytgnpnlelkkkmeaa
open Go.RowKit

/-- The first k things. -/
def hundred (k : Nat) : List Int := (List.range k).map fun (j : Nat) => 100 + (j : Int)
theorem hundred_length (k : Nat) : (hundred k).length = k := by simp [hundred]
theorem hundred_succ (k : Nat) : hundred (k + 1) = hundred k ++ [100 + (k : Int)] := by simp [hundred, List.range_succ]
theorem hundred_nodup (k : Nat) : (hundred k).Nodup := by
  rw [hundred, List.nodup_iff_pairwise_ne, List.pairwise_map]
  exact List.Pairwise.imp (fun h e => h (by omega)) List.nodup_range
theorem hundred_mem {k : Nat} {x : Int} (h : x ∈ hundred k) : 100 ≤ x ∧ x < 100 + k := by
  simp only [hundred, List.mem_map, List.mem_range] at h
  obtain ⟨j, hj, rfl⟩ := h
  omega

set_option maxRecDepth 100000 in
set_option maxHeartbeats 4000000 in
theorem drawAll_core (v0 : Value) (ls : List Int) (cn : Nat) (n : Int) (w : World) (h0 : Sl w (· < w.heap.size) v0 (u32s ls)) (hls : U32s ls) (hcn : cn ≤ 255) (hn : -9223372036854775808 ≤ n ∧ n ≤ 9223372036854775807) :
    Calls Try.prog 9 #[v0, .int .u8 cn, .int .i64 n] w fun e w' => e = .returned (.bool true) ∧ Below w.heap.size w w' := by
  have H0 := Lib.hid h0
  have HLS := Lib.hid hls
  obtain ⟨ao, cap0, rfl, hl0, hm0, _, _⟩ := h0
  rw [show (u32s ls).length = ls.length from by simp [u32s]] at hl0 ⊢
  unfold maxLen at hm0
  obtain ⟨i0, hi, hz0, hz1, hz2⟩ := info_parts info_Int
  clear hls
  go_enter Try.func9, Try.ntmps9
  go_upto_region 3 with (go_at_call 29; refine (speaks02 _).mono ?_; rintro e w1 ⟨rfl, hb1⟩; have HB1 := Lib.hid hb1; clear hb1)
  go_cut [0] (fun v wx => ∃ m, v = .slice ao m cap0 ∧ Hid (Sl w (· < w.heap.size) v (u32s (ls.take 20))) ∧ Hid (Below w.heap.size w wx))
  case first =>
    have HA : ∀ M, (M = 20 ∧ 20 ≤ ls.length ∨ M = ls.length ∧ ls.length ≤ 20) → Hid (Sl w (· < w.heap.size) (.slice ao M cap0) (u32s (ls.take 20))) := by
      intro M hM
      have := H0.out.head (n := M) (by simp [u32s]; omega)
      have e : (u32s ls).take M = u32s (ls.take 20) := by
        simp only [u32s, ← List.map_take]
        rcases hM with ⟨rfl, _⟩ | ⟨rfl, h⟩
        · rfl
        · rw [List.take_of_length_le (Nat.le_refl _), List.take_of_length_le h]
      rwa [e] at this
    go_wp2_with fail
    all_goals go_meet
    all_goals exact ⟨_, rfl, HA _ (by omega), HB1⟩
  case rest =>
    obtain ⟨m, rfl, HS, HB⟩ := hcut
    have hls' : U32s (ls.take 20) := fun x hx => HLS.out x (List.mem_of_mem_take hx)
    have HL := Lib.hid hls'
    clear hls'
    go_wp2_with fail
    obtain ⟨C, hC1, hC2⟩ : ∃ C, C ≤ cn % 13 ∧ cn % 13 ≤ C := ⟨_, Nat.le_refl _, Nat.le_refl _⟩
    have hC : C ≤ 12 := by omega
    go_loopw [7, 8] (fun vt vi wr => ∃ k : Nat, k ≤ C ∧ vi = .int .i64 k ∧ Hid (wr.ownsRow w.heap.size 3 1 vt k ((hundred k).map (Value.int .i64))) ∧ Hid (Below w.heap.size w wr)) (fun _ vi _ => 13 - (intOf vi).toNat)
    case atStart => exact ⟨0, by omega, rfl, World.ownsRow_nil _ _ _ _, HB⟩
    case round =>
      obtain ⟨k, hk, rfl, HO, HBr⟩ := hrel
      by_cases hlt : k < C
      · go_wp2_with (at_builtin; refine wpList_append_own _ rfl (.tmp 28) (.tmp 31) 44 rfl w.heap.size 3 i0 (.int .i64 0) 1 8 Try.underlying44 hi hz0 hz1 hz2 rfl (by decide) _ k _ rfl (HO.out.alloc _) ⟨wr.heap.size, 0, none⟩ 1 1 [.int .i64 (100 + (k : Int))] rfl rfl ?c1 ?c2 ?c3 ?c4 ?c5 ?_)
        case c1 => exact cells_one _ _ _
        case c2 => intro u hu; simp at hu; subst hu; rfl
        case c3 => exact Nat.le_trans (by omega) (by decide : 9223372036854775807 ≤ maxLen)
        case c4 => omega
        case c5 => have := HBr.out.size; simp; omega
        intro v' w3 hown3 hgrow _
        have hO3 : w3.ownsRow w.heap.size 3 1 v' (k + 1) ((hundred (k + 1)).map (Value.int .i64)) := by rw [hundred_succ]; simpa using hown3
        have hB3 : Below w.heap.size w w3 := (HBr.out.alloc HBr.out.size _).grown hgrow (by have := HBr.out.size; simp; omega) (fun b hb => (own_base HO.out hb).1)
        have HO3 := Lib.hid hO3
        have HB3 := Lib.hid hB3
        clear hown3 hgrow hO3 hB3
        go_wp2_with fail
        go_roundw
        case rel => exact ⟨k + 1, by omega, by go_num, HO3, HB3⟩
        case measure => simp [intOf]; omega
      · obtain rfl : k = C := by omega
        go_wp2_with fail
        refine (new_is _ (ls.take 20) _ _ (HS.out.below HBr.out) HL.out (by rw [List.length_take]; omega)).mono ?_
        rintro e w2 ⟨D, g, rfl, hD, hg, hd, hb⟩
        have hsr := HBr.out.size
        have hB2 := HBr.out.trans (hb.mono hsr)
        have hO2 := own_tch HO.out (Tch.of_below hb) (fun b hb' h => by have := (own_base HO.out hb').2; omega)
        have HB2 := Lib.hid hB2
        have HO2 := Lib.hid hO2
        have HD2 := Lib.hid hd
        clear hd hb hB2 hO2
        go_wp2_with fail
        refine (some_Int D g _ _ (hundred k) n (w.heap.size ≤ ·) _ HD2.out (own_sl HO2.out) (by rw [hundred_length]; omega) hn.2).mono ?_
        rintro e w3 ⟨vg, rfl, hog, hd3, ht3⟩
        obtain ⟨G, hG⟩ : ∃ G, G = (someL n.toNat (ls.take 20) (hundred k)).1 := ⟨_, rfl⟩
        rw [← hG] at hog
        have hlen : G.length = min n.toNat k := by rw [hG, someL_length, hundred_length]
        have hnd : G.Nodup := by rw [hG]; exact someL_nodup _ _ _ (hundred_nodup k)
        have hmem : ∀ x ∈ G, 100 ≤ x ∧ x < 100 + k := by rw [hG]; exact fun x hx => hundred_mem (someL_mem _ _ _ x hx)
        have hO3 := own_tch HO2.out ht3 (fun b hb' h => by have := (own_base HO.out hb').2; omega)
        have hB3 : Below w.heap.size w w3 := HB2.out.trans (ht3.belowB HB2.out.size (by omega))
        obtain ⟨aog, capg, rfl, hpc, hcg, _, hgrow⟩ := own_shape hog
        obtain ⟨aot, capt, rfl, hkc, hct, _, htrow⟩ := own_shape hO3
        obtain ⟨p, hp⟩ : ∃ p, G.length = p := ⟨_, rfl⟩
        rw [hp] at hlen hpc ⊢
        have hp1 : p ≤ k ∧ (p : Int) ≤ max n 0 ∧ (n ≤ p ∨ k ≤ p) := by omega
        obtain ⟨hp1, hp2, hp3⟩ := hp1
        unfold maxLen at hcg hct
        have HGS := Lib.hid hG
        have HND := Lib.hid hnd
        have HME := Lib.hid hmem
        have HO3 := Lib.hid hO3
        have HB3 := Lib.hid hB3
        have HGR := Lib.hid hgrow
        have HTR := Lib.hid htrow
        have HP := Lib.hid hp
        have HGO := Lib.hid hog
        clear hG hlen hnd hmem hO3 hB3 hgrow htrow hp hog hd3 ht3 HD2 HO2 HB2 HO HBr
        go_upto_region 10 with (fail)
        go_cut [45] (fun b wx => b = .bool false ∧ wx = w3)
        case first =>
          go_wp2_with fail
          all_goals go_meet
          all_goals refine ⟨?_, rfl⟩
          all_goals (simp only [Value.bool.injEq, bne_eq_false_iff_eq]; first | rfl | ((repeat' split) <;> omega) | omega)
        case rest =>
          obtain ⟨rfl, hwc⟩ := hcut
          subst hwc
          go_wp2_with fail
          go_loopw [10] (fun vi wr => ∃ i q : Nat, i ≤ p ∧ vi = .int .i64 i ∧ wr = wc.drewN q) (fun vi _ => p - (intOf vi).toNat)
          case atStart => exact ⟨0, 0, by omega, rfl, rfl⟩
          case round =>
            obtain ⟨i, q, hip, rfl, rfl⟩ := hrel
            by_cases hlt : i < p
            · have hiG : i < G.length := by rw [HP.out]; exact hlt
              obtain ⟨gg, cur, rfl, _, hbk, _, hcur⟩ := HGR.out (fun h => by subst h; have := (own_shape HGO.out); obtain ⟨ao', cap', e, h1, _, h2, _⟩ := this; injection e with e1 e2 e3; have := h2 e1.symm; rw [HP.out] at h1; omega)
              have hcell : ∀ (j : Nat) (hj : j < G.length), wc.cell? ⟨gg, j, none⟩ = some (.int .i64 G[j]) := fun j hj => by rw [hbk.cell]; exact hcur j _ (by simp [hj])
              obtain ⟨x, hx⟩ : ∃ x, x = G[i] := ⟨_, rfl⟩
              have hci := hcell i hiG
              rw [← hx] at hci
              obtain ⟨hx1, hx2⟩ := HME.out x (by rw [hx]; exact List.getElem_mem _)
              have HC := Lib.hid hcell
              have HX := Lib.hid hx
              clear hcell hx hbk hcur
              go_wp2_with fail
              go_loopw [11] (fun vk wr => ∃ k2 q2 : Nat, k2 ≤ i ∧ vk = .int .i64 k2 ∧ wr = wc.drewN q2) (fun vk _ => i - (intOf vk).toNat)
              case atStart => exact ⟨0, q, by omega, rfl, rfl⟩
              case round =>
                obtain ⟨k2, q2, hk2, rfl, rfl⟩ := hrel
                by_cases hlt2 : k2 < i
                · have hk2G : k2 < G.length := by omega
                  obtain ⟨y, hy⟩ : ∃ y, y = G[k2] := ⟨_, rfl⟩
                  have hck := HC.out k2 hk2G
                  rw [← hy] at hck
                  have hne : (y == x) = false := bne_ (by rw [hy, HX.out]; exact (List.pairwise_iff_getElem.1 HND.out k2 i hk2G hiG hlt2))
                  clear hy
                  go_wp2_with fail
                  go_quiet (fail)
                  go_wp2_with fail
                  go_roundw
                  case rel => exact ⟨k2 + 1, _, by omega, by go_num, rfl⟩
                  case measure => simp [intOf]; omega
                · go_wp2_with fail
                  go_roundw
                  case rel => exact ⟨i + 1, q2, by omega, by go_num, rfl⟩
                  case measure => simp [intOf]; omega
            · go_wp2_with fail
              refine (new_is _ (ls.take 20) _ _ ((HS.out.below HB3.out).drewN q) HL.out (by rw [List.length_take]; omega)).mono ?_
              rintro e w4 ⟨D', g', rfl, hD', hg', hd', hb'⟩
              have hsz3 := HB3.out.size
              simp only [World.heap_drewN] at hD' hg' hb'
              have hB4 : Below w.heap.size w w4 := (bdN HB3.out q).trans (hb'.mono hsz3)
              have hb4 : Below wc.heap.size wc w4 := (bdN (Below.refl _ _) q).trans hb'
              have HB4 := Lib.hid hB4
              have HBB := Lib.hid hb4
              have HD4 := Lib.hid hd'
              clear hb' hB4 hb4 hd'
              rcases (show k = 0 ∨ 0 < k by omega) with h0 | h0
              · subst h0
                obtain rfl : p = 0 := by omega
                go_wp2_with fail
                refine (one_none_Int _ _ _ _).mono ?_
                rintro e w5 ⟨rfl, rfl⟩
                go_wp2_with fail
                go_ret
                exact ⟨rfl, HB4.out⟩
              · go_wp2_with fail
                have hsl : Sl w4 (· < wc.heap.size) (.slice aot k capt) ((hundred k).map (Value.int .i64)) := by
                  have := (own_sl HO3.out).more (T := (· < wc.heap.size)) (fun b hb _ => hb)
                  exact this.tch (Tch.of_below HBB.out) (fun b hb h => by omega)
                refine (one_Int D' g' _ _ _ (· < wc.heap.size) _ HD4.out hsl (by omega) (by simp [hundred_length]; omega)).mono ?_
                rintro e w5 ⟨v, hv, rfl, hd5, ht5⟩
                simp only [List.length_map, hundred_length] at hv hd5
                obtain ⟨y, hy, rfl⟩ : ∃ y, (hundred k)[(belowV (ls.take 20) k).toNat]? = some y ∧ v = .int .i64 y := by
                  rw [List.getElem?_map] at hv
                  obtain ⟨y, h1, h2⟩ := Option.map_eq_some_iff.1 hv
                  exact ⟨y, h1, h2.symm⟩
                have hB5 : Below w.heap.size w w5 := HB4.out.trans (ht5.belowB HB4.out.size (by omega))
                have HB5 := Lib.hid hB5
                have HT5 := Lib.hid ht5
                have HY := Lib.hid hy
                clear hB5 ht5 hy hv hd5 hsl
                rcases (show p = 0 ∨ 0 < p by omega) with hp0 | hp0
                · subst hp0
                  go_wp2_with fail
                  go_ret
                  exact ⟨rfl, HB5.out⟩
                · have hiG : 0 < G.length := by rw [HP.out]; exact hp0
                  obtain ⟨gg, cur, rfl, hgw, hbk, _, hcur⟩ := HGR.out (fun h => by subst h; have := (own_shape HGO.out); obtain ⟨ao', cap', e, h1, _, h2, _⟩ := this; injection e with e1 e2 e3; have := h2 e1.symm; rw [HP.out] at h1; omega)
                  have hG0 : G[0]? = some y := by rw [HGS.out, someL_head _ _ _ (by omega) (by rw [hundred_length]; exact h0), hundred_length]; exact HY.out
                  have hc0 : w5.cell? ⟨gg, 0, none⟩ = some (.int .i64 y) := by
                    have hl := hbk.lt
                    rw [HT5.out.cell (p := ⟨gg, 0, none⟩) (by have := HBB.out.size; show gg < _; omega) (by show ¬ gg = D'; omega), HBB.out.cell (p := ⟨gg, 0, none⟩) (by show gg < _; omega), hbk.cell]
                    exact hcur 0 _ (by rw [List.getElem?_map, hG0]; rfl)
                  have hyy : (y == y) = true := beq_ rfl
                  have ht0 : ((p : Int) == 0) = false := bne_ (by omega)
                  clear hbk hcur hG0
                  go_wp2_with fail
                  all_goals go_ret
                  all_goals exact ⟨rfl, HB5.out⟩
end Go.Proofs.Ytgnpnlelkkkmeaa
