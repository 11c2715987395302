/-
  The reference's Some (layer 2): the places drawn, and how many numbers were used.
-/
import Derived.Test.YtgnpnlelkkkmeaaSomeMath
import Derived.Test.YtgnpnlelkkkmeaaDrawLaw
import Derived.Deep.DeepCutAuto
set_option linter.unusedVariables false
namespace Go.Proofs.Ytgnpnlelkkkmeaa
open Go.RowKit

def idx (k : Nat) : List Int := (List.range k).map fun (j : Nat) => (j : Int)
theorem idx_length (k : Nat) : (idx k).length = k := by simp [idx]
theorem idx_succ (k : Nat) : idx (k + 1) = idx k ++ [(k : Int)] := by simp [idx, List.range_succ]

/-- What holds at the head of each round of the second loop: o places are drawn. -/
def RefI (w : World) (n : Int) (ls : List Int) (c : Nat) (vl vo : Value) (u : Nat) (wr : World) : Prop :=
  ∃ left outs : List Int, wr.ownsRow w.heap.size 3 1 vl left.length (left.map (Value.int .i64)) ∧ wr.ownsRow w.heap.size 3 1 vo outs.length (outs.map (Value.int .i64)) ∧
    (∀ b, vl.ownBlock = some b → vo.ownBlock ≠ some b) ∧ Below w.heap.size w wr ∧ outs.length + left.length = c ∧ u ≤ ls.length ∧
    someL n.toNat ls (idx c) = (outs ++ (someL (n.toNat - outs.length) (ls.drop u) left).1, (someL (n.toNat - outs.length) (ls.drop u) left).2)

def RefR (n : Int) (ls : List Int) (c : Nat) (w : World) (e : Ending) (w' : World) : Prop :=
  ∃ (v : Value) (u : Nat), u + (someL n.toNat ls (idx c)).2.length = ls.length ∧ e = .returned (.tuple #[v, .int .i64 u]) ∧ w'.ownsRow w.heap.size 3 1 v (someL n.toNat ls (idx c)).1.length ((someL n.toNat ls (idx c)).1.map (Value.int .i64)) ∧ Below w.heap.size w w'

set_option maxRecDepth 100000 in
set_option maxHeartbeats 4000000 in
theorem ref_some (S : Nat → Prop) (v0 : Value) (ls : List Int) (c : Nat) (n : Int) (w : World) (h0 : Sl w S v0 (u32s ls)) (HS : ∀ b, S b → ¬ w.heap.size ≤ b) (hls : U32s ls) (hl20 : ls.length ≤ 20) (hc : c ≤ 12) (hn : -9223372036854775808 ≤ n ∧ n ≤ 9223372036854775807) :
    Calls Try.prog 34 #[v0, .int .i64 c, .int .i64 n] w (RefR n ls c w) := by
  have H0 := Lib.hid h0
  obtain ⟨ao, cap0, rfl, hl0, hm0, _, _⟩ := h0
  rw [show (u32s ls).length = ls.length from by simp [u32s]] at hl0 ⊢
  unfold maxLen at hm0
  obtain ⟨i0, hi, hz0, hz1, hz2⟩ := info_parts info_Int
  have HLS := Lib.hid hls
  clear hls
  go_enter Try.func34, Try.ntmps34
  go_wp2_with fail
  go_loopw [8, 10] (fun vt vi wr => ∃ k : Nat, k ≤ c ∧ vi = .int .i64 k ∧ Hid (wr.ownsRow w.heap.size 3 1 vt k ((idx k).map (Value.int .i64))) ∧ Hid (Below w.heap.size w wr)) (fun _ vi _ => 13 - (intOf vi).toNat)
  case atStart => exact ⟨0, by omega, rfl, World.ownsRow_nil _ _ _ _, Below.refl _ _⟩
  case round =>
    obtain ⟨k, hk, rfl, HO, HBr⟩ := hrel
    by_cases hlt : k < c
    · go_wp2_with (at_builtin; refine wpList_append_own _ rfl (.tmp 18) (.tmp 20) 44 rfl w.heap.size 3 i0 (.int .i64 0) 1 8 Try.underlying44 hi hz0 hz1 hz2 rfl (by decide) _ k _ rfl (HO.out.alloc _) ⟨wr.heap.size, 0, none⟩ 1 1 [.int .i64 (k : Int)] rfl rfl ?c1 ?c2 ?c3 ?c4 ?c5 ?_)
      case c1 => exact cells_one _ _ _
      case c2 => intro u hu; simp at hu; subst hu; rfl
      case c3 => exact Nat.le_trans (by omega) (by decide : 9223372036854775807 ≤ maxLen)
      case c4 => omega
      case c5 => have := HBr.out.size; simp; omega
      intro v' w3 hown3 hgrow _
      have hO3 : w3.ownsRow w.heap.size 3 1 v' (k + 1) ((idx (k + 1)).map (Value.int .i64)) := by rw [idx_succ]; simpa using hown3
      have hB3 : Below w.heap.size w w3 := (HBr.out.alloc HBr.out.size _).grown hgrow (by have := HBr.out.size; simp; omega) (fun b hb => (own_base HO.out hb).1)
      have HO3 := Lib.hid hO3
      have HB3 := Lib.hid hB3
      clear hown3 hgrow hO3 hB3
      go_wp2_with fail
      go_roundw
      case rel => exact ⟨k + 1, by omega, by go_num, HO3, HB3⟩
      case measure => simp [intOf]; omega
    · obtain rfl : k = c := by omega
      have hI0 : RefI w n ls k u8 (.slice none 0 0) 0 wr := ⟨idx k, [], by rw [idx_length]; exact HO.out, World.ownsRow_nil _ _ _ _, by simp [Value.ownBlock], HBr.out, by simp [idx_length], by omega, by simp⟩
      have HI0 := Lib.hid hI0
      clear hI0 HO HBr
      go_wp2_with fail
      go_loopw [8, 9, 11] (fun vl vo vu wr => ∃ u : Nat, vu = .int .i64 u ∧ Hid (RefI w n ls k vl vo u wr)) (fun vl _ _ _ => lenOf vl)
      case atStart => exact ⟨0, rfl, HI0⟩
      case round =>
        obtain ⟨u, rfl, HI⟩ := hrel
        obtain ⟨left, outs, hol, hoo, hne, hB, hlen, hu, hL⟩ := HI.out
        obtain ⟨aol, capl, rfl, hlc, hcm, hln, hlrow⟩ := own_shape hol
        obtain ⟨aoo, capo, rfl, hoc, hocm, _, _⟩ := own_shape hoo
        by_cases hlt : (outs.length : Int) < n ∧ 0 < left.length
        · obtain ⟨hlt1, hlt2⟩ := hlt
          obtain ⟨gl, cur, rfl, hgl, hbk, hcs, hcur⟩ := hlrow (fun h => by have := hln h; omega)
          have hcell : ∀ (j : Nat) (hj : j < left.length), wr.cell? ⟨gl, j, none⟩ = some (.int .i64 left[j]) := fun j hj => by rw [hbk.cell]; exact hcur j _ (by simp [hj])
          unfold maxLen at hcm hocm
          have HBK := Lib.hid hbk
          have HCUR := Lib.hid hcur
          have HC := Lib.hid hcell
          have HOL := Lib.hid hol
          have HOO := Lib.hid hoo
          have HB := Lib.hid hB
          have HL := Lib.hid hL
          have HNE := Lib.hid hne
          have HLEN := Lib.hid hlen
          have hle2 : outs.length + left.length ≤ k := by omega
          clear hbk hcur hcell hol hoo hB hL hne hlen hlrow hcs hln
          go_upto_region 9 with (fail)
          go_cut [39] (fun b wx => b = .bool (decide (2 ≤ left.length ∧ u < ls.length)) ∧ wx = wr)
          case first =>
            by_cases hA : 2 ≤ left.length ∧ u < ls.length
            · obtain ⟨hA1, hA2⟩ := hA
              go_wp2_with fail
              go_meet
              exact ⟨by rw [dec_ ⟨hA1, hA2⟩], rfl⟩
            · have HA := Lib.hid (decn_ hA)
              rcases (show left.length = 1 ∨ (2 ≤ left.length ∧ ls.length ≤ u) by omega) with h | h
              · clear hA
                have hl1 : (left.length : Int) ≤ 1 := by omega
                clear h
                go_wp2_with fail
                go_meet
                exact ⟨by first | (rw [HA.out]; done) | rw [HA.out, decn_ (show ¬ u < ls.length by omega)], rfl⟩
              · clear hA
                obtain ⟨h1, h2⟩ := h
                go_wp2_with fail
                go_meet
                exact ⟨by first | (rw [HA.out]; done) | rw [HA.out, decn_ (show ¬ u < ls.length by omega)], rfl⟩
          case rest =>
            obtain ⟨rfl, hwc⟩ := hcut
            subst hwc
            go_upto_if 39 with (fail)
            go_cut [11, 12] (fun vu vk wx => ∃ u' kk : Nat, vu = .int .i64 u' ∧ vk = .int .i64 kk ∧ u' ≤ ls.length ∧ kk < left.length ∧ Hid (belowV (ls.drop u) left.length = kk) ∧ Hid (belowT (ls.drop u) left.length = ls.drop u') ∧ wx = wc)
            case first =>
              by_cases hA : 2 ≤ left.length ∧ u < ls.length
              · have hv := belowV_lt (ls.drop u) left.length hlt2
                obtain ⟨hA1, hA2⟩ := hA
                obtain ⟨x, hx⟩ : ∃ x, x = ls[u] := ⟨_, rfl⟩
                obtain ⟨b, off, rfl, hcx⟩ : ∃ b off, ao = some ⟨b, off, none⟩ ∧ wc.cell? ⟨b, off + u, none⟩ = some (.int .u32 x) := by
                  obtain ⟨ao', cap', e, _, _, _, hc⟩ := H0.out.tch (Tch.of_below HB.out) HS
                  injection e with e1 e2 e3
                  subst e1
                  obtain ⟨b, off, e, _, _, hc⟩ := hc (by simp [u32s]; omega)
                  exact ⟨b, off, e, by rw [hc u (by simp [u32s]; omega), hx]; simp [u32s]⟩
                obtain ⟨hx0, hx1⟩ := HLS.out x (by rw [hx]; exact List.getElem_mem _)
                obtain ⟨kk, hkv⟩ : ∃ kk : Nat, belowV (ls.drop u) left.length = kk := ⟨_, (Int.toNat_of_nonneg hv.1).symm⟩
                have hxv : x % (left.length : Int) = kk := by
                  rw [← hkv, belowV, if_pos (by omega), List.drop_eq_getElem_cons hA2, hx]
                  rfl
                have hT : belowT (ls.drop u) left.length = ls.drop (u + 1) := by rw [belowT, if_pos (by omega), List.tail_drop]
                have hk : kk < left.length := by omega
                have HXV := Lib.hid hxv
                have HKV := Lib.hid hkv
                have HT := Lib.hid hT
                clear hx hkv hxv hT hv
                go_wp2_with fail
                go_meet
                refine ⟨u + 1, kk, by go_num, ?_, hA2, hk, HKV, HT, rfl⟩
                rw [HXV.out]
              · have hT : belowT (ls.drop u) left.length = ls.drop u := by
                  unfold belowT
                  split
                  · rw [List.drop_of_length_le (by omega)]; rfl
                  · rfl
                have hkv : belowV (ls.drop u) left.length = (0 : Nat) := by
                  unfold belowV
                  split
                  · rw [List.drop_of_length_le (by omega)]; simp
                  · rfl
                have HT := Lib.hid hT
                have HKV := Lib.hid hkv
                clear hT hkv
                rcases (show left.length < 2 ∨ ls.length ≤ u by omega) with h | h
                all_goals clear hA
                all_goals go_wp2_with fail
                all_goals go_meet
                all_goals exact ⟨u, 0, rfl, rfl, hu, hlt2, HKV, HT, rfl⟩
            case rest =>
              obtain ⟨u', kk, rfl, rfl, hu', hk, HKV, HT, hwc⟩ := hcut
              subst hwc
              obtain ⟨y, hy⟩ : ∃ y, y = left[kk]'(by omega) := ⟨_, rfl⟩
              have hck := HC.out kk (by omega)
              rw [← hy] at hck
              have HY := Lib.hid hy
              clear hy
              go_wp2_with (at_builtin; refine list_app rfl (.tmp 50) (.tmp 55) 44 rfl w.heap.size 3 i0 (.int .i64 0) 8 Try.underlying44 hi hz0 hz1 hz2 rfl _ outs.length (outs.map (Value.int .i64)) rfl (HOO.out.alloc _) (some ⟨wc.heap.size, 0, none⟩) 1 1 [.int .i64 y] rfl rfl (by simp) (by simp) (fun _ => ⟨_, rfl, cells_one _ _ _⟩) (by intro u hu; simp at hu; subst hu; rfl) (Nat.le_trans (by omega) (by decide : 9223372036854775807 ≤ maxLen)) (by omega) (by have := HB.out.size; simp; omega) ?_; intro v' w3 HO3 HG3)
              have hbk3 : Bk w3 gl 3 cur := (HBK.out.alloc _).tch (Tch.of_grown HG3.out) (fun e => HNE.out gl rfl e.symm)
              have hB3 : Below w.heap.size w w3 := (HB.out.alloc HB.out.size _).grown HG3.out (by have := HB.out.size; simp; omega) (fun b hb => (own_base HOO.out hb).1)
              have hgl3 := hbk3.lt
              have HBK3 := Lib.hid hbk3
              have HB3 := Lib.hid hB3
              clear hbk3 hB3
              go_wp2_with fail
              have hkc : kk ≤ capl := by omega
              have hki : (kk : Int) ≤ (capl : Int) := by omega
              have hk1 : (kk : Int) + 1 ≤ (left.length : Int) := by omega
              have hs1 : ∀ (j : Nat) (u : Value), ((left.take kk).map (Value.int .i64))[j]? = some u → (w3.alloc (.cells #[] 3)).drew.cell? ((⟨gl, 0, none⟩ : Addr).add j) = some u := by
                intro j u hu
                show (w3.alloc (.cells #[] 3)).cell? _ = _
                rw [Addr.add_lit, (HBK3.out.alloc _).cell, Nat.zero_add]
                rw [List.getElem?_map, List.getElem?_take] at hu
                split at hu
                · exact HCUR.out j u (by rw [List.getElem?_map]; exact hu)
                · cases hu
              have hs2 : ∀ (W : World), Bk W gl 3 cur → ∀ (j : Nat) (u : Value), ((left.drop (kk + 1)).map (Value.int .i64))[j]? = some u → W.cell? ((⟨gl, kk + 1, none⟩ : Addr).add j) = some u := by
                intro W hb j u hu
                rw [Addr.add_lit, hb.cell]
                exact HCUR.out _ u (by rw [List.getElem?_map, ← hu, List.getElem?_map, List.getElem?_drop])
              have h1c : ∀ u ∈ (left.take kk).map (Value.int .i64), u.oneCell' = true := ints_oneCell _ _
              have h2c : ∀ u ∈ (left.drop (kk + 1)).map (Value.int .i64), u.oneCell' = true := ints_oneCell _ _
              have hkx : (kk : Int) ≤ (kk : Int) + 1 := by omega
              have hlt1 : ((left.take kk).map (Value.int .i64)).length = kk := by rw [List.length_map, List.length_take]; omega
              have hlt2 : ((left.drop (kk + 1)).map (Value.int .i64)).length = left.length - (kk + 1) := by simp
              have HS1 := Lib.hid hs1
              have HS2 := Lib.hid hs2
              have H1C := Lib.hid h1c
              have H2C := Lib.hid h2c
              have HL1 := Lib.hid hlt1
              have HL2 := Lib.hid hlt2
              clear hs1 hs2 h1c h2c hlt1 hlt2
              have hw1 : IntKind.i64.wrap (((kk : Nat) : Int) + 1) = ((kk : Nat) : Int) + 1 := IntWalk.i64_in _ (by omega)
              have hw2 : (0 : Int) ≤ ((kk : Nat) : Int) + 1 := by omega
              have hw3 : (((kk : Nat) : Int) + 1).toNat = kk + 1 := by omega
              have hmx : kk ≤ maxLen ∧ kk + (left.length - (kk + 1)) ≤ maxLen := ⟨Nat.le_trans (by omega) (by decide : 9223372036854775807 ≤ maxLen), Nat.le_trans (by omega) (by decide : 9223372036854775807 ≤ maxLen)⟩
              have hby : (0 + kk) * 8 ≤ 140737488355328 ∧ (kk + (left.length - (kk + 1))) * 8 ≤ 140737488355328 := by omega
              have HMX := Lib.hid hmx
              have HBY := Lib.hid hby
              clear hmx hby
              by_cases hcap : capl = kk + 1
              · subst hcap
                go_region_law (first
                  | (refine step_app rfl (.tmp 57) (.tmp 60) 44 rfl w3.heap.size 3 i0 (.int .i64 0) 8 Try.underlying44 hi hz0 hz1 hz2 rfl (.slice (some ⟨w3.heap.size, 0, none⟩) 0 0) 0 [] (by simp [Act.eval]) (World.ownsRow_made w3 #[] 0 (Nat.le_refl _) (by simp) rfl) (some ⟨gl, 0, none⟩) kk (kk + 1) _ (by simp [Act.eval]) HL1.out (by simp) (by simp) (fun _ => ⟨_, rfl, HS1.out⟩) H1C.out (by rw [Nat.zero_add]; exact HMX.out.1) HBY.out.1 (by simp) ?_; intro v4 w4 HO4 HG4)
                  | (have hO4 : w4.ownsRow w3.heap.size 3 1 v4 kk ((left.take kk).map (Value.int .i64)) := by have := HO4.out; rwa [Nat.zero_add, List.nil_append] at this
                     have hB4 : Bk w4 gl 3 cur := (show Bk (w3.alloc (.cells #[] 3)).drew gl 3 cur from HBK3.out.alloc _).tch (Tch.of_grown HG4.out) (fun e => absurd (Option.some.inj e) (by show ¬ gl = w3.heap.size; exact Nat.ne_of_lt hgl3))
                     refine step_app rfl (.tmp 61) (.tmp 65) 44 rfl w3.heap.size 3 i0 (.int .i64 0) 8 Try.underlying44 hi hz0 hz1 hz2 rfl v4 kk _ (by simp [Act.eval]) hO4 (some ⟨gl, 0, none⟩) 0 0 _ (by simp [Act.eval]) (by rw [HL2.out]; omega) (by simp) (by simp) (fun h => absurd h (by omega)) H2C.out HMX.out.1 (by have := HBY.out.1; omega) (by have := HG4.out.size; simp at this; omega) ?_; intro v5 w5 HO5 HG5))
                have hO5 : w5.ownsRow w3.heap.size 3 1 v5 (left.eraseIdx kk).length ((left.eraseIdx kk).map (Value.int .i64)) := by
                  have := HO5.out
                  rw [← List.map_append, ← List.eraseIdx_eq_take_drop_succ] at this
                  rw [List.length_eraseIdx_of_lt (by omega)]
                  rw [show kk + 0 = left.length - 1 from by omega] at this; exact this
                have hT45 : Tch (fun b => w3.heap.size ≤ b) w3 w5 := by
                  have t4 : Tch (fun b => w3.heap.size ≤ b) w3 w4 := (((Tch.refl _ w3).alloc (.cells #[] 3)).drew).trans (Tch.of_grown HG4.out) (fun b hb e => by rw [Option.some.inj e]; exact Nat.le_refl _)
                  exact t4.trans (Tch.of_grown HG5.out) (fun b hb e => by have := HO4.out; exact (own_base this e.symm).1)
                have hnext : RefI w n ls k v5 v' u' w5 := by
                  refine ⟨left.eraseIdx kk, outs ++ [y], own_less hO5 (by have := HB3.out.size; omega), ?_, fun b hb hb' => ?_, HB3.out.trans (hT45.belowB HB3.out.size (fun b hb h => by have := HB3.out.size; omega)), ?_, hu', ?_⟩
                  · have := own_tch HO3.out hT45 (fun b hb h => by have := (own_base HO3.out hb).2; omega)
                    simpa using this
                  · have h1 := (own_base hO5 hb).1
                    have h2 := (own_base HO3.out hb').2
                    omega
                  · rw [List.length_eraseIdx_of_lt (by omega)]; simp; have := HLEN.out; omega
                  · rw [HL.out, show n.toNat - outs.length = (n.toNat - (outs ++ [y]).length) + 1 from by simp; omega, someL_step _ _ _ kk (by omega) HKV.out, HT.out, HY.out]
                    simp
                have HN := Lib.hid hnext
                have hless : lenOf v5 < left.length := by
                  obtain ⟨a5, c5, rfl, _⟩ := own_shape hO5
                  rw [lenOf_slice, List.length_eraseIdx_of_lt (by omega)]; omega
                clear hO5 hT45 hnext HO5 HG5 HO4 HG4
                go_wp2_with fail
                go_roundw
                case rel => (repeat apply Exists.intro); exact ⟨⟨u', rfl, HN⟩, rfl⟩
                case measure => exact hless
              · have hcap' : ¬ kk + 1 = capl := fun h => hcap h.symm
                go_region_law (first
                  | (refine step_app rfl (.tmp 57) (.tmp 60) 44 rfl w3.heap.size 3 i0 (.int .i64 0) 8 Try.underlying44 hi hz0 hz1 hz2 rfl (.slice (some ⟨w3.heap.size, 0, none⟩) 0 0) 0 [] (by simp [Act.eval]) (World.ownsRow_made w3 #[] 0 (Nat.le_refl _) (by simp) rfl) (some ⟨gl, 0, none⟩) kk capl _ (by simp [Act.eval]) HL1.out (by simp) (by simp) (fun _ => ⟨_, rfl, HS1.out⟩) H1C.out (by rw [Nat.zero_add]; exact HMX.out.1) HBY.out.1 (by simp) ?_; intro v4 w4 HO4 HG4)
                  | (have hO4 : w4.ownsRow w3.heap.size 3 1 v4 kk ((left.take kk).map (Value.int .i64)) := by have := HO4.out; rwa [Nat.zero_add, List.nil_append] at this
                     have hB4 : Bk w4 gl 3 cur := (show Bk (w3.alloc (.cells #[] 3)).drew gl 3 cur from HBK3.out.alloc _).tch (Tch.of_grown HG4.out) (fun e => absurd (Option.some.inj e) (by show ¬ gl = w3.heap.size; exact Nat.ne_of_lt hgl3))
                     refine step_app rfl (.tmp 61) (.tmp 65) 44 rfl w3.heap.size 3 i0 (.int .i64 0) 8 Try.underlying44 hi hz0 hz1 hz2 rfl v4 kk _ (by simp [Act.eval]) hO4 (some ⟨gl, kk + 1, none⟩) (left.length - (kk + 1)) (capl - (kk + 1)) _ (by simp [Act.eval]) HL2.out (by simp) (by simp) (fun h => ⟨_, rfl, HS2.out _ hB4⟩) H2C.out HMX.out.2 HBY.out.2 (by have := HG4.out.size; simp at this; omega) ?_; intro v5 w5 HO5 HG5))
                have hO5 : w5.ownsRow w3.heap.size 3 1 v5 (left.eraseIdx kk).length ((left.eraseIdx kk).map (Value.int .i64)) := by
                  have := HO5.out
                  rw [← List.map_append, ← List.eraseIdx_eq_take_drop_succ] at this
                  rw [List.length_eraseIdx_of_lt (by omega)]
                  rw [show kk + (left.length - (kk + 1)) = left.length - 1 from by omega] at this; exact this
                have hT45 : Tch (fun b => w3.heap.size ≤ b) w3 w5 := by
                  have t4 : Tch (fun b => w3.heap.size ≤ b) w3 w4 := (((Tch.refl _ w3).alloc (.cells #[] 3)).drew).trans (Tch.of_grown HG4.out) (fun b hb e => by rw [Option.some.inj e]; exact Nat.le_refl _)
                  exact t4.trans (Tch.of_grown HG5.out) (fun b hb e => by have := HO4.out; exact (own_base this e.symm).1)
                have hnext : RefI w n ls k v5 v' u' w5 := by
                  refine ⟨left.eraseIdx kk, outs ++ [y], own_less hO5 (by have := HB3.out.size; omega), ?_, fun b hb hb' => ?_, HB3.out.trans (hT45.belowB HB3.out.size (fun b hb h => by have := HB3.out.size; omega)), ?_, hu', ?_⟩
                  · have := own_tch HO3.out hT45 (fun b hb h => by have := (own_base HO3.out hb).2; omega)
                    simpa using this
                  · have h1 := (own_base hO5 hb).1
                    have h2 := (own_base HO3.out hb').2
                    omega
                  · rw [List.length_eraseIdx_of_lt (by omega)]; simp; have := HLEN.out; omega
                  · rw [HL.out, show n.toNat - outs.length = (n.toNat - (outs ++ [y]).length) + 1 from by simp; omega, someL_step _ _ _ kk (by omega) HKV.out, HT.out, HY.out]
                    simp
                have HN := Lib.hid hnext
                have hless : lenOf v5 < left.length := by
                  obtain ⟨a5, c5, rfl, _⟩ := own_shape hO5
                  rw [lenOf_slice, List.length_eraseIdx_of_lt (by omega)]; omega
                clear hO5 hT45 hnext HO5 HG5 HO4 HG4
                go_wp2_with fail
                go_roundw
                case rel => (repeat apply Exists.intro); exact ⟨⟨u', rfl, HN⟩, rfl⟩
                case measure => exact hless
        · have hfin : RefR n ls k w (.returned (.tuple #[.slice aoo outs.length capo, .int .i64 u])) wr := by
            have e1 : someL n.toNat ls (idx k) = (outs, ls.drop u) := by
              rw [hL]
              rcases (show n.toNat - outs.length = 0 ∨ left.length = 0 by omega) with h | h
              · rw [h]; simp [someL]
              · rw [List.eq_nil_of_length_eq_zero h, someL_nil]; simp
            refine ⟨_, u, by rw [e1, List.length_drop]; omega, rfl, by rw [e1]; exact hoo, hB⟩
          have HF := Lib.hid hfin
          clear hfin hlrow hol hoo hB hL hne hlen
          unfold maxLen at hcm hocm
          rcases (show n ≤ (outs.length : Int) ∨ ((outs.length : Int) < n ∧ left.length = 0) by omega) with h | h
          · clear hlt
            go_wp2_with fail
            go_ret2
            exact HF.out
          · clear hlt
            obtain ⟨h1, h2⟩ := h
            rw [h2]
            clear h2
            go_wp2_with fail
            go_ret2
            exact HF.out
end Go.Proofs.Ytgnpnlelkkkmeaa
