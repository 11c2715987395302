/-
  PipeFirst: the core.
-/
import Derived.Test.YtebpdnmmcbianaaPipFirst
set_option linter.unusedVariables false
set_option linter.unusedSimpArgs false
set_option maxRecDepth 100000
namespace Go.Proofs.Ytebpdnmmcbianaa
open Go.RowKit

theorem row_apart {w : World} {base P c n : Nat} {v : Value} {xs : List Value} {l : List ItA} (h : w.ownsRow base 53 1 v n xs) (hp : PipIs w P c l) (b : Nat) (hb : v.ownBlock = some b) : P ≠ b ∧ c ≠ b := by
  rcases h.2 with ⟨rfl, _⟩ | ⟨g, cap, cur, rfl, _, hg, _⟩
  · simp [Value.ownBlock] at hb
  · simp [Value.ownBlock] at hb
    subst hb
    refine ⟨fun e => ?_, fun e => ?_⟩
    · subst e
      have := hp.bk
      unfold Bk at this
      rw [this] at hg
      injection hg with hg
      injection hg with _ h3
      exact absurd h3 (by decide)
    · subst e
      obtain ⟨s, r, hc⟩ := hp.ch
      rw [hc] at hg
      cases hg
theorem info_ptr : (Try.prog.info? 53).map (fun i => (i.zero, i.size, i.bytes)) = some (some (.pointer none), 1, 8) := by kernel_rfl
/-- The way from one place to another one, round. -/
theorem way_round (f n j : Nat) (hf : f < n) (hj : j < n) : ((f + j) % n + n - f) % n = j := by
  by_cases h : f + j < n
  · rw [Nat.mod_eq_of_lt h, show f + j + n - f = j + n by omega, Nat.add_mod_right, Nat.mod_eq_of_lt hj]
  · have e1 : (f + j) % n = f + j - n := by rw [Nat.mod_eq_sub_mod (by omega), Nat.mod_eq_of_lt (by omega)]
    rw [e1, show f + j - n + n - f = j by omega, Nat.mod_eq_of_lt hj]
theorem all_places (f n k : Nat) (hf : f < n) (hk : k < n) : ∃ j, j < n ∧ (f + j) % n = k := by
  by_cases h : f ≤ k
  · exact ⟨k - f, by omega, by rw [show f + (k - f) = k by omega, Nat.mod_eq_of_lt hk]⟩
  · exact ⟨k + n - f, by omega, by rw [show f + (k + n - f) = k + n by omega, Nat.add_mod_right, Nat.mod_eq_of_lt hk]⟩
set_option maxHeartbeats 2000000 in
theorem pipeFirst_core (v : Value) (has : List Bool) (z : Int) (W : World) (hv : Sl W (· < W.heap.size) v (has.map Value.bool)) (hz : -9223372036854775808 ≤ z ∧ z ≤ 9223372036854775807) :
    Calls Try.prog 7 #[v, .int .i64 z] W fun e W' => e = .returned (.bool true) ∧ Below W.heap.size W W' := by
  have HV := Lib.hid hv
  obtain ⟨aov, capv, rfl, hvc, hvm, _, _⟩ := hv
  rw [List.length_map] at hvc
  rw [List.length_map] at HV
  simp only [List.length_map]
  obtain ⟨i0, hi0, hz0, hz1, hz2⟩ := info_parts info_ptr
  go_enter Try.func7, Try.ntmps7
  go_wp2_with fail
  refine (speaks7 W).mono ?_
  rintro e w1 ⟨rfl, hn⟩
  have HN1 := Lib.hid hn
  clear hn
  go_upto_region 3 with fail
  go_cut [0] (fun v0 wx => ∃ hs : List Bool, v0 = .slice aov hs.length capv ∧ Hid (hs.length ≤ 10) ∧ Hid (Sl W (· < W.heap.size) (.slice aov hs.length capv) (hs.map Value.bool)) ∧ wx = w1)
  case first =>
    by_cases h10 : 10 < (has.length : Int)
    · have hcap : (10 : Int) ≤ (capv : Int) := by omega
      have hl : (has.take 10).length = 10 := by rw [List.length_take]; omega
      have HX := Lib.hid (show ∃ hs : List Bool, Value.slice aov 10 capv = .slice aov hs.length capv ∧ Hid (hs.length ≤ 10) ∧ Hid (Sl W (· < W.heap.size) (.slice aov hs.length capv) (hs.map Value.bool)) from
        ⟨has.take 10, by rw [hl], Lib.hid (by omega), Lib.hid (by rw [hl, List.map_take]; exact HV.out.head (by omega))⟩)
      clear hl
      go_wp2_with fail
      go_meet
      obtain ⟨hs, h1, h2, h3⟩ := HX.out
      exact ⟨hs, h1, h2, h3, rfl⟩
    · have HX := Lib.hid (show ∃ hs : List Bool, Value.slice aov has.length capv = .slice aov hs.length capv ∧ Hid (hs.length ≤ 10) ∧ Hid (Sl W (· < W.heap.size) (.slice aov hs.length capv) (hs.map Value.bool)) from
        ⟨has, rfl, Lib.hid (by omega), HV⟩)
      go_wp2_with fail
      go_meet
      obtain ⟨hs, h1, h2, h3⟩ := HX.out
      exact ⟨hs, h1, h2, h3, rfl⟩
  case rest =>
    obtain ⟨hs, rfl, HLE, HSL, rfl⟩ := hcut
    obtain ⟨w1, hw1⟩ : ∃ x, x = wc := ⟨_, rfl⟩
    subst hw1
    obtain ⟨n, hn⟩ : ∃ n, n = hs.length := ⟨_, rfl⟩
    rw [← hn] at HLE HSL ⊢
    have HN := Lib.hid hn
    have hn10 := HLE.out
    clear hn HV
    go_wp2_with fail
    go_loopw [5, 6, 7] (fun vl vs vi wr => ∃ (j : Nat) (ps : List PA), vi = .int .i64 j ∧ vs = .bool ((hs.take j).any id) ∧ Hid (j ≤ n) ∧ Hid (wr.ownsRow W.heap.size 53 1 vl ps.length (ps.map paV)) ∧ Hid (PsIs wr ps) ∧ Hid (ps.map (fun x => decide (x.l ≠ [])) = hs.take j) ∧ Hid (New W wr)) (fun _ _ vi _ => n - (intOf vi).toNat)
    case atStart => exact ⟨0, [], rfl, rfl, Lib.hid (by omega), Lib.hid (World.ownsRow_nil _ _ _ _), Lib.hid (fun x hx => by simp at hx), Lib.hid rfl, HN1⟩
    case round =>
      clear HN1
      obtain ⟨j, ps, rfl, rfl, HJ, HRO, HPS, HEQ, HNr⟩ := hrel
      have hpl : ps.length = j := by have := congrArg List.length HEQ.out; rw [List.length_map, List.length_take, ← HN.out] at this; have := HJ.out; omega
      by_cases hj : j < n
      · have HPL := Lib.hid (show ps.length ≤ 10 by omega)
        obtain ⟨b, off, rfl, cj⟩ := sl_get (HSL.out.below HNr.out.below) j (by rw [List.length_map, ← HN.out]; exact hj)
        simp only [List.getElem_map] at cj
        obtain ⟨hb, hhb⟩ : ∃ hb, hb = hs[j]'(by rw [← HN.out]; exact hj) := ⟨_, rfl⟩
        rw [← hhb] at cj
        have HTK := Lib.hid (show hs.take (j + 1) = hs.take j ++ [hb] by rw [List.take_succ_eq_append_getElem (by rw [← HN.out]; exact hj), hhb])
        have hlb := World.block_lt_of_cell? wr _ cj
        obtain ⟨an, han⟩ : ∃ an, an = (hs.take j).any id := ⟨_, rfl⟩
        rw [← han]
        have HAN := Lib.hid han
        clear hhb hpl han
        go_wp2_with fail
        refine (newp_ok wr).mono ?_
        rintro e w3 ⟨rfl, hp, hn3⟩
        have HN3 := Lib.hid hn3
        have cj3 := hn3.cell cj
        have HPN := Lib.hid hp
        clear hp hn3 cj
        cases hb
        · go_upto_region 13 with fail
          have HB4 := Lib.hid (Bk.made w3 53 #[paV ⟨wr.heap.size + 1, wr.heap.size, []⟩])
          have HQ4 := Lib.hid (own_tch HRO.out (HN3.out.alloc (.cells #[paV ⟨wr.heap.size + 1, wr.heap.size, []⟩] 53)) (fun b hb hs => by have := (own_base HRO.out hb).2; omega))
          have HS4 := Lib.hid (show PsIs (w3.alloc (.cells #[paV ⟨wr.heap.size + 1, wr.heap.size, []⟩] 53)) (ps ++ [⟨wr.heap.size + 1, wr.heap.size, []⟩]) from fun x hx => by
            rcases List.mem_append.1 hx with hx | hx
            · exact (HPS.out x hx).new (HN3.out.alloc _)
            · obtain rfl := List.mem_singleton.1 hx
              exact HPN.out.new ((New.refl _).alloc _))
          have HN4 := Lib.hid (HNr.out.then (HN3.out.alloc (.cells #[paV ⟨wr.heap.size + 1, wr.heap.size, []⟩] 53)))
          have HZ4 := Lib.hid (show W.heap.size ≤ w3.heap.size by have := HNr.out.size; have := HN3.out.size; omega)
          simp only [paV] at HB4 HQ4 HS4 HN4
          go_wp2_with (at_builtin; go_loud (refine list_appK rfl (.tmp 36) (.tmp 38) 66 rfl W.heap.size 53 i0 (.pointer none) 1 8 Try.underlying66 hi0 hz0 hz1 hz2 rfl (by omega) _ ps.length _ rfl HQ4.out (some ⟨w3.heap.size, 0, none⟩) 1 1 [.pointer (some ⟨wr.heap.size + 1, 0, none⟩)] (by simp [Act.eval, Act.put]) rfl (by simp) (by simp) (fun _ => ⟨_, rfl, fun jj u hu => by rw [Addr.add_lit, Nat.zero_add, HB4.out.cell]; simpa using hu⟩) (by intro u hu; simp at hu; subst hu; rfl) (Nat.le_trans (show ps.length + 1 ≤ 11 by have := HPL.out; omega) (by decide)) (by have := HPL.out; omega) (by have := HZ4.out; simp; omega) ?_); intro v5 w5 HO5 HG5)
          have HS5 := Lib.hid (show PsIs w5 (ps ++ [⟨wr.heap.size + 1, wr.heap.size, []⟩]) from fun x hx => (HS4.out x hx).tch (Tch.of_grown HG5.out) (fun e => (row_apart HQ4.out (HS4.out x hx) _ e.symm).1 rfl) (fun e => (row_apart HQ4.out (HS4.out x hx) _ e.symm).2 rfl))
          have HN5 := Lib.hid (show New W w5 from (HN4.out : Tch _ _ _).trans (Tch.of_grown HG5.out) (fun b hb e => (own_base HQ4.out e.symm).1))
          go_roundw
          case rel => exact ⟨j + 1, ps ++ [⟨wr.heap.size + 1, wr.heap.size, []⟩], rfl, by rw [HTK.out, List.any_append, ← HAN.out]; simp, Lib.hid (by omega), Lib.hid (by have h := HO5.out; rw [List.length_append, List.map_append]; simpa [paV] using h), HS5, Lib.hid (by rw [HTK.out, List.map_append, HEQ.out]; simp), HN5⟩
          case measure => simp [intOf]; omega
        · go_wp2_with fail
          refine (psend_ok _ _ _ [] w3 HPN.out).mono ?_
          rintro e w4 ⟨rfl, hp, ht⟩
          have HN3' := Lib.hid (new_of_ch HN3.out ht (Nat.le_refl _))
          have e1 : putL [] ⟨false, ⟨#[120]⟩⟩ = [⟨false, ⟨#[120]⟩⟩] := rfl
          rw [e1] at hp
          replace HPN := Lib.hid hp
          clear hp ht e1 cj3
          go_upto_region 13 with fail
          have HB4 := Lib.hid (Bk.made w4 53 #[paV ⟨wr.heap.size + 1, wr.heap.size, [⟨false, ⟨#[120]⟩⟩]⟩])
          have HQ4 := Lib.hid (own_tch HRO.out (HN3'.out.alloc (.cells #[paV ⟨wr.heap.size + 1, wr.heap.size, [⟨false, ⟨#[120]⟩⟩]⟩] 53)) (fun b hb hs => by have := (own_base HRO.out hb).2; omega))
          have HS4 := Lib.hid (show PsIs (w4.alloc (.cells #[paV ⟨wr.heap.size + 1, wr.heap.size, [⟨false, ⟨#[120]⟩⟩]⟩] 53)) (ps ++ [⟨wr.heap.size + 1, wr.heap.size, [⟨false, ⟨#[120]⟩⟩]⟩]) from fun x hx => by
            rcases List.mem_append.1 hx with hx | hx
            · exact (HPS.out x hx).new (HN3'.out.alloc _)
            · obtain rfl := List.mem_singleton.1 hx
              exact HPN.out.new ((New.refl _).alloc _))
          have HN4 := Lib.hid (HNr.out.then (HN3'.out.alloc (.cells #[paV ⟨wr.heap.size + 1, wr.heap.size, [⟨false, ⟨#[120]⟩⟩]⟩] 53)))
          have HZ4 := Lib.hid (show W.heap.size ≤ w4.heap.size by have := HNr.out.size; have := HN3'.out.size; omega)
          simp only [paV] at HB4 HQ4 HS4 HN4
          go_wp2_with (at_builtin; go_loud (refine list_appK rfl (.tmp 36) (.tmp 38) 66 rfl W.heap.size 53 i0 (.pointer none) 1 8 Try.underlying66 hi0 hz0 hz1 hz2 rfl (by omega) _ ps.length _ rfl HQ4.out (some ⟨w4.heap.size, 0, none⟩) 1 1 [.pointer (some ⟨wr.heap.size + 1, 0, none⟩)] (by simp [Act.eval, Act.put]) rfl (by simp) (by simp) (fun _ => ⟨_, rfl, fun jj u hu => by rw [Addr.add_lit, Nat.zero_add, HB4.out.cell]; simpa using hu⟩) (by intro u hu; simp at hu; subst hu; rfl) (Nat.le_trans (show ps.length + 1 ≤ 11 by have := HPL.out; omega) (by decide)) (by have := HPL.out; omega) (by have := HZ4.out; simp; omega) ?_); intro v5 w5 HO5 HG5)
          have HS5 := Lib.hid (show PsIs w5 (ps ++ [⟨wr.heap.size + 1, wr.heap.size, [⟨false, ⟨#[120]⟩⟩]⟩]) from fun x hx => (HS4.out x hx).tch (Tch.of_grown HG5.out) (fun e => (row_apart HQ4.out (HS4.out x hx) _ e.symm).1 rfl) (fun e => (row_apart HQ4.out (HS4.out x hx) _ e.symm).2 rfl))
          have HN5 := Lib.hid (show New W w5 from (HN4.out : Tch _ _ _).trans (Tch.of_grown HG5.out) (fun b hb e => (own_base HQ4.out e.symm).1))
          go_roundw
          case rel => exact ⟨j + 1, ps ++ [⟨wr.heap.size + 1, wr.heap.size, [⟨false, ⟨#[120]⟩⟩]⟩], rfl, by rw [HTK.out, List.any_append]; simp, Lib.hid (by omega), Lib.hid (by have h := HO5.out; rw [List.length_append, List.map_append]; simpa [paV] using h), HS5, Lib.hid (by rw [HTK.out, List.map_append, HEQ.out]; simp), HN5⟩
          case measure => simp [intOf]; omega
      · have hjn : j = n := by have := HJ.out; omega
        have hta : hs.take j = hs := by rw [List.take_of_length_le (by rw [← HN.out]; omega)]
        rw [hta]
        have heq := HEQ.out
        rw [hta] at heq
        have HG := Lib.hid (show ∀ k (hk : k < hs.length), hs[k] = decide ((ps.getD k default).l ≠ []) from fun k hk => by
          have h1 : (ps.map (fun x => decide (x.l ≠ [])))[k]? = hs[k]? := by rw [heq]
          have hkp : k < ps.length := by rw [hpl, hjn, HN.out]; exact hk
          rw [List.getElem?_map, List.getElem?_eq_getElem hkp, List.getElem?_eq_getElem hk] at h1
          have h2 := Option.some.inj h1
          rw [List.getD_eq_getElem?_getD, List.getElem?_eq_getElem hkp]
          exact h2.symm)
        obtain ⟨an, han⟩ : ∃ an, an = hs.any id := ⟨_, rfl⟩
        rw [← han]
        have HAN := Lib.hid han
        have HF := Lib.hid (pfirst_ok z _ ps _ wr (own_sl HRO.out) HPS.out (by omega) hz)
        have hpn : ps.length = n := by omega
        unfold FirstR at HF
        rw [hpn] at HF
        clear hta heq han hpl hpn
        go_wp2_with fail
        refine HF.out.mono ?_
        rintro e w2 ⟨rfl, ⟨i, hi, hbe, hne, rfl⟩ | ⟨hall, rfl⟩⟩
        · have hn0 : 0 < n := by omega
          have hkl : (beg z n + i) % n < hs.length := by rw [← HN.out]; exact Nat.mod_lt _ hn0
          obtain rfl : an = true := by
            rw [HAN.out, List.any_eq_true]
            refine ⟨hs[(beg z n + i) % n], List.getElem_mem _, ?_⟩
            rw [HG.out _ hkl]
            exact decide_eq_true hne
          have HBE := Lib.hid hbe
          have HNE := Lib.hid hne
          obtain ⟨k, hk⟩ : ∃ k, k = (beg z n + i) % n := ⟨_, rfl⟩
          rw [← hk]
          have HK := Lib.hid hk
          obtain ⟨hr1, hr2, _⟩ := tmod_place z n hn0
          have hat := place_at z n 0 hn0
          obtain ⟨r0, hr0⟩ : ∃ r0, z.tmod (n : Int) = r0 := ⟨_, rfl⟩
          obtain ⟨f, hf⟩ : ∃ f, f = beg z n := ⟨_, rfl⟩
          have hfn : f < n := by rw [hf]; exact beg_lt z n hn0
          rw [hr0] at hr1 hr2 hat
          rw [← hf, Nat.add_zero, Nat.mod_eq_of_lt hfn] at hat
          have hat0 : (r0 + (n : Int)) % (n : Int) = (f : Int) := by simpa using hat
          have hat2 : (r0 + (n : Int)).tmod (n : Int) = (f : Int) := by rw [Int.tmod_eq_emod_of_nonneg (by omega)]; exact hat0
          have HFF := Lib.hid hf
          clear hbe hne hk hkl hf hat HF
          go_wp2_with fail
          go_loopw [12] (fun v wx => ∃ j2 : Nat, v = .int .i64 (((f + j2) % n : Nat) : Int) ∧ Hid (j2 ≤ i) ∧ wx = w2) (fun v _ => 2 * n - (((intOf v).toNat + n - f) % n))
          case atStart => exact ⟨0, by rw [Nat.add_zero, Nat.mod_eq_of_lt hfn], Lib.hid (by omega), rfl⟩
          case round =>
            obtain ⟨j2, rfl, HJ2, rfl⟩ := hrel
            obtain ⟨kk, hkk⟩ : ∃ kk, kk = (f + j2) % n := ⟨_, rfl⟩
            have hkn : kk < n := by rw [hkk]; exact Nat.mod_lt _ hn0
            rw [← hkk]
            have hkh : kk < hs.length := by rw [← HN.out]; exact hkn
            obtain ⟨b, off, rfl, ck⟩ := sl_get (HSL.out.below HNr.out.below) kk (by rw [List.length_map]; exact hkh)
            simp only [List.getElem_map] at ck
            rw [HG.out kk hkh] at ck
            have HKK := Lib.hid hkk
            by_cases hji : j2 < i
            · have hem := HBE.out j2 hji
              rw [← HFF.out, ← hkk] at hem
              rw [decn_ (by simpa using hem)] at ck
              obtain ⟨k2, hk2⟩ : ∃ k2, k2 = (f + (j2 + 1)) % n := ⟨_, rfl⟩
              have hs1 : ((kk : Int) + 1) % (n : Int) = (k2 : Int) := by
                have hkn2 : k2 = (kk + 1) % n := by rw [hk2, hkk, Nat.mod_add_mod, Nat.add_assoc]
                rw [hkn2, Int.natCast_emod, Int.natCast_add]
                rfl
              have hs2 : ((kk : Int) + 1).tmod (n : Int) = (k2 : Int) := by rw [Int.tmod_eq_emod_of_nonneg (by omega)]; exact hs1
              have HK2 := Lib.hid hk2
              clear hkk hk2 hem
              go_wp2_with fail
              go_roundw
              case rel => exact ⟨j2 + 1, by rw [← HK2.out], Lib.hid (by omega), trivial⟩
              case measure =>
                simp only [intOf, Int.toNat_natCast]
                rw [HK2.out, HKK.out, way_round f n (j2 + 1) hfn (by omega), way_round f n j2 hfn (by omega)]
                omega
            · obtain rfl : j2 = i := by have := HJ2.out; omega
              have hkeq : k = kk := by rw [HK.out, hkk, HFF.out]
              subst hkeq
              have hne := HNE.out
              rw [← HFF.out, ← hkk] at hne
              rw [dec_ hne] at ck
              clear hkk hne
              go_wp2_with fail
              refine (nilbreak_ok _).mono ?_
              rintro e x1 ⟨rfl, hn⟩
              have HX1 := Lib.hid (HNr.out.then hn)
              clear hn
              go_wp2_with fail
              refine (nilclear_ok x1).mono ?_
              rintro e x2 ⟨rfl, rfl⟩
              go_wp2_with fail
              refine (niltake_ok x2).mono ?_
              rintro e x3 ⟨rfl, hn⟩
              have HX3 := Lib.hid ((HX1.out.then hn).alloc (.cells #[.bool false, .string ⟨#[]⟩] 57))
              clear hn
              simp only [itV, zeroI]
              go_wp2_with fail
              refine (nilsend_ok _ _).mono ?_
              rintro e x4 ⟨rfl, hn⟩
              have HX4 := Lib.hid (HX3.out.then hn)
              clear hn
              go_wp2_with fail
              refine (nilplen_ok x4).mono ?_
              rintro e x5 ⟨rfl, rfl⟩
              go_wp2_with fail
              go_ret
              exact ⟨rfl, HX4.out.below⟩
        · obtain rfl : an = false := by
            rw [HAN.out, List.any_eq_false]
            intro x hx
            obtain ⟨k, hk, rfl⟩ := List.getElem_of_mem hx
            rw [HG.out k hk]
            obtain ⟨j3, h1, h2⟩ := all_places (beg z n) n k (beg_lt z n (by rw [HN.out]; omega)) (by rw [HN.out]; exact hk)
            have := hall j3 h1
            rw [h2] at this
            simpa using this
          clear hall HF
          go_wp2_with fail
          refine (nilbreak_ok _).mono ?_
          rintro e x1 ⟨rfl, hn⟩
          have HX1 := Lib.hid (HNr.out.then hn)
          clear hn
          go_wp2_with fail
          refine (nilclear_ok x1).mono ?_
          rintro e x2 ⟨rfl, rfl⟩
          go_wp2_with fail
          refine (niltake_ok x2).mono ?_
          rintro e x3 ⟨rfl, hn⟩
          have HX3 := Lib.hid ((HX1.out.then hn).alloc (.cells #[.bool false, .string ⟨#[]⟩] 57))
          clear hn
          simp only [itV, zeroI]
          go_wp2_with fail
          refine (nilsend_ok _ _).mono ?_
          rintro e x4 ⟨rfl, hn⟩
          have HX4 := Lib.hid (HX3.out.then hn)
          clear hn
          go_wp2_with fail
          refine (nilplen_ok x4).mono ?_
          rintro e x5 ⟨rfl, rfl⟩
          go_wp2_with fail
          go_ret
          exact ⟨rfl, HX4.out.below⟩
end Go.Proofs.Ytebpdnmmcbianaa
