/-
  ClockPlays answers true for any capacity and any acts.
-/
import Derived.Test.YtohpbjbbkpllaaaClkSpk
import Derived.Test.YtohpbjbbkpllaaaClkNone
import Derived.Test.YtohpbjbbkpllaaaActs
import Derived.Deep.CutBlock
set_option linter.unusedVariables false
set_option linter.unusedSimpArgs false
namespace Go.Proofs.Ytohpbjbbkpllaaa
open Go.RowKit Go.Maps Go.Shelf Go.Sort

theorem kind5 (z : Int) : (wrap64 (z.tmod 5 + 5)).tmod 5 = z % 5 := by
  have h : z.tmod 5 = z % 5 ∨ z.tmod 5 = z % 5 - 5 := by
    rcases Int.le_total 0 z with h | h
    · exact .inl (Int.tmod_eq_emod_of_nonneg h)
    · obtain ⟨y, rfl⟩ : ∃ y, z = -y := ⟨-z, by omega⟩
      rw [Int.neg_tmod, Int.tmod_eq_emod_of_nonneg (by omega)]
      omega
  have hw : wrap64 (z.tmod 5 + 5) = z.tmod 5 + 5 := by unfold wrap64; omega
  rw [hw, Int.tmod_eq_emod_of_nonneg (by omega)]
  omega
theorem acs_at2 {w : World} {S : Nat → Prop} {ao : Option Addr} {n cap : Nat} {l : List Ac} (h : Acs w S (.slice ao n cap) l) (j : Nat) (hj : j < l.length) :
    ∃ b off, ao = some ⟨b, off, none⟩ ∧ w.cell? ⟨b, off + j * 3, none⟩ = some (.int .i64 l[j].what) ∧ w.cell? ⟨b, off + j * 3 + 1, none⟩ = some (.string l[j].name) ∧ w.cell? ⟨b, off + j * 3 + 2, none⟩ = some (.int .i64 l[j].tick) ∧ S b ∧ b < w.heap.size := by
  obtain ⟨ao', cap', e, _, _, hc⟩ := h
  injection e with e1 _ _
  subst e1
  obtain ⟨b, off, e, hs, hb, hcc⟩ := hc (by omega)
  obtain ⟨c0, c1, c2⟩ := hcc j hj
  exact ⟨b, off, e, c0, c1, c2, hs, hb⟩
theorem own_not_box {w : World} {base : Nat} {e t : TypeId} {v : Value} {n sz g : Nat} {xs : List Value} {cs : Array Value} (h : w.ownsRow base e sz v n xs) (hb : Bk w g t cs) (hne : e ≠ t) : v.ownBlock ≠ some g := by
  intro hk
  rcases h.2 with ⟨rfl, _⟩ | ⟨g', cap, cur, rfl, _, hg, _⟩
  · simp [Value.ownBlock] at hk
  · simp [Value.ownBlock] at hk
    subst hk
    unfold Bk at hb
    rw [hb] at hg
    injection hg with hg
    injection hg with _ h2
    exact hne h2.symm
/-- The clock and the reference's list in one world. -/
structure St (w : World) (C k : Nat) (wr : World) (mv : Value) (es : List Tm) (sets : Int) (b : Nat) : Prop where
  clk : Clk wr w.heap.size C b k sets es
  row : wr.ownsRow w.heap.size 49 2 mv es.length (es.flatMap thC)
  tch : Tch (w.heap.size ≤ ·) w wr
section
variable {w wr wx : World} {C k b : Nat} {mv : Value} {es : List Tm} {sets : Int}
theorem St.not_set (h : St w C k wr mv es sets b) : ∀ x, mv.ownBlock = some x → ¬ SetS C b x := by
  intro x hx hs
  obtain ⟨n, ha, _⟩ := h.clk.at_
  rcases hs with rfl | rfl
  · exact own_not_box h.row ha.box (by decide) hx
  · exact own_not_map h.row ha.map hx
theorem St.since (h : St w C k wr mv es sets b) (hb : Below wr.heap.size wr wx) : St w C k wx mv es sets b :=
  ⟨h.clk.below hb, own_tch h.row (tch_of_below hb (S := fun _ => False)) (by simp), h.tch.then (tch_of_below hb)⟩
theorem St.slk (h : St w C k wr mv es sets b) : Slk thC 2 wr (fun x => w.heap.size ≤ x) mv es := own_slk thC_len h.row
theorem St.len (h : St w C k wr mv es sets b) : es.length ≤ 64 := Nat.le_trans h.clk.len h.clk.most64
end
theorem look_start (s : ByteArray) : Look [] s 0 false := ⟨by simp, by simp, fun _ => rfl⟩
theorem look_hit {es : List Tm} {s : ByteArray} (ha : Apart es) {i : Nat} (hi : i < es.length) (hn : es[i].name = s) : Look (es.take (i + 1)) s es[i].tick true := by
  have hm : es[i] ∈ es.take (i + 1) := by rw [List.take_add_one, List.getElem?_eq_getElem hi]; exact List.mem_append_right _ (List.mem_singleton.2 rfl)
  refine ⟨(decide_eq_true ⟨_, hm, hn⟩).symm, fun t ht e => ?_, by simp⟩
  obtain ⟨j, hj, rfl⟩ := List.getElem_of_mem (List.mem_of_mem_take ht)
  by_cases hij : i = j
  · subst hij; rfl
  · rcases Nat.lt_or_gt_of_ne hij with h | h
    · exact absurd (hn.trans e.symm) (List.pairwise_iff_getElem.1 ha i j hi hj h)
    · exact absurd (e.trans hn.symm) (List.pairwise_iff_getElem.1 ha j i hj hi h)
theorem look_miss {es : List Tm} {s : ByteArray} {v : Int} {x : Bool} {i : Nat} (h : Look (es.take i) s v x) (hi : i < es.length) (hn : es[i].name ≠ s) : Look (es.take (i + 1)) s v x := by
  have e : ∀ t, t ∈ es.take (i + 1) ↔ t ∈ es.take i ∨ t = es[i] := by
    intro t
    rw [List.take_add_one, List.getElem?_eq_getElem hi, List.mem_append]
    exact ⟨fun h => h.imp id (fun h => List.mem_singleton.1 h), fun h => h.imp id (fun h => List.mem_singleton.2 h)⟩
  refine ⟨?_, fun t ht en => ?_, h.none_⟩
  · rw [h.yes]
    congr 1
    apply propext
    constructor
    · rintro ⟨t, ht, en⟩; exact ⟨t, (e t).2 (.inl ht), en⟩
    · rintro ⟨t, ht, en⟩
      rcases (e t).1 ht with h1 | rfl
      · exact ⟨t, h1, en⟩
      · exact absurd en hn
  · rcases (e t).1 ht with h1 | rfl
    · exact h.one t h1 en
    · exact absurd en hn
theorem Look.unique {es : List Tm} {s : ByteArray} {v v' : Int} {x x' : Bool} (h : Look es s v x) (h' : Look es s v' x') : v = v' ∧ x = x' := by
  have hx : x = x' := h.yes.trans h'.yes.symm
  subst hx
  refine ⟨?_, rfl⟩
  cases x
  · rw [h.none_ rfl, h'.none_ rfl]
  · obtain ⟨t, ht, e⟩ := of_decide_eq_true h.yes.symm
    rw [h.one t ht e, h'.one t ht e]

set_option maxHeartbeats 2000000 in
set_option maxRecDepth 100000 in
theorem clockPlays_core (x0 : Int) (v1 : Value) (l : List Ac) (w : World) (hx0 : -9223372036854775808 ≤ x0 ∧ x0 ≤ 9223372036854775807) (s0 : Acs w (· < w.heap.size) v1 l) (w0 : ∀ q ∈ l, AcOk q) :
    Calls Try.prog 6 #[.int .i64 x0, v1] w fun e w' => e = .returned (.bool true) ∧ Below w.heap.size w w' := by
  obtain ⟨ao, cap, rfl, hlc⟩ : ∃ ao cap, v1 = .slice ao l.length cap ∧ True := by
    obtain ⟨ao, cap, e, _⟩ := s0
    exact ⟨ao, cap, e, trivial⟩
  have S0 := Lib.hid s0
  have W0 := Lib.hid w0
  clear s0 w0 hlc
  obtain ⟨k, hk⟩ : ∃ k : Nat, (max 0 (min x0 64)).toNat = k := ⟨_, rfl⟩
  have hsz : min (max x0 0) 64 = (k : Int) := by omega
  have HK := Lib.hid hk
  have hk64 : k ≤ 64 := by omega
  clear hk
  go_enter Try.func6, Try.ntmps6
  go_wp2_with fail
  go_at_call 20
  refine (speaks04 w).mono ?_
  rintro e w1 ⟨rfl, hb1⟩
  have B1 := Lib.hid (tch_of_below (S := (w.heap.size ≤ ·)) hb1)
  clear hb1
  go_wp2_with fail
  go_at_call 21
  refine (new_clk x0 k HK.out _).mono ?_
  rintro e w2 ⟨C, b0, rfl, hc1, hb1⟩
  have HC := Lib.hid (hc1.less B1.out.size)
  have B2 := Lib.hid (B1.out.then (tch_of_below (S := (w.heap.size ≤ ·)) hb1))
  clear hc1 hb1 B1 hx0
  go_wp2_with fail
  go_loopw [7, 8] (fun mv jv wr => ∃ (j : Nat) (sets : Int) (es : List Tm) (b : Nat), jv = .int .i64 j ∧ Hid (j ≤ l.length ∧ j ≤ 90 ∧ sets ≤ j) ∧ Hid (St w C k wr mv es sets b)) (fun _ jv _ => l.length - (intOf jv).toNat)
  case atStart => exact ⟨0, 0, [], b0, rfl, Lib.hid ⟨by omega, by omega, by omega⟩, Lib.hid ⟨HC.out, World.ownsRow_nil _ _ _ _, B2.out⟩⟩
  case round =>
    clear HC B2
    obtain ⟨j, sets, es, b, rfl, HJ, HS⟩ := hrel
    obtain ⟨wo, rfl⟩ : ∃ x, x = wr := ⟨_, rfl⟩
    obtain ⟨mv, rfl⟩ : ∃ x, x = u7 := ⟨_, rfl⟩
    by_cases hj : j < l.length ∧ j < 90
    · obtain ⟨hj1, hj2⟩ := hj
      obtain ⟨q, hq⟩ : ∃ q, q = l[j] := ⟨_, rfl⟩
      obtain ⟨bo, off, rfl, cA, cB, cC, hbw, hbo⟩ := acs_at2 (S0.out.tch HS.out.tch (fun b hb h => by omega)) j hj1
      rw [← hq] at cA cB cC
      have HQ : Hid (AcOk q) := W0.out q (by rw [hq]; exact List.getElem_mem _)
      clear hq
      go_upto_region 11 with (fail)
      have hss : (q.name.extract 0 (min (q.name.size : Int) 3).toNat).size ≤ maxLen := by
        have := HQ.out.2.1
        rw [ByteArray.size_extract]; omega
      obtain ⟨s, hs⟩ : ∃ s, s = q.name.extract 0 (min (q.name.size : Int) 3).toNat := ⟨_, rfl⟩
      rw [← hs] at hss ⊢
      obtain ⟨wa, hwa⟩ : ∃ wa, wa = wo.alloc (.cells #[.int .i64 q.what, .string q.name, .int .i64 q.tick] 47) := ⟨_, rfl⟩
      rw [← hwa]
      have KA : Hid (Bk wa wo.heap.size 47 #[.int .i64 q.what, .string q.name, .int .i64 q.tick]) := by rw [hwa]; exact Bk.made wo _ _
      have HSA : Hid (St w C k wa mv es sets b) := by rw [hwa]; exact HS.out.since ((Below.refl _ _).alloc (Nat.le_refl _) _)
      have HA0 : Hid (wo.heap.size ≠ C ∧ wo.heap.size ≠ b ∧ w.heap.size ≤ wo.heap.size) := by
        have h := HS.out.clk.lt
        exact ⟨by omega, by omega, HS.out.tch.size⟩
      have HSS := Lib.hid hss
      have HSET : Hid (sets < 2 ^ 40) := by have := HJ.out; exact (by omega : sets < 2 ^ 40)
      clear hs hss hwa HS cA cB cC hbw hbo
      have hlen64 : es.length ≤ 64 := HSA.out.len
      obtain ⟨aom, capm, emv, hmc, hmm⟩ := HSA.out.slk.shape
      have EMV := Lib.hid emv
      rw [emv]
      clear emv
      have HSL : Hid (Slk thC 2 wa (fun x => w.heap.size ≤ x) (.slice aom es.length capm) es) := by rw [← EMV.out]; exact HSA.out.slk
      have hap := Lib.hid HSA.out.clk.apart
      go_wp2_with fail
      go_loopw [11, 12, 13] (fun av bv iv wx => ∃ (i : Nat) (v : Int) (x : Bool), iv = .int .i64 i ∧ av = .int .i64 v ∧ bv = .bool x ∧ i ≤ es.length ∧ Hid (Look (es.take i) s v x) ∧ wx = wa) (fun _ _ iv _ => es.length - (intOf iv).toNat)
      case atStart => exact ⟨0, 0, false, rfl, rfl, rfl, Nat.zero_le _, look_start s, rfl⟩
      case round =>
        obtain ⟨i, v, x, rfl, rfl, rfl, hi, HL, hwx⟩ := hrel
        subst hwx
        by_cases hi2 : i < es.length
        · obtain ⟨bm, om, e, _, _, c0, c1⟩ := th_at HSL.out i hi2
          subst e
          by_cases hn : es[i].name = s
          · have hb := str_eq hn
            have HN := Lib.hid (look_hit hap.out hi2 hn)
            generalize es[i].tick = tk at c1 HN
            generalize es[i].name = nm at c0 hb
            clear hn HL
            go_wp2_with fail
            go_roundw
            case rel => exact ⟨i + 1, tk, true, by go_num, rfl, rfl, hi2, HN, by trivial⟩
            case measure => simp [intOf]; omega
          · have hb := str_ne hn
            have HN := Lib.hid (look_miss HL.out hi2 hn)
            generalize es[i].tick = tk at c1
            generalize es[i].name = nm at c0 hb
            clear hn HL
            go_wp2_with fail
            go_roundw
            case rel => exact ⟨i + 1, v, x, by go_num, rfl, rfl, hi2, HN, by trivial⟩
            case measure => simp [intOf]; omega
        · obtain rfl : i = es.length := by omega
          have HLK : Hid (Look es s v x) := by have h := HL.out; rw [List.take_length] at h; exact h
          clear HL hi2 hi
          obtain ⟨⟨a0, a1, a2⟩, f0, f1, f2⟩ := KA.out.three
          have hk5 := kind5 q.what
          obtain ⟨kd, hkd⟩ : ∃ kd, kd = q.what % 5 := ⟨_, rfl⟩
          rw [← hkd] at hk5
          have hkr : kd = 2 ∨ kd = 3 ∨ kd = 4 ∨ (kd = 0 ∨ kd = 1) := by omega
          have HKR := Lib.hid hkr
          clear hkd hkr
          clear a1
          go_upto_block 4 with fail
          go_cut [7] (fun mv' wx' => ∃ (es' : List Tm) (sets' : Int) (b' : Nat), Hid (St w C k wx' mv' es' sets' b') ∧ Hid (sets' ≤ j + 1))
          case first =>
            rcases HKR.out with hk | hk | hk | hk
            · subst hk
              clear hk5
              go_wp2_with fail
              go_at_call 22
              refine (unset_clk w.heap.size C b k sets es s _ HSA.out.clk HSS.out).mono ?_
              rintro e w3 ⟨rfl, hc, ht⟩
              rw [← HLK.out.yes]
              have HROW : Hid (Slk thC 2 w3 (fun x => w.heap.size ≤ x) (.slice aom es.length capm) es) := by
                have h := own_tch HSA.out.row ht HSA.out.not_set
                rw [EMV.out] at h
                exact own_slk thC_len h
              have HC3 := Lib.hid hc
              have HT3 := Lib.hid (HSA.out.tch.then (tch_base ht HSA.out.clk.hC HSA.out.clk.hb))
              clear hc ht
              cases x
              all_goals
                go_wp2_with fail
                go_at_call 23
                refine (drop_ref _ es s _ _ HROW.out (by omega)).mono ?_
                rintro e w4 ⟨v', rfl, how, hb⟩
                have HST : Hid (St w C k w4 v' (dropK es s) sets b) := ⟨HC3.out.below hb, own_less how HT3.out.size, HT3.out.then (tch_of_below hb)⟩
                clear how hb
                go_wp2_with fail
                go_meet
                exact ⟨_, _, _, HST, Lib.hid (by have := HJ.out; omega)⟩
            · subst hk
              clear hk5
              go_wp2_with fail
              go_at_call 24
              refine (when_clk w.heap.size C b k sets es s _ HSA.out.clk HSS.out).mono ?_
              rintro e w3 ⟨v2, x2, hl2, rfl, hb⟩
              obtain ⟨hv, hx⟩ := hl2.unique HLK.out
              rw [hv, hx]
              clear hv hx hl2
              have HST : Hid (St w C k w3 (.slice aom es.length capm) es sets b) := by rw [← EMV.out]; exact HSA.out.since hb
              clear hb
              cases x
              all_goals
                go_wp2_with fail
                go_meet
                exact ⟨_, _, _, HST, Lib.hid (by have := HJ.out; omega)⟩
            · subst hk
              clear hk5
              go_wp2_with fail
              go_at_call 25
              refine (due_clk w.heap.size C b k sets es q.tick _ HSA.out.clk HSA.out.tch.size).mono ?_
              rintro e w3 ⟨ao1, cap1, d, b', rfl, hd, hs1, hc, hb', ht⟩
              have HROW : Hid (Slk thC 2 w3 (fun x => w.heap.size ≤ x) (.slice aom es.length capm) es) := by
                have h := own_tch HSA.out.row ht (fun x hx h => HSA.out.not_set x hx (.inl h))
                rw [EMV.out] at h
                exact own_slk thC_len h
              have HC3 := Lib.hid hc
              have HT3 := Lib.hid (HSA.out.tch.then (tch_box ht HSA.out.clk.hC))
              have HD := Lib.hid hd
              have HS1 := Lib.hid hs1
              obtain ⟨⟨p0, p1, p2⟩, g0, g1, g2⟩ := (KA.out.tch ht (fun h => HA0.out.1 h)).three
              clear hc ht hd hs1 hb' a0 a2 f0 f1 f2 p1
              go_wp2_with fail
              go_at_call 26
              refine (due_ref _ es q.tick _ _ HROW.out (by omega) HSA.out.clk.rise).mono ?_
              rintro e w4 ⟨v5, r5, d5, rfl, hd5, how5, hor5, hb5⟩
              have hdd : d5 = d := DueL.unique HSA.out.clk.rise hd5 HD.out
              rw [hdd] at how5
              obtain ⟨ao5, cap5, e5, _⟩ := own_shape how5
              subst e5
              have HST : Hid (St w C k w4 r5 (restL es q.tick) sets b') := ⟨HC3.out.below hb5, own_less hor5 HT3.out.size, HT3.out.then (tch_of_below hb5)⟩
              have R1 := Lib.hid (names_read (HS1.out.keep hb5.size (fun x hx _ => hb5.block x hx)))
              have R2 := Lib.hid (names_read (own_sl how5))
              have hdl : d.length ≤ 64 := by
                have h1 := HD.out.perm.length_eq
                have h2 := List.length_filter_le (fun t : Tm => decide (t.tick ≤ q.tick)) es
                omega
              clear hd5 how5 hor5 hb5 hdd p0 p2 g0 g1 g2
              go_wp2_with fail
              go_loopw [19] (fun iv wx' => ∃ i : Nat, iv = .int .i64 i ∧ Hid (i ≤ d.length) ∧ Hid (∃ n, wx' = w4.drewN n)) (fun iv _ => d.length - (intOf iv).toNat)
              case atStart => exact ⟨0, rfl, Lib.hid (Nat.zero_le _), ⟨0, rfl⟩⟩
              case round =>
                obtain ⟨i, rfl, HI, HX⟩ := hrel
                obtain ⟨n, hn⟩ := HX.out
                subst hn
                by_cases hi2 : i < d.length
                · obtain ⟨g1, o1, e1, c1⟩ := R1.out i hi2
                  obtain ⟨g2, o2, e2, c2⟩ := R2.out i hi2
                  subst e1; subst e2
                  generalize d[i].name = nm at c1 c2
                  replace c1 : (w4.drewN n).cell? ⟨g1, o1 + i, none⟩ = some (.string nm) := c1
                  replace c2 : (w4.drewN n).cell? ⟨g2, o2 + i, none⟩ = some (.string nm) := c2
                  clear HX
                  generalize hwn : w4.drewN n = wn at c1 c2 ⊢
                  have HWN := Lib.hid hwn
                  clear hwn
                  go_upto_region 39 with (fail)
                  go_quiet (fail)
                  go_wp2_with fail
                  go_roundw
                  case rel =>
                    refine ⟨i + 1, by go_num, Lib.hid hi2, ⟨n + nq, ?_⟩⟩
                    rw [← HWN.out]
                    simp [World.drewN, Nat.add_assoc]
                  case measure => simp [intOf]; omega
                · obtain rfl : i = d.length := by have := HI.out; omega
                  have HST2 : Hid (St w C k (w4.drewN n) r5 (restL es q.tick) sets b') := HST.out.since (bdN (Below.refl _ _) n)
                  clear hi2 HX R1 R2
                  go_wp2_with fail
                  go_meet
                  exact ⟨_, _, _, HST2, Lib.hid (by have := HJ.out; omega)⟩
            · clear hk5
              have q2 := bne_ (show kd ≠ 2 by omega)
              have q3 := bne_ (show kd ≠ 3 by omega)
              have q4 := bne_ (show kd ≠ 4 by omega)
              obtain ⟨i0, hi0, hz0, hz1, hz2⟩ := info_parts thing_info
              clear hk
              cases x
              · have hno : ¬ ∃ t ∈ es, t.name = s := decide_eq_false_iff_not.1 HLK.out.yes.symm
                by_cases hlt : es.length < k
                · have hB : setB k es s = true := decide_eq_true (.inr hlt)
                  clear hno
                  go_wp2_with fail
                  go_at_call 27
                  refine (set_clk w.heap.size C b k sets es s q.tick _ HSA.out.clk HSS.out HSET.out).mono ?_
                  rintro e w3 ⟨rfl, hc, ht⟩
                  rw [hB]
                  have HROW : Hid (Slk thC 2 w3 (fun x => w.heap.size ≤ x) (.slice aom es.length capm) es) := by
                    have h := own_tch HSA.out.row ht HSA.out.not_set
                    rw [EMV.out] at h
                    exact own_slk thC_len h
                  have HC3 := Lib.hid hc
                  have HT3 := Lib.hid (HSA.out.tch.then (tch_base ht HSA.out.clk.hC HSA.out.clk.hb))
                  have k3 := KA.out.tch ht (fun h => h.elim HA0.out.1 HA0.out.2.1)
                  have KEEP : Hid (∀ y, Below w3.heap.size w3 y → y.cell? ⟨wo.heap.size, 2, none⟩ = some (.int .i64 q.tick) ∧ Below w3.heap.size w3 y) :=
                    fun y hy => ⟨(World.cell?_of_block (hy.block wo.heap.size k3.lt)).trans (k3.cell 2), hy⟩
                  have hB2 : setL k sets es s q.tick = dropK es s ++ [⟨s, q.tick, sets + 1⟩] := by unfold setL; rw [if_pos hB]
                  rw [hB2] at hc
                  have HC3 := Lib.hid hc
                  have hnn := (setN_le k sets es s).2
                  have HNN := Lib.hid hnn
                  have hdk : (dropK es s).length ≤ 64 := Nat.le_trans (List.length_filter_le _ _) hlen64
                  have HDK := Lib.hid hdk
                  clear hc ht k3 hB2 hnn hdk a0 a2 f0 f1 f2 hB
                  go_upto_region 22 with (fail)
                  have BC := Lib.hid (Below.refl w3.heap.size w3)
                  have c2 := (KEEP.out w3 BC.out).1
                  have tok1 : True := trivial
                  go_region_held3 (fun y => y.cell? ⟨wo.heap.size, 2, none⟩ = some (.int .i64 q.tick) ∧ Below w3.heap.size w3 y)
                    ((refine KEEP.out _ ?_; first | exact BC.out | exact BC.out.drew | exact BC.out.drew.alloc (Nat.le_refl _) _ | exact BC.out.alloc BC.out.size _ | exact BC.out.drew.alloc BC.out.size _))
                    (first
                     | (have _t := tok1; go_at_call 23; refine (drop_ref _ es s _ _ (HROW.out.since (by first | exact BC.out | exact BC.out.drew | exact BC.out.drew.alloc (Nat.le_refl _) _)) (by omega)).mono ?_; rintro e w4 ⟨v4, rfl, how, hb⟩; have HBK := Lib.hid hb; replace BC : Hid (Below w3.heap.size w3 w4) := below_then2 (by first | exact BC.out | exact BC.out.drew | exact BC.out.drew.alloc (Nat.le_refl _) _) hb; have HO4 : Hid (w4.ownsRow w3.heap.size 49 2 v4 (dropK es s).length ((dropK es s).flatMap thC)) := own_less how (by simp); clear tok1 how hb; have tok2 : True := trivial)
                     | (have _t := tok2; refine step_appK rfl (.tmp 92) (.tmp 97) 45 rfl w3.heap.size 49 i0 (.agg #[.string ⟨#[]⟩, .int .i64 0]) 2 24 Try.underlying45 hi0 hz0 hz1 hz2 rfl (by omega) v4 (dropK es s).length ((dropK es s).flatMap thC) rfl (by exact HO4.out.alloc _) (some ⟨w4.heap.size, 0, none⟩) 1 1 (thC ⟨s, q.tick, sets + 1⟩) rfl rfl (by simp) (by simp) (fun _ => ⟨_, rfl, fun jj u hu => by rw [Addr.add_lit, Nat.zero_add, (Bk.made w4 _ _).cell, List.getElem?_toArray]; exact hu⟩) (fun u hu => thC_one [⟨s, q.tick, sets + 1⟩] u (by simpa using hu)) (Nat.le_trans (show (dropK es s).length + 1 ≤ 65 from by have := HDK.out; omega) (by decide : 65 ≤ maxLen)) (by have := HDK.out; omega) (by have := BC.out.size; simp; omega) ?_; intro v5 w5 HO5 HG5; replace BC : Hid (Below w3.heap.size w3 w5) := (BC.out.alloc BC.out.size _).grown HG5.out (by have := BC.out.size; simp; omega) (fun jj hj => (own_base HO4.out hj).1); clear tok2)
                     | (have _t := tok2; refine step_appK rfl (.tmp 92) (.tmp 97) 45 rfl w3.heap.size 49 i0 (.agg #[.string ⟨#[]⟩, .int .i64 0]) 2 24 Try.underlying45 hi0 hz0 hz1 hz2 rfl (by omega) v4 (dropK es s).length ((dropK es s).flatMap thC) rfl (by exact HO4.out) (some ⟨w3.heap.size, 0, none⟩) 1 1 (thC ⟨s, q.tick, sets + 1⟩) rfl rfl (by simp) (by simp) (fun _ => ⟨_, rfl, fun jj u hu => by rw [Addr.add_lit, Nat.zero_add, (show Bk w4 w3.heap.size 49 #[.string s, .int .i64 q.tick] from (Bk.made w3.drew 49 #[.string s, .int .i64 q.tick]).keep (HBK.out.block _ (by simp))).cell, List.getElem?_toArray]; exact hu⟩) (fun u hu => thC_one [⟨s, q.tick, sets + 1⟩] u (by simpa using hu)) (Nat.le_trans (show (dropK es s).length + 1 ≤ 65 from by have := HDK.out; omega) (by decide : 65 ≤ maxLen)) (by have := HDK.out; omega) (by exact BC.out.size) ?_; intro v5 w5 HO5 HG5; replace BC : Hid (Below w3.heap.size w3 w5) := BC.out.grown HG5.out BC.out.size (fun jj hj => (own_base HO4.out hj).1); clear tok2))
                  all_goals
                    have HST : Hid (St w C k w5 v5 (dropK es s ++ [⟨s, q.tick, sets + 1⟩]) (setN k sets es s) b) := ⟨HC3.out.below BC.out, by
                      have h := own_less HO5.out HT3.out.size
                      rw [List.length_append, List.flatMap_append]
                      simpa using h, HT3.out.then (tch_of_below BC.out)⟩
                    clear HO4 HO5 HG5 HBK
                    go_wp2_with fail
                    go_meet
                    exact ⟨_, _, _, HST, Lib.hid (by have := HJ.out; have := HNN.out; omega)⟩
                · have hB : setB k es s = false := decide_eq_false (fun h => h.elim hno hlt)
                  clear hno
                  go_wp2_with fail
                  go_at_call 27
                  refine (set_clk w.heap.size C b k sets es s q.tick _ HSA.out.clk HSS.out HSET.out).mono ?_
                  rintro e w3 ⟨rfl, hc, ht⟩
                  rw [hB]
                  have HST : Hid (St w C k w3 (.slice aom es.length capm) es sets b) := by
                    have h := own_tch HSA.out.row ht HSA.out.not_set
                    rw [EMV.out] at h
                    simp only [setN, setL, hB, if_false, Bool.false_eq_true] at hc
                    exact ⟨hc, h, HSA.out.tch.then (tch_base ht HSA.out.clk.hC HSA.out.clk.hb)⟩
                  clear hc ht hB
                  go_wp2_with fail
                  go_meet
                  exact ⟨_, _, _, HST, Lib.hid (by have := HJ.out; omega)⟩
              · have hB : setB k es s = true := decide_eq_true (.inl (of_decide_eq_true HLK.out.yes.symm))
                go_wp2_with fail
                go_at_call 27
                refine (set_clk w.heap.size C b k sets es s q.tick _ HSA.out.clk HSS.out HSET.out).mono ?_
                rintro e w3 ⟨rfl, hc, ht⟩
                rw [hB]
                have HROW : Hid (Slk thC 2 w3 (fun x => w.heap.size ≤ x) (.slice aom es.length capm) es) := by
                  have h := own_tch HSA.out.row ht HSA.out.not_set
                  rw [EMV.out] at h
                  exact own_slk thC_len h
                have HC3 := Lib.hid hc
                have HT3 := Lib.hid (HSA.out.tch.then (tch_base ht HSA.out.clk.hC HSA.out.clk.hb))
                have k3 := KA.out.tch ht (fun h => h.elim HA0.out.1 HA0.out.2.1)
                have KEEP : Hid (∀ y, Below w3.heap.size w3 y → y.cell? ⟨wo.heap.size, 2, none⟩ = some (.int .i64 q.tick) ∧ Below w3.heap.size w3 y) :=
                  fun y hy => ⟨(World.cell?_of_block (hy.block wo.heap.size k3.lt)).trans (k3.cell 2), hy⟩
                have hB2 : setL k sets es s q.tick = dropK es s ++ [⟨s, q.tick, sets + 1⟩] := by unfold setL; rw [if_pos hB]
                rw [hB2] at hc
                have HC3 := Lib.hid hc
                have hnn := (setN_le k sets es s).2
                have HNN := Lib.hid hnn
                have hdk : (dropK es s).length ≤ 64 := Nat.le_trans (List.length_filter_le _ _) hlen64
                have HDK := Lib.hid hdk
                clear hc ht k3 hB2 hnn hdk a0 a2 f0 f1 f2 hB
                go_upto_region 22 with (fail)
                have BC := Lib.hid (Below.refl w3.heap.size w3)
                have c2 := (KEEP.out w3 BC.out).1
                have tok1 : True := trivial
                go_region_held3 (fun y => y.cell? ⟨wo.heap.size, 2, none⟩ = some (.int .i64 q.tick) ∧ Below w3.heap.size w3 y)
                  ((refine KEEP.out _ ?_; first | exact BC.out | exact BC.out.drew | exact BC.out.drew.alloc (Nat.le_refl _) _ | exact BC.out.alloc BC.out.size _ | exact BC.out.drew.alloc BC.out.size _))
                  (first
                   | (have _t := tok1; go_at_call 23; refine (drop_ref _ es s _ _ (HROW.out.since (by first | exact BC.out | exact BC.out.drew | exact BC.out.drew.alloc (Nat.le_refl _) _)) (by omega)).mono ?_; rintro e w4 ⟨v4, rfl, how, hb⟩; have HBK := Lib.hid hb; replace BC : Hid (Below w3.heap.size w3 w4) := below_then2 (by first | exact BC.out | exact BC.out.drew | exact BC.out.drew.alloc (Nat.le_refl _) _) hb; have HO4 : Hid (w4.ownsRow w3.heap.size 49 2 v4 (dropK es s).length ((dropK es s).flatMap thC)) := own_less how (by simp); clear tok1 how hb; have tok2 : True := trivial)
                   | (have _t := tok2; refine step_appK rfl (.tmp 92) (.tmp 97) 45 rfl w3.heap.size 49 i0 (.agg #[.string ⟨#[]⟩, .int .i64 0]) 2 24 Try.underlying45 hi0 hz0 hz1 hz2 rfl (by omega) v4 (dropK es s).length ((dropK es s).flatMap thC) rfl (by exact HO4.out.alloc _) (some ⟨w4.heap.size, 0, none⟩) 1 1 (thC ⟨s, q.tick, sets + 1⟩) rfl rfl (by simp) (by simp) (fun _ => ⟨_, rfl, fun jj u hu => by rw [Addr.add_lit, Nat.zero_add, (Bk.made w4 _ _).cell, List.getElem?_toArray]; exact hu⟩) (fun u hu => thC_one [⟨s, q.tick, sets + 1⟩] u (by simpa using hu)) (Nat.le_trans (show (dropK es s).length + 1 ≤ 65 from by have := HDK.out; omega) (by decide : 65 ≤ maxLen)) (by have := HDK.out; omega) (by have := BC.out.size; simp; omega) ?_; intro v5 w5 HO5 HG5; replace BC : Hid (Below w3.heap.size w3 w5) := (BC.out.alloc BC.out.size _).grown HG5.out (by have := BC.out.size; simp; omega) (fun jj hj => (own_base HO4.out hj).1); clear tok2)
                   | (have _t := tok2; refine step_appK rfl (.tmp 92) (.tmp 97) 45 rfl w3.heap.size 49 i0 (.agg #[.string ⟨#[]⟩, .int .i64 0]) 2 24 Try.underlying45 hi0 hz0 hz1 hz2 rfl (by omega) v4 (dropK es s).length ((dropK es s).flatMap thC) rfl (by exact HO4.out) (some ⟨w3.heap.size, 0, none⟩) 1 1 (thC ⟨s, q.tick, sets + 1⟩) rfl rfl (by simp) (by simp) (fun _ => ⟨_, rfl, fun jj u hu => by rw [Addr.add_lit, Nat.zero_add, (show Bk w4 w3.heap.size 49 #[.string s, .int .i64 q.tick] from (Bk.made w3.drew 49 #[.string s, .int .i64 q.tick]).keep (HBK.out.block _ (by simp))).cell, List.getElem?_toArray]; exact hu⟩) (fun u hu => thC_one [⟨s, q.tick, sets + 1⟩] u (by simpa using hu)) (Nat.le_trans (show (dropK es s).length + 1 ≤ 65 from by have := HDK.out; omega) (by decide : 65 ≤ maxLen)) (by have := HDK.out; omega) (by exact BC.out.size) ?_; intro v5 w5 HO5 HG5; replace BC : Hid (Below w3.heap.size w3 w5) := BC.out.grown HG5.out BC.out.size (fun jj hj => (own_base HO4.out hj).1); clear tok2))
                all_goals
                  have HST : Hid (St w C k w5 v5 (dropK es s ++ [⟨s, q.tick, sets + 1⟩]) (setN k sets es s) b) := ⟨HC3.out.below BC.out, by
                    have h := own_less HO5.out HT3.out.size
                    rw [List.length_append, List.flatMap_append]
                    simpa using h, HT3.out.then (tch_of_below BC.out)⟩
                  clear HO4 HO5 HG5 HBK
                  go_wp2_with fail
                  go_meet
                  exact ⟨_, _, _, HST, Lib.hid (by have := HJ.out; have := HNN.out; omega)⟩
          case rest =>
            obtain ⟨es2, sets2, b2, HST, HS2⟩ := hcut
            obtain ⟨ao2, cap2, e2, _, _⟩ := HST.out.slk.shape
            subst e2
            clear a0 a2 f0 f1 f2 hk5
            have hl2 : es2.length ≤ 64 := HST.out.len
            go_wp2_with fail
            go_at_call 28
            refine (len_clk w.heap.size C b2 k sets2 es2 _ HST.out.clk).mono ?_
            rintro e w6 ⟨rfl, hw6⟩
            subst hw6
            go_wp2_with fail
            go_roundw
            case rel => exact ⟨j + 1, sets2, es2, b2, by go_num, Lib.hid ⟨by omega, by omega, by have := HS2.out; omega⟩, HST⟩
            case measure => simp [intOf]; omega
    · have hx : j = l.length ∨ (j = 90 ∧ 90 < l.length) := by have h := HJ.out; omega
      have HT0 := Lib.hid HS.out.tch
      clear hj HJ HS
      rcases hx with rfl | ⟨rfl, hl90⟩
      all_goals
        go_wp2_with fail
        go_at_call 29
        refine (whenI_nil 1 _).mono ?_
        rintro e w3 ⟨rfl, hb⟩
        have HT3 := Lib.hid (HT0.out.then (tch_of_below (S := (w.heap.size ≤ ·)) hb))
        clear hb HT0
        go_wp2_with fail
        go_at_call 30
        refine (setI_nil 1 1 _).mono ?_
        rintro e w4 ⟨rfl, hb⟩
        have HT4 := Lib.hid (HT3.out.then (tch_of_below (S := (w.heap.size ≤ ·)) hb))
        clear hb HT3
        go_wp2_with fail
        go_at_call 31
        refine (unsetI_nil 1 _).mono ?_
        rintro e w5 ⟨rfl, hb⟩
        have HT5 := Lib.hid (HT4.out.then (tch_of_below (S := (w.heap.size ≤ ·)) hb))
        clear hb HT4
        go_wp2_with fail
        go_at_call 32
        refine (dueI_nil 9 _).mono ?_
        rintro e w6 ⟨rfl, rfl⟩
        go_wp2_with fail
        go_at_call 33
        refine (lenI_nil _).mono ?_
        rintro e w7 ⟨rfl, rfl⟩
        go_wp2_with fail
        go_ret
        exact ⟨rfl, HT5.out.below (fun x hx => by omega)⟩
end Go.Proofs.Ytohpbjbbkpllaaa
