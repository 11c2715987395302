/-
  ClockSplits answers true for any acts and any two ticks.
-/
import Derived.Test.YtohpbjbbkpllaaaClkSpk
import Derived.Test.YtohpbjbbkpllaaaActs
set_option linter.unusedVariables false
set_option linter.unusedSimpArgs false
namespace Go.Proofs.Ytohpbjbbkpllaaa
open Go.RowKit Go.Maps Go.Shelf Go.Sort

theorem acs_shape {w : World} {S : Nat → Prop} {v : Value} {ps : List Ac} (h : Acs w S v ps) : ∃ ao cap, v = .slice ao ps.length cap := by
  obtain ⟨ao, cap, e, _⟩ := h
  exact ⟨ao, cap, e⟩
set_option maxHeartbeats 4000000 in
theorem restL_rest (es : List Tm) {lo hi : Int} (h : lo ≤ hi) : restL (restL es lo) hi = restL es hi := by
  unfold restL
  rw [List.filter_filter]
  congr 1
  funext t
  by_cases h1 : t.tick ≤ hi
  · simp [h1]
  · have h2 : ¬ t.tick ≤ lo := by omega
    simp [h1, h2]
theorem rest_length (es : List Tm) (now : Int) (d : List Tm) (h : DueL es now d) : (restL es now).length + d.length = es.length := by
  have h1 := (List.filter_append_perm (fun t : Tm => decide (t.tick ≤ now)) es).length_eq
  rw [List.length_append, ← h.perm.length_eq] at h1
  unfold restL
  omega
theorem due_splits {es d1 d2 : List Tm} {lo hi : Int} (hle : lo ≤ hi) (h1 : DueL es lo d1) (h2 : DueL (restL es lo) hi d2) : DueL es hi (d1 ++ d2) := by
  refine ⟨?_, List.pairwise_append.2 ⟨h1.sorted, h2.sorted, fun x hx y hy => ?_⟩⟩
  · have e1 : (es.filter fun t => decide (t.tick ≤ lo)) = ((es.filter fun t => decide (t.tick ≤ hi)).filter fun t => decide (t.tick ≤ lo)) := by
      rw [List.filter_filter]
      congr 1
      funext t
      by_cases h : t.tick ≤ lo
      · have : t.tick ≤ hi := by omega
        simp [h, this]
      · simp [h]
    have e2 : ((restL es lo).filter fun t => decide (t.tick ≤ hi)) = ((es.filter fun t => decide (t.tick ≤ hi)).filter fun t => !decide (t.tick ≤ lo)) := by
      unfold restL
      rw [List.filter_filter, List.filter_filter]
      congr 1
      funext t
      exact Bool.and_comm _ _
    refine (h1.perm.append h2.perm).trans ?_
    rw [e1, e2]
    exact List.filter_append_perm _ _
  · have hx1 := of_decide_eq_true (List.mem_filter.1 (h1.perm.mem_iff.1 hx)).2
    have hy1 := (List.mem_filter.1 (List.mem_filter.1 (h2.perm.mem_iff.1 hy)).1).2
    have hy2 : ¬ y.tick ≤ lo := by simpa using hy1
    left
    omega
theorem acs_at {w : World} {S : Nat → Prop} {ao : Option Addr} {n cap : Nat} {l : List Ac} (h : Acs w S (.slice ao n cap) l) (j : Nat) (hj : j < l.length) :
    ∃ b off, ao = some ⟨b, off, none⟩ ∧ w.cell? ⟨b, off + j * 3, none⟩ = some (.int .i64 l[j].what) ∧ w.cell? ⟨b, off + j * 3 + 1, none⟩ = some (.string l[j].name) ∧ w.cell? ⟨b, off + j * 3 + 2, none⟩ = some (.int .i64 l[j].tick) ∧ S b ∧ b < w.heap.size := by
  obtain ⟨ao', cap', e, _, _, hc⟩ := h
  injection e with e1 _ _
  subst e1
  obtain ⟨b, off, e, hs, hb, hcc⟩ := hc (by omega)
  obtain ⟨c0, c1, c2⟩ := hcc j hj
  exact ⟨b, off, e, c0, c1, c2, hs, hb⟩
set_option maxRecDepth 100000 in
theorem clockSplits_core (v0 : Value) (l : List Ac) (now later : Int) (w : World) (s0 : Acs w (· < w.heap.size) v0 l) (w0 : ∀ q ∈ l, AcOk q) :
    Calls Try.prog 7 #[v0, .int .i64 now, .int .i64 later] w fun e w' => e = .returned (.bool true) ∧ Below w.heap.size w w' := by
  obtain ⟨ao, cap, rfl⟩ := acs_shape s0
  have S0 := Lib.hid s0
  have W0 := Lib.hid w0
  clear s0 w0
  obtain ⟨lo, HLO⟩ : ∃ x, Hid (x = min now later) := ⟨_, rfl⟩
  obtain ⟨hi, HHI⟩ : ∃ x, Hid (x = max now later) := ⟨_, rfl⟩
  go_enter Try.func7, Try.ntmps7
  go_wp2_with fail
  go_at_call 20
  refine (speaks04 w).mono ?_
  rintro e w1 ⟨rfl, hb1⟩
  have B1 := Lib.hid (tch_of_below (S := (w.heap.size ≤ ·)) hb1)
  clear hb1
  go_upto_if 21 with (fail)
  go_cut [1, 2] (fun a b wr => a = .int .i64 lo ∧ b = .int .i64 hi ∧ wr = w1)
  case first =>
    by_cases hs : later < now
    · have hd := dec_ hs
      go_wp2_with fail
      go_meet
      exact ⟨by rw [HLO.out, show min now later = later by omega], by rw [HHI.out, show max now later = now by omega], rfl⟩
    · have hd := decn_ hs
      go_wp2_with fail
      go_meet
      exact ⟨by rw [HLO.out, show min now later = now by omega], by rw [HHI.out, show max now later = later by omega], rfl⟩
  case rest =>
    obtain ⟨rfl, rfl, rfl⟩ := hcut
    have HLE : Hid (lo ≤ hi) := by have h1 := HLO.out; have h2 := HHI.out; exact (by omega : lo ≤ hi)
    clear HLO HHI
    go_wp2_with fail
    go_at_call 21
    refine (new_clk 64 64 (by omega) _).mono ?_
    rintro e w2 ⟨C1, b1, rfl, hc1, hb1⟩
    have HC1 := Lib.hid (hc1.less B1.out.size)
    have B2 := Lib.hid (B1.out.then (tch_of_below (S := (w.heap.size ≤ ·)) hb1))
    clear hc1 hb1
    go_wp2_with fail
    go_at_call 21
    refine (new_clk 64 64 (by omega) _).mono ?_
    rintro e w3 ⟨C2, b2, rfl, hc2, hb2⟩
    have hlt := HC1.out.lt
    have HN : Hid (C1 ≠ C2 ∧ b1 ≠ b2 ∧ C1 ≠ b2 ∧ C2 ≠ b1) := by
      have h1 := hc2.hC
      have h2 := hc2.hb
      exact ⟨by omega, by omega, by omega, by omega⟩
    have HC2 := Lib.hid (hc2.less B2.out.size)
    have HC1 := Lib.hid (HC1.out.below hb2)
    have B3 := Lib.hid (B2.out.then (tch_of_below (S := (w.heap.size ≤ ·)) hb2))
    clear hc2 hb2 hlt B1 B2
    go_wp2_with fail
    go_loopw [9, 10] (fun jv nv wr => ∃ (j : Nat) (sets : Int) (es : List Tm), jv = .int .i64 j ∧ Hid (j ≤ l.length ∧ j ≤ 60 ∧ sets ≤ j) ∧ Hid (Clk wr w.heap.size C1 b1 64 sets es) ∧ Hid (Clk wr w.heap.size C2 b2 64 sets es) ∧ Hid (Tch (w.heap.size ≤ ·) w wr)) (fun jv _ _ => l.length - (intOf jv).toNat)
    case atStart => exact ⟨0, 0, [], rfl, Lib.hid ⟨by omega, by omega, by omega⟩, HC1, HC2, B3⟩
    case round =>
      clear HC1 HC2 B3
      obtain ⟨j, sets, es, rfl, HJ, HC1, HC2, HB⟩ := hrel
      by_cases hj : j < l.length ∧ j < 60
      · obtain ⟨hj1, hj2⟩ := hj
        obtain ⟨q, hq⟩ : ∃ q, q = l[j] := ⟨_, rfl⟩
        obtain ⟨bo, off, rfl, cA, cB, cC, hbw, hbo⟩ := acs_at (S0.out.tch HB.out (fun b hb h => by omega)) j hj1
        rw [← hq] at cA cB cC
        have HQ : Hid (AcOk q) := W0.out q (by rw [hq]; exact List.getElem_mem _)
        clear hq
        go_upto_region 9 with (fail)
        go_region
        have hss : (q.name.extract 0 (min (q.name.size : Int) 2).toNat).size ≤ maxLen := by
          have := HQ.out.2.1
          rw [ByteArray.size_extract]; omega
        obtain ⟨s, hs⟩ : ∃ s, s = q.name.extract 0 (min (q.name.size : Int) 2).toNat := ⟨_, rfl⟩
        rw [← hs] at hss ⊢
        clear hs
        have HS := Lib.hid hss
        have HT := Lib.hid (show (sets : Int) < 2 ^ 40 by have := HJ.out; omega)
        have KEEP : Hid (∀ x, Tch (w.heap.size ≤ ·) wr x → x.cell? ⟨bo, off + j * 3 + 2, none⟩ = some (.int .i64 q.tick) ∧ Tch (w.heap.size ≤ ·) wr x) :=
          fun x hx => ⟨(hx.cell (p := ⟨bo, off + j * 3 + 2, none⟩) hbo (by show ¬ w.heap.size ≤ bo; exact Nat.not_le.2 hbw)).trans cC, hx⟩
        clear hss cA cB
        go_upto_region 10 with (fail)
        go_cut [65] (fun vb wx => vb = .bool false ∧ Hid (Clk wx w.heap.size C1 b1 64 (setN 64 sets es s) (setL 64 sets es s q.tick)) ∧ Hid (Clk wx w.heap.size C2 b2 64 (setN 64 sets es s) (setL 64 sets es s q.tick)) ∧ Hid (Tch (w.heap.size ≤ ·) wr wx))
        case first =>
          have BC := Lib.hid (show Tch (w.heap.size ≤ ·) wr wr.drew from (Tch.refl _ _).drew)
          have tok1 : True := trivial
          go_region_held3 (fun x => x.cell? ⟨bo, off + j * 3 + 2, none⟩ = some (.int .i64 q.tick) ∧ Tch (w.heap.size ≤ ·) wr x)
            ((refine KEEP.out _ ?_; first | exact BC.out | exact BC.out.drew | exact BC.out.drewN _))
            (first
             | (have _t := tok1; go_at_call 27; refine (set_clk w.heap.size C1 b1 64 sets es s q.tick _ (by exact HC1.out.same rfl rfl) HS.out HT.out).mono ?_; rintro e w4 ⟨rfl, hc, ht⟩; replace HC2 : Hid (Clk w4 w.heap.size C2 b2 64 sets es) := Clk.tch (by exact HC2.out.same rfl rfl) ht (fun h => h.elim (fun h => HN.out.1 h.symm) HN.out.2.2.2) (fun h => h.elim (fun h => HN.out.2.2.1 h.symm) (fun h => HN.out.2.1 h.symm)); replace BC : Hid (Tch (w.heap.size ≤ ·) wr w4) := Tch.then (by first | exact BC.out | exact BC.out.drew) (tch_base ht hc.hC hc.hb); replace HC1 := Lib.hid hc; clear tok1 hc ht; have tok2 : True := trivial)
             | (have _t := tok2; go_at_call 27; refine (set_clk w.heap.size C2 b2 64 sets es s q.tick _ (by exact HC2.out.same rfl rfl) HS.out HT.out).mono ?_; rintro e w5 ⟨rfl, hc, ht⟩; replace HC1 : Hid (Clk w5 w.heap.size C1 b1 64 (setN 64 sets es s) (setL 64 sets es s q.tick)) := Clk.tch (by exact HC1.out.same rfl rfl) ht (fun h => h.elim HN.out.1 HN.out.2.2.1) (fun h => h.elim (fun h => HN.out.2.2.2 h.symm) HN.out.2.1); replace BC : Hid (Tch (w.heap.size ≤ ·) wr w5) := Tch.then (by first | exact BC.out | exact BC.out.drew) (tch_base ht hc.hC hc.hb); replace HC2 := Lib.hid hc; clear tok2 hc ht))
          all_goals
            go_wp2_with fail
            go_meet
            exact ⟨by simp, HC1, HC2, BC⟩
        case rest =>
          obtain ⟨rfl, HA1, HA2, HT2⟩ := hcut
          go_wp2_with fail
          go_roundw
          case rel =>
            have h1 := setN_le 64 sets es s
            have h2 := HJ.out
            exact ⟨j + 1, _, _, by go_num, Lib.hid ⟨by omega, by omega, by omega⟩, HA1, HA2, Lib.hid (HB.out.then HT2.out)⟩
          case measure => simp [intOf]; omega
      · have HJ60 : Hid (sets ≤ 60 ∧ 0 ≤ sets) := by have h := HJ.out; have := HC1.out.s0; exact ⟨by omega, this⟩
        have hx : j = l.length ∨ (j = 60 ∧ 60 < l.length) := by have h := HJ.out; omega
        clear hj HJ
        have HG1 := Lib.hid HC1.out.lt
        have HG2 := Lib.hid HC2.out.lt
        rcases hx with rfl | ⟨rfl, hl60⟩
        all_goals
          go_wp2_with fail
          go_at_call 28
          refine (len_clk w.heap.size C1 b1 64 sets es _ HC1.out).mono ?_
          rintro e w4 ⟨rfl, rfl⟩
          go_wp2_with fail
          go_at_call 25
          refine (due_clk w.heap.size C1 b1 64 sets es lo _ HC1.out HB.out.size).mono ?_
          rintro e w5 ⟨ao1, cap1, d1, b1', rfl, hd1, hs1, hc1, hb1, ht1⟩
          have HD1 := Lib.hid hd1
          have HA5 := Lib.hid hc1
          have HT5 := Lib.hid ht1
          have HB5 := Lib.hid (HB.out.then (tch_box ht1 HC1.out.hC))
          have HC5 : Hid (Clk w5 w.heap.size C2 b2 64 sets es) := HC2.out.tch ht1 (fun h => HN.out.1 h.symm) (fun h => HN.out.2.2.1 h.symm)
          have HS1 := Lib.hid hs1
          have HN5 : Hid (b1' ≠ b2) := by have := HG2.out.2; exact (by omega : b1' ≠ b2)
          clear hd1 hs1 hc1 hb1 ht1
          go_wp2_with fail
          go_at_call 25
          refine (due_clk w.heap.size C1 b1' 64 sets (restL es lo) hi _ HA5.out HB5.out.size).mono ?_
          rintro e w6 ⟨ao2, cap2, d2, b1'', rfl, hd2, hs2, hc2, hb2, ht2⟩
          have HD2 := Lib.hid hd2
          have HA6 := Lib.hid hc2
          have HB6 := Lib.hid (HB5.out.then (tch_box ht2 HC1.out.hC))
          have HC6 : Hid (Clk w6 w.heap.size C2 b2 64 sets es) := HC5.out.tch ht2 (fun h => HN.out.1 h.symm) (fun h => HN.out.2.2.1 h.symm)
          have hz5 := HT5.out.size
          have HS1' : Hid (Sl w6 (w4.heap.size ≤ ·) (.slice ao1 d1.length cap1) (namesV d1)) := HS1.out.tch ht2 (fun x hx h => by have := HG1.out.1; omega)
          have HS2 : Hid (Sl w6 (w4.heap.size ≤ ·) (.slice ao2 d2.length cap2) (namesV d2)) := hs2.more (T := (w4.heap.size ≤ ·)) (fun x _ h => by omega)
          have HN6 : Hid (b1'' ≠ b2) := by have := HG2.out.2; exact (by omega : b1'' ≠ b2)
          have HZ6 : Hid (w4.heap.size ≤ w6.heap.size) := Nat.le_trans hz5 ht2.size
          have HZ5 := Lib.hid hz5
          clear hd2 hs2 hc2 hb2 ht2 HS1 HC5 HA5 HB5 HT5 HN5 hz5
          go_wp2_with fail
          go_at_call 25
          refine (due_clk w.heap.size C2 b2 64 sets es hi _ HC6.out HB6.out.size).mono ?_
          rintro e w7 ⟨ao3, cap3, d3, b2', rfl, hd3, hs3, hc3, hb3, ht3⟩
          have H3 : Hid (d3 = d1 ++ d2) := DueL.unique HC6.out.rise hd3 (due_splits HLE.out HD1.out HD2.out)
          have hC2 := HG2.out.1
          have hz6 := HZ6.out
          have r1 := names_read (HS1'.out.tch ht3 (fun x hx h => by omega))
          have r2 := names_read (HS2.out.tch ht3 (fun x hx h => by omega))
          have r3 := names_read hs3
          have hA7 : Clk w7 w.heap.size C1 b1'' 64 sets (restL (restL es lo) hi) := HA6.out.tch ht3 HN.out.1 (fun h => HC6.out.box_map HA6.out h.symm)
          rw [restL_rest es HLE.out] at hA7
          have HA7 := Lib.hid hA7
          have HC7 := Lib.hid hc3
          have HB7 := Lib.hid (HB6.out.then (tch_box ht3 HC6.out.hC))
          have hl1 : d1.length + d2.length = d3.length := by rw [H3.out, List.length_append]
          have hl2 := rest_length es hi d3 hd3
          have hl3 : es.length ≤ 64 := HC6.out.len
          have e1 : IntKind.i64.wrap ((d1.length : Int) + d2.length) = d3.length := by rw [IntWalk.i64_in _ (by omega)]; omega
          have e2 : IntKind.i64.wrap (((restL es hi).length : Int) + d3.length) = es.length := by rw [IntWalk.i64_in _ (by omega)]; omega
          have R1 := Lib.hid r1
          have R2 := Lib.hid r2
          have R3 := Lib.hid r3
          have HL1 := Lib.hid hl1
          have HL2 := Lib.hid hl2
          have HL3 := Lib.hid hl3
          clear r1 r2 r3 hl1 hl2 hl3 hs3 hd3 hc3 hb3 ht3 hA7 HS1' HS2 HA6 HB6 HC6 hC2 hz6 HZ6 HZ5 HN6
          go_wp2_with fail
          go_at_call 28
          refine (len_clk w.heap.size C1 b1'' 64 sets (restL es hi) _ HA7.out).mono ?_
          rintro e w8 ⟨rfl, rfl⟩
          go_wp2_with fail
          go_at_call 28
          refine (len_clk w.heap.size C2 b2' 64 sets (restL es hi) _ HC7.out).mono ?_
          rintro e w9 ⟨rfl, rfl⟩
          go_wp2_with fail
          go_at_call 28
          refine (len_clk w.heap.size C1 b1'' 64 sets (restL es hi) _ HA7.out).mono ?_
          rintro e w10 ⟨rfl, rfl⟩
          go_wp2_with fail
          go_loopw [15, 16] (fun jv xv wr => ∃ j : Nat, jv = .int .i64 j ∧ Hid (j ≤ d3.length) ∧ wr = w10) (fun jv _ _ => d3.length - (intOf jv).toNat)
          case atStart => exact ⟨0, rfl, Lib.hid (Nat.zero_le _), rfl⟩
          case round =>
            obtain ⟨j, rfl, HJ, hwr⟩ := hrel
            subst hwr
            by_cases hj : j < d3.length
            · have hj64 : j < 64 := by have := HL3.out; have := HL2.out; omega
              obtain ⟨g3, o3, e3, c3⟩ := R3.out j hj
              subst e3
              by_cases hj1 : j < d1.length
              · obtain ⟨g1, o1, e1', c1⟩ := R1.out j hj1
                subst e1'
                have hn : d1[j] = d3[j] := by simp only [H3.out, List.getElem_append_left hj1]
                rw [hn] at c1
                generalize d3[j].name = nm at c1 c3
                clear hn
                go_wp2_with fail
                go_roundw
                case rel => exact ⟨j + 1, by go_num, Lib.hid hj, by trivial⟩
                case measure => simp [intOf]; omega
              · have hl1 := HL1.out
                obtain ⟨g2, o2, e2', c2⟩ := R2.out (j - d1.length) (by omega)
                subst e2'
                have hn : d2[j - d1.length]'(by omega) = d3[j] := by simp only [H3.out, List.getElem_append_right (Nat.le_of_not_lt hj1)]
                rw [hn] at c2
                generalize d3[j].name = nm at c2 c3
                obtain ⟨m, hm⟩ : ∃ m, m = j - d1.length := ⟨_, rfl⟩
                have hw : IntKind.i64.wrap ((j : Int) - d1.length) = (m : Int) := by have := HL3.out; have := HL2.out; rw [IntWalk.i64_in _ (by omega)]; omega
                rw [← hm] at c2
                have hm2 : m < d2.length := by omega
                clear hn hm hl1
                go_wp2_with fail
                go_roundw
                case rel => exact ⟨j + 1, by go_num, Lib.hid hj, by trivial⟩
                case measure => simp [intOf]; omega
            · obtain rfl : j = d3.length := by have := HJ.out; omega
              clear hj
              go_wp2_with fail
              go_ret
              exact ⟨rfl, HB7.out.below (fun x hx => by omega)⟩
end Go.Proofs.Ytohpbjbbkpllaaa
