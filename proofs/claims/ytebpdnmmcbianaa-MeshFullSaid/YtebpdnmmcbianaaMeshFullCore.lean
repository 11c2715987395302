/-
  MeshFull: the core.
-/
import Derived.Test.YtebpdnmmcbianaaMesSpk
set_option linter.unusedVariables false
set_option linter.unusedSimpArgs false
set_option maxRecDepth 100000
namespace Go.Proofs.Ytebpdnmmcbianaa
open Go.RowKit Go.Maps

def xI : ItA := ⟨false, ⟨#[120]⟩⟩
def backI : ItA := ⟨false, ⟨#[98, 97, 99, 107]⟩⟩
/-- What is on the ways behind j sends. -/
def itF (j : Nat) : Ways := fun q => if q = (1, 2) then (if j ≤ 64 then List.replicate j xI else brk :: List.replicate (j - 65) xI) else if q = (2, 1) then (if j ≤ 64 then [backI] else [brk]) else []
theorem itF_one (j : Nat) : itF j (1, 2) = if j ≤ 64 then List.replicate j xI else brk :: List.replicate (j - 65) xI := by simp [itF]
theorem itF_two (j : Nat) : itF j (2, 1) = if j ≤ 64 then [backI] else [brk] := by simp [itF]
theorem itF_start : sendI [1, 2] (fun _ => []) 2 1 ⟨#[98, 97, 99, 107]⟩ = itF 0 := by
  unfold sendI
  rw [if_neg (by decide), if_neg (by decide), if_pos (by simp)]
  funext q
  unfold setI itF
  by_cases h : q = (2, 1)
  · subst h; simp [backI]
  · rw [if_neg h]
    by_cases h2 : q = (1, 2)
    · subst h2; simp
    · simp [h, h2]
theorem itF_step (j : Nat) (hj : j < 100) : sendI [1, 2] (itF j) 1 2 ⟨#[120]⟩ = itF (j + 1) := by
  unfold sendI
  rw [if_neg (by decide), if_neg (by decide), itF_one]
  by_cases h1 : j < 64
  · rw [if_pos (show j ≤ 64 by omega), if_pos (by simp; omega)]
    funext q
    unfold setI itF
    by_cases h : q = (1, 2)
    · subst h
      simp only [if_true]
      rw [if_pos (show j + 1 ≤ 64 by omega), List.replicate_succ']
      rfl
    · simp only [if_neg h]
      rw [if_pos (show j ≤ 64 by omega), if_pos (show j + 1 ≤ 64 by omega)]
  · by_cases h2 : j = 64
    · subst h2
      rw [if_pos (Nat.le_refl _), if_neg (by simp)]
      unfold breakI
      rw [if_neg (by decide)]
      funext q
      unfold setI itF
      by_cases h : q = (2, 1)
      · subst h; simp
      · rw [if_neg h]
        by_cases h3 : q = (1, 2)
        · subst h3; simp
        · simp [h, h3]
    · rw [if_neg (show ¬ j ≤ 64 by omega), if_pos (by simp; omega)]
      funext q
      unfold setI itF
      by_cases h : q = (1, 2)
      · subst h
        simp only [if_true]
        rw [if_neg (show ¬ j + 1 ≤ 64 by omega), show j + 1 - 65 = (j - 65) + 1 by omega, List.replicate_succ', List.cons_append]
        rfl
      · simp only [if_neg h]
        rw [if_neg (show ¬ j ≤ 64 by omega), if_neg (show ¬ j + 1 ≤ 64 by omega)]
set_option maxHeartbeats 2000000 in
theorem meshFull_core (n : Int) (W : World) (hn : 0 ≤ n ∧ n ≤ 255) :
    Calls Try.prog 10 #[.int .u8 n] W fun e W' => e = .returned (.bool true) ∧ Below W.heap.size W W' := by
  obtain ⟨ct, hct⟩ : ∃ ct : Nat, n % 100 = (ct : Int) := ⟨(n % 100).toNat, by omega⟩
  have hct2 : n.tmod 100 = (ct : Int) := by rw [Int.tmod_eq_emod_of_nonneg hn.1]; exact hct
  have hctb : ct < 100 := by omega
  have hw : wrap64 n = n := by unfold wrap64; omega
  go_enter Try.func10, Try.ntmps10
  go_wp2_with fail
  refine (speaks8 W).mono ?_
  rintro e w1 ⟨rfl, hnw⟩
  have HN1 := Lib.hid hnw
  clear hnw
  go_wp2_with fail
  refine (newA w1).mono ?_
  rintro e w2 ⟨rfl, hm, hnw⟩
  obtain ⟨M, hM⟩ : ∃ M, M = w1.heap.size + 1 + 1 := ⟨_, rfl⟩
  obtain ⟨B, hB⟩ : ∃ B, B = w1.heap.size := ⟨_, rfl⟩
  rw [← hM] at hm ⊢
  rw [← hB] at hm
  have HM2 := Lib.hid hm
  have HN2 := Lib.hid (HN1.out.then hnw)
  have HB := Lib.hid (show W.heap.size ≤ B by rw [hB]; exact HN1.out.size)
  clear hM hB hm hnw HN1
  go_wp2_with fail
  refine (upA M B 0 [] _ 1 w2 HM2.out (by omega) (by omega)).mono ?_
  rintro e w3 ⟨rfl, hm, ht⟩
  have e1 : upL [] 1 = [1] := by decide
  rw [e1] at hm
  have HM3 := Lib.hid hm
  have HN3 := Lib.hid (MT.new HN2.out ht HB.out)
  clear hm ht HM2 HN2 e1
  go_wp2_with fail
  refine (upA M B 1 [1] _ 2 w3 HM3.out (by omega) (by omega)).mono ?_
  rintro e w4 ⟨rfl, hm, ht⟩
  have e1 : upL [1] 2 = [1, 2] := by decide
  rw [e1] at hm
  have HM4 := Lib.hid hm
  have HN4 := Lib.hid (MT.new HN3.out ht HB.out)
  clear hm ht HM3 HN3 e1
  go_wp2_with fail
  refine (sendA M B 2 [1, 2] _ 2 1 ⟨#[98, 97, 99, 107]⟩ w4 HM4.out ⟨by omega, by omega⟩ ⟨by omega, by omega⟩ (by omega)).mono ?_
  rintro e w5 ⟨rfl, hm, ht⟩
  rw [itF_start] at hm
  have HM5 := Lib.hid hm
  have HN5 := Lib.hid (MT.new HN4.out ht HB.out)
  clear hm ht HM4 HN4
  go_wp2_with fail
  go_loopw [5] (fun v wr => ∃ j : Nat, v = .int .i64 j ∧ Hid (j ≤ ct) ∧ Hid (MeshA wr M B (5 + 3 * j) [1, 2] (itF j)) ∧ Hid (New W wr)) (fun v _ => ct - (intOf v).toNat)
  case atStart => exact ⟨0, rfl, Lib.hid (by omega), HM5, HN5⟩
  case round =>
    clear HM5 HN5
    obtain ⟨j, rfl, HJ, HM, HN⟩ := hrel
    have hjb := HJ.out
    by_cases hj : j < ct
    · have HS := Lib.hid (sendA M B (5 + 3 * j) [1, 2] (itF j) 1 2 ⟨#[120]⟩ wr HM.out ⟨by omega, by omega⟩ ⟨by omega, by omega⟩ (by omega))
      go_wp2_with fail
      refine HS.out.mono ?_
      rintro e w6 ⟨rfl, hm, ht⟩
      rw [itF_step j (by omega)] at hm
      have HM6 := Lib.hid hm
      have HN6 := Lib.hid (MT.new HN.out ht HB.out)
      clear hm ht HS
      go_wp2_with fail
      go_roundw
      case rel => exact ⟨j + 1, rfl, Lib.hid (by omega), HM6, HN6⟩
      case measure => simp [intOf]; omega
    · obtain rfl : j = ct := by omega
      by_cases h64 : j ≤ 64
      · have h64i : (j : Int) ≤ 64 := by omega
        have HT := Lib.hid (mtake_last M B (5 + 3 * j) [1, 2] (itF j) 2 1 backI wr HM.out ⟨by omega, by omega⟩ ⟨by omega, by omega⟩ (by rw [itF_two, if_pos h64]))
        go_wp2_with fail
        refine HT.out.mono ?_
        rintro e w7 ⟨rfl, hm, ht⟩
        have hn7 := MT.new HN.out ht HB.out
        obtain ⟨w8, hw8⟩ : ∃ w8, w8 = w7.alloc (.cells #[.bool false, .string ⟨#[98, 97, 99, 107]⟩] 57) := ⟨_, rfl⟩
        replace HM := Lib.hid (show MeshA w8 M B (5 + 3 * j) [1, 2] (setI (itF j) (2, 1) []) by rw [hw8]; exact hm.new ((New.refl _).alloc _))
        replace HN := Lib.hid (show New W w8 by rw [hw8]; exact hn7.alloc _)
        have HX := Lib.hid (show Bk w8 w7.heap.size 57 #[.bool false, .string ⟨#[98, 97, 99, 107]⟩] by rw [hw8]; exact Bk.made _ _ _)
        have HW8 := Lib.hid hw8
        clear hm ht hn7 hw8 HT
        simp only [itV, backI]
        go_upto_region 14 with fail
        rw [← HW8.out]
        clear HW8
        go_wp2_with fail
        refine (nmup 1 _).mono ?_
        rintro e y1 ⟨rfl, rfl⟩
        go_wp2_with fail
        refine (nmdown 1 _).mono ?_
        rintro e y2 ⟨rfl, hn⟩
        replace HM := Lib.hid (HM.out.new hn)
        replace HN := Lib.hid (HN.out.then hn)
        replace HX := Lib.hid (hn.bk HX.out)
        clear hn
        go_wp2_with fail
        refine (nmsend 1 2 _ _).mono ?_
        rintro e y3 ⟨rfl, rfl⟩
        go_wp2_with fail
        refine (nmbreak 1 2 (by decide) _).mono ?_
        rintro e y4 ⟨rfl, rfl⟩
        go_wp2_with fail
        refine (nmtake 1 2 _).mono ?_
        rintro e y5 ⟨rfl, hn⟩
        replace HM := Lib.hid ((HM.out.new hn).new ((New.refl _).alloc (.cells #[.bool false, .string ⟨#[]⟩] 57)))
        replace HN := Lib.hid ((HN.out.then hn).alloc (.cells #[.bool false, .string ⟨#[]⟩] 57))
        replace HX := Lib.hid ((hn.bk HX.out).alloc (.cells #[.bool false, .string ⟨#[]⟩] 57))
        clear hn
        simp only [itV, zeroI]
        obtain ⟨y6, hy6⟩ : ∃ y6, y6 = y5.alloc (.cells #[.bool false, .string ⟨#[]⟩] 57) := ⟨_, rfl⟩
        rw [← hy6] at HM HN HX
        have HY6 := Lib.hid hy6
        clear hy6
        go_wp2_with fail
        rw [← HY6.out]
        clear HY6
        refine (nmlive 1 _).mono ?_
        rintro e y7 ⟨rfl, rfl⟩
        go_wp2_with fail
        refine (nmlen 1 2 _).mono ?_
        rintro e y8 ⟨rfl, rfl⟩
        go_wp2_with fail
        refine (nmnodes _).mono ?_
        rintro e y9 ⟨rfl, rfl⟩
        go_wp2_with fail
        refine (nmways _).mono ?_
        rintro e y10 ⟨rfl, rfl⟩
        have x0 := HX.out.cell 0
        simp at x0
        have HLE := Lib.hid (lenA M B (5 + 3 * j) [1, 2] _ 1 2 _ HM.out ⟨by omega, by omega⟩ ⟨by omega, by omega⟩)
        have el : (setI (itF j) (2, 1) [] (1, 2)).length = j := by
          unfold setI
          rw [if_neg (by decide), itF_one, if_pos h64]
          simp
        rw [el] at HLE
        clear el
        go_wp2_with fail
        refine HLE.out.mono ?_
        rintro e z1 ⟨rfl, rfl⟩
        go_wp2_with fail
        go_ret
        exact ⟨rfl, HN.out.below⟩
      · have h64i : ¬ (j : Int) ≤ 64 := by omega
        have HT := Lib.hid (mtake_last M B (5 + 3 * j) [1, 2] (itF j) 2 1 brk wr HM.out ⟨by omega, by omega⟩ ⟨by omega, by omega⟩ (by rw [itF_two, if_neg h64]))
        go_wp2_with fail
        refine HT.out.mono ?_
        rintro e w7 ⟨rfl, hm, ht⟩
        have hn7 := MT.new HN.out ht HB.out
        obtain ⟨w8, hw8⟩ : ∃ w8, w8 = w7.alloc (.cells #[.bool true, .string ⟨#[]⟩] 57) := ⟨_, rfl⟩
        replace HM := Lib.hid (show MeshA w8 M B (5 + 3 * j) [1, 2] (setI (itF j) (2, 1) []) by rw [hw8]; exact hm.new ((New.refl _).alloc _))
        replace HN := Lib.hid (show New W w8 by rw [hw8]; exact hn7.alloc _)
        have HX := Lib.hid (show Bk w8 w7.heap.size 57 #[.bool true, .string ⟨#[]⟩] by rw [hw8]; exact Bk.made _ _ _)
        have HW8 := Lib.hid hw8
        clear hm ht hn7 hw8 HT
        simp only [itV, brk]
        go_upto_region 14 with fail
        rw [← HW8.out]
        clear HW8
        go_wp2_with fail
        refine (nmup 1 _).mono ?_
        rintro e y1 ⟨rfl, rfl⟩
        go_wp2_with fail
        refine (nmdown 1 _).mono ?_
        rintro e y2 ⟨rfl, hn⟩
        replace HM := Lib.hid (HM.out.new hn)
        replace HN := Lib.hid (HN.out.then hn)
        replace HX := Lib.hid (hn.bk HX.out)
        clear hn
        go_wp2_with fail
        refine (nmsend 1 2 _ _).mono ?_
        rintro e y3 ⟨rfl, rfl⟩
        go_wp2_with fail
        refine (nmbreak 1 2 (by decide) _).mono ?_
        rintro e y4 ⟨rfl, rfl⟩
        go_wp2_with fail
        refine (nmtake 1 2 _).mono ?_
        rintro e y5 ⟨rfl, hn⟩
        replace HM := Lib.hid ((HM.out.new hn).new ((New.refl _).alloc (.cells #[.bool false, .string ⟨#[]⟩] 57)))
        replace HN := Lib.hid ((HN.out.then hn).alloc (.cells #[.bool false, .string ⟨#[]⟩] 57))
        replace HX := Lib.hid ((hn.bk HX.out).alloc (.cells #[.bool false, .string ⟨#[]⟩] 57))
        clear hn
        simp only [itV, zeroI]
        obtain ⟨y6, hy6⟩ : ∃ y6, y6 = y5.alloc (.cells #[.bool false, .string ⟨#[]⟩] 57) := ⟨_, rfl⟩
        rw [← hy6] at HM HN HX
        have HY6 := Lib.hid hy6
        clear hy6
        go_wp2_with fail
        rw [← HY6.out]
        clear HY6
        refine (nmlive 1 _).mono ?_
        rintro e y7 ⟨rfl, rfl⟩
        go_wp2_with fail
        refine (nmlen 1 2 _).mono ?_
        rintro e y8 ⟨rfl, rfl⟩
        go_wp2_with fail
        refine (nmnodes _).mono ?_
        rintro e y9 ⟨rfl, rfl⟩
        go_wp2_with fail
        refine (nmways _).mono ?_
        rintro e y10 ⟨rfl, rfl⟩
        obtain ⟨r, hr⟩ : ∃ r, r = j - 65 := ⟨_, rfl⟩
        have hri : (j : Int) - 65 = (r : Int) := by omega
        have ei : setI (itF j) (2, 1) [] (1, 2) = brk :: List.replicate r xI := by
          unfold setI
          rw [if_neg (by decide), itF_one, if_neg h64, hr]
        have HTK := Lib.hid (show Calls Try.prog 35 #[.pointer (some ⟨M, 0, none⟩), .int .i64 1, .int .i64 2] _ (fun e w' => e = .returned (.tuple #[itV brk, .bool true]) ∧ MeshA w' M B (5 + 3 * j) [1, 2] (setI (setI (itF j) (2, 1) []) (1, 2) (List.replicate r xI)) ∧ MT B _ w') by
          by_cases hr0 : r = 0
          · subst hr0
            exact mtake_last M B (5 + 3 * j) [1, 2] _ 1 2 brk _ HM.out ⟨by omega, by omega⟩ ⟨by omega, by omega⟩ ei
          · exact mtake_more M B (5 + 3 * j) [1, 2] _ 1 2 brk _ _ HM.out ⟨by omega, by omega⟩ ⟨by omega, by omega⟩ ei (by intro e; have := congrArg List.length e; simp at this; exact hr0 this))
        clear ei hr
        go_wp2_with fail
        refine HTK.out.mono ?_
        rintro e z1 ⟨rfl, hm, ht⟩
        have hx := ht.bk HX.out
        obtain ⟨z2, hz2⟩ : ∃ z2, z2 = z1.alloc (.cells #[.bool true, .string ⟨#[]⟩] 57) := ⟨_, rfl⟩
        replace HM := Lib.hid (show MeshA z2 M B (5 + 3 * j) [1, 2] _ by rw [hz2]; exact hm.new ((New.refl _).alloc _))
        replace HN := Lib.hid (show New W z2 by rw [hz2]; exact (MT.new HN.out ht HB.out).alloc _)
        have x0 := hx.cell 0
        have hxl := hx.lt
        simp at x0
        have HZ2 := Lib.hid hz2
        have HLE := Lib.hid (lenA M B (5 + 3 * j) [1, 2] _ 1 2 z2 HM.out ⟨by omega, by omega⟩ ⟨by omega, by omega⟩)
        have el : (setI (setI (itF j) (2, 1) []) (1, 2) (List.replicate r xI) (1, 2)).length = r := by simp [setI]
        rw [el] at HLE
        clear hm ht hx hz2 HTK el
        simp only [itV, brk]
        go_wp2_with fail
        rw [← HZ2.out]
        clear HZ2
        refine HLE.out.mono ?_
        rintro e z3 ⟨rfl, rfl⟩
        go_wp2_with fail
        go_ret
        exact ⟨rfl, HN.out.below⟩
end Go.Proofs.Ytebpdnmmcbianaa
