/-
  WalkSteps: the reference's next node; steps compared.
-/
import Derived.Test.YtckmleljcpljgaaWlkSpk
import Derived.Test.YtckmleljcpljgaaMesOrd
import Derived.Laws.StructEq
set_option linter.unusedVariables false
set_option linter.unusedSimpArgs false
set_option maxRecDepth 100000
namespace Go.Proofs.Ytckmleljcpljgaa
open Go.RowKit Go.Lib Go.Sort Go.Shelf

def twoF (ls : List Int) (a b : Int) : List Int := ls.filter fun y => y != a && y != b
theorem twoF_step (ls : List Int) (a b : Int) (j : Nat) (hj : j < ls.length) : twoF (ls.take (j + 1)) a b = twoF (ls.take j) a b ++ (if (ls.getD j 0 != a && ls.getD j 0 != b) = true then [ls.getD j 0] else []) := by
  unfold twoF
  have e : ls.getD j 0 = ls[j] := by rw [List.getD, List.getElem?_eq_getElem hj]; rfl
  rw [List.take_succ_eq_append_getElem hj, List.filter_append, e]
  congr 1
  by_cases h : (ls[j] != a && ls[j] != b) = true
  · rw [if_pos h]; simp [List.filter, h]
  · rw [if_neg h]; simp [List.filter, h]
theorem twoF_off (x : VA) (a b : Int) : twoF x.act a b = offL x a b := by
  unfold twoF offL
  refine List.filter_congr fun y _ => ?_
  by_cases h1 : y = a <;> by_cases h2 : y = b <;> simp [h1, h2]
def nextN (l : List Int) (num : Int) : Int := if l = [] then 0 else l.getD (num % (l.length : Int)).toNat 0
theorem nextN_pick {l : List Int} (num : Int) (h : l ≠ []) (h2 : l.length ≤ 1000000) : nextN l num = pick l [num] := by
  have h0 : 0 < l.length := List.length_pos_iff.2 h
  unfold nextN pick belowV
  rw [if_neg h]
  by_cases h1 : l.length = 1
  · rw [if_neg (by omega), h1]
    simp
  · rw [if_pos ⟨by omega, by omega⟩]
    simp
theorem info_intN : (Try.prog.info? 3).map (fun i => (i.zero, i.size, i.bytes)) = some (some (.int .i64 0), 1, 8) := by kernel_rfl
set_option maxHeartbeats 1000000 in
theorem next_ref {S : Nat → Prop} (v : Value) (ls : List Int) (a b num : Int) (w : World) (h : Sl w S v (ints ls)) (hl : ls.length ≤ 1000) (ho : ls.Pairwise (· ≤ ·)) (hnum : 0 ≤ num ∧ num ≤ 4294967295) :
    Calls Try.prog 30 #[v, .int .i64 a, .int .i64 b, .int .u32 num] w fun e w' => e = .returned (.int .i64 (nextN (twoF ls a b) num)) ∧ Hid (New w w') := by
  have HSO := Lib.hid (sorted_ref v ls w h (by omega))
  obtain ⟨i0, hi, hz0, hz1, hz2⟩ := info_parts info_intN
  clear h
  go_enter Try.func30, Try.ntmps30
  go_wp2_with fail
  refine HSO.out.mono ?_
  rintro e w1 ⟨v1, L, rfl, hs1, hp1, ho1, hb1⟩
  obtain rfl : L = ls := int_order hp1 ho1 ho
  obtain ⟨ao, cap, rfl, _, _, _, h4⟩ := slr_ints hs1
  have HC := Lib.hid h4
  have HN1 := Lib.hid (New.of hb1)
  clear HSO hs1 hp1 ho1 hb1 h4
  go_wp2_with fail
  go_loopw [9, 11] (fun vr vj wr => ∃ j : Nat, vj = .int .i64 j ∧ Hid (j ≤ L.length) ∧ Hid (wr.ownsRow w1.heap.size 3 1 vr (twoF (L.take j) a b).length (ints (twoF (L.take j) a b))) ∧ Hid (New w1 wr)) (fun _ vj _ => L.length - (intOf vj).toNat)
  case atStart => exact ⟨0, rfl, Lib.hid (by omega), Lib.hid (World.ownsRow_nil _ _ _ _), Lib.hid (New.refl _)⟩
  case round =>
    obtain ⟨j, rfl, HJ, HR, HN⟩ := hrel
    obtain ⟨vr, hvr⟩ : ∃ x, x = u9 := ⟨_, rfl⟩
    subst hvr
    by_cases hj : j < L.length
    · have hj2 : (j : Int) < L.length := by omega
      have hj3 : (j : Int) < 1000 := by omega
      obtain ⟨bk, off, hao, _, _, hc⟩ := HC.out (by omega)
      subst hao
      obtain ⟨y, hy⟩ : ∃ y, y = L.getD j 0 := ⟨_, rfl⟩
      have cy := HN.out.cell (hc j hj)
      have HST := Lib.hid (twoF_step L a b j hj)
      rw [← hy] at cy HST
      have HLK := Lib.hid (show (twoF (L.take j) a b).length ≤ 1000 by
        have h1 : (twoF (L.take j) a b).length ≤ (L.take j).length := List.length_filter_le _ _
        rw [List.length_take] at h1
        omega)
      clear hc hy
      by_cases hya : y = a
      · have t1 : (y != a) = false := by simp [hya]
        rw [t1, Bool.false_and, if_neg (by simp), List.append_nil] at HST
        clear hya
        go_wp2_with fail
        go_roundw
        case rel => exact ⟨j + 1, rfl, Lib.hid (by omega), by rw [HST.out]; exact HR, HN⟩
        case measure => simp [intOf]; omega
      · have t1 : (y != a) = true := by simp [hya]
        clear hya
        by_cases hyb : y = b
        · have t2 : (y != b) = false := by simp [hyb]
          rw [t2, Bool.and_false, if_neg (by simp), List.append_nil] at HST
          clear hyb
          go_wp2_with fail
          go_roundw
          case rel => exact ⟨j + 1, rfl, Lib.hid (by omega), by rw [HST.out]; exact HR, HN⟩
          case measure => simp [intOf]; omega
        · have t2 : (y != b) = true := by simp [hyb]
          rw [t1, t2, Bool.true_and, if_pos rfl] at HST
          clear hyb
          have hm1 : (twoF (L.take j) a b).length + 1 ≤ maxLen := Nat.le_trans (show _ ≤ 2000 by have := HLK.out; omega) (by decide)
          have hm2 : ((twoF (L.take j) a b).length + 1) * 8 ≤ 140737488355328 := by have := HLK.out; omega
          have hbs : w1.heap.size ≤ (wr.alloc (.cells #[.int .i64 y] 3)).heap.size := by have := HN.out.size; simp; omega
          have HR1 := Lib.hid (own_tch HR.out (Tch.alloc (Tch.refl (fun _ => False) _) (.cells #[.int .i64 y] 3)) (by simp))
          go_wp2_with (at_builtin; refine list_app rfl (.tmp 34) (.tmp 39) 26 rfl w1.heap.size 3 i0 (.int .i64 0) 8 Try.underlying26 hi hz0 hz1 hz2 rfl _ (twoF (L.take j) a b).length (ints (twoF (L.take j) a b)) rfl HR1.out (some ⟨wr.heap.size, 0, none⟩) 1 1 [.int .i64 y] rfl rfl (by simp) (by simp) (fun _ => ⟨_, rfl, cells_one wr _ _⟩) (by intro u hu; simp at hu; subst hu; rfl) hm1 hm2 hbs ?_; intro vb wb hownb hgrowb)
          have HN7 := Lib.hid (show New w1 wb from Tch.grown (HN.out.alloc _) hgrowb.out (fun k hk _ => (own_base HR.out hk).1))
          have HR7 := Lib.hid (show wb.ownsRow w1.heap.size 3 1 vb (twoF (L.take (j + 1)) a b).length (ints (twoF (L.take (j + 1)) a b)) by
            have := hownb.out
            rw [HST.out]
            simpa [ints] using this)
          clear hownb hgrowb hm1 hm2 hbs HR1
          go_wp2_with fail
          go_roundw
          case rel => exact ⟨j + 1, rfl, Lib.hid (by omega), HR7, HN7⟩
          case measure => simp [intOf]; omega
    · have hjb := HJ.out
      obtain rfl : j = L.length := by omega
      have hj2 : ¬ (L.length : Int) < L.length := by omega
      rw [List.take_of_length_le (Nat.le_refl _)] at HR
      have HNN := Lib.hid (HN1.out.then HN.out)
      have HFL := Lib.hid (show (twoF L a b).length ≤ 1000 from Nat.le_trans (List.length_filter_le _ _) hl)
      obtain ⟨F, hF⟩ : ∃ F, F = twoF L a b := ⟨_, rfl⟩
      have HF0 := Lib.hid hF
      rw [← hF] at HR HFL
      clear hF
      obtain ⟨fo, fc, hfv, _, _, _, f4⟩ := slr_ints (own_slr HR.out)
      subst hfv
      have HF4 := Lib.hid f4
      clear f4 HN
      by_cases hemp : F.length = 0
      · have HE := Lib.hid (show nextN F num = 0 by unfold nextN; rw [if_pos (List.eq_nil_of_length_eq_zero hemp)])
        rw [hemp]
        clear hemp
        go_wp2_with fail
        go_ret
        exact ⟨by rw [← HF0.out, HE.out]; rfl, HNN⟩
      · have hpos : (0 : Int) < F.length := by omega
        have t0 : ((F.length : Int) == 0) = false := bne_ (by omega)
        obtain ⟨bk, off, hao, _, _, hc⟩ := HF4.out (by omega)
        subst hao
        have hm := Int.emod_nonneg num (show (F.length : Int) ≠ 0 by omega)
        have hm2 := Int.emod_lt_of_pos num hpos
        obtain ⟨k, hk⟩ : ∃ k : Nat, num % (F.length : Int) = k := ⟨(num % (F.length : Int)).toNat, by omega⟩
        have hkl : k < F.length := by omega
        have hkli : (k : Int) < F.length := by omega
        have HE := Lib.hid (show nextN F num = F.getD k 0 by unfold nextN; rw [if_neg (fun e => hemp (by rw [e]; rfl)), hk]; rfl)
        obtain ⟨y, hy⟩ : ∃ y, y = F.getD k 0 := ⟨_, rfl⟩
        have cy := hc k hkl
        rw [← hy] at cy HE
        have hn0 := hnum.1
        have hn1 := hnum.2
        have htm : num.tmod (F.length : Int) = k := by rw [Int.tmod_eq_emod_of_nonneg hn0]; exact hk
        clear hc hy hemp hm hm2
        go_wp2_with fail
        go_ret
        exact ⟨by rw [← HF0.out, HE.out]; rfl, HNN⟩
theorem eqSt (e : Bool) (n : Int) (k : Bool) (w : World) : (binOp .eql 67 (.agg #[.bool e, .int .i64 n, .bool k]) (.agg #[.bool e, .int .i64 n, .bool k])).run Try.prog w = .ok (.bool true) w := by
  have hS : Try.prog.underlying 67 = some (.struct (Try.prog.fieldsOf 67)) := by kernel_rfl
  have hp : Try.prog.stoodInHeld 67 = false := by kernel_rfl
  have u1 := Try.underlying3
  have u2 := Try.underlying4
  rw [run_eql_struct, show (10000 : Nat) = 9999 + 1 from rfl, run_equalIn_agg w 9999 _ _ _ hS hp]
  clear hS hp
  simp only [Program.fieldsOf, Try.underlying67]
  go_simp
end Go.Proofs.Ytckmleljcpljgaa
