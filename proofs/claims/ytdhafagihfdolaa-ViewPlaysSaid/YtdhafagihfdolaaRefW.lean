/-
  The reference's views: without a number, one of some.
-/
import Derived.Test.YtdhafagihfdolaaNodeSort
import Derived.Test.YtdhafagihfdolaaMesOrd
import Derived.Test.YtdhafagihfdolaaViwMath
import Derived.Test.YtdhafagihfdolaaNewW
set_option linter.unusedVariables false
set_option linter.unusedSimpArgs false
set_option maxRecDepth 100000
namespace Go.Proofs.Ytdhafagihfdolaa
open Go.RowKit Go.Lib Go.Sort Go.Shelf

theorem outL_step (l : List Int) (n : Int) (j : Nat) (h : j < l.length) : outL (l.take (j + 1)) n = outL (l.take j) n ++ if (l.getD j 0 != n) = true then [l.getD j 0] else [] := by
  rw [List.take_succ_eq_append_getElem h, show l.getD j 0 = l[j] by simp [List.getD, h]]
  unfold outL
  rw [List.filter_append]
  congr 1
  simp only [List.filter_cons, List.filter_nil]
theorem info_intW : (Try.prog.info? 3).map (fun i => (i.zero, i.size, i.bytes)) = some (some (.int .i64 0), 1, 8) := by kernel_rfl
set_option maxHeartbeats 1000000 in
theorem without_ref {S : Nat → Prop} (v : Value) (ls : List Int) (n : Int) (w : World) (h : Sl w S v (ints ls)) (hl : ls.length ≤ 1000) :
    Calls Try.prog 68 #[v, .int .i64 n] w fun e w' => ∃ v', e = .returned v' ∧ Hid (w'.ownsRow w.heap.size 3 1 v' (outL ls n).length (ints (outL ls n))) ∧ Hid (New w w') := by
  obtain ⟨i0, hi, hz0, hz1, hz2⟩ := info_parts info_intW
  obtain ⟨ao, cap, rfl, _, _, _, h4⟩ := slr_ints h
  have HC := Lib.hid h4
  clear h h4
  go_enter Try.func68, Try.ntmps68
  go_wp2_with fail
  go_loopw [5, 6] (fun vr vj wr => ∃ j : Nat, vj = .int .i64 j ∧ Hid (j ≤ ls.length) ∧ Hid (wr.ownsRow w.heap.size 3 1 vr (outL (ls.take j) n).length (ints (outL (ls.take j) n))) ∧ Hid (New w wr)) (fun _ vj _ => ls.length - (intOf vj).toNat)
  case atStart => exact ⟨0, rfl, Lib.hid (by omega), Lib.hid (World.ownsRow_nil _ _ _ _), Lib.hid (New.refl _)⟩
  case round =>
    obtain ⟨j, rfl, HJ, HR, HN⟩ := hrel
    by_cases hj : j < ls.length
    · have hj2 : (j : Int) < ls.length := by omega
      have hj3 : (j : Int) < 1000 := by omega
      obtain ⟨bk, off, hao, _, _, hc⟩ := HC.out (by omega)
      subst hao
      obtain ⟨y, hy⟩ : ∃ y, y = ls.getD j 0 := ⟨_, rfl⟩
      have cy := HN.out.cell (hc j hj)
      have HST := Lib.hid (outL_step ls n j hj)
      rw [← hy] at cy HST
      have HLK := Lib.hid (show (outL (ls.take j) n).length ≤ 1000 by
        have h1 : (outL (ls.take j) n).length ≤ (ls.take j).length := List.length_filter_le _ _
        rw [List.length_take] at h1
        omega)
      clear hc hy
      by_cases hya : y = n
      · have t1 : (y != n) = false := by simp [hya]
        rw [t1, if_neg (by simp), List.append_nil] at HST
        clear hya
        go_wp2_with fail
        go_roundw
        case rel => exact ⟨j + 1, rfl, Lib.hid (by omega), by rw [HST.out]; exact HR, HN⟩
        case measure => simp [intOf]; omega
      · have t1 : (y != n) = true := by simp [hya]
        rw [t1, if_pos rfl] at HST
        clear hya
        have hm1 : (outL (ls.take j) n).length + 1 ≤ maxLen := Nat.le_trans (show _ ≤ 2000 by have := HLK.out; omega) (by decide)
        have hm2 : ((outL (ls.take j) n).length + 1) * 8 ≤ 140737488355328 := by have := HLK.out; omega
        have hbs : w.heap.size ≤ (wr.alloc (.cells #[.int .i64 y] 3)).heap.size := by have := HN.out.size; simp; omega
        have HR1 := Lib.hid (own_tch HR.out (Tch.alloc (Tch.refl (fun _ => False) _) (.cells #[.int .i64 y] 3)) (by simp))
        go_wp2_with (at_builtin; refine list_app rfl (.tmp 19) (.tmp 24) 26 rfl w.heap.size 3 i0 (.int .i64 0) 8 Try.underlying26 hi hz0 hz1 hz2 rfl _ (outL (ls.take j) n).length (ints (outL (ls.take j) n)) rfl HR1.out (some ⟨wr.heap.size, 0, none⟩) 1 1 [.int .i64 y] rfl rfl (by simp) (by simp) (fun _ => ⟨_, rfl, cells_one wr _ _⟩) (by intro u hu; simp at hu; subst hu; rfl) hm1 hm2 hbs ?_; intro vb wb hownb hgrowb)
        have HN7 := Lib.hid (show New w wb from Tch.grown (HN.out.alloc _) hgrowb.out (fun k hk _ => (own_base HR.out hk).1))
        have HR7 := Lib.hid (show wb.ownsRow w.heap.size 3 1 vb (outL (ls.take (j + 1)) n).length (ints (outL (ls.take (j + 1)) n)) by
          have := hownb.out
          rw [HST.out]
          simpa [ints] using this)
        clear hownb hgrowb hm1 hm2 hbs HR1
        go_wp2_with fail
        go_roundw
        case rel => exact ⟨j + 1, rfl, Lib.hid (by omega), HR7, HN7⟩
        case measure => simp [intOf]; omega
    · have hjb := HJ.out
      obtain rfl : j = ls.length := by omega
      have hj2 : ¬ (ls.length : Int) < ls.length := by omega
      rw [List.take_of_length_le (Nat.le_refl _)] at HR
      go_wp2_with fail
      go_ret
      exact ⟨_, rfl, HR, HN⟩
end Go.Proofs.Ytdhafagihfdolaa
