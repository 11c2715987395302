/-
  inOrder: the timers sorted, their keys in a slice.
-/
import Derived.Test.YtohpbjbbkpllaaaClkSort
set_option linter.unusedVariables false
set_option linter.unusedSimpArgs false
namespace Go.Proofs.Ytohpbjbbkpllaaa
open Go.RowKit Go.Maps Go.Shelf Go.Sort

theorem tch_put (w : World) (blk : Nat) (f : Array Value → Array Value) : Tch (· = blk) w (mapBlock w blk f) :=
  ⟨rfl, rfl, rfl, by simp [mapBlock], fun k hk hn => by simp only [mapBlock, Array.getElem?_modify]; rw [if_neg (fun e => hn e.symm)]⟩
theorem tch_grow (w : World) (os : Array Obj) (S : Nat → Prop) : Tch S w (grow w os) :=
  ⟨rfl, rfl, rfl, by simp [grow], fun k hk _ => by simp only [grow]; rw [Array.getElem?_append_left hk]⟩
theorem tch_sort {w : World} {blk off n : Nat} {d' : Array Tm} {os : Array Obj} : Tch (· = blk) w (sortWorldK tmCells 3 w blk off n d' os) := by
  have h1 : Tch (· = blk) w (Go.Sort.ahead w n) := ⟨rfl, rfl, rfl, Nat.le_refl _, fun _ _ _ => rfl⟩
  have h2 : Tch (· = blk) (Go.Sort.ahead w n) (putRowK tmCells 3 (Go.Sort.ahead w n) blk off d') := tch_put _ _ _
  exact (h1.then h2).then (tch_grow _ _ _)
theorem holdsK_keep {w w' : World} {blk off : Nat} {d : Array Tm} (h : HoldsK tmCells 3 w blk off d) (hk : w'.heap[blk]? = w.heap[blk]?) : HoldsK tmCells 3 w' blk off d := by
  intro j hj
  have := h j hj
  rw [World.cell?_of_block hk, World.frozen?_of_block hk]
  exact this
def namesV (l : List Tm) : List Value := l.map fun t => .string t.name
theorem string_info : (Try.prog.info? 9).map (fun i => (i.zero, i.size, i.bytes)) = some (some (.string ⟨#[]⟩), 1, 16) := by kernel_rfl
theorem inOrder_ok (blk off cap : Nat) (d : Array Tm) (w : World) (hH : HoldsK tmCells 3 w blk off d) (hblk : blk < w.heap.size) (h0 : 0 < d.size) (hsz : d.size ≤ 64) :
    Calls Try.prog 42 #[.slice (some ⟨blk, off, none⟩) d.size cap] w fun e w' =>
      ∃ v d', PermIn 0 d.size d d' ∧ SortedIn (ltOf tmCmp) 0 d.size d' ∧ e = .returned v ∧ w'.ownsRow w.heap.size 9 1 v d.size (namesV d'.toList) ∧ Tch (· = blk) w w' := by
  obtain ⟨i0, hi, hz0, hz1, hz2⟩ := info_parts string_info
  have HH := Lib.hid hH
  clear hH
  go_enter Try.func42, Try.ntmps42
  go_wp2_with fail
  go_at_call 51
  refine (sort_ok blk off cap d w HH.out hblk (by omega)).mono ?_
  rintro e w1 ⟨rfl, d', n, os, hp, hs, rfl⟩
  have hds : d'.size = d.size := hp.1
  have hH1 := holdsK_sortWorldK_c tmCells 3 w blk off d d' n os HH.out hblk hds
  have ht1 : Tch (· = blk) w (sortWorldK tmCells 3 w blk off n d' os) := tch_sort
  generalize sortWorldK tmCells 3 w blk off n d' os = w1 at hH1 ht1 ⊢
  have HP := Lib.hid hp
  have HS := Lib.hid hs
  have HD := Lib.hid hds
  have HH1 := Lib.hid hH1
  have HT1 := Lib.hid ht1
  clear hp hs hds hH1 ht1
  go_wp2_with fail
  go_loopw [10, 3] (fun jv kv wr => ∃ j : Nat, j ≤ d.size ∧ jv = .int .i64 j ∧ Hid (wr.ownsRow w.heap.size 9 1 kv j (namesV (d'.toList.take j))) ∧ Hid (Tch (· = blk) w wr) ∧ Hid (HoldsK tmCells 3 wr blk off d')) (fun jv _ _ => d.size - (intOf jv).toNat)
  case atStart => exact ⟨0, Nat.zero_le _, rfl, Lib.hid (World.ownsRow_nil _ _ _ _), HT1, HH1⟩
  case round =>
    clear HT1 HH1
    obtain ⟨j, hj, rfl, HO, HT, HH1⟩ := hrel
    by_cases hlt : j < d.size
    · obtain ⟨t, ht⟩ : ∃ t, t = d'[j]! := ⟨_, rfl⟩
      have hjd : j < d'.size := by rw [HD.out]; exact hlt
      have c0 := (HH1.out.cell (i := j) (c := 0) hjd (by omega)).1
      have c1 := (HH1.out.cell (i := j) (c := 1) hjd (by omega)).1
      have c2 := (HH1.out.cell (i := j) (c := 2) hjd (by omega)).1
      rw [← ht] at c0 c1 c2
      simp [tmCells] at c0 c1 c2
      have HTT := Lib.hid ht
      clear ht
      obtain ⟨aw, capw, rfl, hwc, hwm, hwn, hwrow⟩ := own_shape HO.out
      have hbw : blk < _ := Nat.lt_of_lt_of_le hblk HT.out.size
      clear hwrow hwn
      go_wp2_with (at_builtin; refine list_app rfl (.tmp 14) (.tmp 17) 54 rfl w.heap.size 9 i0 (.string ⟨#[]⟩) 16 Try.underlying54 hi hz0 hz1 hz2 rfl _ j (namesV (d'.toList.take j)) rfl ((HO.out.alloc _).alloc _) (some ⟨wr.heap.size + 1, 0, none⟩) 1 1 [.string t.name] rfl rfl (by simp) (by simp) (fun _ => ⟨_, rfl, fun jj u hu => by have h := cells_one (wr.alloc (.cells #[.string t.name, .int .i64 t.tick, .int .i64 t.turn] 74)) 9 (.string t.name) jj u hu; rw [World.size_alloc] at h; exact h⟩) (by intro u hu; simp at hu; subst hu; rfl) (Nat.le_trans (by omega) (by decide : 9223372036854775807 ≤ maxLen)) (by omega) (by have := HT.out.size; simp; omega) ?_; intro v' w3 HO3 HG3)
      go_wp2_with fail
      have t3 : Tch (fun b => w.heap.size ≤ b) wr w3 := Tch.grown (((Tch.refl _ wr).alloc _).alloc _) HG3.out (fun g hg _ => (own_base HO.out hg).1)
      go_roundw
      case rel =>
        refine ⟨j + 1, by omega, by go_num, ?_, Lib.hid (HT.out.trans t3 fun b hb h => absurd h (by omega)), Lib.hid (holdsK_keep HH1.out (t3.block blk hbw (by omega)))⟩
        have h := HO3.out
        have e : namesV (d'.toList.take (j + 1)) = namesV (d'.toList.take j) ++ [.string t.name] := by
          have hg : d'.toList[j]? = some t := by rw [HTT.out]; simp [hjd]
          unfold namesV
          rw [List.take_add_one, hg]
          simp
        rw [e]
        exact Lib.hid h
      case measure => simp [intOf]; omega
    · obtain rfl : j = d.size := by omega
      go_wp2_with fail
      go_ret
      refine ⟨_, d', HP.out, HS.out, rfl, ?_, HT.out⟩
      have h := HO.out
      rw [List.take_of_length_le (by simp [HD.out])] at h
      exact h
end Go.Proofs.Ytohpbjbbkpllaaa
