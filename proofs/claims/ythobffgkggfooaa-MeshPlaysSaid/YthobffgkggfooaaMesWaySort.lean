/-
  Package mesh: the sort of ways; Ways.
-/
import Derived.Test.YthobffgkggfooaaMesWays
import Derived.Test.YthobffgkggfooaaLayWays
set_option linter.unusedVariables false
set_option linter.unusedSimpArgs false
namespace Go.Proofs.Ythobffgkggfooaa
open Go.RowKit Go.Maps Go.Shelf Go.Sort

theorem cmp2_neg (p q : Int × Int) : cmp2 p q < 0 ↔ p.1 < q.1 ∨ (p.1 = q.1 ∧ p.2 < q.2) := by
  unfold cmp2 cmpI
  repeat' split
  all_goals omega
theorem wayLt (p q : Int × Int) : ltOf cmp2 p q = decide (p.1 < q.1 ∨ (p.1 = q.1 ∧ p.2 < q.2)) := by
  unfold ltOf
  congr 1
  exact propext (cmp2_neg p q)
theorem waySWO : SWO (ltOf cmp2) := by
  refine ⟨fun x => ?_, fun x y z h1 h2 => ?_, fun x y z h1 h2 => ?_⟩
  · rw [wayLt, decide_eq_false_iff_not]; omega
  · rw [wayLt, decide_eq_true_iff] at *; omega
  · rw [wayLt, decide_eq_false_iff_not] at *; omega
theorem leW_of {a b : Int × Int} (h : ltOf cmp2 b a = false) : leW a b := by
  rw [wayLt, decide_eq_false_iff_not] at h
  unfold leW cmp2 cmpI
  repeat' split
  all_goals omega
theorem wtch_put (w : World) (blk : Nat) (f : Array Value → Array Value) : Tch (· = blk) w (mapBlock w blk f) :=
  ⟨rfl, rfl, rfl, by simp [mapBlock], fun k hk hn => by simp only [mapBlock, Array.getElem?_modify]; rw [if_neg (fun e => hn e.symm)]⟩
theorem wtch_grow (w : World) (os : Array Obj) (S : Nat → Prop) : Tch S w (grow w os) :=
  ⟨rfl, rfl, rfl, by simp [grow], fun k hk _ => by simp only [grow]; rw [Array.getElem?_append_left hk]⟩
theorem wtch_sort {w : World} {blk off n : Nat} {d' : Array (Int × Int)} {os : Array Obj} : Tch (· = blk) w (sortWorldK wC 2 w blk off n d' os) := by
  have h1 : Tch (· = blk) w (Go.Sort.ahead w n) := ⟨rfl, rfl, rfl, Nat.le_refl _, fun _ _ _ => rfl⟩
  have h2 : Tch (· = blk) (Go.Sort.ahead w n) (putRowK wC 2 (Go.Sort.ahead w n) blk off d') := wtch_put _ _ _
  exact (h1.then h2).then (wtch_grow _ _ _)
theorem hold_at {l : List (Int × Int)} {j : Nat} (hj : j < l.length * 2) : (l.flatMap wC)[j]? = some ((flatK wC 2 l.toArray)[j]!) := by
  have hi : j / 2 < l.length := by omega
  have hg1 := flat_getK wC_len l (j / 2) (j % 2) l[j / 2] (List.getElem?_eq_getElem hi) (by omega)
  rw [show j / 2 * 2 + j % 2 = j by omega] at hg1
  rw [hg1, get_flatK _ _ _ j (by simpa using hj)]
  rw [getElem!_pos l.toArray (j / 2) (by simpa using hi)]
  simp only [List.getElem_toArray]
  rw [getElem!_pos _ _ (by simp [wC]; omega)]
  exact List.getElem?_eq_getElem _
theorem hold_in {w : World} {blk : Nat} {l : List (Int × Int)} (h : WHold w blk l) : HoldsK wC 2 w blk 0 l.toArray := by
  intro j hj
  rw [size_flatK] at hj
  simp only [List.size_toArray] at hj
  have := h j _ (hold_at (by omega))
  rw [Nat.zero_add]
  exact ⟨this.1, by simpa using this.2⟩
theorem hold_out {w : World} {blk : Nat} {l : List (Int × Int)} (h : HoldsK wC 2 w blk 0 l.toArray) : WHold w blk l := by
  intro j u hu
  have hj : j < l.length * 2 := by
    have := (List.getElem?_eq_some_iff.1 hu).1
    rwa [flat_lengthK wC_len] at this
  have h1 := h j (by rw [size_flatK]; simp; omega)
  rw [hold_at hj] at hu
  injection hu with hu
  rw [Nat.zero_add] at h1
  rw [← hu]
  exact ⟨h1.1, by simpa using h1.2⟩
set_option maxRecDepth 100000 in
set_option maxHeartbeats 2000000 in
theorem waySort : WaySort := by
  intro blk cap l w hh hblk hl
  have hS := AnyQ.slices_SortFunc laysWays 2 Try.isAgg90 Try.sizeOf90 wC (fun _ => rfl) (fun x v hv => by
      simp only [wC, List.mem_cons, List.not_mem_nil, or_false] at hv
      rcases hv with rfl | rfl <;> rfl) cmp2 waySWO 68 #[] blk 0 cap l.toArray w (fun _ _ => rfl)
    (fun m os dk hdk x y => (wcmp_ok x y _).mono fun e w' h => h) (hold_in hh) hblk (by simp; omega)
  simp only [List.size_toArray] at hS
  refine hS.mono ?_
  rintro e w' ⟨rfl, d', n, os, hp, hs, rfl⟩
  have hds : d'.size = l.toArray.size := by have := hp.1; simpa using this
  have hpl : d'.toList.Perm l := by
    have h3 := hp.2.2
    have e1 : l.toArray.extract 0 l.length = l.toArray := by simp
    have e2 : d'.extract 0 l.length = d' := by rw [show l.length = d'.size by rw [hds]; simp]; simp
    rw [e1, e2] at h3
    simpa using h3
  refine ⟨rfl, d'.toList, hpl, ?_, ?_, wtch_sort⟩
  · rw [List.pairwise_iff_getElem]
    intro i j hi hj hij
    have h1 := hs i j (Nat.zero_le _) hij (by rw [← hpl.length_eq]; exact hj)
    simp only [Array.length_toList] at hi hj
    rw [getElem!_pos d' i hi, getElem!_pos d' j hj] at h1
    simp only [Array.getElem_toList]
    exact leW_of h1
  · have := holdsK_sortWorldK_c wC 2 w blk 0 l.toArray d' n os (hold_in hh) hblk hds
    exact hold_out (by simpa using this)
end Go.Proofs.Ythobffgkggfooaa
