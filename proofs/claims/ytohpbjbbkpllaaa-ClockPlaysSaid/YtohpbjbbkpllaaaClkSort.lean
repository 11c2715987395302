/-
  The sort of timers by tick, then turn.
-/
import Derived.Test.YtohpbjbbkpllaaaClkCmp
set_option linter.unusedVariables false
set_option linter.unusedSimpArgs false
namespace Go.Proofs.Ytohpbjbbkpllaaa
open Go.RowKit Go.Maps Go.Shelf Go.Sort

instance : Inhabited Tm := ⟨⟨ByteArray.empty, 0, 0⟩⟩
def tmCells (t : Tm) : List Value := [.string t.name, .int .i64 t.tick, .int .i64 t.turn]
theorem tmCmp_neg (t u : Tm) : tmCmp t u < 0 ↔ t.tick < u.tick ∨ (t.tick = u.tick ∧ t.turn < u.turn) := by
  unfold tmCmp or2 Lib.compareInt
  repeat' split
  all_goals omega
theorem tmLt (t u : Tm) : ltOf tmCmp t u = decide (t.tick < u.tick ∨ (t.tick = u.tick ∧ t.turn < u.turn)) := by
  unfold ltOf
  congr 1
  exact propext (tmCmp_neg t u)
theorem tmSWO : SWO (ltOf tmCmp) := by
  refine ⟨fun x => ?_, fun x y z h1 h2 => ?_, fun x y z h1 h2 => ?_⟩
  · rw [tmLt, decide_eq_false_iff_not]; omega
  · rw [tmLt, decide_eq_true_iff] at *; omega
  · rw [tmLt, decide_eq_false_iff_not] at *; omega
theorem sort_ok (blk off cap : Nat) (d : Array Tm) (w : World) (hH : HoldsK tmCells 3 w blk off d) (hblk : blk < w.heap.size) (hsz : d.size < 4611686018427387904) :
    Calls Try.prog 51 #[.slice (some ⟨blk, off, none⟩) d.size cap, .func (.func 52) #[] #[]] w fun e w' =>
      e = .returned (.tuple #[]) ∧ ∃ d' n os, PermIn 0 d.size d d' ∧ SortedIn (ltOf tmCmp) 0 d.size d' ∧ w' = sortWorldK tmCells 3 w blk off n d' os :=
  AnyQ.slices_SortFunc laysSort 3 Try.isAgg74 Try.sizeOf74 tmCells (fun _ => rfl) (fun x v hv => by
      simp only [tmCells, List.mem_cons, List.not_mem_nil, or_false] at hv
      rcases hv with rfl | rfl | rfl <;> rfl) tmCmp tmSWO 52 #[] blk off cap d w (fun _ _ => rfl)
    (fun m os dk hdk x y => (cmpTm x y _).mono fun e w' h => h) hH hblk hsz
end Go.Proofs.Ytohpbjbbkpllaaa
