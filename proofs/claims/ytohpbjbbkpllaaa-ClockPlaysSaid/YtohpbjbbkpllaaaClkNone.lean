/-
  The nil clock of numbers: every method answers nothing.
-/
import Derived.Test.YtohpbjbbkpllaaaClkRefDue
set_option linter.unusedVariables false
set_option linter.unusedSimpArgs false
namespace Go.Proofs.Ytohpbjbbkpllaaa
open Go.RowKit Go.Maps

theorem takesI_nil (s : Int) (w : World) : Calls Try.prog 43 #[.pointer none, .int .i64 s] w (TakesAt w false) := by
  have hmf : ∀ (fn : Fn) (first cap : Array Value) (w : World), (Instr.makeFunc fn first cap).run Try.prog w = .ok (.func fn first cap) w := fun _ _ _ _ => rfl
  go_enter_defers Try.func43, Try.ntmps43
  go_wp2_with fail
  exact ⟨_, by simp [results, go_sem], rfl, (Below.refl _ _).alloc (Nat.le_refl _) _⟩
theorem whenI_nil (s : Int) (w : World) : Calls Try.prog 29 #[.pointer none, .int .i64 s] w (WhenAt w 0 false) := by
  go_enter Try.func29, Try.ntmps29
  go_wp2_with fail
  go_at_call 43
  refine (takesI_nil s w).mono ?_
  rintro e w1 ⟨rfl, hb⟩
  go_wp2_with fail
  go_ret2
  exact ⟨rfl, hb⟩
theorem setI_nil (s t : Int) (w : World) : Calls Try.prog 30 #[.pointer none, .int .i64 s, .int .i64 t] w (TakesAt w false) := by
  go_enter Try.func30, Try.ntmps30
  go_wp2_with fail
  go_at_call 43
  refine (takesI_nil s w).mono ?_
  rintro e w1 ⟨rfl, hb⟩
  go_wp2_with fail
  go_ret
  exact ⟨rfl, hb⟩
theorem unsetI_nil (s : Int) (w : World) : Calls Try.prog 31 #[.pointer none, .int .i64 s] w (TakesAt w false) := by
  go_enter Try.func31, Try.ntmps31
  go_wp2_with fail
  go_at_call 29
  refine (whenI_nil s w).mono ?_
  rintro e w1 ⟨rfl, hb⟩
  go_wp2_with fail
  go_ret
  exact ⟨rfl, hb⟩
theorem dueI_nil (now : Int) (w : World) : Calls Try.prog 32 #[.pointer none, .int .i64 now] w fun e w' => e = .returned (.slice none 0 0) ∧ w' = w := by
  go_enter Try.func32, Try.ntmps32
  go_wp2_with fail
  go_ret
  exact ⟨rfl, rfl⟩
theorem lenI_nil (w : World) : Calls Try.prog 33 #[.pointer none] w fun e w' => e = .returned (.int .i64 0) ∧ w' = w := by
  go_enter Try.func33, Try.ntmps33
  go_wp2_with fail
  go_ret
  exact ⟨rfl, rfl⟩
end Go.Proofs.Ytohpbjbbkpllaaa
