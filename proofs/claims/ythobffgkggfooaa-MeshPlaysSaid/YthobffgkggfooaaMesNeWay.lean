/-
  Two ways compared; a world that has only drawn.
-/
import Derived.Test.YthobffgkggfooaaPipRef
set_option linter.unusedVariables false
set_option linter.unusedSimpArgs false
namespace Go.Proofs.Ythobffgkggfooaa
open Go.RowKit

theorem neWay (a b : Int) (w : World) : (binOp .neq 90 (.agg #[.int .i64 a, .int .i64 b]) (.agg #[.int .i64 a, .int .i64 b])).run Try.prog w = .ok (.bool false) w := by
  have hA : Try.prog.underlying 90 = some (.array 2 3) := by kernel_rfl
  have hS : (Try.prog.info? 3).map (fun i => i.size) = some 1 := by kernel_rfl
  obtain ⟨i, hi, hz⟩ := Option.map_eq_some_iff.1 hS
  have u1 := Try.underlying3
  have h1 : ∀ (d : Nat) (x : Int), (Op.equalIn (d + 1) 3 (.int .i64 x) (.int .i64 x)).run Try.prog w = .ok true w := fun d x => by
    rw [run_equalIn_int w d _ _ _ x x u1]
    simp
  have h2 : ∀ d : Nat, (Op.equalIn ((d + 1) + 1) 90 (.agg #[.int .i64 a, .int .i64 b]) (.agg #[.int .i64 a, .int .i64 b])).run Try.prog w = .ok true w := fun d => by
    obtain ⟨e, he⟩ : ∃ e, e = d + 1 := ⟨_, rfl⟩
    have h3 := h1 d
    rw [← he] at h3 ⊢
    have hR : List.range' 0 2 = [0, 1] := rfl
    simp [Op.equalIn, run_underlying hA, sizeOf, typeInfo, hi, hz, part, h3, hR, Try.isAgg3, isAgg, run_underlying u1, go_sem]
  rw [run_neq_struct, show (10000 : Nat) = (9998 + 1) + 1 from rfl, h2]
  simp
end Go.Proofs.Ythobffgkggfooaa
