/-
  The contracts of the library's functions at this program's numbers: tables of numbers, each held by the kernel's comparison; no condition.
-/
import Derived.Test.YtdhafagihfdolaaProg
import Derived.Shelf.SlicesE.DeleteFunc
namespace Go.Proofs.Ytdhafagihfdolaa
open Go.Shelf
def laysDeleteFunc_ren : Go.Shelf.Ren := ⟨fun | 10 => 102 | 6 => 90 | n => n, fun | 22 => 26 | 23 => 3 | 25 => 58 | 3 => 3 | 4 => 4 | 0 => 0 | n => n, fun | n => n⟩
theorem laysDeleteFunc : Go.Proofs.SlLaysH.n10 Try.prog laysDeleteFunc_ren := {
  mixed := by kernel_rfl
  f6 := ⟨Try.f90.name, by decide, Try.func90.trans (congrArg some (by kernel_rfl))⟩
  f10 := ⟨Try.f102.name, by decide, Try.func102.trans (congrArg some (by kernel_rfl))⟩
  t0 := Try.underlying0
  a0 := Try.isAgg0
  z0 := Try.sizeOf0
  v0 := Try.zeroValue0
  t3 := Try.underlying3
  a3 := Try.isAgg3
  z3 := Try.sizeOf3
  v3 := Try.zeroValue3
  t4 := Try.underlying4
  a4 := Try.isAgg4
  z4 := Try.sizeOf4
  v4 := Try.zeroValue4
  t22 := Try.underlying26
  a22 := Try.isAgg26
  z22 := Try.sizeOf26
  v22 := Try.zeroValue26
  a23 := Try.isAgg3
  z23 := Try.sizeOf3
  t25 := Try.underlying58
  a25 := Try.isAgg58
  z25 := Try.sizeOf58
  v25 := Try.zeroValue58 }
end Go.Proofs.Ytdhafagihfdolaa
