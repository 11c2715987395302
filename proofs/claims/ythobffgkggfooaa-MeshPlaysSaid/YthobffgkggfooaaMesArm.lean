/-
  MeshPlays: where the switch's code lies in the function's.
-/
import Derived.Test.YthobffgkggfooaaMesAct
set_option linter.unusedVariables false
set_option maxRecDepth 100000
namespace Go.Proofs.Ythobffgkggfooaa

/-- The first block of that number. -/
def blockAt (n : Nat) : Code → Option Code
  | .block m c => if m = n then some (.block m c) else blockAt n c
  | .seq x y => match blockAt n x with
    | some c => some c
    | none => blockAt n y
  | .cond _ x y => match blockAt n x with
    | some c => some c
    | none => blockAt n y
  | .loop c => blockAt n c
  | .scope c => blockAt n c
  | _ => none
end Go.Proofs.Ythobffgkggfooaa
