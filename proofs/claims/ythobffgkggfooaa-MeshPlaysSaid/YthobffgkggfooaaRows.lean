/-
  No cell of these rows narrows 'for every input' (looked for: loops, veiled, ifaces, maps, wideKeys, modest, calm, conditions, laid).
  DERIVED. THE GIVEN ROWS OF THIS SEAT. 9 by the template 'for every input the law returns true; each argument reads behind the call as it read before'; 0 by the template 'total and deterministic' (their statements: YthobffgkggfooaaTotals.lean).
  GIVEN WITH THE SEED: the statements are not yours to turn. If you find one false, say at which input.
  Laid BY PROGRAM, IN A SANDBOX (cutbox-rows.mjs): the forced cells as the released guide's own fill.sh prints them over the translation 47ab59da4ad40e5b… (all of the seat's roots in one cut). By AI agents, Wed Nov 11 2026. No macro, syntax, notation, axiom, sorry.
-/
import Derived.Test.YthobffgkggfooaaChecked
import GoSem.Claim
import GoSem.ClaimJoined
import GoSem.ClaimMapViews
import Derived.JoinedTies
import Derived.KernelRfl
namespace Go.Proofs.Ythobffgkggfooaa
/- THE CELL 'sum', in the pinned program and in every row, IS THE sha256 OF THE DUMP (.gsa) THAT YthobffgkggfooaaProg.lean LOADS. Nothing in Lean hashes anything: it is a label: what it is worth is what the hold of that sum in a sandbox is worth. -/
noncomputable def Try.pinned : Pinned := { name := "ythobffgkggfooaa", sum := "47ab59da4ad40e5b7fabea796aef2c09b4029da5c44b09715825d55c9fc7c21f", checked := Try.checked }
namespace Rows
def none {H : Type} : Left H := { results := [], args := [] }

/-- 'bellhoplaw06.StreamPieces': WHATEVER THE INPUT: true; the input reads as it did. -/
def streamPiecesSpec : ChangeSpec := { name := "streamPieces", fn := fun _ => fun
  | [d1, d2, d3] => { results := [.lit (.bool true)], args := [d1, d2, d3] }
  | _ => none }
def streamPiecesRow : OpenClaim := { program := "ythobffgkggfooaa", sum := "47ab59da4ad40e5b7fabea796aef2c09b4029da5c44b09715825d55c9fc7c21f", func := "bellhop/bellhoplaw06.StreamPieces", spec := "streamPieces", unfollowed := true, recurses := true, plainKeys := false, apart := false }
def StreamPiecesSaid : Prop := streamPiecesRow.holds Try.pinned (OpenSpec.ofChange streamPiecesSpec)

/-- ITS FALSE NEIGHBOUR: 'it returns false'. Refute it at one input. -/
def streamPiecesWrong : ChangeSpec := { name := "streamPieces", fn := fun _ => fun
  | [d1, d2, d3] => { results := [.lit (.bool false)], args := [d1, d2, d3] }
  | _ => none }
def StreamPiecesWrongFalsely : Prop := streamPiecesRow.holds Try.pinned (OpenSpec.ofChange streamPiecesWrong)

/-- 'bellhoplaw06.StreamBad': WHATEVER THE INPUT: true; the input reads as it did. -/
def streamBadSpec : ChangeSpec := { name := "streamBad", fn := fun _ => fun
  | [d1, d2] => { results := [.lit (.bool true)], args := [d1, d2] }
  | _ => none }
def streamBadRow : OpenClaim := { program := "ythobffgkggfooaa", sum := "47ab59da4ad40e5b7fabea796aef2c09b4029da5c44b09715825d55c9fc7c21f", func := "bellhop/bellhoplaw06.StreamBad", spec := "streamBad", unfollowed := true, recurses := true, plainKeys := false, apart := false }
def StreamBadSaid : Prop := streamBadRow.holds Try.pinned (OpenSpec.ofChange streamBadSpec)

/-- ITS FALSE NEIGHBOUR: 'it returns false'. Refute it at one input. -/
def streamBadWrong : ChangeSpec := { name := "streamBad", fn := fun _ => fun
  | [d1, d2] => { results := [.lit (.bool false)], args := [d1, d2] }
  | _ => none }
def StreamBadWrongFalsely : Prop := streamBadRow.holds Try.pinned (OpenSpec.ofChange streamBadWrong)

/-- 'bellhoplaw06.StreamJoins': WHATEVER THE INPUT: true; the input reads as it did. -/
def streamJoinsSpec : ChangeSpec := { name := "streamJoins", fn := fun _ => fun
  | [d1, d2, d3] => { results := [.lit (.bool true)], args := [d1, d2, d3] }
  | _ => none }
def streamJoinsRow : OpenClaim := { program := "ythobffgkggfooaa", sum := "47ab59da4ad40e5b7fabea796aef2c09b4029da5c44b09715825d55c9fc7c21f", func := "bellhop/bellhoplaw06.StreamJoins", spec := "streamJoins", unfollowed := true, recurses := true, plainKeys := false, apart := false }
def StreamJoinsSaid : Prop := streamJoinsRow.holds Try.pinned (OpenSpec.ofChange streamJoinsSpec)

/-- ITS FALSE NEIGHBOUR: 'it returns false'. Refute it at one input. -/
def streamJoinsWrong : ChangeSpec := { name := "streamJoins", fn := fun _ => fun
  | [d1, d2, d3] => { results := [.lit (.bool false)], args := [d1, d2, d3] }
  | _ => none }
def StreamJoinsWrongFalsely : Prop := streamJoinsRow.holds Try.pinned (OpenSpec.ofChange streamJoinsWrong)

/-- 'bellhoplaw07.PipePlays': WHATEVER THE INPUT: true; the input reads as it did. -/
def pipePlaysSpec : ChangeSpec := { name := "pipePlays", fn := fun _ => fun
  | [d1, d2] => { results := [.lit (.bool true)], args := [d1, d2] }
  | _ => none }
def pipePlaysRow : OpenClaim := { program := "ythobffgkggfooaa", sum := "47ab59da4ad40e5b7fabea796aef2c09b4029da5c44b09715825d55c9fc7c21f", func := "bellhop/bellhoplaw07.PipePlays", spec := "pipePlays", plainKeys := false, apart := false }
def PipePlaysSaid : Prop := pipePlaysRow.holds Try.pinned (OpenSpec.ofChange pipePlaysSpec)

/-- ITS FALSE NEIGHBOUR: 'it returns false'. Refute it at one input. -/
def pipePlaysWrong : ChangeSpec := { name := "pipePlays", fn := fun _ => fun
  | [d1, d2] => { results := [.lit (.bool false)], args := [d1, d2] }
  | _ => none }
def PipePlaysWrongFalsely : Prop := pipePlaysRow.holds Try.pinned (OpenSpec.ofChange pipePlaysWrong)

/-- 'bellhoplaw07.PipeFirst': WHATEVER THE INPUT: true; the input reads as it did. -/
def pipeFirstSpec : ChangeSpec := { name := "pipeFirst", fn := fun _ => fun
  | [d1, d2] => { results := [.lit (.bool true)], args := [d1, d2] }
  | _ => none }
def pipeFirstRow : OpenClaim := { program := "ythobffgkggfooaa", sum := "47ab59da4ad40e5b7fabea796aef2c09b4029da5c44b09715825d55c9fc7c21f", func := "bellhop/bellhoplaw07.PipeFirst", spec := "pipeFirst", plainKeys := false, apart := false }
def PipeFirstSaid : Prop := pipeFirstRow.holds Try.pinned (OpenSpec.ofChange pipeFirstSpec)

/-- ITS FALSE NEIGHBOUR: 'it returns false'. Refute it at one input. -/
def pipeFirstWrong : ChangeSpec := { name := "pipeFirst", fn := fun _ => fun
  | [d1, d2] => { results := [.lit (.bool false)], args := [d1, d2] }
  | _ => none }
def PipeFirstWrongFalsely : Prop := pipeFirstRow.holds Try.pinned (OpenSpec.ofChange pipeFirstWrong)

/-- 'bellhoplaw07.PipeOrder': WHATEVER THE INPUT: true; the input reads as it did. -/
def pipeOrderSpec : ChangeSpec := { name := "pipeOrder", fn := fun _ => fun
  | [d1, d2] => { results := [.lit (.bool true)], args := [d1, d2] }
  | _ => none }
def pipeOrderRow : OpenClaim := { program := "ythobffgkggfooaa", sum := "47ab59da4ad40e5b7fabea796aef2c09b4029da5c44b09715825d55c9fc7c21f", func := "bellhop/bellhoplaw07.PipeOrder", spec := "pipeOrder", plainKeys := false, apart := false }
def PipeOrderSaid : Prop := pipeOrderRow.holds Try.pinned (OpenSpec.ofChange pipeOrderSpec)

/-- ITS FALSE NEIGHBOUR: 'it returns false'. Refute it at one input. -/
def pipeOrderWrong : ChangeSpec := { name := "pipeOrder", fn := fun _ => fun
  | [d1, d2] => { results := [.lit (.bool false)], args := [d1, d2] }
  | _ => none }
def PipeOrderWrongFalsely : Prop := pipeOrderRow.holds Try.pinned (OpenSpec.ofChange pipeOrderWrong)

/-- 'bellhoplaw08.MeshPlays': WHATEVER THE INPUT: true; the input reads as it did. -/
def meshPlaysSpec : ChangeSpec := { name := "meshPlays", fn := fun _ => fun
  | [d] => { results := [.lit (.bool true)], args := [d] }
  | _ => none }
def meshPlaysRow : OpenClaim := { program := "ythobffgkggfooaa", sum := "47ab59da4ad40e5b7fabea796aef2c09b4029da5c44b09715825d55c9fc7c21f", func := "bellhop/bellhoplaw08.MeshPlays", spec := "meshPlays", unfollowed := true, recurses := true, plainKeys := false, apart := false }
def MeshPlaysSaid : Prop := meshPlaysRow.holds Try.pinned (OpenSpec.ofChange meshPlaysSpec)

/-- ITS FALSE NEIGHBOUR: 'it returns false'. Refute it at one input. -/
def meshPlaysWrong : ChangeSpec := { name := "meshPlays", fn := fun _ => fun
  | [d] => { results := [.lit (.bool false)], args := [d] }
  | _ => none }
def MeshPlaysWrongFalsely : Prop := meshPlaysRow.holds Try.pinned (OpenSpec.ofChange meshPlaysWrong)

/-- 'bellhoplaw08.MeshFull': WHATEVER THE INPUT: true; the input reads as it did. -/
def meshFullSpec : ChangeSpec := { name := "meshFull", fn := fun _ => fun
  | [d] => { results := [.lit (.bool true)], args := [d] }
  | _ => none }
def meshFullRow : OpenClaim := { program := "ythobffgkggfooaa", sum := "47ab59da4ad40e5b7fabea796aef2c09b4029da5c44b09715825d55c9fc7c21f", func := "bellhop/bellhoplaw08.MeshFull", spec := "meshFull", unfollowed := true, recurses := true, plainKeys := false, apart := false }
def MeshFullSaid : Prop := meshFullRow.holds Try.pinned (OpenSpec.ofChange meshFullSpec)

/-- ITS FALSE NEIGHBOUR: 'it returns false'. Refute it at one input. -/
def meshFullWrong : ChangeSpec := { name := "meshFull", fn := fun _ => fun
  | [d] => { results := [.lit (.bool false)], args := [d] }
  | _ => none }
def MeshFullWrongFalsely : Prop := meshFullRow.holds Try.pinned (OpenSpec.ofChange meshFullWrong)

/-- 'bellhoplaw08.MeshDown': WHATEVER THE INPUT: true; the input reads as it did. -/
def meshDownSpec : ChangeSpec := { name := "meshDown", fn := fun _ => fun
  | [d1, d2] => { results := [.lit (.bool true)], args := [d1, d2] }
  | _ => none }
def meshDownRow : OpenClaim := { program := "ythobffgkggfooaa", sum := "47ab59da4ad40e5b7fabea796aef2c09b4029da5c44b09715825d55c9fc7c21f", func := "bellhop/bellhoplaw08.MeshDown", spec := "meshDown", unfollowed := true, recurses := true, plainKeys := false, apart := false }
def MeshDownSaid : Prop := meshDownRow.holds Try.pinned (OpenSpec.ofChange meshDownSpec)

/-- ITS FALSE NEIGHBOUR: 'it returns false'. Refute it at one input. -/
def meshDownWrong : ChangeSpec := { name := "meshDown", fn := fun _ => fun
  | [d1, d2] => { results := [.lit (.bool false)], args := [d1, d2] }
  | _ => none }
def MeshDownWrongFalsely : Prop := meshDownRow.holds Try.pinned (OpenSpec.ofChange meshDownWrong)

/- THE SECOND FORM. 'bulk': how many values and letters a reading holds, each counted each time it is reached (what is shared counts as often as it is met; a slice's spare places count too). A statement '..UptoSaid' is the law's where the arguments, and the package variables that the reading takes, are together of bulk at most 1048576: NARROWER than '..Said'. Prove '..Said' where nothing that the law and all that it calls make is longer than what came in: it says more and counts as full. Else prove '..UptoSaid'. A law counts once. -/
mutual
def uptoBulk {H : Type} : DataW H → Nat
  | .lit (.string bytes) => bytes.length + 1
  | .lit _ => 1
  | .nil => 1
  | .ptr d => uptoBulk d + 1
  | .slice elems spare => uptoBulkAll elems + uptoBulkAll spare + 1
  | .agg parts => uptoBulkAll parts + 1
  | .iface _ d => uptoBulk d + 1
  | .map entries => uptoBulkEntries entries + 1
  | .held _ => 1
def uptoBulkAll {H : Type} : List (DataW H) → Nat
  | [] => 0
  | d :: r => uptoBulk d + uptoBulkAll r
def uptoBulkEntries {H : Type} : List (Lit × DataW H) → Nat
  | [] => 0
  | x :: r => uptoBulkEntry x + uptoBulkEntries r
def uptoBulkEntry {H : Type} : Lit × DataW H → Nat
  | (.string bytes, d) => bytes.length + uptoBulk d + 1
  | (_, d) => uptoBulk d + 1
 end
def uptoSmall : (H : Type) → List (DataW H) → Bool := fun _ ds => decide (uptoBulkAll ds ≤ 1048576)
def OpenSpec.upto (s : _root_.Go.ChangeSpec) : _root_.Go.OpenSpec := { _root_.Go.OpenSpec.ofChange s with cond := some uptoSmall }

/-- 'bellhoplaw06.StreamPieces', WHERE WHAT IT READS IS OF BULK AT MOST 1048576: true; the input reads as it did. -/
def streamPiecesUptoRow : OpenClaim := { program := "ythobffgkggfooaa", sum := "47ab59da4ad40e5b7fabea796aef2c09b4029da5c44b09715825d55c9fc7c21f", func := "bellhop/bellhoplaw06.StreamPieces", spec := "streamPieces", unfollowed := true, recurses := true, plainKeys := false, apart := false, narrowed := true }
def StreamPiecesUptoSaid : Prop := streamPiecesUptoRow.holds Try.pinned (OpenSpec.upto streamPiecesSpec)

/-- 'bellhoplaw06.StreamBad', WHERE WHAT IT READS IS OF BULK AT MOST 1048576: true; the input reads as it did. -/
def streamBadUptoRow : OpenClaim := { program := "ythobffgkggfooaa", sum := "47ab59da4ad40e5b7fabea796aef2c09b4029da5c44b09715825d55c9fc7c21f", func := "bellhop/bellhoplaw06.StreamBad", spec := "streamBad", unfollowed := true, recurses := true, plainKeys := false, apart := false, narrowed := true }
def StreamBadUptoSaid : Prop := streamBadUptoRow.holds Try.pinned (OpenSpec.upto streamBadSpec)

/-- 'bellhoplaw06.StreamJoins', WHERE WHAT IT READS IS OF BULK AT MOST 1048576: true; the input reads as it did. -/
def streamJoinsUptoRow : OpenClaim := { program := "ythobffgkggfooaa", sum := "47ab59da4ad40e5b7fabea796aef2c09b4029da5c44b09715825d55c9fc7c21f", func := "bellhop/bellhoplaw06.StreamJoins", spec := "streamJoins", unfollowed := true, recurses := true, plainKeys := false, apart := false, narrowed := true }
def StreamJoinsUptoSaid : Prop := streamJoinsUptoRow.holds Try.pinned (OpenSpec.upto streamJoinsSpec)

/-- 'bellhoplaw07.PipePlays', WHERE WHAT IT READS IS OF BULK AT MOST 1048576: true; the input reads as it did. -/
def pipePlaysUptoRow : OpenClaim := { program := "ythobffgkggfooaa", sum := "47ab59da4ad40e5b7fabea796aef2c09b4029da5c44b09715825d55c9fc7c21f", func := "bellhop/bellhoplaw07.PipePlays", spec := "pipePlays", plainKeys := false, apart := false, narrowed := true }
def PipePlaysUptoSaid : Prop := pipePlaysUptoRow.holds Try.pinned (OpenSpec.upto pipePlaysSpec)

/-- 'bellhoplaw07.PipeFirst', WHERE WHAT IT READS IS OF BULK AT MOST 1048576: true; the input reads as it did. -/
def pipeFirstUptoRow : OpenClaim := { program := "ythobffgkggfooaa", sum := "47ab59da4ad40e5b7fabea796aef2c09b4029da5c44b09715825d55c9fc7c21f", func := "bellhop/bellhoplaw07.PipeFirst", spec := "pipeFirst", plainKeys := false, apart := false, narrowed := true }
def PipeFirstUptoSaid : Prop := pipeFirstUptoRow.holds Try.pinned (OpenSpec.upto pipeFirstSpec)

/-- 'bellhoplaw07.PipeOrder', WHERE WHAT IT READS IS OF BULK AT MOST 1048576: true; the input reads as it did. -/
def pipeOrderUptoRow : OpenClaim := { program := "ythobffgkggfooaa", sum := "47ab59da4ad40e5b7fabea796aef2c09b4029da5c44b09715825d55c9fc7c21f", func := "bellhop/bellhoplaw07.PipeOrder", spec := "pipeOrder", plainKeys := false, apart := false, narrowed := true }
def PipeOrderUptoSaid : Prop := pipeOrderUptoRow.holds Try.pinned (OpenSpec.upto pipeOrderSpec)

/-- 'bellhoplaw08.MeshPlays', WHERE WHAT IT READS IS OF BULK AT MOST 1048576: true; the input reads as it did. -/
def meshPlaysUptoRow : OpenClaim := { program := "ythobffgkggfooaa", sum := "47ab59da4ad40e5b7fabea796aef2c09b4029da5c44b09715825d55c9fc7c21f", func := "bellhop/bellhoplaw08.MeshPlays", spec := "meshPlays", unfollowed := true, recurses := true, plainKeys := false, apart := false, narrowed := true }
def MeshPlaysUptoSaid : Prop := meshPlaysUptoRow.holds Try.pinned (OpenSpec.upto meshPlaysSpec)

/-- 'bellhoplaw08.MeshFull', WHERE WHAT IT READS IS OF BULK AT MOST 1048576: true; the input reads as it did. -/
def meshFullUptoRow : OpenClaim := { program := "ythobffgkggfooaa", sum := "47ab59da4ad40e5b7fabea796aef2c09b4029da5c44b09715825d55c9fc7c21f", func := "bellhop/bellhoplaw08.MeshFull", spec := "meshFull", unfollowed := true, recurses := true, plainKeys := false, apart := false, narrowed := true }
def MeshFullUptoSaid : Prop := meshFullUptoRow.holds Try.pinned (OpenSpec.upto meshFullSpec)

/-- 'bellhoplaw08.MeshDown', WHERE WHAT IT READS IS OF BULK AT MOST 1048576: true; the input reads as it did. -/
def meshDownUptoRow : OpenClaim := { program := "ythobffgkggfooaa", sum := "47ab59da4ad40e5b7fabea796aef2c09b4029da5c44b09715825d55c9fc7c21f", func := "bellhop/bellhoplaw08.MeshDown", spec := "meshDown", unfollowed := true, recurses := true, plainKeys := false, apart := false, narrowed := true }
def MeshDownUptoSaid : Prop := meshDownUptoRow.holds Try.pinned (OpenSpec.upto meshDownSpec)

end Rows
end Go.Proofs.Ythobffgkggfooaa
