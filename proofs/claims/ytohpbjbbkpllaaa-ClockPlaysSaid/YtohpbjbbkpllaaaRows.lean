/-
  No cell of these rows narrows 'for every input' (looked for: loops, veiled, ifaces, maps, wideKeys, modest, calm, conditions, laid).
  DERIVED. THE GIVEN ROWS OF THIS SEAT. 5 by the template 'for every input the law returns true; each argument reads behind the call as it read before'; 0 by the template 'total and deterministic' (their statements: YtohpbjbbkpllaaaTotals.lean).
  GIVEN WITH THE SEED: the statements are not yours to turn. If you find one false, say at which input.
  Laid BY PROGRAM, IN A SANDBOX (cutbox-rows.mjs): the forced cells as the released guide's own fill.sh prints them over the translation e4f2ac38c26b1dbf… (all of the seat's roots in one cut). By AI agents, Wed Nov 11 2026. No macro, syntax, notation, axiom, sorry.
-/
import Derived.Test.YtohpbjbbkpllaaaChecked
import GoSem.Claim
import GoSem.ClaimJoined
import GoSem.ClaimMapViews
import Derived.JoinedTies
import Derived.KernelRfl
namespace Go.Proofs.Ytohpbjbbkpllaaa
/- THE CELL 'sum', in the pinned program and in every row, IS THE sha256 OF THE DUMP (.gsa) THAT YtohpbjbbkpllaaaProg.lean LOADS. Nothing in Lean hashes anything: it is a label: what it is worth is what the hold of that sum in a sandbox is worth. -/
noncomputable def Try.pinned : Pinned := { name := "ytohpbjbbkpllaaa", sum := "e4f2ac38c26b1dbf81a0fe558e207c9a8a91d58d462f5ac73bdce916533c24a2", checked := Try.checked }
namespace Rows
def none {H : Type} : Left H := { results := [], args := [] }

/-- 'bellhoplaw03.NodesetPlays': WHATEVER THE INPUT: true; the input reads as it did. -/
def nodesetPlaysSpec : ChangeSpec := { name := "nodesetPlays", fn := fun _ => fun
  | [d1, d2] => { results := [.lit (.bool true)], args := [d1, d2] }
  | _ => none }
def nodesetPlaysRow : OpenClaim := { program := "ytohpbjbbkpllaaa", sum := "e4f2ac38c26b1dbf81a0fe558e207c9a8a91d58d462f5ac73bdce916533c24a2", func := "bellhop/bellhoplaw03.NodesetPlays", spec := "nodesetPlays", inPlace := ["slices.overlaps[int]"], unfollowed := true, recurses := true, apart := false }
def NodesetPlaysSaid : Prop := nodesetPlaysRow.holds Try.pinned (OpenSpec.ofChange nodesetPlaysSpec)

/-- ITS FALSE NEIGHBOUR: 'it returns false'. Refute it at one input. -/
def nodesetPlaysWrong : ChangeSpec := { name := "nodesetPlays", fn := fun _ => fun
  | [d1, d2] => { results := [.lit (.bool false)], args := [d1, d2] }
  | _ => none }
def NodesetPlaysWrongFalsely : Prop := nodesetPlaysRow.holds Try.pinned (OpenSpec.ofChange nodesetPlaysWrong)

/-- 'bellhoplaw03.NodesetZero': WHATEVER THE INPUT: true; the input reads as it did. -/
def nodesetZeroSpec : ChangeSpec := { name := "nodesetZero", fn := fun _ => fun
  | [d] => { results := [.lit (.bool true)], args := [d] }
  | _ => none }
def nodesetZeroRow : OpenClaim := { program := "ytohpbjbbkpllaaa", sum := "e4f2ac38c26b1dbf81a0fe558e207c9a8a91d58d462f5ac73bdce916533c24a2", func := "bellhop/bellhoplaw03.NodesetZero", spec := "nodesetZero", inPlace := ["slices.overlaps[int]"], unfollowed := true, recurses := true, apart := false }
def NodesetZeroSaid : Prop := nodesetZeroRow.holds Try.pinned (OpenSpec.ofChange nodesetZeroSpec)

/-- ITS FALSE NEIGHBOUR: 'it returns false'. Refute it at one input. -/
def nodesetZeroWrong : ChangeSpec := { name := "nodesetZero", fn := fun _ => fun
  | [d] => { results := [.lit (.bool false)], args := [d] }
  | _ => none }
def NodesetZeroWrongFalsely : Prop := nodesetZeroRow.holds Try.pinned (OpenSpec.ofChange nodesetZeroWrong)

/-- 'bellhoplaw03.NodesetOrder': WHATEVER THE INPUT: true; the input reads as it did. -/
def nodesetOrderSpec : ChangeSpec := { name := "nodesetOrder", fn := fun _ => fun
  | [d1, d2, d3] => { results := [.lit (.bool true)], args := [d1, d2, d3] }
  | _ => none }
def nodesetOrderRow : OpenClaim := { program := "ytohpbjbbkpllaaa", sum := "e4f2ac38c26b1dbf81a0fe558e207c9a8a91d58d462f5ac73bdce916533c24a2", func := "bellhop/bellhoplaw03.NodesetOrder", spec := "nodesetOrder", inPlace := ["slices.overlaps[int]"], unfollowed := true, recurses := true, apart := false }
def NodesetOrderSaid : Prop := nodesetOrderRow.holds Try.pinned (OpenSpec.ofChange nodesetOrderSpec)

/-- ITS FALSE NEIGHBOUR: 'it returns false'. Refute it at one input. -/
def nodesetOrderWrong : ChangeSpec := { name := "nodesetOrder", fn := fun _ => fun
  | [d1, d2, d3] => { results := [.lit (.bool false)], args := [d1, d2, d3] }
  | _ => none }
def NodesetOrderWrongFalsely : Prop := nodesetOrderRow.holds Try.pinned (OpenSpec.ofChange nodesetOrderWrong)

/-- 'bellhoplaw04.ClockPlays': WHATEVER THE INPUT: true; the input reads as it did. -/
def clockPlaysSpec : ChangeSpec := { name := "clockPlays", fn := fun _ => fun
  | [d1, d2] => { results := [.lit (.bool true)], args := [d1, d2] }
  | _ => none }
def clockPlaysRow : OpenClaim := { program := "ytohpbjbbkpllaaa", sum := "e4f2ac38c26b1dbf81a0fe558e207c9a8a91d58d462f5ac73bdce916533c24a2", func := "bellhop/bellhoplaw04.ClockPlays", spec := "clockPlays", unfollowed := true, recurses := true, apart := false }
def ClockPlaysSaid : Prop := clockPlaysRow.holds Try.pinned (OpenSpec.ofChange clockPlaysSpec)

/-- ITS FALSE NEIGHBOUR: 'it returns false'. Refute it at one input. -/
def clockPlaysWrong : ChangeSpec := { name := "clockPlays", fn := fun _ => fun
  | [d1, d2] => { results := [.lit (.bool false)], args := [d1, d2] }
  | _ => none }
def ClockPlaysWrongFalsely : Prop := clockPlaysRow.holds Try.pinned (OpenSpec.ofChange clockPlaysWrong)

/-- 'bellhoplaw04.ClockSplits': WHATEVER THE INPUT: true; the input reads as it did. -/
def clockSplitsSpec : ChangeSpec := { name := "clockSplits", fn := fun _ => fun
  | [d1, d2, d3] => { results := [.lit (.bool true)], args := [d1, d2, d3] }
  | _ => none }
def clockSplitsRow : OpenClaim := { program := "ytohpbjbbkpllaaa", sum := "e4f2ac38c26b1dbf81a0fe558e207c9a8a91d58d462f5ac73bdce916533c24a2", func := "bellhop/bellhoplaw04.ClockSplits", spec := "clockSplits", unfollowed := true, recurses := true, apart := false }
def ClockSplitsSaid : Prop := clockSplitsRow.holds Try.pinned (OpenSpec.ofChange clockSplitsSpec)

/-- ITS FALSE NEIGHBOUR: 'it returns false'. Refute it at one input. -/
def clockSplitsWrong : ChangeSpec := { name := "clockSplits", fn := fun _ => fun
  | [d1, d2, d3] => { results := [.lit (.bool false)], args := [d1, d2, d3] }
  | _ => none }
def ClockSplitsWrongFalsely : Prop := clockSplitsRow.holds Try.pinned (OpenSpec.ofChange clockSplitsWrong)

/- THE SECOND FORM. 'bulk': how many values and letters a reading holds, each counted each time it is reached (what is shared counts as often as it is met; a slice's spare places count too). A statement '..UptoSaid' is the law's where the arguments, and the package variables that the reading takes, are together of bulk at most 1048576: NARROWER than '..Said'. Prove '..Said' where nothing that the law and all that it calls make is longer than what came in: it says more and counts as full. Else prove '..UptoSaid'. A law counts once. -/
mutual
def uptoBulk {H : Type} : DataW H → Nat
  | .lit (.string bytes) => bytes.length + 1
  | .lit _ => 1
  | .nil => 1
  | .ptr d => uptoBulk d + 1
  | .slice elems spare => uptoBulkAll elems + uptoBulkAll spare + 1
  | .agg parts => uptoBulkAll parts + 1
  | .iface _ d => uptoBulk d + 1
  | .map entries => uptoBulkEntries entries + 1
  | .held _ => 1
def uptoBulkAll {H : Type} : List (DataW H) → Nat
  | [] => 0
  | d :: r => uptoBulk d + uptoBulkAll r
def uptoBulkEntries {H : Type} : List (Lit × DataW H) → Nat
  | [] => 0
  | x :: r => uptoBulkEntry x + uptoBulkEntries r
def uptoBulkEntry {H : Type} : Lit × DataW H → Nat
  | (.string bytes, d) => bytes.length + uptoBulk d + 1
  | (_, d) => uptoBulk d + 1
 end
def uptoSmall : (H : Type) → List (DataW H) → Bool := fun _ ds => decide (uptoBulkAll ds ≤ 1048576)
def OpenSpec.upto (s : _root_.Go.ChangeSpec) : _root_.Go.OpenSpec := { _root_.Go.OpenSpec.ofChange s with cond := some uptoSmall }

/-- 'bellhoplaw03.NodesetPlays', WHERE WHAT IT READS IS OF BULK AT MOST 1048576: true; the input reads as it did. -/
def nodesetPlaysUptoRow : OpenClaim := { program := "ytohpbjbbkpllaaa", sum := "e4f2ac38c26b1dbf81a0fe558e207c9a8a91d58d462f5ac73bdce916533c24a2", func := "bellhop/bellhoplaw03.NodesetPlays", spec := "nodesetPlays", inPlace := ["slices.overlaps[int]"], unfollowed := true, recurses := true, apart := false, narrowed := true }
def NodesetPlaysUptoSaid : Prop := nodesetPlaysUptoRow.holds Try.pinned (OpenSpec.upto nodesetPlaysSpec)

/-- 'bellhoplaw03.NodesetZero', WHERE WHAT IT READS IS OF BULK AT MOST 1048576: true; the input reads as it did. -/
def nodesetZeroUptoRow : OpenClaim := { program := "ytohpbjbbkpllaaa", sum := "e4f2ac38c26b1dbf81a0fe558e207c9a8a91d58d462f5ac73bdce916533c24a2", func := "bellhop/bellhoplaw03.NodesetZero", spec := "nodesetZero", inPlace := ["slices.overlaps[int]"], unfollowed := true, recurses := true, apart := false, narrowed := true }
def NodesetZeroUptoSaid : Prop := nodesetZeroUptoRow.holds Try.pinned (OpenSpec.upto nodesetZeroSpec)

/-- 'bellhoplaw03.NodesetOrder', WHERE WHAT IT READS IS OF BULK AT MOST 1048576: true; the input reads as it did. -/
def nodesetOrderUptoRow : OpenClaim := { program := "ytohpbjbbkpllaaa", sum := "e4f2ac38c26b1dbf81a0fe558e207c9a8a91d58d462f5ac73bdce916533c24a2", func := "bellhop/bellhoplaw03.NodesetOrder", spec := "nodesetOrder", inPlace := ["slices.overlaps[int]"], unfollowed := true, recurses := true, apart := false, narrowed := true }
def NodesetOrderUptoSaid : Prop := nodesetOrderUptoRow.holds Try.pinned (OpenSpec.upto nodesetOrderSpec)

/-- 'bellhoplaw04.ClockPlays', WHERE WHAT IT READS IS OF BULK AT MOST 1048576: true; the input reads as it did. -/
def clockPlaysUptoRow : OpenClaim := { program := "ytohpbjbbkpllaaa", sum := "e4f2ac38c26b1dbf81a0fe558e207c9a8a91d58d462f5ac73bdce916533c24a2", func := "bellhop/bellhoplaw04.ClockPlays", spec := "clockPlays", unfollowed := true, recurses := true, apart := false, narrowed := true }
def ClockPlaysUptoSaid : Prop := clockPlaysUptoRow.holds Try.pinned (OpenSpec.upto clockPlaysSpec)

/-- 'bellhoplaw04.ClockSplits', WHERE WHAT IT READS IS OF BULK AT MOST 1048576: true; the input reads as it did. -/
def clockSplitsUptoRow : OpenClaim := { program := "ytohpbjbbkpllaaa", sum := "e4f2ac38c26b1dbf81a0fe558e207c9a8a91d58d462f5ac73bdce916533c24a2", func := "bellhop/bellhoplaw04.ClockSplits", spec := "clockSplits", unfollowed := true, recurses := true, apart := false, narrowed := true }
def ClockSplitsUptoSaid : Prop := clockSplitsUptoRow.holds Try.pinned (OpenSpec.upto clockSplitsSpec)

end Rows
end Go.Proofs.Ytohpbjbbkpllaaa
