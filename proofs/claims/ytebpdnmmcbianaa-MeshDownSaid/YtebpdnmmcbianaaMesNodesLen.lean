/-
  How many nodes Nodes tells.
-/
import Derived.Test.YtebpdnmmcbianaaMesNodes
import Derived.Test.YtebpdnmmcbianaaMeshDownCore
set_option linter.unusedVariables false
namespace Go.Proofs.Ytebpdnmmcbianaa
open Go.RowKit Go.Maps Go.Sort

theorem nodesLen : NodesLen := fun M B N lv it w h hl => by
  refine (nodesA M B N lv it w h hl).mono ?_
  rintro e w9 ⟨v, ss, rfl, hp, hrow, hnil, hn⟩
  rw [← hp.length_eq]
  rcases hrow.2 with ⟨rfl, hz⟩ | ⟨g', cap', cur, rfl, _⟩
  · exact ⟨none, 0, by rw [hz], hn⟩
  · exact ⟨_, _, rfl, hn⟩
end Go.Proofs.Ytebpdnmmcbianaa
