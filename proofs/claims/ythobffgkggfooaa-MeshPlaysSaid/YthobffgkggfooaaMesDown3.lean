/-
  Package mesh: Down of a node that is not live.
-/
import Derived.Test.YthobffgkggfooaaMesDown2
set_option linter.unusedVariables false
set_option linter.unusedSimpArgs false
set_option maxRecDepth 100000
namespace Go.Proofs.Ythobffgkggfooaa
open Go.RowKit Go.Maps

set_option maxHeartbeats 400000 in
theorem down_none (M B N : Nat) (lv : List Int) (it : Ways) (n : Int) (w : World) (h : MeshA w M B N lv it) (hn : I64 n) (hl : n ∉ lv) :
    Calls Try.prog 40 #[.pointer (some ⟨M, 0, none⟩), .int .i64 n] w fun e w' => e = .returned (.tuple #[]) ∧ New w w' := by
  have hn1 : New w (w.alloc (.cells #[.int .i64 n] 3)) := (New.refl w).alloc _
  have HLI := Lib.hid (liveA M B N lv it n _ (h.new hn1) hn)
  rw [decn_ hl] at HLI
  have HN1 := Lib.hid hn1
  clear h hn1 hl
  go_enter Try.func40, Try.ntmps40
  go_wp2_with fail
  refine HLI.out.mono ?_
  rintro e w2 ⟨rfl, hn2⟩
  go_wp2_with fail
  refine bodyPost_ret (v := .tuple #[]) (by simp [results, Try.results40, go_sem]) rfl ?_
  exact ⟨rfl, HN1.out.then hn2⟩
theorem downA (M B N : Nat) (lv : List Int) (it : Ways) (n : Int) (w : World) (h : MeshA w M B N lv it) (hn : I64 n) (hN : N + lv.length < 900000) :
    Calls Try.prog 40 #[.pointer (some ⟨M, 0, none⟩), .int .i64 n] w fun e w' => e = .returned (.tuple #[]) ∧ MeshA w' M B (N + lv.length) (downL lv n) (if n ∈ lv then downI lv it n else it) ∧ MT B w w' := by
  by_cases hl : n ∈ lv
  · rw [if_pos hl]
    exact down_live M B N lv it n w h hn hl hN
  · rw [if_neg hl]
    refine (down_none M B N lv it n w h hn hl).mono ?_
    rintro e w' ⟨rfl, hw⟩
    have e1 : downL lv n = lv := List.filter_eq_self.2 fun m hm => decide_eq_true fun e => hl (e ▸ hm)
    rw [e1]
    exact ⟨rfl, (h.new hw).more (by omega), MT.of_new hw⟩
end Go.Proofs.Ythobffgkggfooaa
