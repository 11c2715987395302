/-
  Views as plain values: what each call makes of one, with the numbers that are left to draw.
-/
import Derived.Test.YtdhafagihfdolaaNodeMath
import Derived.Test.YtdhafagihfdolaaDrawI
set_option linter.unusedVariables false
set_option linter.unusedSimpArgs false
namespace Go.Proofs.Ytdhafagihfdolaa

structure VA where
  self : Int
  A : Nat
  P : Nat
  act : List Int
  pas : List Int
/-- One of some, by what is drawn. -/
def pick (l : List Int) (ds : List Int) : Int := l.getD (belowV ds l.length).toNat 0
def forgetV (v : VA) (n : Int) : VA := { v with pas := outL v.pas n }
def joinB (v : VA) (n : Int) : Bool := addB v.A v.act n && !decide (n = v.self)
def joinV (v : VA) (n : Int) : VA := if joinB v n = true then { v with act := addL v.A v.act n, pas := outL v.pas n } else v
/-- Know leaves it as it is. -/
def stays (v : VA) (n : Int) : Prop := n < 1 ∨ 65535 < n ∨ n = v.self ∨ n ∈ v.act ∨ n ∈ v.pas ∨ v.P = 0
instance (v : VA) (n : Int) : Decidable (stays v n) := by unfold stays; infer_instance
def knowV (v : VA) (n : Int) (ds : List Int) : VA × List Int :=
  if stays v n then (v, ds)
  else if v.pas.length < v.P then ({ v with pas := insL v.pas n }, ds)
  else ({ v with pas := insL (outL v.pas (pick v.pas ds)) n }, belowT ds v.pas.length)
def leaveV (v : VA) (n : Int) (keep : Bool) (ds : List Int) : VA × List Int :=
  if n ∈ v.act then (if keep = true then knowV { v with act := outL v.act n } n ds else ({ v with act := outL v.act n }, ds)) else (v, ds)
def evictV (v : VA) (ds : List Int) : VA × List Int :=
  if v.act = [] then (v, ds) else leaveV v (pick v.act ds) true (belowT ds v.act.length)
def evictN (v : VA) (ds : List Int) : Int := if v.act = [] then 0 else pick v.act ds
structure VA.Good (v : VA) : Prop where
  act : Proofs.Ytdhafagihfdolaa.Good v.A v.act
  pas : Proofs.Ytdhafagihfdolaa.Good v.P v.pas
/-- The rules of a view. -/
def VA.Sane (v : VA) : Prop := v.self ∉ v.act ∧ v.self ∉ v.pas ∧ ∀ x ∈ v.act, x ∉ v.pas
theorem pick_mem {l : List Int} (h : l ≠ []) (ds : List Int) : pick l ds ∈ l := by
  have h0 : 0 < l.length := List.length_pos_iff.2 h
  have := belowV_lt ds l.length h0
  unfold pick
  rw [List.getD_eq_getElem?_getD, List.getElem?_eq_getElem (by omega)]
  exact List.getElem_mem _
theorem addL_mem {m : Nat} {ns : List Int} {n x : Int} (h : x ∈ addL m ns n) : x = n ∨ x ∈ ns := by
  unfold addL at h
  split at h
  · exact (insL_mem _ _ _).1 h
  · exact Or.inr h
theorem forgetV_good {v : VA} (h : v.Good) (n : Int) : (forgetV v n).Good := ⟨h.act, h.pas.out n⟩
theorem joinV_good {v : VA} (h : v.Good) (n : Int) : (joinV v n).Good := by
  unfold joinV
  split
  · exact ⟨addL_good h.act n, h.pas.out n⟩
  · exact h
theorem knowV_good {v : VA} (h : v.Good) (n : Int) (ds : List Int) : (knowV v n ds).1.Good := by
  unfold knowV
  split
  · exact h
  · rename_i hs
    have hs' : ¬ n < 1 ∧ ¬ 65535 < n ∧ n ∉ v.pas ∧ v.P ≠ 0 := ⟨fun e => hs (Or.inl e), fun e => hs (Or.inr (Or.inl e)), fun e => hs (Or.inr (Or.inr (Or.inr (Or.inr (Or.inl e))))), fun e => hs (Or.inr (Or.inr (Or.inr (Or.inr (Or.inr e)))))⟩
    obtain ⟨h1, h2, h3, h4⟩ := hs'
    split
    · rename_i hr
      exact ⟨h.act, h.pas.ins ⟨by omega, by omega⟩ h3 hr⟩
    · rename_i hr
      have hne : v.pas ≠ [] := fun e => by rw [e] at hr; simp at hr; omega
      have hl := outL_length_mem h.pas.asc (pick_mem hne ds)
      exact ⟨h.act, (h.pas.out _).ins ⟨by omega, by omega⟩ (fun e => h3 ((outL_mem _ _ _).1 e).1) (by have := h.pas.le; omega)⟩
theorem leaveV_good {v : VA} (h : v.Good) (n : Int) (k : Bool) (ds : List Int) : (leaveV v n k ds).1.Good := by
  unfold leaveV
  split
  · split
    · exact knowV_good (v := { v with act := outL v.act n }) ⟨h.act.out n, h.pas⟩ n ds
    · exact ⟨h.act.out n, h.pas⟩
  · exact h
theorem evictV_good {v : VA} (h : v.Good) (ds : List Int) : (evictV v ds).1.Good := by
  unfold evictV
  split
  · exact h
  · exact leaveV_good h _ _ _
theorem forgetV_sane {v : VA} (h : v.Sane) (n : Int) : (forgetV v n).Sane := ⟨h.1, fun e => h.2.1 ((outL_mem _ _ _).1 e).1, fun x hx e => h.2.2 x hx ((outL_mem _ _ _).1 e).1⟩
theorem joinV_sane {v : VA} (h : v.Sane) (n : Int) : (joinV v n).Sane := by
  unfold joinV
  split
  · rename_i hj
    have hn : n ≠ v.self := by
      unfold joinB at hj
      simp at hj
      exact hj.2
    refine ⟨fun e => ?_, fun e => h.2.1 ((outL_mem _ _ _).1 e).1, fun x hx e => ?_⟩
    · rcases addL_mem e with e | e
      · exact hn e.symm
      · exact h.1 e
    · obtain ⟨e1, e2⟩ := (outL_mem _ _ _).1 e
      rcases addL_mem hx with e | e
      · exact e2 e
      · exact h.2.2 x e e1
  · exact h
theorem knowV_sane {v : VA} (h : v.Sane) (n : Int) (ds : List Int) : (knowV v n ds).1.Sane := by
  unfold knowV
  split
  · exact h
  · rename_i hs
    have hs' : n ≠ v.self ∧ n ∉ v.act := ⟨fun e => hs (Or.inr (Or.inr (Or.inl e))), fun e => hs (Or.inr (Or.inr (Or.inr (Or.inl e))))⟩
    split
    · refine ⟨h.1, fun e => ?_, fun x hx e => ?_⟩
      · rcases (insL_mem _ _ _).1 e with e | e
        · exact hs'.1 e.symm
        · exact h.2.1 e
      · rcases (insL_mem _ _ _).1 e with e | e
        · exact hs'.2 (e ▸ hx)
        · exact h.2.2 x hx e
    · refine ⟨h.1, fun e => ?_, fun x hx e => ?_⟩
      · rcases (insL_mem _ _ _).1 e with e | e
        · exact hs'.1 e.symm
        · exact h.2.1 ((outL_mem _ _ _).1 e).1
      · rcases (insL_mem _ _ _).1 e with e | e
        · exact hs'.2 (e ▸ hx)
        · exact h.2.2 x hx ((outL_mem _ _ _).1 e).1
theorem leaveV_sane {v : VA} (h : v.Sane) (n : Int) (k : Bool) (ds : List Int) : (leaveV v n k ds).1.Sane := by
  have h2 : VA.Sane { v with act := outL v.act n } := ⟨fun e => h.1 ((outL_mem _ _ _).1 e).1, h.2.1, fun x hx e => h.2.2 x ((outL_mem _ _ _).1 hx).1 e⟩
  unfold leaveV
  split
  · split
    · exact knowV_sane h2 n ds
    · exact h2
  · exact h
theorem evictV_sane {v : VA} (h : v.Sane) (ds : List Int) : (evictV v ds).1.Sane := by
  unfold evictV
  split
  · exact h
  · exact leaveV_sane h _ _ _
end Go.Proofs.Ytdhafagihfdolaa
