/-
  What an eviction makes of a view, as plain values.
-/
import Derived.Test.YtdhafagihfdolaaViwMath
set_option linter.unusedVariables false
set_option linter.unusedSimpArgs false
namespace Go.Proofs.Ytdhafagihfdolaa

theorem knowV_fit {v : VA} (h : v.Good) {n : Int} (ds : List Int) (hn : 1 ≤ n ∧ n ≤ 65535) (h1 : n ≠ v.self) (h2 : n ∉ v.act) (h3 : n ∉ v.pas) :
    (knowV v n ds).1.self = v.self ∧ (knowV v n ds).1.A = v.A ∧ (knowV v n ds).1.P = v.P ∧ (knowV v n ds).1.act = v.act ∧ (knowV v n ds).1.pas.length = min (v.pas.length + 1) v.P ∧ (n ∈ (knowV v n ds).1.pas ↔ 0 < v.P) := by
  have hle := h.pas.le
  unfold knowV
  by_cases hP : v.P = 0
  · rw [if_pos (show stays v n from .inr (.inr (.inr (.inr (.inr hP)))))]
    exact ⟨rfl, rfl, rfl, rfl, by simp only; omega, fun e => absurd e h3, fun e => by omega⟩
  · have hs : ¬ stays v n := by
      rintro (e | e | e | e | e | e)
      · omega
      · omega
      · exact h1 e
      · exact h2 e
      · exact h3 e
      · exact hP e
    rw [if_neg hs]
    split
    · rename_i hr
      refine ⟨rfl, rfl, rfl, rfl, ?_, fun _ => by omega, fun _ => (insL_mem _ _ _).2 (.inl rfl)⟩
      simp only [insL_length]
      omega
    · rename_i hr
      have hne : v.pas ≠ [] := fun e => by rw [e] at hr; simp at hr; omega
      have hl := outL_length_mem h.pas.asc (pick_mem hne ds)
      refine ⟨rfl, rfl, rfl, rfl, ?_, fun _ => by omega, fun _ => (insL_mem _ _ _).2 (.inl rfl)⟩
      simp only [insL_length]
      omega
/-- An eviction of a view that has active nodes. -/
structure Evi (x y : VA) (n : Int) : Prop where
  self : y.self = x.self
  A : y.A = x.A
  P : y.P = x.P
  was : n ∈ x.act
  gone : n ∉ y.act
  held : n ∈ y.pas ↔ 0 < x.P
  sane : y.Sane
  fewer : y.act.length + 1 = x.act.length
  more : y.pas.length = min (x.pas.length + 1) x.P
theorem evictV_evi {x : VA} (h : x.Good) (hs : x.Sane) (h0 : x.act ≠ []) (ds : List Int) : Evi x (evictV x ds).1 (evictN x ds) := by
  have hsn := evictV_sane hs ds
  have hm := pick_mem h0 ds
  have e1 : evictN x ds = pick x.act ds := by unfold evictN; rw [if_neg h0]
  have e2 : (evictV x ds).1 = (knowV { x with act := outL x.act (pick x.act ds) } (pick x.act ds) (belowT ds x.act.length)).1 := by
    unfold evictV leaveV
    rw [if_neg h0, if_pos hm, if_pos rfl]
  rw [e1]
  rw [e2] at hsn ⊢
  generalize pick x.act ds = n at hm hsn ⊢
  have hnd := h.act.node n hm
  have hne : n ≠ x.self := fun e => hs.1 (e ▸ hm)
  obtain ⟨k1, k2, k3, k4, k5, k6⟩ := knowV_fit (v := { x with act := outL x.act n }) ⟨h.act.out n, h.pas⟩ (belowT ds x.act.length) hnd hne (fun e => ((outL_mem _ _ _).1 e).2 rfl) (hs.2.2 n hm)
  have hl := outL_length_mem h.act.asc hm
  exact ⟨k1, k2, k3, hm, fun e => by rw [k4] at e; exact ((outL_mem _ _ _).1 e).2 rfl, k6, hsn, by rw [k4]; exact hl, k5⟩
end Go.Proofs.Ytdhafagihfdolaa
