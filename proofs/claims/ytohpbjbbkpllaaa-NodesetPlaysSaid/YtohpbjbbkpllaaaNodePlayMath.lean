/-
  Plain facts: a list without repetition beside the ascending list of the same numbers. They speak of no program.
-/
import Derived.Test.YtohpbjbbkpllaaaNodeMath
set_option linter.unusedVariables false
namespace Go.Proofs.Ytohpbjbbkpllaaa

structure Twin (ms ns : List Int) : Prop where
  nodup : ms.Nodup
  mem : ∀ x, x ∈ ms ↔ x ∈ ns
theorem Twin.len {ms ns : List Int} (h : Twin ms ns) (hn : Asc ns) : ms.length = ns.length :=
  ((List.perm_ext_iff_of_nodup h.nodup hn.nodup).2 h.mem).length_eq
theorem Twin.contains {ms ns : List Int} (h : Twin ms ns) (n : Int) : ms.contains n = ns.contains n := by
  rw [Bool.eq_iff_iff, List.contains_iff_mem, List.contains_iff_mem]
  exact h.mem n
theorem Twin.sorted {ms ns L : List Int} (h : Twin ms ns) (hn : Asc ns) (hp : L.Perm ms) (hs : L.Pairwise (· ≤ ·)) : L = ns := by
  have hd : L.Nodup := hp.nodup_iff.2 h.nodup
  have ha : Asc L := (hs.and hd).imp fun ⟨h1, h2⟩ => by omega
  exact ha.eq hn fun x => (hp.mem_iff).trans (h.mem x)
theorem Twin.nil : Twin [] [] := ⟨List.nodup_nil, fun _ => Iff.rfl⟩
theorem Twin.add {ms ns : List Int} (h : Twin ms ns) {n : Int} (hn : n ∉ ns) : Twin (ms ++ [n]) (insL ns n) := by
  refine ⟨?_, fun x => ?_⟩
  · rw [List.nodup_append]
    refine ⟨h.nodup, by simp, fun a ha b hb => ?_⟩
    rw [List.mem_singleton] at hb
    subst hb
    exact fun e => hn (e ▸ (h.mem a).1 ha)
  · rw [insL_mem, List.mem_append, List.mem_singleton, h.mem]
    exact or_comm
theorem Twin.out {ms ns : List Int} (h : Twin ms ns) (n : Int) : Twin (outL ms n) (outL ns n) :=
  ⟨h.nodup.filter _, fun x => by rw [outL_mem, outL_mem, h.mem]⟩
/-- Neither n nor 5. -/
def but5 (ms : List Int) (n : Int) : List Int := ms.filter fun x => x != n && x != 5
theorem Twin.but {ms ns : List Int} (h : Twin ms ns) (n : Int) : Twin (but5 ms n) (ns.filter fun x => !([n, 5] : List Int).contains x) := by
  refine ⟨h.nodup.filter _, fun x => ?_⟩
  simp only [but5, List.mem_filter, h.mem]
  refine and_congr_right fun _ => ?_
  by_cases h1 : x = n <;> by_cases h2 : x = 5 <;> simp [h1, h2]
theorem asc_but {ns : List Int} (h : Asc ns) (l : List Int) : Asc (ns.filter fun x => !l.contains x) := List.Pairwise.filter _ h
theorem but5_length (ms : List Int) (n : Int) : (but5 ms n).length ≤ ms.length := List.length_filter_le _ _
theorem outL_take (ms : List Int) (n : Int) (k : Nat) (h : k < ms.length) : outL (ms.take (k + 1)) n = if ms.getD k 0 = n then outL (ms.take k) n else outL (ms.take k) n ++ [ms.getD k 0] := by
  rw [List.take_succ_eq_append_getElem h]
  simp only [outL, List.filter_append]
  have e : ms.getD k 0 = ms[k] := by simp [List.getD, h]
  rw [e]
  by_cases hn : ms[k] = n <;> simp [hn]
theorem but5_take (ms : List Int) (n : Int) (k : Nat) (h : k < ms.length) : but5 (ms.take (k + 1)) n = if ms.getD k 0 = n ∨ ms.getD k 0 = 5 then but5 (ms.take k) n else but5 (ms.take k) n ++ [ms.getD k 0] := by
  rw [List.take_succ_eq_append_getElem h]
  simp only [but5, List.filter_append]
  have e : ms.getD k 0 = ms[k] := by simp [List.getD, h]
  rw [e]
  by_cases h1 : ms[k] = n <;> by_cases h2 : ms[k] = 5 <;> simp [h1, h2]
/-- The reference's list behind an Add. -/
def addM (most : Nat) (ms ns : List Int) (n : Int) : List Int := if n ∉ ns ∧ (1 ≤ n ∧ n ≤ 65535) ∧ ns.length < most then ms ++ [n] else ms
theorem Twin.addM {most : Nat} {ms ns : List Int} (h : Twin ms ns) (n : Int) : Twin (addM most ms ns n) (addL most ns n) := by
  unfold Go.Proofs.Ytohpbjbbkpllaaa.addM addL
  split
  · rename_i h'; exact h.add h'.1
  · exact h
end Go.Proofs.Ytohpbjbbkpllaaa
