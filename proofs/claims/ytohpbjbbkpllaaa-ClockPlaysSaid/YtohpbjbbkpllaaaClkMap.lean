/-
  A map of timers, told by the list of its timers; how the map's operations turn that list.
-/
import Derived.Test.YtohpbjbbkpllaaaMem
import Derived.Test.YtohpbjbbkpllaaaProg
import Derived.Maps.OwnSet
import Derived.Maps.RangeWalk
import Derived.Maps.Ext
import Derived.Maps.Keyed
set_option linter.unusedVariables false
set_option linter.unusedSimpArgs false
namespace Go.Proofs.Ytohpbjbbkpllaaa
open Go.RowKit Go.Maps

/-- A timer: its key, its tick, its turn. -/
structure Tm where
  name : ByteArray
  tick : Int
  turn : Int
def Tm.val (t : Tm) : Value := .agg #[.string t.name, .int .i64 t.tick, .int .i64 t.turn]
def Tm.dat (t : Tm) : DataW Unit := .agg [.lit (.string t.name.data.toList), .lit (.int .i64 t.tick), .lit (.int .i64 t.turn)]
def keyL (s : ByteArray) : Lit := .string s.data.toList
theorem bytes_eq {s t : ByteArray} (h : s.data.toList = t.data.toList) : s = t := by
  cases s; cases t
  congr
  exact Array.toList_inj.1 h
theorem keyL_inj {s t : ByteArray} : keyL s = keyL t ↔ s = t := ⟨fun h => bytes_eq (by injection h), fun h => by rw [h]⟩

/-- How a timer in the map reads. -/
def timerR (v : Value) : Option (DataW Unit × List MemPlace) :=
  match v with
  | .agg cs => match cs.toList with
    | [.string s, .int .i64 a, .int .i64 b] => some (Tm.dat ⟨s, a, b⟩, [])
    | _ => none
  | _ => none
theorem timerR_val (t : Tm) : timerR t.val = some (t.dat, []) := rfl
theorem timerR_inv {v : Value} {d : DataW Unit} {ps : List MemPlace} (h : timerR v = some (d, ps)) : ∃ t : Tm, v = t.val ∧ d = t.dat := by
  unfold timerR at h
  split at h
  · rename_i cs
    split at h
    · rename_i s a b e
      injection h with h
      injection h with h1 h2
      refine ⟨⟨s, a, b⟩, ?_, h1.symm⟩
      show Value.agg cs = Value.agg #[_, _, _]
      congr 1
      exact Array.toList_inj.1 e
    · cases h
  · cases h
theorem dat_inj {t u : Tm} (h : t.dat = u.dat) : t = u := by
  unfold Tm.dat at h
  injection h with h
  injection h with h1 h
  injection h with h2 h
  injection h with h3 h
  injection h1 with h1
  injection h1 with h1
  injection h2 with h2
  injection h2 with _ h2
  injection h3 with h3
  injection h3 with _ h3
  cases t; cases u
  simp only at h1 h2 h3
  rw [bytes_eq h1, h2, h3]

/-- No two timers of one key. -/
def Apart (es : List Tm) : Prop := es.Pairwise fun x y => x.name ≠ y.name
/-- The datum D reads as the timers es. -/
structure Rd (D : DataW Unit) (es : List Tm) : Prop where
  apart : Apart es
  has : ∀ s : ByteArray, Maps.has D (keyL s) = decide (∃ t ∈ es, t.name = s)
  at_ : ∀ t ∈ es, ∀ z, D.atKey (keyL t.name) z = t.dat
  none_ : ∀ s : ByteArray, (¬ ∃ t ∈ es, t.name = s) → ∀ z, D.atKey (keyL s) z = z
  size : Maps.size D = es.length
theorem Rd.nil : Rd (.map []) [] := ⟨List.Pairwise.nil, fun s => by simp [Maps.has], by simp, fun s _ z => Maps.atKey_of_not_has (by simp [Maps.has]) z, rfl⟩
theorem keyL_key (s : ByteArray) : WideAt.IsKeyLit (keyL s) := by
  unfold keyL
  first | exact trivial | exact .inl ⟨_, rfl⟩ | exact ⟨_, rfl⟩ | simp [WideAt.IsKeyLit]
/-- The list without a key. -/
def dropK (es : List Tm) (s : ByteArray) : List Tm := es.filter fun t => decide (t.name ≠ s)
theorem dropK_mem {es : List Tm} {s : ByteArray} {t : Tm} : t ∈ dropK es s ↔ t ∈ es ∧ t.name ≠ s := by simp [dropK]
theorem dropK_apart {es : List Tm} (h : Apart es) (s : ByteArray) : Apart (dropK es s) := List.Pairwise.filter _ h
theorem dropK_length {es : List Tm} (h : Apart es) (s : ByteArray) : (dropK es s).length + (if ∃ t ∈ es, t.name = s then 1 else 0) = es.length := by
  induction es with
  | nil => simp [dropK]
  | cons x l ih =>
    obtain ⟨h1, h2⟩ := List.pairwise_cons.1 h
    have := ih h2
    by_cases hx : x.name = s
    · have e : dropK (x :: l) s = dropK l s := by simp [dropK, hx]
      have hn : ¬ ∃ t ∈ l, t.name = s := by
        rintro ⟨t, ht, e⟩
        exact h1 t ht (hx.trans e.symm)
      rw [if_neg hn] at this
      rw [e, if_pos ⟨x, by simp, hx⟩, List.length_cons]
      omega
    · have e : dropK (x :: l) s = x :: dropK l s := by simp [dropK, hx]
      rw [e, List.length_cons, List.length_cons]
      by_cases hl : ∃ t ∈ l, t.name = s
      · rw [if_pos hl] at this
        obtain ⟨t, ht, e⟩ := hl
        rw [if_pos ⟨t, List.mem_cons_of_mem _ ht, e⟩]
        omega
      · rw [if_neg hl] at this
        rw [if_neg (by rintro ⟨t, ht, e2⟩; rcases List.mem_cons.1 ht with rfl | h3; exact hx e2; exact hl ⟨t, h3, e2⟩)]
        omega
theorem Rd.del {D : DataW Unit} {es : List Tm} (h : Rd D es) (hD : Maps.Tidy D) (s : ByteArray) : Rd (D.del (keyL s)) (dropK es s) := by
  refine ⟨dropK_apart h.apart s, fun u => ?_, fun t ht z => ?_, fun u hu z => ?_, ?_⟩
  · by_cases e : u = s
    · subst e
      rw [Maps.has_del_same]
      symm
      simp [dropK_mem]
    · rw [Maps.has_del_other (fun h => e (keyL_inj.1 h)), h.has]
      congr 1
      apply propext
      constructor
      · rintro ⟨t, ht, e'⟩; exact ⟨t, dropK_mem.2 ⟨ht, by rw [e']; exact e⟩, e'⟩
      · rintro ⟨t, ht, e'⟩; exact ⟨t, (dropK_mem.1 ht).1, e'⟩
  · obtain ⟨h1, h2⟩ := dropK_mem.1 ht
    rw [Maps.atKey_del_other (fun h => h2 (keyL_inj.1 h))]
    exact h.at_ t h1 z
  · by_cases e : u = s
    · subst e; exact Maps.atKey_del_same z
    · rw [Maps.atKey_del_other (fun h => e (keyL_inj.1 h))]
      exact h.none_ u (fun ⟨t, ht, e'⟩ => hu ⟨t, dropK_mem.2 ⟨ht, by rw [e']; exact e⟩, e'⟩) z
  · have h1 := Maps.size_del (k := keyL s) hD
    have h2 := dropK_length h.apart s
    rw [h.has, h.size] at h1
    by_cases e : ∃ t ∈ es, t.name = s
    · simp only [e, decide_true, if_true] at h1 h2; omega
    · simp only [e, decide_false, if_false, Bool.false_eq_true] at h1 h2; omega
theorem Rd.put {D : DataW Unit} {es : List Tm} (h : Rd D es) (hD : Maps.Tidy D) (t : Tm) : Rd (D.put (keyL t.name) t.dat) (dropK es t.name ++ [t]) := by
  refine ⟨?_, fun u => ?_, fun x hx z => ?_, fun u hu z => ?_, ?_⟩
  · refine List.pairwise_append.2 ⟨dropK_apart h.apart _, by simp, fun a ha b hb => ?_⟩
    rw [List.mem_singleton] at hb
    subst hb
    exact (dropK_mem.1 ha).2
  · by_cases e : u = t.name
    · subst e
      rw [Maps.has_put_same hD.isMap (keyL_key _)]
      symm
      exact decide_eq_true ⟨t, by simp, rfl⟩
    · rw [Maps.has_put_other (fun h => e (keyL_inj.1 h)), h.has]
      congr 1
      apply propext
      constructor
      · rintro ⟨x, hx, e'⟩; exact ⟨x, List.mem_append.2 (.inl (dropK_mem.2 ⟨hx, by rw [e']; exact e⟩)), e'⟩
      · rintro ⟨x, hx, e'⟩
        rcases List.mem_append.1 hx with h' | h'
        · exact ⟨x, (dropK_mem.1 h').1, e'⟩
        · rw [List.mem_singleton] at h'; subst h'; exact absurd e'.symm e
  · rcases List.mem_append.1 hx with h' | h'
    · obtain ⟨h1, h2⟩ := dropK_mem.1 h'
      rw [Maps.atKey_put_other (fun h => h2 (keyL_inj.1 h))]
      exact h.at_ x h1 z
    · rw [List.mem_singleton] at h'
      subst h'
      exact Maps.atKey_put_same hD.isMap (keyL_key _) _ z
  · have e : u ≠ t.name := fun e => hu ⟨t, by simp, e.symm⟩
    rw [Maps.atKey_put_other (fun h => e (keyL_inj.1 h))]
    exact h.none_ u (fun ⟨x, hx, e'⟩ => hu ⟨x, List.mem_append.2 (.inl (dropK_mem.2 ⟨hx, by rw [e']; exact e⟩)), e'⟩) z
  · rw [Maps.size_put hD, h.has, h.size, List.length_append]
    have h2 := dropK_length h.apart t.name
    by_cases e : ∃ x ∈ es, x.name = t.name
    · simp only [e, decide_true, if_true] at h2 ⊢; simp; omega
    · simp only [e, decide_false, if_false, Bool.false_eq_true] at h2 ⊢; simp; omega
end Go.Proofs.Ytohpbjbbkpllaaa
