/-
  A map of one's own told by the list of its entries, keys and elements of any type; how the map's operations turn that list. It speaks of no program.
-/
import Derived.Test.YthobffgkggfooaaMem
import Derived.Maps.OwnSet
import Derived.Maps.RangeWalk
import Derived.Maps.Ext
import Derived.Maps.Keyed
set_option linter.unusedVariables false
set_option linter.unusedSimpArgs false
namespace Go.Proofs.Ythobffgkggfooaa
open Go.RowKit Go.Maps

/-- How keys and elements stand in the map. -/
structure MapS (κ ν : Type) where
  kv : κ → Value
  kl : κ → Lit
  Ok : κ → Prop
  ev : ν → Value
  dv : ν → DataW Unit
  R : Value → Option (DataW Unit × List MemPlace)
structure MapS.Good {κ ν : Type} (S : MapS κ ν) (P : Program) (T : TypeId) : Prop where
  keyed : Keyed P T
  of_ : ∀ k, S.Ok k → keyOf P T (S.kv k) = some (S.kl k)
  kinj : ∀ a b, S.kv a = S.kv b → a = b
  read : ∀ x, S.R (S.ev x) = some (S.dv x, [])
  inv : ∀ v d ps, S.R v = some (d, ps) → ∃ x, v = S.ev x ∧ d = S.dv x
  dinj : ∀ a b, S.dv a = S.dv b → a = b
section
variable {κ ν : Type} {S : MapS κ ν} {P : Program} {T : TypeId}
theorem MapS.Good.lit (G : S.Good P T) {k : κ} (h : S.Ok k) : WideAt.IsKeyLit (S.kl k) := G.keyed.key (G.of_ k h)
theorem MapS.Good.kl_inj (G : S.Good P T) {a b : κ} (ha : S.Ok a) (hb : S.Ok b) : S.kl a = S.kl b ↔ a = b := by
  refine ⟨fun h => ?_, fun h => by rw [h]⟩
  have h1 := G.of_ a ha
  have h2 := G.of_ b hb
  rw [← h] at h2
  exact G.kinj a b (G.keyed.inj h1 h2)
variable [DecidableEq κ]
/-- The datum D reads as the entries es. -/
structure RdG (S : MapS κ ν) (D : DataW Unit) (es : List (κ × ν)) : Prop where
  apart : es.Pairwise fun x y => x.1 ≠ y.1
  ok : ∀ x ∈ es, S.Ok x.1
  has : ∀ s, S.Ok s → Maps.has D (S.kl s) = decide (∃ t ∈ es, t.1 = s)
  at_ : ∀ t ∈ es, ∀ z, D.atKey (S.kl t.1) z = S.dv t.2
  none_ : ∀ s, S.Ok s → (¬ ∃ t ∈ es, t.1 = s) → ∀ z, D.atKey (S.kl s) z = z
  size : Maps.size D = es.length
theorem RdG.nil : RdG S (.map []) [] := ⟨List.Pairwise.nil, by simp, fun s _ => by simp [Maps.has], by simp, fun s _ _ z => Maps.atKey_of_not_has (by simp [Maps.has]) z, rfl⟩
/-- The list without a key. -/
def dropG (es : List (κ × ν)) (s : κ) : List (κ × ν) := es.filter fun t => decide (t.1 ≠ s)
theorem dropG_mem {es : List (κ × ν)} {s : κ} {t : κ × ν} : t ∈ dropG es s ↔ t ∈ es ∧ t.1 ≠ s := by simp [dropG]
theorem dropG_none {es : List (κ × ν)} {s : κ} (h : ¬ ∃ t ∈ es, t.1 = s) : dropG es s = es := List.filter_eq_self.2 fun t ht => decide_eq_true fun e => h ⟨t, ht, e⟩
theorem dropG_length {es : List (κ × ν)} (h : es.Pairwise fun x y => x.1 ≠ y.1) (s : κ) : (dropG es s).length + (if ∃ t ∈ es, t.1 = s then 1 else 0) = es.length := by
  induction es with
  | nil => simp [dropG]
  | cons x l ih =>
    obtain ⟨h1, h2⟩ := List.pairwise_cons.1 h
    have := ih h2
    by_cases hx : x.1 = s
    · have hn : ¬ ∃ t ∈ l, t.1 = s := by
        rintro ⟨t, ht, e⟩
        exact h1 t ht (hx.trans e.symm)
      have e : dropG (x :: l) s = dropG l s := by simp [dropG, hx]
      rw [if_neg hn] at this
      rw [e, if_pos ⟨x, by simp, hx⟩, List.length_cons]
      omega
    · have e : dropG (x :: l) s = x :: dropG l s := by simp [dropG, hx]
      rw [e, List.length_cons, List.length_cons]
      by_cases hl : ∃ t ∈ l, t.1 = s
      · rw [if_pos hl] at this
        obtain ⟨t, ht, e⟩ := hl
        rw [if_pos ⟨t, List.mem_cons_of_mem _ ht, e⟩]
        omega
      · rw [if_neg hl] at this
        rw [if_neg (by rintro ⟨t, ht, e2⟩; rcases List.mem_cons.1 ht with rfl | h3; exact hx e2; exact hl ⟨t, h3, e2⟩)]
        omega
theorem RdG.del (G : S.Good P T) {D : DataW Unit} {es : List (κ × ν)} (h : RdG S D es) (hD : Maps.Tidy D) {s : κ} (hs : S.Ok s) : RdG S (D.del (S.kl s)) (dropG es s) := by
  refine ⟨List.Pairwise.filter _ h.apart, fun x hx => h.ok x (dropG_mem.1 hx).1, fun u hu => ?_, fun t ht z => ?_, fun u hu hn z => ?_, ?_⟩
  · by_cases e : u = s
    · subst e
      rw [Maps.has_del_same]
      symm
      rw [decide_eq_false_iff_not]
      rintro ⟨t, ht, e⟩
      exact (dropG_mem.1 ht).2 e
    · rw [Maps.has_del_other (fun h => e ((G.kl_inj hu hs).1 h)), h.has u hu]
      congr 1
      apply propext
      constructor
      · rintro ⟨t, ht, e'⟩; exact ⟨t, dropG_mem.2 ⟨ht, by rw [e']; exact e⟩, e'⟩
      · rintro ⟨t, ht, e'⟩; exact ⟨t, (dropG_mem.1 ht).1, e'⟩
  · obtain ⟨h1, h2⟩ := dropG_mem.1 ht
    rw [Maps.atKey_del_other (fun e => h2 ((G.kl_inj (h.ok t h1) hs).1 e))]
    exact h.at_ t h1 z
  · by_cases e : u = s
    · subst e; exact Maps.atKey_del_same z
    · rw [Maps.atKey_del_other (fun h => e ((G.kl_inj hu hs).1 h))]
      exact h.none_ u hu (fun ⟨t, ht, e'⟩ => hn ⟨t, dropG_mem.2 ⟨ht, by rw [e']; exact e⟩, e'⟩) z
  · have h1 := Maps.size_del (k := S.kl s) hD
    have h2 := dropG_length h.apart s
    rw [h.has s hs, h.size] at h1
    by_cases e : ∃ t ∈ es, t.1 = s
    · simp only [e, decide_true, if_true] at h1 h2; omega
    · simp only [e, decide_false, if_false, Bool.false_eq_true] at h1 h2; omega
theorem RdG.put (G : S.Good P T) {D : DataW Unit} {es : List (κ × ν)} (h : RdG S D es) (hD : Maps.Tidy D) {s : κ} (hs : S.Ok s) (x : ν) : RdG S (D.put (S.kl s) (S.dv x)) (dropG es s ++ [(s, x)]) := by
  refine ⟨?_, fun y hy => ?_, fun u hu => ?_, fun y hy z => ?_, fun u hu hn z => ?_, ?_⟩
  · refine List.pairwise_append.2 ⟨List.Pairwise.filter _ h.apart, by simp, fun a ha b hb => ?_⟩
    rw [List.mem_singleton] at hb
    subst hb
    exact (dropG_mem.1 ha).2
  · rcases List.mem_append.1 hy with h' | h'
    · exact h.ok y (dropG_mem.1 h').1
    · rw [List.mem_singleton] at h'; subst h'; exact hs
  · by_cases e : u = s
    · subst e
      rw [Maps.has_put_same hD.isMap (G.lit hu)]
      symm
      exact decide_eq_true ⟨(u, x), by simp, rfl⟩
    · rw [Maps.has_put_other (fun h => e ((G.kl_inj hu hs).1 h)), h.has u hu]
      congr 1
      apply propext
      constructor
      · rintro ⟨y, hy, e'⟩; exact ⟨y, List.mem_append.2 (.inl (dropG_mem.2 ⟨hy, by rw [e']; exact e⟩)), e'⟩
      · rintro ⟨y, hy, e'⟩
        rcases List.mem_append.1 hy with h' | h'
        · exact ⟨y, (dropG_mem.1 h').1, e'⟩
        · rw [List.mem_singleton] at h'; subst h'; exact absurd e'.symm e
  · rcases List.mem_append.1 hy with h' | h'
    · obtain ⟨h1, h2⟩ := dropG_mem.1 h'
      rw [Maps.atKey_put_other (fun e => h2 ((G.kl_inj (h.ok y h1) hs).1 e))]
      exact h.at_ y h1 z
    · rw [List.mem_singleton] at h'
      subst h'
      exact Maps.atKey_put_same hD.isMap (G.lit hs) _ z
  · have e : u ≠ s := fun e => hn ⟨(s, x), by simp, e.symm⟩
    rw [Maps.atKey_put_other (fun h => e ((G.kl_inj hu hs).1 h))]
    exact h.none_ u hu (fun ⟨y, hy, e'⟩ => hn ⟨y, List.mem_append.2 (.inl (dropG_mem.2 ⟨hy, by rw [e']; exact e⟩)), e'⟩) z
  · rw [Maps.size_put hD, h.has s hs, h.size, List.length_append]
    have h2 := dropG_length h.apart s
    by_cases e : ∃ y ∈ es, y.1 = s
    · simp only [e, decide_true, if_true] at h2 ⊢; simp; omega
    · simp only [e, decide_false, if_false, Bool.false_eq_true] at h2 ⊢; simp; omega

/-- Block b is the map of the entries es. -/
def MapG (S : MapS κ ν) (P : Program) (T : TypeId) (w : World) (b n : Nat) (es : List (κ × ν)) : Prop := ∃ D, w.ownsMap P T S.R b n D ∧ RdG S D es
theorem MapG.lt {w : World} {b n : Nat} {es : List (κ × ν)} (h : MapG S P T w b n es) : b < w.heap.size := by obtain ⟨D, h, _⟩ := h; exact h.lt
theorem MapG.same {w w' : World} {b n : Nat} {es : List (κ × ν)} (h : MapG S P T w b n es) (hk : w'.heap[b]? = w.heap[b]?) : MapG S P T w' b n es := by
  obtain ⟨D, ⟨es', clock, hb, r⟩, hr⟩ := h
  exact ⟨D, ⟨es', clock, hk.trans hb, r⟩, hr⟩
theorem MapG.tch {w w' : World} {b n : Nat} {es : List (κ × ν)} {Q : Nat → Prop} (h : MapG S P T w b n es) (ht : Tch Q w w') (hq : ¬ Q b) : MapG S P T w' b n es := h.same (ht.block b h.lt hq)
theorem MapG.more {w : World} {b n m : Nat} {es : List (κ × ν)} (h : MapG S P T w b n es) (hm : n ≤ m) : MapG S P T w b m es := by
  obtain ⟨D, h, r⟩ := h
  exact ⟨D, h.mono hm, r⟩
theorem MapG.made (w : World) : MapG S P T (w.alloc (.map #[] 0)) w.heap.size 0 [] := ⟨_, World.ownsMap_made _ _ _ _, RdG.nil⟩
theorem MapG.obj {w : World} {b n : Nat} {es : List (κ × ν)} (h : MapG S P T w b n es) : ∃ a c, w.heap[b]? = some (.map a c) := by
  obtain ⟨D, ⟨es', clock, hb, _⟩, _⟩ := h
  exact ⟨_, _, hb⟩
/-- What a map that turned leaves alone. -/
theorem tch_map {w w' : World} {b : Nat} (h : w.mapTurned w' b) : Tch (· = b) w w' :=
  (Tch.refl (· = b) w).grown h.grown (fun k e _ => by injection e with e; exact e.symm)
/-- The element at a key, or the zero one. -/
def lookG (es : List (κ × ν)) (s : κ) (z : ν) : ν := match es.find? (fun t => decide (t.1 = s)) with | some t => t.2 | none => z
theorem RdG.look (G : S.Good P T) {D : DataW Unit} {es : List (κ × ν)} (h : RdG S D es) {s : κ} (hs : S.Ok s) (z : ν) : D.atKey (S.kl s) (S.dv z) = S.dv (lookG es s z) := by
  unfold lookG
  cases e : es.find? (fun t => decide (t.1 = s)) with
  | none =>
    have : ¬ ∃ t ∈ es, t.1 = s := by
      rintro ⟨t, ht, h'⟩
      have := List.find?_eq_none.1 e t ht
      simp [h'] at this
    exact h.none_ s hs this _
  | some t =>
    have h1 := List.mem_of_find?_eq_some e
    have h2 := List.find?_some e
    simp only [decide_eq_true_eq] at h2
    rw [← h2]
    exact h.at_ t h1 _
end
end Go.Proofs.Ythobffgkggfooaa
