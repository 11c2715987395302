/-
  Plain facts on ascending lists of integers: an element put in, taken out; two with the same elements are one. They speak of no program.
-/
import Derived.Below
set_option linter.unusedVariables false
namespace Go.Proofs.Ytdhafagihfdolaa

def Asc (ns : List Int) : Prop := ns.Pairwise (· < ·)
theorem Asc.le {ns : List Int} (h : Asc ns) : ns.Pairwise (· ≤ ·) := h.imp fun h => by omega
theorem Asc.nodup {ns : List Int} (h : Asc ns) : ns.Nodup := h.imp fun h => by omega
theorem Asc.eq {a b : List Int} (ha : Asc a) (hb : Asc b) (h : ∀ x, x ∈ a ↔ x ∈ b) : a = b := by
  induction a generalizing b with
  | nil =>
    cases b with
    | nil => rfl
    | cons y l => exact absurd ((h y).2 (by simp)) (by simp)
  | cons x l ih =>
    cases b with
    | nil => exact absurd ((h x).1 (by simp)) (by simp)
    | cons y l' =>
      obtain ⟨h1, h2⟩ := List.pairwise_cons.1 ha
      obtain ⟨h3, h4⟩ := List.pairwise_cons.1 hb
      have hxy : x = y := by
        rcases List.mem_cons.1 ((h x).1 (by simp)) with e | e
        · exact e
        · rcases List.mem_cons.1 ((h y).2 (by simp)) with e' | e'
          · exact e'.symm
          · have := h1 y e'; have := h3 x e; omega
      subst hxy
      rw [ih h2 h4 fun z => ?_]
      constructor
      · intro hz
        rcases List.mem_cons.1 ((h z).1 (List.mem_cons_of_mem _ hz)) with e | e
        · subst e; have := h1 z hz; omega
        · exact e
      · intro hz
        rcases List.mem_cons.1 ((h z).2 (List.mem_cons_of_mem _ hz)) with e | e
        · subst e; have := h3 z hz; omega
        · exact e

/-- How many are less. -/
def cnt (ns : List Int) (n : Int) : Nat := ns.countP (· < n)
theorem cnt_le (ns : List Int) (n : Int) : cnt ns n ≤ ns.length := List.countP_le_length
theorem cnt_split {ns : List Int} (h : Asc ns) (n : Int) : (∀ x ∈ ns.take (cnt ns n), x < n) ∧ (∀ x ∈ ns.drop (cnt ns n), n ≤ x) := by
  induction ns with
  | nil => simp
  | cons y l ih =>
    obtain ⟨h1, h2⟩ := List.pairwise_cons.1 h
    obtain ⟨i1, i2⟩ := ih h2
    unfold cnt
    by_cases hy : y < n
    · rw [List.countP_cons_of_pos (by simpa using hy)]
      refine ⟨fun x hx => ?_, fun x hx => i2 x (by simpa [cnt] using hx)⟩
      rw [List.take_succ_cons] at hx
      rcases List.mem_cons.1 hx with e | e
      · omega
      · exact i1 x e
    · rw [List.countP_cons_of_neg (by simpa using hy)]
      have h0 : l.countP (fun x => decide (x < n)) = 0 := List.countP_eq_zero.2 fun x hx => by
        have := h1 x hx
        simp; omega
      rw [h0]
      refine ⟨fun x hx => by simp at hx, fun x hx => ?_⟩
      rcases List.mem_cons.1 hx with e | e
      · omega
      · have := h1 x e; omega

/-- n put in at its place. -/
def insL (ns : List Int) (n : Int) : List Int := ns.take (cnt ns n) ++ n :: ns.drop (cnt ns n)
theorem insL_length (ns : List Int) (n : Int) : (insL ns n).length = ns.length + 1 := by
  have := cnt_le ns n
  simp [insL]; omega
theorem insL_mem (ns : List Int) (n x : Int) : x ∈ insL ns n ↔ x = n ∨ x ∈ ns := by
  unfold insL
  constructor
  · intro h
    rcases List.mem_append.1 h with h | h
    · exact .inr (List.mem_of_mem_take h)
    · rcases List.mem_cons.1 h with h | h
      · exact .inl h
      · exact .inr (List.mem_of_mem_drop h)
  · rintro (rfl | h)
    · simp
    · rw [← List.take_append_drop (cnt ns n) ns] at h
      rcases List.mem_append.1 h with h | h
      · exact List.mem_append.2 (.inl h)
      · exact List.mem_append.2 (.inr (List.mem_cons_of_mem _ h))
theorem insL_asc {ns : List Int} (h : Asc ns) {n : Int} (hn : n ∉ ns) : Asc (insL ns n) := by
  obtain ⟨h1, h2⟩ := cnt_split h n
  have ht := h
  rw [Asc, ← List.take_append_drop (cnt ns n) ns, List.pairwise_append] at ht
  obtain ⟨p1, p2, p3⟩ := ht
  refine List.pairwise_append.2 ⟨p1, List.pairwise_cons.2 ⟨fun x hx => ?_, p2⟩, fun a ha b hb => ?_⟩
  · have := h2 x hx
    have : x ≠ n := fun e => hn (e ▸ List.mem_of_mem_drop hx)
    omega
  · rcases List.mem_cons.1 hb with e | e
    · rw [e]; exact h1 a ha
    · exact p3 a ha b e

/-- n taken out. -/
def outL (ns : List Int) (n : Int) : List Int := ns.filter (fun x => x != n)
theorem outL_mem (ns : List Int) (n x : Int) : x ∈ outL ns n ↔ x ∈ ns ∧ x ≠ n := by simp [outL]
theorem outL_asc {ns : List Int} (h : Asc ns) (n : Int) : Asc (outL ns n) := List.Pairwise.filter _ h
theorem outL_length (ns : List Int) (n : Int) : (outL ns n).length ≤ ns.length := List.length_filter_le _ _
theorem outL_not {ns : List Int} {n : Int} (h : n ∉ ns) : outL ns n = ns := List.filter_eq_self.2 fun x hx => by
  have : x ≠ n := fun e => h (e ▸ hx)
  simpa using this
/-- Where it stands. -/
theorem outL_at {ns : List Int} (h : Asc ns) {n : Int} (hn : n ∈ ns) : ns.take (cnt ns n) ++ ns.drop (cnt ns n + 1) = outL ns n ∧ cnt ns n < ns.length := by
  obtain ⟨h1, h2⟩ := cnt_split h n
  have hlt : cnt ns n < ns.length := by
    rcases Nat.lt_or_ge (cnt ns n) ns.length with h' | h'
    · exact h'
    · rw [List.take_of_length_le h'] at h1
      have := h1 n hn; omega
  refine ⟨?_, hlt⟩
  have hd : ns.drop (cnt ns n) = ns[cnt ns n] :: ns.drop (cnt ns n + 1) := List.drop_eq_getElem_cons hlt
  have hasc := h
  rw [Asc, ← List.take_append_drop (cnt ns n) ns, List.pairwise_append, hd] at hasc
  obtain ⟨p1, p2, p3⟩ := hasc
  obtain ⟨q1, q2⟩ := List.pairwise_cons.1 p2
  have hat : ns[cnt ns n] = n := by
    have hm := hn
    rw [← List.take_append_drop (cnt ns n) ns, List.mem_append, hd] at hm
    rcases hm with hm | hm
    · have := h1 n hm; omega
    · rcases List.mem_cons.1 hm with e | e
      · exact e.symm
      · have a := q1 n e
        have b := h2 (ns[cnt ns n]) (hd.symm ▸ List.mem_cons_self)
        omega
  refine Asc.eq (List.pairwise_append.2 ⟨p1, q2, fun a ha b hb => p3 a ha b (List.mem_cons_of_mem _ hb)⟩) (outL_asc h n) fun x => ?_
  rw [outL_mem]
  constructor
  · intro hx
    rcases List.mem_append.1 hx with hx | hx
    · exact ⟨List.mem_of_mem_take hx, by have := h1 x hx; omega⟩
    · exact ⟨List.mem_of_mem_drop hx, by have := q1 x hx; omega⟩
  · rintro ⟨hx, hxn⟩
    rw [← List.take_append_drop (cnt ns n) ns, List.mem_append, hd] at hx
    rcases hx with hx | hx
    · exact List.mem_append.2 (.inl hx)
    · rcases List.mem_cons.1 hx with e | e
      · exact absurd (e.trans hat) hxn
      · exact List.mem_append.2 (.inr e)
theorem outL_length_mem {ns : List Int} (h : Asc ns) {n : Int} (hn : n ∈ ns) : (outL ns n).length + 1 = ns.length := by
  obtain ⟨h1, h2⟩ := outL_at h hn
  rw [← h1]
  simp; omega

/-- A set of nodes: its nodes ascending, no more than its capacity. -/
structure Good (most : Nat) (ns : List Int) : Prop where
  asc : Asc ns
  le : ns.length ≤ most
  cap : most ≤ 64
  node : ∀ x ∈ ns, 1 ≤ x ∧ x ≤ 65535
theorem Good.nil {most : Nat} (h : most ≤ 64) : Good most [] := ⟨List.Pairwise.nil, Nat.zero_le _, h, by simp⟩
theorem Good.ins {most : Nat} {ns : List Int} (h : Good most ns) {n : Int} (h1 : 1 ≤ n ∧ n ≤ 65535) (h2 : n ∉ ns) (h3 : ns.length < most) : Good most (insL ns n) :=
  ⟨insL_asc h.asc h2, by rw [insL_length]; omega, h.cap, fun x hx => by rcases (insL_mem _ _ _).1 hx with e | e; rw [e]; exact h1; exact h.node x e⟩
theorem Good.out {most : Nat} {ns : List Int} (h : Good most ns) (n : Int) : Good most (outL ns n) :=
  ⟨outL_asc h.asc n, Nat.le_trans (outL_length _ _) h.le, h.cap, fun x hx => h.node x ((outL_mem _ _ _).1 hx).1⟩

/-- Add's answer. -/
def addB (most : Nat) (ns : List Int) (n : Int) : Bool := decide (n ∈ ns ∨ (1 ≤ n ∧ n ≤ 65535) ∧ ns.length < most)
def addL (most : Nat) (ns : List Int) (n : Int) : List Int := if n ∉ ns ∧ (1 ≤ n ∧ n ≤ 65535) ∧ ns.length < most then insL ns n else ns
theorem addL_good {most : Nat} {ns : List Int} (h : Good most ns) (n : Int) : Good most (addL most ns n) := by
  unfold addL
  split
  · rename_i h'; exact h.ins h'.2.1 h'.1 h'.2.2
  · exact h
end Go.Proofs.Ytdhafagihfdolaa
