/-
  Messages by definition: their bytes ('encM'), what bytes read as ('pMsg', 'dec'), and how the two go together. They speak of no program.
-/
import Derived.Test.YthobffgkggfooaaReader
set_option linter.unusedVariables false
set_option linter.unusedSimpArgs false
namespace Go.Proofs.Ythobffgkggfooaa

/-- What reads a value off the front of some bytes, or why it cannot. -/
def PP (α : Type) := List UInt8 → Except Nat (α × List UInt8)
section
variable {α β : Type}
def pMap (f : α → β) (p : PP α) : PP β := fun l => match p l with | .ok (a, r) => .ok (f a, r) | .error e => .error e
def pPair (p : PP α) (q : PP β) : PP (α × β) := fun l => match p l with
  | .ok (a, r) => (match q r with | .ok (b, r2) => .ok ((a, b), r2) | .error e => .error e)
  | .error e => .error e
def pMost (f : α → Nat) (most : Nat) (p : PP α) : PP α := fun l => match p l with | .ok (a, r) => if most < f a then .error 4 else .ok (a, r) | .error e => .error e
def pNum (n : Nat) : PP Nat := fun l => if l.length < n then .error 2 else .ok (beV (l.take n), l.drop n)
def pText : PP (List UInt8) := fun l => match l with | [] => .error 2 | b :: r => if r.length < b.toNat then .error 2 else .ok (r.take b.toNat, r.drop b.toNat)
def pCount (most : Nat) : PP Nat := pMost id most (pNum 1)
def pTxt (most : Nat) : PP (List UInt8) := pMost List.length most pText
def pFlag : PP Bool := pMap (fun n => decide (n = 1)) (pCount 1)
def pReps (p : PP α) : Nat → PP (List α)
  | 0 => fun l => .ok ([], l)
  | n + 1 => pMap (fun x => x.1 :: x.2) (pPair p (pReps p n))
def pList (most : Nat) (p : PP α) : PP (List α) := fun l => match pCount most l with | .ok (n, r) => pReps p n r | .error e => .error e

/-- The reading of more bytes is that of fewer, but for too few. -/
def Stab (p : PP α) : Prop := ∀ l x, (∀ a r, p l = .ok (a, r) → p (l ++ x) = .ok (a, r ++ x)) ∧ (∀ e, p l = .error e → e = 2 ∨ p (l ++ x) = .error e)
/-- What p reads is what enc writes. -/
structure Inv (p : PP α) (enc : α → List UInt8) (Ok : α → Prop) : Prop where
  fwd : ∀ a r, Ok a → p (enc a ++ r) = .ok (a, r)
  bwd : ∀ l a r, p l = .ok (a, r) → Ok a ∧ l = enc a ++ r
  err : ∀ l e, p l = .error e → e = 2 ∨ e = 4

theorem Stab.map {p : PP α} (h : Stab p) (f : α → β) : Stab (pMap f p) := by
  intro l x
  obtain ⟨h1, h2⟩ := h l x
  unfold pMap
  rcases e : p l with e1 | ⟨a, r⟩
  · refine ⟨fun a r k => by simp at k, fun e2 k => ?_⟩
    simp at k
    subst k
    rcases h2 _ e with h | h
    · exact .inl h
    · exact .inr (by rw [h])
  · refine ⟨fun a' r' k => ?_, fun e2 k => by simp at k⟩
    simp at k
    obtain ⟨rfl, rfl⟩ := k
    rw [h1 _ _ e]
theorem Stab.pair {p : PP α} {q : PP β} (h : Stab p) (k : Stab q) : Stab (pPair p q) := by
  intro l x
  obtain ⟨h1, h2⟩ := h l x
  unfold pPair
  rcases e : p l with e1 | ⟨a, r⟩
  · refine ⟨fun a r k => by simp at k, fun e2 k => ?_⟩
    simp at k
    subst k
    rcases h2 _ e with h | h
    · exact .inl h
    · exact .inr (by rw [h])
  · obtain ⟨k1, k2⟩ := k r x
    rw [h1 _ _ e]
    rcases e' : q r with e1 | ⟨b, r2⟩
    · refine ⟨fun a r k => by simp [e'] at k, fun e2 k => ?_⟩
      simp [e'] at k
      subst k
      rcases k2 _ e' with h | h
      · exact .inl h
      · exact .inr (by simp [h])
    · refine ⟨fun a' r' k => ?_, fun e2 k => by simp [e'] at k⟩
      simp [e'] at k
      obtain ⟨rfl, rfl⟩ := k
      simp [k1 _ _ e']
theorem Stab.most {p : PP α} (h : Stab p) (f : α → Nat) (m : Nat) : Stab (pMost f m p) := by
  intro l x
  obtain ⟨h1, h2⟩ := h l x
  unfold pMost
  rcases e : p l with e1 | ⟨a, r⟩
  · refine ⟨fun a r k => by simp at k, fun e2 k => ?_⟩
    simp at k
    subst k
    rcases h2 _ e with h | h
    · exact .inl h
    · exact .inr (by rw [h])
  · rw [h1 _ _ e]
    by_cases hm : m < f a
    · refine ⟨fun a r k => by simp [hm] at k, fun e2 k => ?_⟩
      simp [hm] at k
      subst k
      exact .inr (by simp [hm])
    · refine ⟨fun a' r' k => ?_, fun e2 k => by simp [hm] at k⟩
      simp [hm] at k
      obtain ⟨rfl, rfl⟩ := k
      simp [hm]
theorem Stab.num (n : Nat) : Stab (pNum n) := by
  intro l x
  unfold pNum
  by_cases h : l.length < n
  · simp only [if_pos h]
    exact ⟨fun a r k => by simp at k, fun e k => by simp at k; exact .inl k.symm⟩
  · simp only [if_neg h]
    refine ⟨fun a r k => ?_, fun e k => by simp at k⟩
    simp at k
    obtain ⟨rfl, rfl⟩ := k
    rw [if_neg (by simp; omega), List.take_append_of_le_length (by omega), List.drop_append_of_le_length (by omega)]
theorem Stab.text : Stab pText := by
  intro l x
  rcases l with _ | ⟨b, r⟩
  · exact ⟨fun a r k => by simp [pText] at k, fun e k => by simp [pText] at k; exact .inl k.symm⟩
  · unfold pText
    simp only [List.cons_append]
    by_cases h : r.length < b.toNat
    · simp only [if_pos h]
      exact ⟨fun a r k => by simp at k, fun e k => by simp at k; exact .inl k.symm⟩
    · simp only [if_neg h]
      refine ⟨fun a r' k => ?_, fun e k => by simp at k⟩
      simp at k
      obtain ⟨rfl, rfl⟩ := k
      rw [if_neg (by simp; omega), List.take_append_of_le_length (by omega), List.drop_append_of_le_length (by omega)]
theorem Stab.reps {p : PP α} (h : Stab p) : ∀ n, Stab (pReps p n)
  | 0 => fun l x => ⟨fun a r k => by simp [pReps] at k; obtain ⟨rfl, rfl⟩ := k; rfl, fun e k => by simp [pReps] at k⟩
  | n + 1 => (h.pair (Stab.reps h n)).map _
theorem Stab.list {p : PP α} (h : Stab p) (m : Nat) : Stab (pList m p) := by
  intro l x
  have hS : Stab (pCount m) := (Stab.num 1).most id m
  obtain ⟨h1, h2⟩ := hS l x
  unfold pList
  rcases e : pCount m l with e1 | ⟨a, r⟩
  · refine ⟨fun a r k => by simp at k, fun e2 k => ?_⟩
    simp at k
    subst k
    rcases h2 _ e with h | h
    · exact .inl h
    · exact .inr (by rw [h])
  · rw [h1 _ _ e]
    exact h.reps a r x

theorem Inv.map {p : PP α} {enc : α → List UInt8} {Ok : α → Prop} (h : Inv p enc Ok) (f : α → β) (g : β → α) (hgf : ∀ a, Ok a → g (f a) = a) : Inv (pMap f p) (fun b => enc (g b)) (fun b => ∃ a, b = f a ∧ Ok a) := by
  refine ⟨?_, ?_, ?_⟩
  · rintro _ r ⟨a, rfl, ha⟩
    simp [pMap, hgf a ha, h.fwd a r ha]
  · intro l b r k
    unfold pMap at k
    rcases e : p l with e1 | ⟨a, r'⟩
    · simp [e] at k
    · simp [e] at k
      obtain ⟨rfl, rfl⟩ := k
      obtain ⟨k1, k2⟩ := h.bwd _ _ _ e
      exact ⟨⟨a, rfl, k1⟩, by rw [hgf a k1]; exact k2⟩
  · intro l e k
    unfold pMap at k
    rcases e' : p l with e1 | ⟨a, r'⟩
    · simp [e'] at k
      subst k
      exact h.err _ _ e'
    · simp [e'] at k
theorem Inv.pair {p : PP α} {q : PP β} {enc : α → List UInt8} {Ok : α → Prop} {enc2 : β → List UInt8} {Ok2 : β → Prop} (h : Inv p enc Ok) (k : Inv q enc2 Ok2) : Inv (pPair p q) (fun x => enc x.1 ++ enc2 x.2) (fun x => Ok x.1 ∧ Ok2 x.2) := by
  refine ⟨?_, ?_, ?_⟩
  · rintro ⟨a, b⟩ r ⟨ha, hb⟩
    simp [pPair, List.append_assoc, h.fwd a _ ha, k.fwd b r hb]
  · rintro l ⟨a, b⟩ r e
    unfold pPair at e
    rcases e1 : p l with e2 | ⟨a', r'⟩
    · simp [e1] at e
    · rcases e2 : q r' with e3 | ⟨b', r2⟩
      · simp [e1, e2] at e
      · simp [e1, e2] at e
        obtain ⟨⟨rfl, rfl⟩, rfl⟩ := e
        obtain ⟨k1, k2⟩ := h.bwd _ _ _ e1
        obtain ⟨k3, k4⟩ := k.bwd _ _ _ e2
        exact ⟨⟨k1, k3⟩, by rw [k2, k4, List.append_assoc]⟩
  · intro l e j
    unfold pPair at j
    rcases e1 : p l with e2 | ⟨a', r'⟩
    · simp [e1] at j
      subst j
      exact h.err _ _ e1
    · rcases e2 : q r' with e3 | ⟨b', r2⟩
      · simp [e1, e2] at j
        subst j
        exact k.err _ _ e2
      · simp [e1, e2] at j
theorem Inv.most {p : PP α} {enc : α → List UInt8} {Ok : α → Prop} (h : Inv p enc Ok) (f : α → Nat) (m : Nat) : Inv (pMost f m p) enc (fun a => Ok a ∧ f a ≤ m) := by
  refine ⟨?_, ?_, ?_⟩
  · rintro a r ⟨ha, hm⟩
    simp [pMost, h.fwd a r ha, Nat.not_lt.2 hm]
  · intro l a r k
    unfold pMost at k
    rcases e : p l with e1 | ⟨a', r'⟩
    · simp [e] at k
    · by_cases hm : m < f a'
      · simp [e, hm] at k
      · simp [e, hm] at k
        obtain ⟨rfl, rfl⟩ := k
        obtain ⟨k1, k2⟩ := h.bwd _ _ _ e
        exact ⟨⟨k1, by omega⟩, k2⟩
  · intro l e k
    unfold pMost at k
    rcases e' : p l with e1 | ⟨a', r'⟩
    · simp [e'] at k
      subst k
      exact h.err _ _ e'
    · by_cases hm : m < f a'
      · simp [e', hm] at k
        exact .inr k.symm
      · simp [e', hm] at k
end

theorem beV_fold (l : List UInt8) (a : Nat) : l.foldl (fun a b => 256 * a + b.toNat) a = a * 256 ^ l.length + beV l := by
  suffices h : ∀ (r : List UInt8), r.reverse.foldl (fun a b => 256 * a + b.toNat) a = a * 256 ^ r.length + beV r.reverse by simpa using h l.reverse
  intro r
  induction r with
  | nil => simp [beV]
  | cons b r ih =>
    rw [List.reverse_cons, List.foldl_append, ih, beV_snoc, List.length_cons, Nat.pow_succ]
    simp only [List.foldl_cons, List.foldl_nil]
    rw [Nat.mul_add, ← Nat.add_assoc]
    congr 2
    rw [← Nat.mul_assoc, Nat.mul_comm 256 a, Nat.mul_assoc, Nat.mul_comm 256 (256 ^ r.length)]
theorem beV_cons (b : UInt8) (l : List UInt8) : beV (b :: l) = b.toNat * 256 ^ l.length + beV l := by
  rw [← beV_fold l b.toNat]
  simp [beV]
theorem beL_beV : ∀ (l : List UInt8), beL l.length (beV l) = l
  | [] => rfl
  | b :: l => by
    have hp : 0 < 256 ^ l.length := Nat.pow_pos (by omega)
    have hlt := beV_lt l
    have hg : ∀ (k n m : Nat), beL k (m * 256 ^ k + n) = beL k n := by
      intro k
      induction k with
      | zero => intro n m; rfl
      | succ k ih =>
        intro n m
        have hk : 0 < 256 ^ k := Nat.pow_pos (by omega)
        have e1 : m * 256 ^ (k + 1) + n = (m * 256) * 256 ^ k + n := by rw [Nat.pow_succ, Nat.mul_assoc, Nat.mul_comm 256]
        rw [beL, beL, e1, ih n (m * 256)]
        congr 1
        rw [Nat.mul_comm (m * 256), Nat.mul_add_div hk, ← UInt8.toNat_inj]
        simp <;> omega
    rw [List.length_cons, beL, beV_cons, hg, beL_beV l]
    congr 1
    rw [Nat.mul_comm, Nat.mul_add_div hp, Nat.div_eq_of_lt hlt, Nat.add_zero]
    simp
theorem beV_beL : ∀ (k n : Nat), n < 256 ^ k → beV (beL k n) = n
  | 0, n, h => by simp at h; subst h; rfl
  | k + 1, n, h => by
    have hp : 0 < 256 ^ k := Nat.pow_pos (by omega)
    rw [beL, beV_cons, beL_length]
    have hq : n / 256 ^ k < 256 := Nat.div_lt_of_lt_mul (by rw [Nat.mul_comm, ← Nat.pow_succ']; rw [Nat.pow_succ'] at h ⊢; exact h)
    have hr : n % 256 ^ k < 256 ^ k := Nat.mod_lt _ hp
    have hm : beL k n = beL k (n % 256 ^ k) := by
      have hg : ∀ (k n m : Nat), beL k (m * 256 ^ k + n) = beL k n := by
        intro k
        induction k with
        | zero => intro n m; rfl
        | succ k ih =>
          intro n m
          have hk : 0 < 256 ^ k := Nat.pow_pos (by omega)
          have e1 : m * 256 ^ (k + 1) + n = (m * 256) * 256 ^ k + n := by rw [Nat.pow_succ, Nat.mul_assoc, Nat.mul_comm 256]
          rw [beL, beL, e1, ih n (m * 256)]
          congr 1
          rw [Nat.mul_comm (m * 256), Nat.mul_add_div hk, ← UInt8.toNat_inj]
          simp <;> omega
      have e := Nat.div_add_mod n (256 ^ k)
      have := hg k (n % 256 ^ k) (n / 256 ^ k)
      rw [Nat.mul_comm, e] at this
      exact this
    rw [hm, beV_beL k _ hr]
    have e := Nat.div_add_mod n (256 ^ k)
    have hb : (UInt8.ofNat (n / 256 ^ k)).toNat = n / 256 ^ k := by simp; omega
    rw [hb, Nat.mul_comm]
    exact e

theorem Inv.num (k : Nat) : Inv (pNum k) (beL k) (· < 256 ^ k) := by
  refine ⟨?_, ?_, ?_⟩
  · intro a r h
    have hl := beL_length k a
    have h1 : ¬ (beL k a ++ r).length < k := by rw [List.length_append]; omega
    rw [pNum, if_neg h1]
    have h2 : (beL k a ++ r).take k = beL k a := by rw [List.take_append_of_le_length (by omega), List.take_of_length_le (by omega)]
    have h3 : (beL k a ++ r).drop k = r := by rw [List.drop_append_of_le_length (by omega), List.drop_of_length_le (by omega)]; rfl
    rw [h2, h3, beV_beL k a h]
  · intro l a r h
    unfold pNum at h
    split at h
    · simp at h
    · rename_i hl
      simp at h
      obtain ⟨rfl, rfl⟩ := h
      have ht : (l.take k).length = k := by rw [List.length_take]; omega
      refine ⟨by have := beV_lt (l.take k); rwa [ht] at this, ?_⟩
      have := beL_beV (l.take k)
      rw [ht] at this
      rw [this, List.take_append_drop]
  · intro l e h
    unfold pNum at h
    split at h
    · simp at h; exact .inl h.symm
    · simp at h
/-- A text's bytes. -/
def encT (t : List UInt8) : List UInt8 := UInt8.ofNat t.length :: t
theorem Inv.text : Inv pText encT (·.length < 256) := by
  refine ⟨?_, ?_, ?_⟩
  · intro a r h
    have hb : (UInt8.ofNat a.length).toNat = a.length := by simp; omega
    simp only [encT, List.cons_append, pText, hb]
    rw [if_neg (by simp), List.take_append_of_le_length (by omega), List.drop_append_of_le_length (by omega)]
    simp
  · intro l a r h
    unfold pText at h
    rcases l with _ | ⟨b, l⟩
    · simp at h
    · simp only at h
      split at h
      · simp at h
      · simp at h
        obtain ⟨rfl, rfl⟩ := h
        have hb := b.toNat_lt
        refine ⟨by simp; omega, ?_⟩
        have hm : min b.toNat l.length = b.toNat := by omega
        simp [encT, hm]
  · intro l e h
    unfold pText at h
    rcases l with _ | ⟨b, l⟩
    · simp at h; exact .inl h.symm
    · simp only at h
      split at h
      · simp at h; exact .inl h.symm
      · simp at h
def encB (b : Bool) : List UInt8 := beL 1 (if b then 1 else 0)
theorem Inv.flag : Inv pFlag encB (fun _ => True) := by
  have h := ((Inv.num 1).most id 1).map (fun n => decide (n = 1)) (fun b => if b then 1 else 0) (by
    rintro a ⟨_, ha⟩
    simp at ha
    have : a = 0 ∨ a = 1 := by omega
    rcases this with rfl | rfl <;> rfl)
  refine ⟨fun a r _ => h.fwd a r ?_, fun l a r k => ⟨trivial, (h.bwd l a r k).2⟩, h.err⟩
  cases a
  · exact ⟨0, rfl, by decide, by decide⟩
  · exact ⟨1, rfl, by decide, by decide⟩
theorem Stab.flag : Stab pFlag := ((Stab.num 1).most id 1).map _

section
variable {α : Type} {p : PP α} {enc : α → List UInt8} {Ok : α → Prop}
theorem Inv.reps (h : Inv p enc Ok) : ∀ n, Inv (pReps p n) (fun l => l.flatMap enc) (fun l => l.length = n ∧ ∀ x ∈ l, Ok x)
  | 0 => ⟨by rintro a r ⟨h1, _⟩; obtain rfl := List.eq_nil_of_length_eq_zero h1; rfl, by intro l a r k; simp [pReps] at k; obtain ⟨rfl, rfl⟩ := k; simp, by intro l e k; simp [pReps] at k⟩
  | n + 1 => by
    have ih := h.pair (Inv.reps h n)
    refine ⟨?_, ?_, ?_⟩
    · rintro (_ | ⟨a, l⟩) r ⟨h1, h2⟩
      · simp at h1
      · have := ih.fwd (a, l) r ⟨h2 a (by simp), by simpa using h1, fun x hx => h2 x (by simp [hx])⟩
        simp only [pReps, pMap, List.flatMap_cons, List.append_assoc] at this ⊢
        rw [this]
    · intro l b r k
      unfold pReps pMap at k
      rcases e : pPair p (pReps p n) l with e1 | ⟨⟨a, l'⟩, r'⟩
      · rw [e] at k
        cases k
      · rw [e] at k
        cases k
        obtain ⟨⟨h1, h2, h3⟩, e⟩ := ih.bwd l (a, l') r e
        refine ⟨⟨by simp at h2 ⊢; exact h2, fun x hx => ?_⟩, e⟩
        rcases List.mem_cons.1 hx with rfl | hx
        · exact h1
        · exact h3 x hx
    · intro l e k
      unfold pReps pMap at k
      rcases e' : pPair p (pReps p n) l with e1 | ⟨⟨a, l'⟩, r'⟩
      · rw [e'] at k
        cases k
        exact ih.err _ _ e'
      · rw [e'] at k
        cases k
def encL (enc : α → List UInt8) (l : List α) : List UInt8 := beL 1 l.length ++ l.flatMap enc
theorem Inv.list (h : Inv p enc Ok) {m : Nat} (hm : m ≤ 255) : Inv (pList m p) (encL enc) (fun l => l.length ≤ m ∧ ∀ x ∈ l, Ok x) := by
  have hc : Inv (pCount m) (beL 1) _ := (Inv.num 1).most id m
  refine ⟨?_, ?_, ?_⟩
  · rintro a r ⟨h1, h2⟩
    unfold pList
    rw [encL, List.append_assoc, hc.fwd a.length _ ⟨by simp; omega, by simpa using h1⟩]
    exact (h.reps a.length).fwd a r ⟨rfl, h2⟩
  · intro l a r k
    unfold pList at k
    rcases e : pCount m l with e1 | ⟨n, r'⟩
    · simp [e] at k
    · simp [e] at k
      obtain ⟨⟨k1, k2⟩, k3⟩ := hc.bwd _ _ _ e
      obtain ⟨⟨j1, j2⟩, j3⟩ := (h.reps n).bwd _ _ _ k
      subst j1
      exact ⟨⟨by simpa using k2, j2⟩, by rw [k3, j3, encL, List.append_assoc]⟩
  · intro l e k
    unfold pList at k
    rcases e' : pCount m l with e1 | ⟨n, r'⟩
    · simp [e'] at k
      subst k
      exact hc.err _ _ e'
    · simp [e'] at k
      exact (h.reps n).err _ _ k
theorem Inv.weak {Ok2 : α → Prop} {enc2 : α → List UInt8} (h : Inv p enc Ok) (he : ∀ a, enc a = enc2 a) (hO : ∀ a, Ok a ↔ Ok2 a) : Inv p enc2 Ok2 := by
  obtain rfl : enc = enc2 := funext he
  obtain rfl : Ok = Ok2 := funext fun a => propext (hO a)
  exact h
end

structure IdA where
  key : List UInt8
  ver : Nat
structure RecA where
  id : IdA
  origin : Int
  age : Int
  gone : Bool
  data : List UInt8
structure MsgA where
  kind : Int
  node : Int
  walk : Int
  high : Bool
  nodes : List Int
  ids : List IdA
  recs : List RecA
def encNode (n : Int) : List UInt8 := beL 2 n.toNat
def encI (i : IdA) : List UInt8 := encT i.key ++ beL 8 i.ver
def encR (x : RecA) : List UInt8 := encI x.id ++ (beL 2 x.origin.toNat ++ (beL 2 x.age.toNat ++ (encB x.gone ++ encT x.data)))
def encM (m : MsgA) : List UInt8 := beL 1 m.kind.toNat ++ (beL 2 m.node.toNat ++ (beL 1 m.walk.toNat ++ (encB m.high ++ (encL encNode m.nodes ++ (encL encI m.ids ++ encL encR m.recs)))))
def pInt (n : Nat) : PP Int := pMap (fun n : Nat => (n : Int)) (pNum n)
def pId : PP IdA := pMap (fun x => ⟨x.1, x.2⟩) (pPair (pTxt 64) (pNum 8))
def pRec : PP RecA := pMap (fun x => ⟨x.1, x.2.1, x.2.2.1, x.2.2.2.1, x.2.2.2.2⟩) (pPair pId (pPair (pInt 2) (pPair (pInt 2) (pPair pFlag (pTxt 64)))))
def pMsg : PP MsgA := pMap (fun x => ⟨x.1, x.2.1, x.2.2.1, x.2.2.2.1, x.2.2.2.2.1, x.2.2.2.2.2.1, x.2.2.2.2.2.2⟩)
  (pPair (pInt 1) (pPair (pInt 2) (pPair (pInt 1) (pPair pFlag (pPair (pList 64 (pInt 2)) (pPair (pList 64 pId) (pList 16 pRec)))))))

/-- Numbers of so many bytes. -/
def InB (k : Nat) (n : Int) : Prop := 0 ≤ n ∧ n < 256 ^ k
theorem pow_i (k : Nat) : ((256 ^ k : Nat) : Int) = (256 : Int) ^ k := by rw [Int.natCast_pow]; rfl
theorem Inv.int (k : Nat) : Inv (pInt k) (fun n => beL k n.toNat) (InB k) := by
  refine ((Inv.num k).map (fun n : Nat => (n : Int)) Int.toNat (by simp)).weak (fun _ => rfl) (fun a => ⟨?_, ?_⟩)
  · rintro ⟨n, rfl, h⟩
    exact ⟨by omega, by rw [← pow_i]; exact Int.ofNat_lt.2 h⟩
  · rintro ⟨h1, h2⟩
    obtain ⟨n, rfl⟩ := Int.eq_ofNat_of_zero_le h1
    rw [← pow_i] at h2
    exact ⟨n, rfl, Int.ofNat_lt.1 h2⟩
theorem Stab.int (k : Nat) : Stab (pInt k) := (Stab.num k).map _
def IdR (i : IdA) : Prop := i.key.length ≤ 64 ∧ i.ver < 18446744073709551616
theorem Inv.id' : Inv pId encI IdR := by
  refine (((Inv.text.most List.length 64).pair (Inv.num 8)).map (fun x => (⟨x.1, x.2⟩ : IdA)) (fun i => (i.key, i.ver)) (fun _ _ => rfl)).weak (fun _ => rfl) (fun a => ⟨?_, ?_⟩)
  · rintro ⟨⟨k, v⟩, rfl, ⟨h1, h2⟩, h3⟩
    have e : (256 : Nat) ^ 8 = 18446744073709551616 := by decide
    exact ⟨h2, by show v < _; rw [← e]; exact h3⟩
  · rintro ⟨h1, h2⟩
    have e : (256 : Nat) ^ 8 = 18446744073709551616 := by decide
    exact ⟨(a.key, a.ver), rfl, ⟨by show a.key.length < 256; omega, h1⟩, by rw [e]; exact h2⟩
theorem Stab.id' : Stab pId := ((Stab.text.most _ _).pair (Stab.num 8)).map _
def RecR (x : RecA) : Prop := IdR x.id ∧ InB 2 x.origin ∧ InB 2 x.age ∧ x.data.length ≤ 64
theorem Inv.rec' : Inv pRec encR RecR := by
  refine ((Inv.id'.pair ((Inv.int 2).pair ((Inv.int 2).pair (Inv.flag.pair (Inv.text.most List.length 64))))).map (fun x => (⟨x.1, x.2.1, x.2.2.1, x.2.2.2.1, x.2.2.2.2⟩ : RecA)) (fun x => (x.id, x.origin, x.age, x.gone, x.data)) (fun _ _ => rfl)).weak (fun _ => rfl) (fun a => ⟨?_, ?_⟩)
  · rintro ⟨⟨i, o, g, b, d⟩, rfl, h1, h2, h3, _, h4, h5⟩
    exact ⟨h1, h2, h3, h5⟩
  · rintro ⟨h1, h2, h3, h4⟩
    exact ⟨(a.id, a.origin, a.age, a.gone, a.data), rfl, h1, h2, h3, trivial, by show a.data.length < 256; omega, h4⟩
theorem Stab.rec' : Stab pRec := (Stab.id'.pair ((Stab.int 2).pair ((Stab.int 2).pair (Stab.flag.pair (Stab.text.most _ _))))).map _
def MsgR (m : MsgA) : Prop := InB 1 m.kind ∧ InB 2 m.node ∧ InB 1 m.walk ∧ (m.nodes.length ≤ 64 ∧ ∀ n ∈ m.nodes, InB 2 n) ∧ (m.ids.length ≤ 64 ∧ ∀ i ∈ m.ids, IdR i) ∧ (m.recs.length ≤ 16 ∧ ∀ x ∈ m.recs, RecR x)
theorem Inv.msg : Inv pMsg encM MsgR := by
  refine (((Inv.int 1).pair ((Inv.int 2).pair ((Inv.int 1).pair (Inv.flag.pair (((Inv.int 2).list (m := 64) (by omega)).pair ((Inv.id'.list (m := 64) (by omega)).pair (Inv.rec'.list (m := 16) (by omega)))))))).map
    (fun x => (⟨x.1, x.2.1, x.2.2.1, x.2.2.2.1, x.2.2.2.2.1, x.2.2.2.2.2.1, x.2.2.2.2.2.2⟩ : MsgA)) (fun m => (m.kind, m.node, m.walk, m.high, m.nodes, m.ids, m.recs)) (fun _ _ => rfl)).weak (fun _ => rfl) (fun a => ⟨?_, ?_⟩)
  · rintro ⟨⟨x1, x2, x3, x4, x5, x6, x7⟩, rfl, h1, h2, h3, _, h4, h5, h6⟩
    exact ⟨h1, h2, h3, h4, h5, h6⟩
  · rintro ⟨h1, h2, h3, h4, h5, h6⟩
    exact ⟨(a.kind, a.node, a.walk, a.high, a.nodes, a.ids, a.recs), rfl, h1, h2, h3, trivial, h4, h5, h6⟩
theorem Stab.msg : Stab pMsg := ((Stab.int 1).pair ((Stab.int 2).pair ((Stab.int 1).pair (Stab.flag.pair (((Stab.int 2).list _).pair ((Stab.id'.list _).pair (Stab.rec'.list _))))))).map _

/-- A message that may be. -/
def NodeOk (n : Int) : Prop := 1 ≤ n ∧ n ≤ 65535
def IdOk (i : IdA) : Prop := i.key.length ≤ 64
def RecOk (x : RecA) : Prop := IdOk x.id ∧ NodeOk x.origin ∧ (0 ≤ x.age ∧ x.age ≤ 65535) ∧ x.data.length ≤ 64
def May (m : MsgA) : Prop := (1 ≤ m.kind ∧ m.kind ≤ 14) ∧ (0 ≤ m.node ∧ m.node ≤ 65535) ∧ (0 ≤ m.walk ∧ m.walk ≤ 15) ∧ m.nodes.length ≤ 64 ∧ m.ids.length ≤ 64 ∧ m.recs.length ≤ 16 ∧ (∀ n ∈ m.nodes, NodeOk n) ∧ (∀ i ∈ m.ids, IdOk i) ∧ (∀ x ∈ m.recs, RecOk x)
instance (n : Int) : Decidable (NodeOk n) := by unfold NodeOk; infer_instance
instance (n : IdA) : Decidable (IdOk n) := by unfold IdOk; infer_instance
instance (n : RecA) : Decidable (RecOk n) := by unfold RecOk; infer_instance
instance (n : MsgA) : Decidable (May n) := by unfold May; infer_instance
/-- Versions are numbers of eight bytes. -/
def Wf (m : MsgA) : Prop := (∀ i ∈ m.ids, i.ver < 18446744073709551616) ∧ (∀ x ∈ m.recs, x.id.ver < 18446744073709551616)
theorem may_r {m : MsgA} (h : May m) (hw : Wf m) : MsgR m := by
  obtain ⟨h1, h2, h3, h4, h5, h6, h7, h8, h9⟩ := h
  refine ⟨⟨by omega, by have : (256 : Int) ^ 1 = 256 := by decide
                        omega⟩, ⟨by omega, by have : (256 : Int) ^ 2 = 65536 := by decide
                                              omega⟩, ⟨by omega, by have : (256 : Int) ^ 1 = 256 := by decide
                                                                    omega⟩, ⟨h4, fun n hn => ?_⟩, ⟨h5, fun i hi => ⟨h8 i hi, hw.1 i hi⟩⟩, ⟨h6, fun x hx => ?_⟩⟩
  · have := h7 n hn
    have h2 : (256 : Int) ^ 2 = 65536 := by decide
    exact ⟨by have := this.1; omega, by have := this.2; omega⟩
  · obtain ⟨k1, k2, k3, k4⟩ := h9 x hx
    have h2 : (256 : Int) ^ 2 = 65536 := by decide
    exact ⟨⟨k1, hw.2 x hx⟩, ⟨by have := k2.1; omega, by have := k2.2; omega⟩, ⟨by omega, by omega⟩, k4⟩
theorem r_wf {m : MsgA} (h : MsgR m) : Wf m := by
  obtain ⟨h1, h2, h3, h4, h5, h6⟩ := h
  exact ⟨fun i hi => (h5.2 i hi).2, fun x hx => (h6.2 x hx).1.2⟩

/-- What bytes are as a message. -/
def dec (s : List UInt8) : Except Nat MsgA := if 4096 < s.length then .error 3 else match pMsg s with
  | .error e => .error e
  | .ok (m, r) => if r ≠ [] then .error 3 else if May m then .ok m else .error 4
theorem dec_enc {m : MsgA} (h : May m) (hw : Wf m) (hl : (encM m).length ≤ 4096) : dec (encM m) = .ok m := by
  have := Inv.msg.fwd m [] (may_r h hw)
  rw [List.append_nil] at this
  simp [dec, Nat.not_lt.2 hl, this, h]
theorem dec_inv {s : List UInt8} {m : MsgA} (h : dec s = .ok m) : May m ∧ Wf m ∧ s = encM m ∧ s.length ≤ 4096 := by
  unfold dec at h
  split at h
  · cases h
  · rename_i hl
    split at h
    · cases h
    · rename_i m' r e
      obtain ⟨k1, k2⟩ := Inv.msg.bwd _ _ _ e
      split at h
      · cases h
      · rename_i hr
        split at h
        · rename_i hm
          cases h
          simp at hr
          subst hr
          exact ⟨hm, r_wf k1, by simpa using k2, by omega⟩
        · cases h
theorem dec_err {s : List UInt8} {e : Nat} (h : dec s = .error e) : e = 2 ∨ e = 3 ∨ e = 4 := by
  unfold dec at h
  split at h
  · cases h; omega
  · split at h
    · rename_i e' k
      cases h
      rcases Inv.msg.err _ _ k with h | h <;> omega
    · split at h
      · cases h; omega
      · split at h
        · cases h
        · cases h; omega
theorem dec_cut {m : MsgA} (h : May m) (hw : Wf m) (hl : (encM m).length ≤ 4096) {k : Nat} (hk : k < (encM m).length) : dec ((encM m).take k) = .error 2 := by
  have h0 := Inv.msg.fwd m [] (may_r h hw)
  rw [List.append_nil] at h0
  obtain ⟨h1, h2⟩ := Stab.msg ((encM m).take k) ((encM m).drop k)
  rw [List.take_append_drop, h0] at h1 h2
  rcases e : pMsg ((encM m).take k) with e1 | ⟨m', r⟩
  · rcases h2 _ e with rfl | h
    · have hl2 : ¬ 4096 < ((encM m).take k).length := by rw [List.length_take]; omega
      simp [dec, e]
      omega
    · cases h
  · have := h1 _ _ e
    simp at this
    omega
theorem dec_more {m : MsgA} (h : May m) (hw : Wf m) (x : UInt8) : dec (encM m ++ [x]) = .error 3 := by
  unfold dec
  split
  · rfl
  · rw [Inv.msg.fwd m [x] (may_r h hw)]
    simp
theorem enc_inj {m n : MsgA} (h : May m) (hw : Wf m) (h' : May n) (hw' : Wf n) (e : encM m = encM n) : m = n := by
  have h0 := Inv.msg.fwd m [] (may_r h hw)
  have h1 := Inv.msg.fwd n [] (may_r h' hw')
  rw [e, h1] at h0
  simpa using h0.symm
theorem enc_pos (m : MsgA) : 8 ≤ (encM m).length := by
  simp [encM, encL, encB, beL_length]
  omega
end Go.Proofs.Ythobffgkggfooaa
