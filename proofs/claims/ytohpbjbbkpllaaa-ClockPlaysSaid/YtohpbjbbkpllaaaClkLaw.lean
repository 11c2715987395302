/-
  A clock as the laws see it: set, due and the rest as functions of the list of its timers.
-/
import Derived.Test.YtohpbjbbkpllaaaClkDue
set_option linter.unusedVariables false
set_option linter.unusedSimpArgs false
namespace Go.Proofs.Ytohpbjbbkpllaaa
open Go.RowKit Go.Maps Go.Shelf Go.Sort

structure Clk (w : World) (base C b most : Nat) (sets : Int) (es : List Tm) : Prop where
  at_ : ∃ n, ClkAt w C b n most sets es ∧ (n : Int) ≤ 64 + sets
  hC : base ≤ C
  hb : base ≤ b
  most64 : most ≤ 64
  len : es.length ≤ most
  s0 : 0 ≤ sets
  rise : es.Pairwise (fun x y => x.turn < y.turn)
  top : ∀ t ∈ es, t.turn ≤ sets
theorem Clk.same {w w' : World} {base C b most : Nat} {sets : Int} {es : List Tm} (h : Clk w base C b most sets es) (h1 : w'.heap[C]? = w.heap[C]?) (h2 : w'.heap[b]? = w.heap[b]?) : Clk w' base C b most sets es := by
  obtain ⟨n, ha, hn⟩ := h.at_
  exact ⟨⟨n, ⟨ha.box.keep h1, ha.map.same h2⟩, hn⟩, h.hC, h.hb, h.most64, h.len, h.s0, h.rise, h.top⟩
theorem Clk.lt {w : World} {base C b most : Nat} {sets : Int} {es : List Tm} (h : Clk w base C b most sets es) : C < w.heap.size ∧ b < w.heap.size := by
  obtain ⟨n, ha, hn⟩ := h.at_
  exact ⟨ha.box.lt, ha.map.lt⟩
theorem Clk.tch {w w' : World} {base C b most : Nat} {sets : Int} {es : List Tm} {S : Nat → Prop} (h : Clk w base C b most sets es) (ht : Tch S w w') (h1 : ¬ S C) (h2 : ¬ S b) : Clk w' base C b most sets es :=
  h.same (ht.block C h.lt.1 h1) (ht.block b h.lt.2 h2)
theorem Clk.below {w w' : World} {base C b most : Nat} {sets : Int} {es : List Tm} (h : Clk w base C b most sets es) (ht : Below w.heap.size w w') : Clk w' base C b most sets es :=
  h.same (ht.block C h.lt.1) (ht.block b h.lt.2)
theorem Clk.apart {w : World} {base C b most : Nat} {sets : Int} {es : List Tm} (h : Clk w base C b most sets es) : Apart es := by
  obtain ⟨n, ha, hn⟩ := h.at_
  obtain ⟨D, _, hD⟩ := ha.map
  exact hD.apart
/-- Two clocks: the box of one is not the map of the other. -/
theorem Clk.box_map {w : World} {base C b most base' C' b' most' : Nat} {sets sets' : Int} {es es' : List Tm} (h : Clk w base C b most sets es) (k : Clk w base' C' b' most' sets' es') : C ≠ b' := by
  obtain ⟨n, ha, _⟩ := h.at_
  obtain ⟨n', ha', _⟩ := k.at_
  intro e
  have h1 := ha.box
  obtain ⟨D, ⟨es2, clock, h2, _⟩, _⟩ := ha'.map
  unfold Bk at h1
  rw [e, h2] at h1
  injection h1 with h1
  cases h1

theorem drop_rise {es : List Tm} {sets : Int} (h : es.Pairwise (fun x y => x.turn < y.turn)) (ht : ∀ t ∈ es, t.turn ≤ sets) (s : ByteArray) (at_ : Int) :
    List.Pairwise (fun x y : Tm => x.turn < y.turn) (dropK es s ++ [(⟨s, at_, sets + 1⟩ : Tm)]) := by
  refine List.pairwise_append.2 ⟨List.Pairwise.filter _ h, by simp, fun a ha c hc => ?_⟩
  rw [List.mem_singleton] at hc
  subst hc
  have := ht a (dropK_mem.1 ha).1
  show a.turn < sets + 1
  omega
theorem drop_top {es : List Tm} {sets : Int} (ht : ∀ t ∈ es, t.turn ≤ sets) (s : ByteArray) (at_ : Int) : ∀ t ∈ dropK es s ++ [(⟨s, at_, sets + 1⟩ : Tm)], t.turn ≤ sets + 1 := by
  intro t h
  rcases List.mem_append.1 h with h | h
  · have := ht t (dropK_mem.1 h).1; omega
  · rw [List.mem_singleton] at h; subst h; exact Int.le_refl _

def setB (most : Nat) (es : List Tm) (s : ByteArray) : Bool := decide ((∃ t ∈ es, t.name = s) ∨ es.length < most)
def setL (most : Nat) (sets : Int) (es : List Tm) (s : ByteArray) (at_ : Int) : List Tm := if setB most es s = true then dropK es s ++ [⟨s, at_, sets + 1⟩] else es
def setN (most : Nat) (sets : Int) (es : List Tm) (s : ByteArray) : Int := if setB most es s = true then sets + 1 else sets
theorem setN_le (most : Nat) (sets : Int) (es : List Tm) (s : ByteArray) : sets ≤ setN most sets es s ∧ setN most sets es s ≤ sets + 1 := by unfold setN; split <;> omega
def SetAt (base C b most : Nat) (sets : Int) (es : List Tm) (s : ByteArray) (at_ : Int) (w : World) (e : Ending) (w' : World) : Prop :=
  e = .returned (.bool (setB most es s)) ∧ Clk w' base C b most (setN most sets es s) (setL most sets es s at_) ∧ Tch (SetS C b) w w'
theorem set_clk (base C b most : Nat) (sets : Int) (es : List Tm) (s : ByteArray) (at_ : Int) (w : World) (h : Clk w base C b most sets es) (hs : s.size ≤ maxLen) (hs1 : sets < 2 ^ 40) :
    Calls Try.prog 27 #[.pointer (some ⟨C, 0, none⟩), .string s, .int .i64 at_] w (SetAt base C b most sets es s at_ w) := by
  obtain ⟨n, ha, hn⟩ := h.at_
  have hmax : (2 : Int) ^ 40 + 64 < maxLen := by decide
  have hnm : n < maxLen := by omega
  have hap := h.apart
  by_cases hx : ∃ t ∈ es, t.name = s
  · have hB : setB most es s = true := decide_eq_true (.inl hx)
    have hdl := dropK_length hap s
    rw [if_pos hx] at hdl
    refine (set_has C b n most sets es s at_ w ha hs hx hnm h.s0 hs1).mono ?_
    rintro e w' ⟨rfl, hc, ht⟩
    unfold SetAt
    simp only [setL, setN, hB, if_true]
    exact ⟨trivial, ⟨⟨n + 1, hc, by omega⟩, h.hC, h.hb, h.most64, by rw [List.length_append, List.length_singleton]; have := h.len; omega, by have := h.s0; omega, drop_rise h.rise h.top s at_, drop_top h.top s at_⟩, ht⟩
  · by_cases hl : es.length < most
    · have hB : setB most es s = true := decide_eq_true (.inr hl)
      have hdl := dropK_length hap s
      rw [if_neg hx] at hdl
      refine (set_room C b n most sets es s at_ w ha hs hx hl hnm h.s0 hs1).mono ?_
      rintro e w' ⟨rfl, hc, ht⟩
      unfold SetAt
      simp only [setL, setN, hB, if_true]
      exact ⟨trivial, ⟨⟨n + 1, hc, by omega⟩, h.hC, h.hb, h.most64, by rw [List.length_append, List.length_singleton]; have := h.len; omega, by have := h.s0; omega, drop_rise h.rise h.top s at_, drop_top h.top s at_⟩, ht⟩
    · have hB : setB most es s = false := decide_eq_false (fun h => h.elim hx hl)
      refine (set_full C b n most sets es s at_ w ha hs hx (by omega)).mono ?_
      rintro e w' ⟨rfl, hc, ht⟩
      unfold SetAt
      simp only [setL, setN, hB, if_false, Bool.false_eq_true]
      exact ⟨trivial, ⟨⟨n, hc, hn⟩, h.hC, h.hb, h.most64, h.len, h.s0, h.rise, h.top⟩, ht⟩
theorem unset_clk (base C b most : Nat) (sets : Int) (es : List Tm) (s : ByteArray) (w : World) (h : Clk w base C b most sets es) (hs : s.size ≤ maxLen) :
    Calls Try.prog 22 #[.pointer (some ⟨C, 0, none⟩), .string s] w fun e w' => e = .returned (.bool (decide (∃ t ∈ es, t.name = s))) ∧ Clk w' base C b most sets (dropK es s) ∧ Tch (SetS C b) w w' := by
  obtain ⟨n, ha, hn⟩ := h.at_
  refine (unset_ok C b n most sets es s w ha hs).mono ?_
  rintro e w' ⟨rfl, hc, ht⟩
  refine ⟨rfl, ⟨⟨n, hc, hn⟩, h.hC, h.hb, h.most64, ?_, h.s0, List.Pairwise.filter _ h.rise, fun t ht => h.top t (dropK_mem.1 ht).1⟩, ht.more fun x _ e => .inr e⟩
  exact Nat.le_trans (List.length_filter_le _ _) h.len
theorem when_clk (base C b most : Nat) (sets : Int) (es : List Tm) (s : ByteArray) (w : World) (h : Clk w base C b most sets es) (hs : s.size ≤ maxLen) :
    Calls Try.prog 24 #[.pointer (some ⟨C, 0, none⟩), .string s] w fun e w' => ∃ v x, Look es s v x ∧ e = .returned (.tuple #[.int .i64 v, .bool x]) ∧ Below w.heap.size w w' := by
  obtain ⟨n, ha, hn⟩ := h.at_
  exact when_ok C b n most sets es s w ha hs
theorem len_clk (base C b most : Nat) (sets : Int) (es : List Tm) (w : World) (h : Clk w base C b most sets es) :
    Calls Try.prog 28 #[.pointer (some ⟨C, 0, none⟩)] w (LenAt w es.length) := by
  obtain ⟨n, ha, hn⟩ := h.at_
  exact len_ok C b n most sets es w ha
theorem new_clk (most : Int) (k : Nat) (hk : (max 0 (min most 64)).toNat = k) (w : World) : Calls Try.prog 21 #[.int .i64 most] w fun e w' =>
    ∃ C b, e = .returned (.pointer (some ⟨C, 0, none⟩)) ∧ Clk w' w.heap.size C b k 0 [] ∧ Below w.heap.size w w' := by
  refine (new_ok most w).mono ?_
  rintro e w' ⟨C, b, rfl, hC, hb, ha, hw⟩
  rw [hk] at ha
  exact ⟨C, b, rfl, ⟨⟨0, ha, by omega⟩, hC, hb, by omega, by simp, by omega, List.Pairwise.nil, by simp⟩, hw⟩
theorem Clk.less {w : World} {base base' C b most : Nat} {sets : Int} {es : List Tm} (h : Clk w base C b most sets es) (hb : base' ≤ base) : Clk w base' C b most sets es :=
  ⟨h.at_, Nat.le_trans hb h.hC, Nat.le_trans hb h.hb, h.most64, h.len, h.s0, h.rise, h.top⟩

/-- d is what is due, in order. -/
structure DueL (es : List Tm) (now : Int) (d : List Tm) : Prop where
  perm : d.Perm (es.filter fun t => decide (t.tick ≤ now))
  sorted : d.Pairwise le2
def restL (es : List Tm) (now : Int) : List Tm := es.filter fun t => !decide (t.tick ≤ now)
theorem rise_inj {es : List Tm} (h : es.Pairwise (fun x y => x.turn < y.turn)) {x y : Tm} (hx : x ∈ es) (hy : y ∈ es) (e : x.turn = y.turn) : x = y := by
  induction es with
  | nil => cases hx
  | cons t l ih =>
    obtain ⟨h1, h2⟩ := List.pairwise_cons.1 h
    rcases List.mem_cons.1 hx with hx1 | hx1 <;> rcases List.mem_cons.1 hy with hy1 | hy1
    · rw [hx1, hy1]
    · have := h1 y hy1; rw [hx1] at e; omega
    · have := h1 x hx1; rw [hy1] at e; omega
    · exact ih h2 hx1 hy1
theorem sorted_unique {es l l' : List Tm} (h : es.Pairwise (fun x y => x.turn < y.turn)) (hl : ∀ t ∈ l, t ∈ es) (hp : l.Perm l') (h1 : l.Pairwise le2) (h2 : l'.Pairwise le2) : l = l' := by
  refine List.Perm.eq_of_pairwise (le := le2) ?_ h1 h2 hp
  intro a b ha hb h3 h4
  refine rise_inj h (hl a ha) (hl b (hp.mem_iff.2 hb)) ?_
  unfold le2 at h3 h4
  omega
theorem DueL.unique {es d d' : List Tm} {now : Int} (h : es.Pairwise (fun x y => x.turn < y.turn)) (h1 : DueL es now d) (h2 : DueL es now d') : d = d' :=
  sorted_unique h (fun t ht => (List.mem_filter.1 (h1.perm.mem_iff.1 ht)).1) (h1.perm.trans h2.perm.symm) h1.sorted h2.sorted
theorem due_clk (base C b most : Nat) (sets : Int) (es : List Tm) (now : Int) (w : World) (h : Clk w base C b most sets es) (hbase : base ≤ w.heap.size) :
    Calls Try.prog 25 #[.pointer (some ⟨C, 0, none⟩), .int .i64 now] w fun e w' =>
      ∃ ao cap d b', e = .returned (.slice ao d.length cap) ∧ DueL es now d ∧ Sl w' (w.heap.size ≤ ·) (.slice ao d.length cap) (namesV d) ∧ Clk w' base C b' most sets (restL es now) ∧ w.heap.size ≤ b' ∧ Tch (· = C) w w' := by
  obtain ⟨n, ha, hn⟩ := h.at_
  have hl := h.len
  have hm := h.most64
  refine (due_ok C b n most sets es now w ha (by omega)).mono ?_
  rintro e w' ⟨v, d, b', rfl, hp, hs, how, hc, hb', ht⟩
  have hsl := own_sl how
  obtain ⟨ao, cap, hv, _⟩ := id hsl
  subst hv
  have hln : (namesV d).length = d.length := by simp [namesV]
  rw [hln] at hsl ⊢
  refine ⟨ao, cap, d, b', rfl, ⟨hp, hs⟩, hsl, ⟨⟨es.length, hc, by have := h.s0; omega⟩, h.hC, by omega, h.most64, ?_, h.s0, List.Pairwise.filter _ h.rise, fun t ht => h.top t (List.mem_filter.1 ht).1⟩, hb', ht⟩
  exact Nat.le_trans (List.length_filter_le _ _) h.len
end Go.Proofs.Ytohpbjbbkpllaaa
