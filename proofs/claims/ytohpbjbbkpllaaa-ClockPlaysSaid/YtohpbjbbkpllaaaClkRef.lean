/-
  The reference's Drop and Due as contracts.
-/
import Derived.Test.YtohpbjbbkpllaaaClkLaw
import Derived.Test.YtohpbjbbkpllaaaRowK
set_option linter.unusedVariables false
set_option linter.unusedSimpArgs false
namespace Go.Proofs.Ytohpbjbbkpllaaa
open Go.RowKit Go.Maps Go.Shelf Go.Sort

def thC (t : Tm) : List Value := [.string t.name, .int .i64 t.tick]
theorem thC_len (t : Tm) : (thC t).length = 2 := rfl
theorem thC_one (l : List Tm) : ∀ u ∈ l.flatMap thC, u.oneCell' = true := by
  intro u hu
  obtain ⟨t, _, ht⟩ := List.mem_flatMap.1 hu
  simp only [thC, List.mem_cons, List.not_mem_nil, or_false] at ht
  rcases ht with rfl | rfl <;> rfl
theorem thing_info : (Try.prog.info? 49).map (fun i => (i.zero, i.size, i.bytes)) = some (some (.agg #[.string ⟨#[]⟩, .int .i64 0]), 2, 24) := by kernel_rfl
theorem th_at {w : World} {S : Nat → Prop} {ao : Option Addr} {n cap : Nat} {l : List Tm} (h : Slk thC 2 w S (.slice ao n cap) l) (j : Nat) (hj : j < l.length) :
    ∃ b off, ao = some ⟨b, off, none⟩ ∧ S b ∧ b < w.heap.size ∧ w.cell? ⟨b, off + j * 2, none⟩ = some (.string l[j].name) ∧ w.cell? ⟨b, off + j * 2 + 1, none⟩ = some (.int .i64 l[j].tick) := by
  obtain ⟨b, off, e, hs, hb, hc⟩ := h.at_ (by omega)
  exact ⟨b, off, e, hs, hb, hc j hj 0 _ rfl, hc j hj 1 _ rfl⟩
theorem dropK_step (l : List Tm) (s : ByteArray) (j : Nat) (hj : j < l.length) : dropK (l.take (j + 1)) s = dropK (l.take j) s ++ (if l[j].name = s then [] else [l[j]]) := by
  rw [List.take_add_one, List.getElem?_eq_getElem hj]
  unfold dropK
  rw [List.filter_append]
  congr 1
  by_cases h : l[j].name = s <;> simp [h]
def DropAt (l : List Tm) (s : ByteArray) (w : World) (e : Ending) (w' : World) : Prop :=
  ∃ v', e = .returned v' ∧ w'.ownsRow w.heap.size 49 2 v' (dropK l s).length ((dropK l s).flatMap thC) ∧ Below w.heap.size w w'
set_option maxHeartbeats 1000000 in
theorem drop_ref (v : Value) (l : List Tm) (s : ByteArray) (w : World) (S : Nat → Prop) (h : Slk thC 2 w S v l) (hl : l.length ≤ 1000) :
    Calls Try.prog 23 #[v, .string s] w (DropAt l s w) := by
  obtain ⟨i0, hi, hz0, hz1, hz2⟩ := info_parts thing_info
  obtain ⟨ao, cap, rfl, _, _⟩ := h.shape
  have H := Lib.hid h
  clear h
  go_enter Try.func23, Try.ntmps23
  go_wp2_with fail
  go_loopw [5, 6] (fun kv jv wr => ∃ j : Nat, j ≤ l.length ∧ jv = .int .i64 j ∧ Hid (wr.ownsRow w.heap.size 49 2 kv (dropK (l.take j) s).length ((dropK (l.take j) s).flatMap thC)) ∧ Hid (Below w.heap.size w wr)) (fun _ jv _ => l.length - (intOf jv).toNat)
  case atStart => exact ⟨0, Nat.zero_le _, rfl, Lib.hid (World.ownsRow_nil _ _ _ _), Lib.hid (Below.refl _ _)⟩
  case round =>
    obtain ⟨j, hj, rfl, HO, HB⟩ := hrel
    by_cases hlt : j < l.length
    · obtain ⟨bo, off, rfl, hs, hbo, c0, c1⟩ := th_at (H.out.since HB.out) j hlt
      have hstep := dropK_step l s j hlt
      have hll : (dropK (l.take j) s).length ≤ l.length := Nat.le_trans (List.length_filter_le _ _) (by rw [List.length_take]; omega)
      obtain ⟨t, ht⟩ : ∃ t, t = l[j] := ⟨_, rfl⟩
      rw [← ht] at c0 c1 hstep
      clear ht
      have HLL := Lib.hid hll
      have hz := HB.out.size
      clear hll
      by_cases hn : t.name = s
      · have hb := str_nne hn
        have hb2 := str_eq hn
        rw [if_pos hn, List.append_nil] at hstep
        have HST := Lib.hid hstep
        clear hstep hn
        go_wp2_with fail
        go_roundw
        case rel => exact ⟨j + 1, hlt, by go_num, by rw [HST.out]; exact HO, HB⟩
        case measure => simp [intOf]; omega
      · have hb := str_neq hn
        have hb2 := str_ne hn
        rw [if_neg hn] at hstep
        have HST := Lib.hid hstep
        clear hstep hn
        go_wp2_with (at_builtin; refine list_appK rfl (.tmp 20) (.tmp 25) 45 rfl w.heap.size 49 i0 (.agg #[.string ⟨#[]⟩, .int .i64 0]) 2 24 Try.underlying45 hi hz0 hz1 hz2 rfl (by omega) _ (dropK (l.take j) s).length _ rfl (HO.out.alloc _) (some ⟨wr.heap.size, 0, none⟩) 1 1 (thC t) rfl rfl (by simp) (by simp) (fun _ => ⟨_, rfl, fun jj u hu => by rw [Addr.add_lit, Nat.zero_add, (Bk.made wr _ _).cell, List.getElem?_toArray]; exact hu⟩) (fun u hu => thC_one [t] u (by simpa using hu)) (Nat.le_trans (show (dropK (l.take j) s).length + 1 ≤ 1001 from by have := HLL.out; omega) (by decide : 1001 ≤ maxLen)) (by have := HLL.out; omega) (by simp; omega) ?_; intro v' w3 HO3 HG3)
        go_wp2_with fail
        have t3 : Tch (fun b => w.heap.size ≤ b) wr w3 := Tch.grown ((Tch.refl _ wr).alloc _) HG3.out (fun g hg _ => (own_base HO.out hg).1)
        go_roundw
        case rel =>
          refine ⟨j + 1, hlt, by go_num, ?_, Lib.hid (((Tch.of_below HB.out).then t3).below (fun x hx => by omega))⟩
          rw [HST.out, List.length_append, List.flatMap_append]
          have h := HO3.out
          exact Lib.hid (by simpa using h)
        case measure => simp [intOf]; omega
    · obtain rfl : j = l.length := by omega
      go_wp2_with fail
      go_ret
      have h := HO.out
      rw [List.take_length] at h
      exact ⟨_, rfl, h, HB.out⟩

theorem own_sep {w : World} {b1 b2 : Nat} {e1 e2 : TypeId} {s1 s2 n1 n2 : Nat} {v1 v2 : Value} {xs ys : List Value} (h1 : w.ownsRow b1 e1 s1 v1 n1 xs) (h2 : w.ownsRow b2 e2 s2 v2 n2 ys) (hne : e1 ≠ e2) : ∀ k, v1.ownBlock = some k → v2.ownBlock ≠ some k := by
  intro k hk hk2
  rcases h1.2 with ⟨rfl, _⟩ | ⟨g, cap, cur, rfl, _, hg, _⟩
  · simp [Value.ownBlock] at hk
  · rcases h2.2 with ⟨rfl, _⟩ | ⟨g', cap', cur', rfl, _, hg', _⟩
    · simp [Value.ownBlock] at hk2
    · simp [Value.ownBlock] at hk hk2
      subst hk; subst hk2
      rw [hg] at hg'
      injection hg' with hg'
      injection hg' with _ h3
      exact hne h3
/-- What the reference has done: dl is out, r is left. -/
structure RefIs (l : List Tm) (now : Int) (dl r : List Tm) : Prop where
  perm : (dl ++ r).Perm l
  sub : r.Sublist l
  sorted : dl.Pairwise le2
  due : ∀ x ∈ dl, x.tick ≤ now
  ahead : ∀ x ∈ dl, ∀ y ∈ r, y.tick ≤ now → le2 x y
/-- k is the place of the first of the least among the first i that are due. -/
def Best (r : List Tm) (now : Int) (i : Nat) (k : Int) : Prop :=
  (k = -1 ∧ ∀ j (hj : j < r.length), j < i → ¬ r[j].tick ≤ now) ∨
  ∃ m : Nat, ∃ hm : m < r.length, k = m ∧ m < i ∧ r[m].tick ≤ now ∧ ∀ j (hj : j < r.length), j < i → r[j].tick ≤ now → r[m].tick < r[j].tick ∨ (r[m].tick = r[j].tick ∧ m ≤ j)
theorem RefIs.start (l : List Tm) (now : Int) : RefIs l now [] l := ⟨by simp, List.Sublist.refl _, List.Pairwise.nil, by simp, by simp⟩
theorem rise_le {r : List Tm} (h : r.Pairwise (fun x y => x.turn < y.turn)) {i j : Nat} (hi : i < r.length) (hj : j < r.length) (hij : i ≤ j) : r[i].turn ≤ r[j].turn := by
  rcases Nat.lt_or_eq_of_le hij with h1 | rfl
  · exact Int.le_of_lt (List.pairwise_iff_getElem.1 h i j hi hj h1)
  · exact Int.le_refl _
theorem RefIs.step {l dl r : List Tm} {now : Int} (h : RefIs l now dl r) (hr : l.Pairwise (fun x y => x.turn < y.turn)) {m : Nat} (hm : m < r.length) (hd : r[m].tick ≤ now)
    (hb : ∀ j (hj : j < r.length), r[j].tick ≤ now → r[m].tick < r[j].tick ∨ (r[m].tick = r[j].tick ∧ m ≤ j)) : RefIs l now (dl ++ [r[m]]) (r.take m ++ r.drop (m + 1)) := by
  have hrr := hr.sublist h.sub
  have hsplit : r = r.take m ++ r[m] :: r.drop (m + 1) := by rw [List.getElem_cons_drop, List.take_append_drop]
  have hmem : ∀ y ∈ r.take m ++ r.drop (m + 1), y ∈ r := by
    intro y hy
    rcases List.mem_append.1 hy with hy | hy
    · exact List.mem_of_mem_take hy
    · exact List.mem_of_mem_drop hy
  refine ⟨?_, ?_, ?_, ?_, ?_⟩
  · have e : (dl ++ [r[m]] ++ (r.take m ++ r.drop (m + 1))).Perm (dl ++ (r.take m ++ r[m] :: r.drop (m + 1))) := by
      classical
      rw [List.perm_iff_count]
      intro a
      simp only [List.count_append, List.count_cons, List.count_nil]
      omega
    rw [← hsplit] at e
    exact e.trans h.perm
  · refine List.Sublist.trans ?_ h.sub
    have e : (r.take m ++ r.drop (m + 1)).Sublist (r.take m ++ r[m] :: r.drop (m + 1)) := List.Sublist.append (List.Sublist.refl _) (List.sublist_cons_self _ _)
    rw [← hsplit] at e
    exact e
  · refine List.pairwise_append.2 ⟨h.sorted, by simp, fun x hx y hy => ?_⟩
    rw [List.mem_singleton] at hy
    subst hy
    exact h.ahead x hx _ (List.getElem_mem _) hd
  · intro x hx
    rcases List.mem_append.1 hx with hx | hx
    · exact h.due x hx
    · rw [List.mem_singleton] at hx; subst hx; exact hd
  · intro x hx y hy hyd
    rcases List.mem_append.1 hx with hx | hx
    · exact h.ahead x hx y (hmem y hy) hyd
    · rw [List.mem_singleton] at hx
      subst hx
      obtain ⟨j, hj, rfl⟩ := List.getElem_of_mem (hmem y hy)
      rcases hb j hj hyd with h1 | ⟨h1, h2⟩
      · exact .inl h1
      · exact .inr ⟨h1, rise_le hrr hm hj h2⟩
theorem rest_same {l r : List Tm} {now : Int} {dl : List Tm} (h : RefIs l now dl r) (hr : l.Pairwise (fun x y => x.turn < y.turn)) (hn : ∀ y ∈ r, ¬ y.tick ≤ now) : DueL l now dl ∧ r = restL l now := by
  have hp := parted (p := fun t => decide (t.tick ≤ now)) h.perm (fun t ht => decide_eq_true (h.due t ht)) (fun t ht => decide_eq_false (hn t ht))
  refine ⟨⟨hp.1, h.sorted⟩, ?_⟩
  refine List.Perm.eq_of_pairwise (le := fun x y => x.turn < y.turn) ?_ (hr.sublist h.sub) (hr.filter _) hp.2
  intro a b _ _ h1 h2
  omega
theorem Best.start (r : List Tm) (now : Int) : Best r now 0 (-1) := .inl ⟨rfl, fun j _ h => absurd h (Nat.not_lt_zero _)⟩
theorem Best.skip {r : List Tm} {now : Int} {i : Nat} {k : Int} (h : Best r now i k) (hi : i < r.length) (hn : ¬ r[i].tick ≤ now) : Best r now (i + 1) k := by
  rcases h with ⟨h1, h2⟩ | ⟨m, hm, h1, h2, h3, h4⟩
  · refine .inl ⟨h1, fun j hj hji => ?_⟩
    rcases Nat.lt_or_eq_of_le (Nat.le_of_lt_succ hji) with h | rfl
    · exact h2 j hj h
    · exact hn
  · refine .inr ⟨m, hm, h1, by omega, h3, fun j hj hji hd => ?_⟩
    rcases Nat.lt_or_eq_of_le (Nat.le_of_lt_succ hji) with h | rfl
    · exact h4 j hj h hd
    · exact absurd hd hn
theorem Best.first {r : List Tm} {now : Int} {i : Nat} (h : Best r now i (-1)) (hi : i < r.length) (hd : r[i].tick ≤ now) : Best r now (i + 1) i := by
  rcases h with ⟨_, h2⟩ | ⟨m, hm, h1, _⟩
  · refine .inr ⟨i, hi, rfl, by omega, hd, fun j hj hji hjd => ?_⟩
    rcases Nat.lt_or_eq_of_le (Nat.le_of_lt_succ hji) with h | rfl
    · exact absurd hjd (h2 j hj h)
    · exact .inr ⟨rfl, Nat.le_refl _⟩
  · omega
theorem Best.less {r : List Tm} {now : Int} {i m : Nat} (h : Best r now i m) (hi : i < r.length) (hm : m < r.length) (hd : r[i].tick ≤ now) (hl : r[i].tick < r[m].tick) : Best r now (i + 1) i := by
  rcases h with ⟨h1, _⟩ | ⟨m', hm', h1, h2, h3, h4⟩
  · omega
  · obtain rfl : m = m' := by omega
    refine .inr ⟨i, hi, rfl, by omega, hd, fun j hj hji hjd => ?_⟩
    rcases Nat.lt_or_eq_of_le (Nat.le_of_lt_succ hji) with h | rfl
    · have := h4 j hj h hjd
      left; omega
    · exact .inr ⟨rfl, Nat.le_refl _⟩
theorem Best.more {r : List Tm} {now : Int} {i m : Nat} (h : Best r now i m) (hi : i < r.length) (hm : m < r.length) (hl : ¬ r[i].tick < r[m].tick) : Best r now (i + 1) m := by
  rcases h with ⟨h1, _⟩ | ⟨m', hm', h1, h2, h3, h4⟩
  · omega
  · obtain rfl : m = m' := by omega
    refine .inr ⟨m, hm, rfl, by omega, h3, fun j hj hji hjd => ?_⟩
    rcases Nat.lt_or_eq_of_le (Nat.le_of_lt_succ hji) with h | rfl
    · exact h4 j hj h hjd
    · have : m < j := h2
      omega
end Go.Proofs.Ytohpbjbbkpllaaa
