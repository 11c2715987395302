/-
  The reference's Sorted, as a contract: new memory that reads as the same numbers, none greater than the next.
-/
import Derived.Test.YtdhafagihfdolaaNodeRef
import Derived.BigRegion
import Derived.Deep.QuietTactic
set_option linter.unusedVariables false
set_option linter.unusedSimpArgs false
namespace Go.Proofs.Ytdhafagihfdolaa
open Go.RowKit Go.Lib Go.Sort Go.Shelf

theorem info_int : (Try.prog.info? 3).map (fun i => (i.zero, i.size, i.bytes)) = some (some (.int .i64 0), 1, 8) := by kernel_rfl

/-- The row under way: the numbers L, from block base on. -/
def RowL (w : World) (base : Nat) (ao : Option Addr) (cap : Nat) (L : List Int) : Prop :=
  0 < L.length → ∃ g cur, ao = some ⟨g, 0, none⟩ ∧ base ≤ g ∧ Bk w g 3 cur ∧ cur.size = cap ∧ ∀ j, j < L.length → cur[j]? = some (.int .i64 (L.getD j 0))
/-- Of the first i numbers all pairs are in order but those that end at k. -/
def But1 (L : List Int) (i k : Nat) : Prop := ∀ a b, a < b → b < i → b ≠ k → L.getD a 0 ≤ L.getD b 0
def swapL (L : List Int) (k : Nat) : List Int := (L.set (k - 1) (L.getD k 0)).set k (L.getD (k - 1) 0)
theorem swapL_length (L : List Int) (k : Nat) : (swapL L k).length = L.length := by simp [swapL]
theorem getD_set (L : List Int) (i j : Nat) (x : Int) (hi : i < L.length) : (L.set i x).getD j 0 = if j = i then x else L.getD j 0 := by
  simp only [List.getD, List.getElem?_set]
  by_cases h : i = j
  · subst h; simp [hi]
  · rw [if_neg h, if_neg (by omega)]
theorem swapL_get (L : List Int) (k j : Nat) (h0 : 0 < k) (hk : k < L.length) : (swapL L k).getD j 0 = if j = k then L.getD (k - 1) 0 else if j = k - 1 then L.getD k 0 else L.getD j 0 := by
  unfold swapL
  rw [getD_set _ _ _ _ (by simp; omega), getD_set _ _ _ _ (by omega)]
theorem swapL_perm (L : List Int) (k : Nat) (h0 : 0 < k) (hk : k < L.length) : (swapL L k).Perm L := by
  obtain ⟨m, rfl⟩ : ∃ m, k = m + 1 := ⟨k - 1, by omega⟩
  have e : L = L.take m ++ L.getD m 0 :: L.getD (m + 1) 0 :: L.drop (m + 2) := by
    have h1 : L.drop m = L[m] :: L.drop (m + 1) := List.drop_eq_getElem_cons (by omega)
    have h2 : L.drop (m + 1) = L[m + 1] :: L.drop (m + 2) := List.drop_eq_getElem_cons hk
    have g1 : L.getD m 0 = L[m] := by simp [List.getD, show m < L.length by omega]
    have g2 : L.getD (m + 1) 0 = L[m + 1] := by simp [List.getD, hk]
    rw [g1, g2, ← h2, ← h1, List.take_append_drop]
  have e2 : swapL L (m + 1) = L.take m ++ L.getD (m + 1) 0 :: L.getD m 0 :: L.drop (m + 2) := by
    refine List.ext_getElem (by simp [swapL]; omega) fun j h1 h2 => ?_
    have hg := swapL_get L (m + 1) j (by omega) hk
    have hl : (swapL L (m + 1)).getD j 0 = (swapL L (m + 1))[j] := by simp [List.getD, h1]
    rw [← hl, hg]
    have ht : (L.take m).length = m := by rw [List.length_take]; omega
    by_cases h : j < m
    · rw [if_neg (by omega), if_neg (by omega), List.getElem_append_left (by omega)]
      simp [List.getD, show j < L.length by omega]
    · rw [List.getElem_append_right (by omega)]
      simp only [ht]
      by_cases h3 : j = m
      · subst h3; simp
      · by_cases h4 : j = m + 1
        · subst h4; simp [show m + 1 - m = 1 by omega]
        · rw [if_neg h4, if_neg (by omega)]
          have hj : j < L.length := by simpa [swapL_length] using h1
          obtain ⟨p, rfl⟩ : ∃ p, j = m + 2 + p := ⟨j - (m + 2), by omega⟩
          simp only [show m + 2 + p - m = p + 1 + 1 by omega, List.getElem_cons_succ, List.getElem_drop]
          simp only [List.getD, List.getElem?_eq_getElem hj, Option.getD_some]
  rw [e2]
  refine List.Perm.trans ?_ (List.Perm.of_eq e.symm)
  exact List.Perm.append_left _ (List.Perm.swap _ _ _)

theorem but1_swap {L : List Int} {i k : Nat} (h : But1 L (i + 1) k) (h0 : 0 < k) (hk : k ≤ i) (hi : i < L.length) (hgt : L.getD k 0 < L.getD (k - 1) 0) : But1 (swapL L k) (i + 1) (k - 1) := by
  intro a b hab hb hbk
  rw [swapL_get L k a h0 (by omega), swapL_get L k b h0 (by omega)]
  by_cases e1 : b = k
  · subst e1
    rw [if_pos rfl, if_neg (by omega)]
    by_cases e2 : a = b - 1
    · rw [if_pos e2]; omega
    · rw [if_neg e2]; exact h a (b - 1) (by omega) (by omega) (by omega)
  · rw [if_neg e1, if_neg hbk]
    by_cases e2 : a = k
    · rw [if_pos e2]; exact h (k - 1) b (by omega) hb e1
    · rw [if_neg e2]
      by_cases e3 : a = k - 1
      · rw [if_pos e3]; exact h k b (by omega) hb e1
      · rw [if_neg e3]; exact h a b hab hb e1
theorem but1_done {L : List Int} {i k : Nat} (h : But1 L (i + 1) k) (hk : k ≤ i) (hle : k = 0 ∨ L.getD (k - 1) 0 ≤ L.getD k 0) : But1 L (i + 1) (i + 1) := by
  intro a b hab hb _
  by_cases e : b = k
  · subst e
    rcases hle with e0 | hle
    · omega
    · by_cases e2 : a = b - 1
      · subst e2; exact hle
      · have := h a (b - 1) (by omega) (by omega) (by omega); omega
  · exact h a b hab hb e
theorem but1_start {L : List Int} {i : Nat} (h : But1 L i i) : But1 L (i + 1) i := fun a b hab hb hbk => h a b hab (by omega) (by omega)
theorem but1_sorted {L : List Int} {i : Nat} (h : But1 L i i) (hi : L.length ≤ i) : L.Pairwise (· ≤ ·) := by
  refine List.pairwise_iff_getElem.2 fun a b ha hb hab => ?_
  have := h a b hab (by omega) (by omega)
  simpa [List.getD, ha, hb] using this

theorem rowL_swap {w : World} {base : Nat} {g cap k : Nat} {L : List Int} (h : RowL w base (some ⟨g, 0, none⟩) cap L) (h0 : 0 < k) (hk : k < L.length) (hc : L.length ≤ cap) :
    RowL (((w.setCell ⟨g, k - 1, none⟩ (.int .i64 (L.getD k 0))).setCell ⟨g, k, none⟩ (.int .i64 (L.getD (k - 1) 0))).drew) base (some ⟨g, 0, none⟩) cap (swapL L k) := by
  intro hp
  obtain ⟨g', cur, e, hb, hbk, hsz, hcur⟩ := h (by omega)
  injection e with e
  injection e with e
  subst e
  refine ⟨g, _, rfl, hb, ((hbk.store (k - 1) _).store k _), by simp [hsz], fun j hj => ?_⟩
  rw [swapL_length] at hj
  rw [swapL_get L k j h0 hk, Array.getElem?_setIfInBounds, Array.getElem?_setIfInBounds]
  by_cases e1 : j = k
  · subst e1; simp; omega
  · rw [if_neg (by omega), if_neg e1]
    by_cases e2 : j = k - 1
    · subst e2; simp; omega
    · rw [if_neg (by omega), if_neg e2]; exact hcur j hj

set_option maxRecDepth 1000000 in
set_option maxHeartbeats 4000000 in
theorem sorted_ref {S : Nat → Prop} (v : Value) (ns : List Int) (w : World) (h : Sl w S v (ints ns)) (hl : ns.length ≤ 1000000) :
    Calls Try.prog 31 #[v] w fun e w' => ∃ v' L, e = .returned v' ∧ Slr w' v' (ints L) ∧ L.Perm ns ∧ L.Pairwise (· ≤ ·) ∧ Below w.heap.size w w' := by
  obtain ⟨ao, cap, rfl, h1, h2, h3, h4⟩ := slr_ints h
  obtain ⟨i0, hi, hz0, hz1, hz2⟩ := info_parts info_int
  have HS := Lib.hid h
  have H4 := Lib.hid h4
  have hnew : 0 < ns.length → ∃ ad, ao = some ad ∧ ∀ (j : Nat) (u : Value), (ints ns)[j]? = some u → (w.alloc (.cells #[] 3)).cell? (ad.add j) = some u := by
    intro hp
    obtain ⟨b, off, e, _, hb, hc⟩ := h4 hp
    refine ⟨_, e, fun j u hu => ?_⟩
    obtain ⟨hj, rfl⟩ := List.getElem?_eq_some_iff.1 hu
    rw [Addr.add_lit, World.cell?_of_block (w := w) (Below.heap_alloc _ _ _ (by exact hb)), hc j (by rw [ints_length] at hj; exact hj), ints_get']
  have hlen := ints_length ns
  obtain ⟨n, hn⟩ : ∃ n, n = ns.length := ⟨_, rfl⟩
  rw [← hn] at hlen hnew h1 hl ⊢
  have HN := Lib.hid hn
  clear h h4 hn
  have hm1 : 0 + n ≤ maxLen := by unfold maxLen; omega
  have hm2 : (0 + n) * 8 ≤ 140737488355328 := by omega
  go_enter Try.func31, Try.ntmps31
  go_wp2_with (at_builtin; refine list_app rfl (.tmp 6) (.tmp 7) 26 rfl w.heap.size 3 i0 (.int .i64 0) 8 Try.underlying26 hi hz0 hz1 hz2 rfl (.slice (some ⟨w.heap.size, 0, none⟩) 0 0) 0 [] rfl (World.ownsRow_made w #[] 0 (Nat.le_refl _) (Nat.zero_le _) rfl) ao n cap (ints ns) rfl hlen h3 (fun h => by have := h3 h; omega) hnew (ints_one ns) hm1 hm2 (by simp) ?_; intro v' w3 hown3 hgrow)
  have hown : w3.ownsRow w.heap.size 3 1 v' n (ints ns) := by simpa using hown3.out
  obtain ⟨bo, capv, rfl, g1, g2, g3, g4⟩ := own_shape hown
  have hb3 : Below w.heap.size w w3 := (below_alloc _ _).grown hgrow.out (by simp) (fun k hk => by simp [Value.ownBlock] at hk; omega)
  have hrow : RowL w3 w.heap.size bo capv ns := by
    intro hp
    obtain ⟨g, cur, e, hb, hbk, hsz, hcur⟩ := g4 (fun h => by have := g3 h; have := HN.out; omega)
    exact ⟨g, cur, e, hb, hbk, hsz, fun j hj => hcur j _ (by rw [List.getElem?_eq_getElem (by rw [ints_length]; exact hj), ints_get'])⟩
  have HB := Lib.hid hb3
  have HR := Lib.hid hrow
  have HG3 := Lib.hid g3
  have HO := Lib.hid hown
  unfold maxLen at g2
  clear hown3 hgrow hown g4 hb3 hrow hnew hlen h3 hi hz0 hz1 hz2 hm1 hm2 g3
  go_wp2_with fail
  go_loopw [4] (fun vi wr => ∃ i L, 1 ≤ i ∧ i ≤ n + 1 ∧ vi = .int .i64 (i : Nat) ∧ Hid (List.Perm L ns) ∧ Hid (But1 L i i) ∧ Hid (RowL wr w.heap.size bo capv L) ∧ Hid (Below w.heap.size w wr)) (fun vi _ => n + 1 - (intOf vi).toNat)
  case atStart => exact ⟨1, ns, by omega, by omega, rfl, List.Perm.refl _, fun a b hab hb _ => by omega, HR, HB⟩
  case round =>
    obtain ⟨i, L, hi1, hi2, rfl, HP, HBut, HRr, HBr⟩ := hrel
    by_cases hlt : i < n
    · go_wp2_with fail
      obtain ⟨wo, rfl⟩ : ∃ wo : World, wo = wr := ⟨_, rfl⟩
      go_loopw [5] (fun vk wr => ∃ k L, k ≤ i ∧ vk = .int .i64 (k : Nat) ∧ Hid (List.Perm L ns) ∧ Hid (But1 L (i + 1) k) ∧ Hid (RowL wr w.heap.size bo capv L) ∧ Hid (Below w.heap.size w wr)) (fun vk _ => (intOf vk).toNat)
      case atStart => exact ⟨i, L, by omega, rfl, HP, but1_start HBut.out, HRr, HBr⟩
      case round =>
        clear HP HBut HRr HBr
        obtain ⟨k, L, hk, rfl, HP, HBut, HRr, HBr⟩ := hrel
        have hLl : L.length = n := HP.out.length_eq.trans HN.out.symm
        by_cases hk0 : 0 < k
        · obtain ⟨g, cur, rfl, hgb, hbk, hsz, hcur⟩ := HRr.out (by omega)
          obtain ⟨x, hx⟩ : ∃ x, x = L.getD (k - 1) 0 := ⟨_, rfl⟩
          obtain ⟨y, hy⟩ : ∃ y, y = L.getD k 0 := ⟨_, rfl⟩
          have c1 : wr.cell? ⟨g, k - 1, none⟩ = some (.int .i64 x) := by rw [hbk.cell, hx]; exact hcur _ (by omega)
          have c2 : wr.cell? ⟨g, k, none⟩ = some (.int .i64 y) := by rw [hbk.cell, hy]; exact hcur _ (by omega)
          have f1 := hbk.frozen (k - 1)
          have f2 := hbk.frozen k
          have HX := Lib.hid hx
          have HY := Lib.hid hy
          have HL := Lib.hid hLl
          clear hbk hcur hx hy hLl hsz hgb
          have hd : decide (0 < (k : Int)) = true := dec_ (by omega)
          by_cases hxy : y < x
          · have ht := dec_ hxy
            have e1 : IntKind.i64.wrap ((k : Int) - 1) = (k : Int) - 1 := IntWalk.i64_in _ (by omega)
            have e2 : (0 : Int) ≤ (k : Int) - 1 := by omega
            have e3 : ((k : Int) - 1).toNat = k - 1 := by omega
            have e4 : (k : Int) - 1 < n := by omega
            have e5 : (k : Int) < n := by omega
            go_wp2_with fail
            go_quiet (fail)
            obtain ⟨wq, hwq⟩ : ∃ wq, wq = wr.drewN nq := ⟨_, rfl⟩
            have HRq : RowL wq w.heap.size (some ⟨g, 0, none⟩) capv L := by rw [hwq]; exact HRr.out
            have HBq : Below w.heap.size w wq := by rw [hwq]; exact bdN HBr.out nq
            have c1' : wq.cell? ⟨g, k - 1, none⟩ = some (.int .i64 x) := by rw [hwq]; exact c1
            have c2' : wq.cell? ⟨g, k, none⟩ = some (.int .i64 y) := by rw [hwq]; exact c2
            have f1' : wq.frozen? ⟨g, k - 1, none⟩ = false := by rw [hwq]; exact f1
            have f2' : wq.frozen? ⟨g, k, none⟩ = false := by rw [hwq]; exact f2
            rw [← hwq]
            have HR2 := Lib.hid HRq
            have HB2 := Lib.hid HBq
            clear HRq HBq c1 c2 f1 f2 HRr HBr hwq
            go_wp2_with fail
            go_region
            go_wp2_with fail
            have hgw : w.heap.size ≤ g := by obtain ⟨g', _, e, hb, _⟩ := HR2.out (by rw [HL.out]; omega); injection e with e; injection e with e; omega
            go_roundw
            case rel => exact ⟨k - 1, swapL L k, by omega, by rw [show ((k - 1 : Nat) : Int) = (k : Int) - 1 by omega], (swapL_perm L k hk0 (by rw [HL.out]; omega)).trans HP.out, but1_swap HBut.out hk0 hk (by rw [HL.out]; omega) (by rw [← HX.out, ← HY.out]; exact hxy),
              by rw [HX.out, HY.out]; exact rowL_swap HR2.out hk0 (by rw [HL.out]; omega) (by rw [HL.out]; omega), ((HB2.out.setCell hgw _).setCell hgw _).drew⟩
            case measure => simp [intOf]; omega
          · have ht := decn_ hxy
            have e1 : IntKind.i64.wrap ((k : Int) - 1) = (k : Int) - 1 := IntWalk.i64_in _ (by omega)
            have e2 : (0 : Int) ≤ (k : Int) - 1 := by omega
            have e3 : ((k : Int) - 1).toNat = k - 1 := by omega
            have e4 : (k : Int) - 1 < n := by omega
            have e5 : (k : Int) < n := by omega
            have HD := Lib.hid (but1_done HBut.out hk (.inr (by rw [← HX.out, ← HY.out]; omega)))
            go_wp2_with fail
            go_quiet (fail)
            go_wp2_with fail
            go_roundw
            case rel => exact ⟨i + 1, L, by omega, by omega, by go_num, HP, HD, HRr.out, bdN HBr.out nq⟩
            case measure => simp [intOf]; omega
        · have hd : decide (0 < (k : Int)) = false := decn_ (by omega)
          have hd2 : decide (0 < k) = false := decn_ (by omega)
          have HD := Lib.hid (but1_done HBut.out hk (.inl (by omega)))
          have HL := Lib.hid hLl
          clear hLl
          go_wp2_with fail
          go_quiet (fail)
          go_wp2_with fail
          go_roundw
          case rel => exact ⟨i + 1, L, by omega, by omega, by go_num, HP, HD, HRr.out, bdN HBr.out nq⟩
          case measure => simp [intOf]; omega
    · have HF := Lib.hid (but1_sorted (i := i) HBut.out (by rw [HP.out.length_eq, ← HN.out]; omega))
      have HL := Lib.hid (HP.out.length_eq.trans HN.out.symm)
      go_wp2_with fail
      go_ret
      refine ⟨_, L, rfl, ?_, HP.out, HF.out, HBr.out⟩
      have hln := HL.out
      have hil := ints_length L
      refine ⟨bo, capv, by rw [hil, hln]; rfl, by omega, by unfold maxLen; omega, HG3.out, fun hp => ?_⟩
      obtain ⟨g, cur, e, hgb, hbk, hsz, hcur⟩ := HRr.out (by omega)
      exact ⟨g, 0, e, ⟨cur, hbk⟩, hbk.lt, fun j hj => by rw [Nat.zero_add, hbk.cell, hcur j (by omega), ints_get']⟩
end Go.Proofs.Ytdhafagihfdolaa
