/-
  The reference's functions on lists of integers (Has, Same, Sorted), as contracts over slices that read as lists.
-/
import Derived.Test.YtdhafagihfdolaaNodeAdd
import Derived.BigQuiet
import Derived.LoopTactic
set_option linter.unusedVariables false
set_option linter.unusedSimpArgs false
namespace Go.Proofs.Ytdhafagihfdolaa
open Go.RowKit Go.Lib Go.Sort Go.Shelf

set_option maxHeartbeats 1000000 in
theorem has_ref {S : Nat → Prop} (v : Value) (ns : List Int) (n : Int) (w : World) (h : Sl w S v (ints ns)) (hl : ns.length ≤ 1000000) :
    Calls Try.prog 66 #[v, .int .i64 n] w fun e w' => e = .returned (.bool (ns.contains n)) ∧ w' = w := by
  obtain ⟨ao, cap, rfl, h1, h2, h3, h4⟩ := slr_ints h
  clear h
  have HI := Lib.hid h4
  have yes : Hid (∀ k, (hk : k < ns.length) → ns[k] = n → ns.contains n = true) := fun k hk e => by
    rw [List.contains_iff_mem, ← e]
    exact List.getElem_mem hk
  have no : Hid ((∀ j, (hj : j < ns.length) → ns[j] ≠ n) → ns.contains n = false) := fun h => by
    rw [← Bool.not_eq_true, List.contains_iff_mem]
    intro hm
    obtain ⟨j, hj, e⟩ := List.getElem_of_mem hm
    exact h j hj e
  generalize ns.contains n = B at yes no ⊢
  clear h4 h3
  go_enter Try.func66, Try.ntmps66
  go_wp2
  go_loop [5] (fun i => ∃ k : Nat, k ≤ ns.length ∧ i = .int .i64 k ∧ Hid (∀ j, j < k → (hj : j < ns.length) → ns[j] ≠ n)) (fun i => ns.length - (intOf i).toNat)
  case atStart => exact ⟨0, Nat.zero_le _, rfl, fun j hj => absurd hj (Nat.not_lt_zero _)⟩
  case round =>
    obtain ⟨k, hk, rfl, HN⟩ := hrel
    by_cases hlt : k < ns.length
    · obtain ⟨b, off, rfl, _, hb, hcell⟩ := HI.out (by omega)
      have hc := hcell k hlt
      rw [show ns.getD k 0 = ns[k] by simp [List.getD, hlt]] at hc
      obtain ⟨x, hx⟩ : ∃ x, x = ns[k] := ⟨_, rfl⟩
      rw [← hx] at hc
      have HX := Lib.hid hx
      clear hcell hb hx
      by_cases hxn : x = n
      · have ht := beq_ hxn
        have HT := Lib.hid (yes.out k hlt (HX.out.symm.trans hxn))
        clear hxn
        go_wp2_with fail
        go_ret
        exact ⟨by rw [HT.out]; rfl, rfl⟩
      · have ht := bne_ hxn
        have HT := Lib.hid hxn
        clear hxn
        go_wp2_with fail
        go_round
        case rel => exact ⟨k + 1, by omega, by go_num, fun j hj hjl => by
          rcases Nat.lt_or_ge j k with h' | h'
          · exact HN.out j h' hjl
          · obtain rfl : j = k := by omega
            exact fun e => HT.out (HX.out.trans e)⟩
        case measure => simp [intOf]; omega
    · have HT := Lib.hid (no.out fun j hj => HN.out j (by omega) hj)
      go_wp2_with fail
      go_ret
      exact ⟨by rw [HT.out]; rfl, rfl⟩

set_option maxHeartbeats 1000000 in
theorem same_ref {S T : Nat → Prop} (u v : Value) (xs ys : List Int) (w : World) (h : Sl w S u (ints xs)) (k : Sl w T v (ints ys)) (hl : xs.length ≤ 1000000) (hm : ys.length ≤ 1000000) :
    Calls Try.prog 29 #[u, v] w fun e w' => e = .returned (.bool (decide (xs = ys))) ∧ ∃ q, w' = w.drewN q := by
  obtain ⟨ao, cap, rfl, h1, h2, h3, h4⟩ := slr_ints h
  obtain ⟨bo, cap', rfl, k1, k2, k3, k4⟩ := slr_ints k
  clear h k
  have HI := Lib.hid h4
  have KI := Lib.hid k4
  have yes : Hid (xs.length = ys.length → (∀ j, (hj : j < xs.length) → xs[j]? = ys[j]?) → decide (xs = ys) = true) := fun e h => by
    refine dec_ (List.ext_getElem? fun j => ?_)
    by_cases hj : j < xs.length
    · exact h j hj
    · rw [List.getElem?_eq_none (by omega), List.getElem?_eq_none (by omega)]
  have no : Hid (∀ j : Nat, xs[j]? ≠ ys[j]? → decide (xs = ys) = false) := fun j h => decn_ fun e => h (by rw [e])
  have nol : Hid (xs.length ≠ ys.length → decide (xs = ys) = false) := fun h => decn_ fun e => h (by rw [e])
  generalize decide (xs = ys) = B at yes no nol ⊢
  clear h4 h3 k4 k3
  by_cases hne : xs.length = ys.length
  · have HE := Lib.hid hne
    have ht : (((xs.length : Nat) : Int) != ((ys.length : Nat) : Int)) = false := by rw [hne]; simp
    have htt : decide (((xs.length : Nat) : Int) = ((ys.length : Nat) : Int)) = true := dec_ (by omega)
    have hle : xs.length ≤ ys.length := by omega
    have hge : ys.length ≤ xs.length := by omega
    clear hne
    go_enter Try.func29, Try.ntmps29
    go_wp2
    go_loopw [5] (fun i wr => ∃ k q : Nat, k ≤ xs.length ∧ i = .int .i64 k ∧ wr = w.drewN q ∧ Hid (∀ j, j < k → xs[j]? = ys[j]?)) (fun i _ => xs.length - (intOf i).toNat)
    case atStart => exact ⟨0, 0, Nat.zero_le _, rfl, rfl, fun j hj => absurd hj (Nat.not_lt_zero _)⟩
    case round =>
      obtain ⟨k, q, hk, rfl, rfl, HN⟩ := hrel
      by_cases hlt : k < xs.length
      · obtain ⟨b, off, rfl, _, hb, hcell⟩ := HI.out (by omega)
        obtain ⟨b', off', rfl, _, hb', hcell'⟩ := KI.out (by omega)
        have hc := hcell k hlt
        have hc' := hcell' k (by omega)
        rw [show xs.getD k 0 = xs[k] by simp [List.getD, hlt]] at hc
        rw [show ys.getD k 0 = ys[k] by simp [List.getD, show k < ys.length by omega]] at hc'
        obtain ⟨x, hx⟩ : ∃ x, xs[k]? = some x := ⟨_, List.getElem?_eq_getElem hlt⟩
        obtain ⟨y, hy⟩ : ∃ y, ys[k]? = some y := ⟨_, List.getElem?_eq_getElem (by omega)⟩
        have hx' : xs[k] = x := by rw [List.getElem?_eq_getElem hlt] at hx; exact Option.some.inj hx
        have hy' : ys[k] = y := by rw [List.getElem?_eq_getElem (by omega)] at hy; exact Option.some.inj hy
        rw [hx'] at hc
        rw [hy'] at hc'
        have HX := Lib.hid hx
        have HY := Lib.hid hy
        clear hcell hb hcell' hb' hx hy hx' hy'
        by_cases hxy : x = y
        · have HT := Lib.hid hxy
          have ht : (x != y) = false := by simp [hxy]
          have ht2 := beq_ hxy
          clear hxy
          go_wp2_with fail
          go_quiet (fail)
          go_wp2_with fail
          go_roundw
          case rel => exact ⟨k + 1, _, by omega, by go_num, rfl, fun j hj => by
            rcases Nat.lt_or_ge j k with h' | h'
            · exact HN.out j h'
            · obtain rfl : j = k := by omega
              rw [HX.out, HY.out, HT.out]⟩
          case measure => simp [intOf]; omega
        · have HT := Lib.hid (no.out k (by rw [HX.out, HY.out]; exact fun e => hxy (Option.some.inj e)))
          have ht : (x != y) = true := by simp [hxy]
          have ht2 := bne_ hxy
          clear hxy
          go_wp2_with fail
          go_quiet (fail)
          go_wp2_with fail
          go_ret
          exact ⟨by rw [HT.out]; rfl, _, World.drewN_drewN _ _ _⟩
      · have HT := Lib.hid (yes.out HE.out fun j hj => HN.out j (by omega))
        go_wp2_with fail
        go_ret
        exact ⟨by rw [HT.out]; rfl, _, rfl⟩
  · have HT := Lib.hid (nol.out hne)
    have ht : ((xs.length : Nat) : Int) ≠ ((ys.length : Nat) : Int) := by omega
    clear hne
    go_enter Try.func29, Try.ntmps29
    go_wp2_with fail
    go_ret
    exact ⟨by rw [HT.out]; rfl, 0, rfl⟩
end Go.Proofs.Ytdhafagihfdolaa
