/-
  Package pipe: First.
-/
import Derived.Test.YthobffgkggfooaaPipSpk
import Derived.BigRegion
import Derived.Deep.CutBlock
import Derived.Deep.DeepCutAuto
set_option linter.unusedVariables false
set_option linter.unusedSimpArgs false
set_option maxRecDepth 100000
namespace Go.Proofs.Ythobffgkggfooaa
open Go.RowKit

theorem sl_get {w : World} {S : Nat → Prop} {ao : Option Addr} {n cap : Nat} {xs : List Value} (h : Sl w S (.slice ao n cap) xs) (j : Nat) (hj : j < xs.length) :
    ∃ b off, ao = some ⟨b, off, none⟩ ∧ w.cell? ⟨b, off + j, none⟩ = some xs[j] := by
  obtain ⟨ao', cap', e, _, _, _, h4⟩ := h
  injection e with e1 _ _
  subst e1
  obtain ⟨b, off, e, _, _, hc⟩ := h4 (by omega)
  exact ⟨b, off, e, hc j hj⟩
/-- A pipe with its place and its items. -/
structure PA where
  P : Nat
  c : Nat
  l : List ItA
instance : Inhabited PA := ⟨⟨0, 0, []⟩⟩
def paV (x : PA) : Value := .pointer (some ⟨x.P, 0, none⟩)
def PsIs (w : World) (ps : List PA) : Prop := ∀ x ∈ ps, PipIs w x.P x.c x.l
theorem PsIs.new {w w' : World} {ps : List PA} (h : PsIs w ps) (hn : New w w') : PsIs w' ps := fun x hx => (h x hx).new hn
/-- The remainder that is a place. -/
theorem tmod_place (z : Int) (n : Nat) (hn : 0 < n) : -(n : Int) < z.tmod n ∧ z.tmod n < n ∧ (z.tmod n) % (n : Int) = z % (n : Int) := by
  have hc : (z.tmod n) % (n : Int) = z % (n : Int) := by
    have h := Int.mul_tdiv_add_tmod z (n : Int)
    have h2 : z.tmod n = z - (n : Int) * z.tdiv n := by omega
    rw [h2, Int.sub_mul_emod_self_left]
  rcases Int.le_total 0 z with h | h
  · have e := Int.tmod_eq_emod_of_nonneg (b := (n : Int)) h
    have h1 := Int.emod_nonneg z (show (n : Int) ≠ 0 by omega)
    have h2 := Int.emod_lt_of_pos z (show (0 : Int) < (n : Int) by omega)
    rw [e] at hc ⊢
    exact ⟨by omega, by omega, hc⟩
  · obtain ⟨y, rfl⟩ : ∃ y, z = -y := ⟨-z, by omega⟩
    have e : (-y).tmod (n : Int) = -(y % (n : Int)) := by rw [Int.neg_tmod, Int.tmod_eq_emod_of_nonneg (by omega)]
    have h1 := Int.emod_nonneg y (show (n : Int) ≠ 0 by omega)
    have h2 := Int.emod_lt_of_pos y (show (0 : Int) < (n : Int) by omega)
    rw [e] at hc ⊢
    exact ⟨by omega, by omega, hc⟩
/-- Where the search begins. -/
def beg (z : Int) (n : Nat) : Nat := (z % (n : Int)).toNat
theorem beg_lt (z : Int) (n : Nat) (hn : 0 < n) : beg z n < n := by
  have h1 := Int.emod_nonneg z (show (n : Int) ≠ 0 by omega)
  have h2 := Int.emod_lt_of_pos z (show (0 : Int) < (n : Int) by omega)
  unfold beg
  omega
theorem place_at (z : Int) (n i : Nat) (hn : 0 < n) : (z.tmod n + i + n) % (n : Int) = (((beg z n + i) % n : Nat) : Int) := by
  obtain ⟨_, _, h⟩ := tmod_place z n hn
  have h1 := Int.emod_nonneg z (show (n : Int) ≠ 0 by omega)
  have hb : ((beg z n : Nat) : Int) = z % (n : Int) := by unfold beg; omega
  rw [Int.add_emod_right, Int.natCast_emod, Int.natCast_add, hb, Int.add_emod, h, ← Int.add_emod, Int.emod_add_emod]
/-- What First answers. -/
def FirstR (ps : List PA) (z : Int) (w : World) (e : Ending) (w' : World) : Prop :=
  w' = w ∧ ((∃ i, i < ps.length ∧ (∀ j, j < i → (ps.getD ((beg z ps.length + j) % ps.length) default).l = []) ∧ (ps.getD ((beg z ps.length + i) % ps.length) default).l ≠ [] ∧ e = .returned (.tuple #[.int .i64 (((beg z ps.length + i) % ps.length : Nat) : Int), .bool true])) ∨
    ((∀ j, j < ps.length → (ps.getD ((beg z ps.length + j) % ps.length) default).l = []) ∧ e = .returned (.tuple #[.int .i64 0, .bool false])))
set_option maxHeartbeats 1000000 in
theorem pfirst_ok (z : Int) (v : Value) (ps : List PA) (S : Nat → Prop) (w : World) (hs : Sl w S v (ps.map paV)) (hp : PsIs w ps) (hl : ps.length ≤ 100) (hz : -9223372036854775808 ≤ z ∧ z ≤ 9223372036854775807) :
    Calls Try.prog 30 #[.int .i64 z, v] w (FirstR ps z w) := by
  have HSL := Lib.hid hs
  obtain ⟨ao, cap, rfl, _, _, _, _⟩ := hs
  rw [List.length_map] at HSL
  simp only [List.length_map]
  have HP := Lib.hid hp
  obtain ⟨n, hn⟩ : ∃ n, n = ps.length := ⟨_, rfl⟩
  rw [← hn] at hl HSL ⊢
  have HN := Lib.hid hn
  clear hp hn
  go_enter Try.func30, Try.ntmps30
  go_wp2_with fail
  go_loopw [10] (fun vi wr => ∃ i : Nat, vi = .int .i64 i ∧ Hid (i ≤ n) ∧ wr = w ∧ Hid (∀ j, j < i → (ps.getD ((beg z n + j) % n) default).l = [])) (fun vi _ => n - (intOf vi).toNat)
  case atStart => exact ⟨0, rfl, Lib.hid (by omega), rfl, Lib.hid (fun j hj => by omega)⟩
  case round =>
    obtain ⟨i, rfl, HI, rfl, HE⟩ := hrel
    by_cases hi : i < n
    · have hn0 : 0 < n := by omega
      obtain ⟨hr1, hr2, _⟩ := tmod_place z n hn0
      have hat := place_at z n i hn0
      obtain ⟨r0, hr0⟩ : ∃ r0, z.tmod (n : Int) = r0 := ⟨_, rfl⟩
      rw [hr0] at hr1 hr2 hat
      obtain ⟨k, hk⟩ : ∃ k, k = (beg z n + i) % n := ⟨_, rfl⟩
      have hkn : k < n := by rw [hk]; exact Nat.mod_lt _ hn0
      rw [← hk] at hat
      have hat2 : (r0 + (i : Int) + (n : Int)).tmod (n : Int) = (k : Int) := by rw [Int.tmod_eq_emod_of_nonneg (by omega)]; exact hat
      have hw1 : wrap64 (r0 + (i : Int)) = r0 + (i : Int) := by unfold wrap64; omega
      have hw2 : wrap64 (r0 + (i : Int) + (n : Int)) = r0 + (i : Int) + (n : Int) := by unfold wrap64; omega
      have HK := Lib.hid hk
      obtain ⟨b, off, rfl, ck⟩ := sl_get HSL.out k (by rw [List.length_map, ← HN.out]; exact hkn)
      obtain ⟨x, hx⟩ : ∃ x, x = ps[k]'(by rw [← HN.out]; exact hkn) := ⟨_, rfl⟩
      have hxg : ps.getD k default = x := by rw [hx, List.getD_eq_getElem?_getD, List.getElem?_eq_getElem (by rw [← HN.out]; exact hkn)]; rfl
      have HX := Lib.hid (HP.out x (by rw [hx]; exact List.getElem_mem _))
      simp only [List.getElem_map] at ck
      rw [← hx] at ck
      simp only [paV] at ck
      have HXG := Lib.hid hxg
      have HLE := Lib.hid (plen_ok x.P x.c x.l wr HX.out)
      clear hk hx hxg
      go_wp2_with fail
      refine HLE.out.mono ?_
      rintro e w2 ⟨rfl, rfl⟩
      clear HLE
      by_cases hem : x.l = []
      · have hlz : ¬ (0 : Int) < (x.l.length : Int) := by rw [hem]; simp
        go_wp2_with fail
        go_roundw
        case rel => exact ⟨i + 1, rfl, Lib.hid (by omega), trivial, Lib.hid (fun j hj => by
          by_cases hji : j < i
          · exact HE.out j hji
          · obtain rfl : j = i := by omega
            rw [← HK.out, HXG.out]
            exact hem)⟩
        case measure => simp [intOf]; omega
      · have hlz : (0 : Int) < (x.l.length : Int) := by have := List.length_pos_iff.2 hem; omega
        go_wp2_with fail
        go_ret2
        refine ⟨rfl, .inl ⟨i, ?_, ?_, ?_, ?_⟩⟩
        · rw [← HN.out]; exact hi
        · rw [← HN.out]; exact HE.out
        · rw [← HN.out, ← HK.out, HXG.out]; exact hem
        · rw [← HN.out, ← HK.out]; rfl
    · go_wp2_with fail
      go_ret2
      exact ⟨rfl, .inr ⟨fun j hj => by rw [← HN.out] at hj ⊢; exact HE.out j (by omega), rfl⟩⟩
end Go.Proofs.Ythobffgkggfooaa
