/-
  But of a set of nodes (DeleteFunc with a closure over the list of those that are left out), as a contract.
-/
import Derived.Test.YtdhafagihfdolaaNodeAdd
set_option linter.unusedVariables false
set_option linter.unusedSimpArgs false
namespace Go.Proofs.Ytdhafagihfdolaa
open Go.RowKit Go.Lib Go.Sort Go.Shelf

theorem Sl.cells {w w' : World} {S : Nat → Prop} {v : Value} {xs : List Value} (h : Sl w S v xs) (hz : w.heap.size ≤ w'.heap.size) (hk : ∀ b o, b < w.heap.size → S b → w'.cell? ⟨b, o, none⟩ = w.cell? ⟨b, o, none⟩) : Sl w' S v xs := by
  obtain ⟨ao, cap, h1, h2, h3, h0, h4⟩ := h
  refine ⟨ao, cap, h1, h2, h3, h0, fun hp => ?_⟩
  obtain ⟨b, off, e, hs, hb, hc⟩ := h4 hp
  exact ⟨b, off, e, hs, by omega, fun j hj => (hk b _ hb hs).trans (hc j hj)⟩

/-- The closure of But: is it among those that are left out? -/
theorem but_gives {S : Nat → Prop} (l : List Int) (lv : Value) (x : Int) (B : Nat) (W : World) (hc : W.cell? ⟨B, 0, none⟩ = some lv) (hl : Sl W S lv (ints l)) (hn : l.length ≤ 1000000) :
    FnGives Try.prog 103 #[.pointer (some ⟨B, 0, none⟩)] #[.int .i64 x] (.bool (l.contains x)) W := by
  show Calls Try.prog 103 #[.int .i64 x, .pointer (some ⟨B, 0, none⟩)] W _
  have hcon := contains_is lv l x W hl hn
  obtain ⟨ao, len, cap, rfl⟩ := slr_slice hl
  generalize l.contains x = b at hcon ⊢
  clear hl
  go_enter Try.func103, Try.ntmps103
  go_wp2_with fail
  refine hcon.mono ?_
  rintro e w' ⟨rfl, rfl⟩
  clear hcon
  go_wp2_with fail
  go_ret
  exact ⟨rfl, 0, rfl⟩


theorem strike_nil (c : Nat) (fv : Value) (w : World) : Calls Try.prog 102 #[.slice none 0 c, fv] w fun e w' => e = .returned (.slice none 0 c) ∧ w' = w := by
  have hcon := AnyE.slices_IndexFunc_empty (P := Try.prog) (ρ := laysDeleteFunc_ren) { laysDeleteFunc with } none c fv w
  change Calls Try.prog 90 _ _ _ at hcon
  go_enter Try.func102, Try.ntmps102
  go_wp2_with fail
  refine hcon.mono ?_
  rintro e w' ⟨rfl, rfl⟩
  clear hcon
  go_wp2_with fail
  go_ret
  exact ⟨rfl, rfl⟩

/-- DeleteFunc with that closure, on a row of the call's own. -/
theorem strike_is (v : Value) (ns l : List Int) (lv : Value) (B base : Nat) (w : World) (ho : w.ownsRow base 3 1 v ns.length (ints ns)) (hcell : w.cell? ⟨B, 0, none⟩ = some lv) (hBb : B < base) (hl : Sl w (· < base) lv (ints l)) (hln : l.length ≤ 1000000) (hn : ns.length ≤ 1000) :
    Calls Try.prog 102 #[v, .func (.func 103) #[] #[.pointer (some ⟨B, 0, none⟩)]] w fun e w' => ∃ v', e = .returned v' ∧ Slr w' v' (ints (ns.filter fun x => !l.contains x)) ∧ Below base w w' := by
  obtain ⟨ao, cap, rfl, h1, h2, h3, h4⟩ := own_shape ho
  have hcl := ints_length ns
  rcases ao with _ | a
  · have := h3 rfl
    obtain rfl : ns = [] := List.eq_nil_of_length_eq_zero (by omega)
    refine (strike_nil cap _ w).mono ?_
    rintro e w' ⟨rfl, rfl⟩
    obtain rfl : cap = 0 := h3 rfl
    exact ⟨_, rfl, slr_nil _, Below.refl _ _⟩
  · obtain ⟨g, cur, e, hgb, hbk, hsz, hcur⟩ := h4 (by simp)
    obtain rfl := Option.some.inj e
    have eg : ∀ args w, (callFunc 103 args).run Try.prog w = .ok (.enter 103 args) w := enters_of Try.func103 (by kernel_rfl) rfl
    have hcl' : ∀ j, j < ns.length → w.cell? ⟨g, 0 + j, none⟩ = some (.int .i64 (ns.getD j 0)) := fun j hj => by
      rw [Nat.zero_add, hbk.cell]
      refine hcur j _ ?_
      rw [List.getElem?_eq_getElem (by omega), ints_get']
    have hH : Holds (Value.int .i64) w g 0 ns.toArray := fun j hj => by
      have hj' : j < ns.length := by simpa using hj
      refine ⟨?_, hbk.frozen _⟩
      rw [hcl' j hj']
      simp [List.getD, hj']
    have hcon := AnyE.slices_DeleteFunc laysDeleteFunc (Value.int .i64) (fun _ => rfl) (fun x => l.contains x) 103 #[.pointer (some ⟨B, 0, none⟩)] eg 0 Try.zeroValue3 g 0 cap ns.toArray w
      (fun W x hb => but_gives l lv x B W ((hb.cell (p := ⟨B, 0, none⟩) (by show B < _; have := hbk.lt; omega)).trans hcell) (hl.keep hb.size fun b h1 _ => hb.block b h1) hln)
      (fun n os dk x _ => by
        have hc2 : ∀ b o, b < w.heap.size → b < base → (sortWorld (Value.int .i64) w g 0 n dk os).cell? ⟨b, o, none⟩ = w.cell? ⟨b, o, none⟩ := fun b o hb hb2 => by
          unfold sortWorld
          rw [cell?_grow _ _ _ (by show b < (putRow _ _ _ _ _).heap.size; rw [size_putRow]; exact hb), cell?_putRow_other _ _ g 0 _ _ (Or.inl (by show b ≠ g; omega))]
          rfl
        have hsw : w.heap.size ≤ (sortWorld (Value.int .i64) w g 0 n dk os).heap.size := by
          unfold sortWorld
          show _ ≤ ((putRow (Value.int .i64) (Sort.ahead w n) g 0 dk).heap ++ os).size
          rw [Array.size_append, size_putRow]
          show w.heap.size ≤ w.heap.size + _
          omega
        exact but_gives l lv x B _ ((hc2 B 0 (by have := hbk.lt; omega) hBb).trans hcell) (hl.cells hsw hc2) hln)
      hH (by simp; omega) (by simpa using h1)
    change Calls Try.prog 102 _ _ _ at hcon
    simp only [List.size_toArray] at hcon
    have hle := List.length_filter_le (fun x => !l.contains x) ns
    change Calls Try.prog 102 _ _ (fun e w' => e = .returned (.slice (some ⟨g, 0, none⟩) (ns.filter fun x => !l.contains x).length cap) ∧ ∃ q, w' = putRow (Value.int .i64) (Sort.ahead w q) g 0 ((ns.filter fun x => !l.contains x) ++ List.replicate (ns.length - (ns.filter fun x => !l.contains x).length) 0).toArray) at hcon
    generalize (ns.filter fun x => !l.contains x) = F at hcon hle ⊢
    refine hcon.mono ?_
    rintro e w' ⟨rfl, q, rfl⟩
    rw [Lib.putRow_eq_setCells _ w g 0 _ _ q hH (by simp; omega)]
    refine ⟨_, rfl, sl_of_block (by rw [ints_length]) (by omega) h2 (by rw [size_set]; exact hbk.lt) (bk_set _ _ _ _ hbk) (fun j hj => ?_), below_set hgb _ _ (bdN (Below.refl _ _) q)⟩
    have := World.cell?_setCells_in g ((F ++ List.replicate (ns.length - F.length) 0).map (Value.int .i64)) 0 (w.drewN q) (fun k hk => by
      have hk' : k < ns.length := by simp at hk; omega
      exact congrArg Option.isSome (hcl' k hk')) j (by simp; omega)
    rw [Nat.zero_add] at this
    rw [this, ints_get, List.getElem_map, List.getElem?_eq_getElem hj, List.getElem_append_left hj]
    rfl

set_option maxHeartbeats 1000000 in
theorem but_set {S : Nat → Prop} (v : Value) (most : Nat) (ns l : List Int) (lv : Value) (w : World) (h : SetV w v most ns) (hl : Sl w S lv (ints l)) (hln : l.length ≤ 1000000) :
    Calls Try.prog 94 #[v, lv] w fun e w' => ∃ v', e = .returned v' ∧ Slr w' v' (ints (ns.filter fun x => !l.contains x)) ∧ Below w.heap.size w w' := by
  have h' := h
  obtain ⟨sv, rfl, hs, hg⟩ := h'
  have hle := hg.le
  have hcap := hg.cap
  have hcon := all_own _ most ns ((w.alloc (.cells #[.int .i64 most, sv] 28)).alloc (.cells #[lv] 26)) (h.below ((below_alloc _ _).alloc (by simp) _))
  obtain ⟨ao, len, cap, rfl⟩ := slr_slice hs
  obtain ⟨lo, llen, lcap, rfl⟩ := slr_slice hl
  have HL := Lib.hid hl
  simp only [size_alloc] at hcon
  obtain ⟨F, hF⟩ : ∃ F, F = ns.filter fun x => !l.contains x := ⟨_, rfl⟩
  rw [← hF]
  have HF := Lib.hid hF
  clear hs hg h hl hF
  go_enter Try.func94, Try.ntmps94
  go_wp2_with fail
  refine hcon.mono ?_
  rintro e w' ⟨v', rfl, ho, hb⟩
  have hcell : w'.cell? ⟨w.heap.size + 1, 0, none⟩ = some (.slice lo llen lcap) := by
    rw [hb.cell (p := ⟨w.heap.size + 1, 0, none⟩) (by show w.heap.size + 1 < w.heap.size + 1 + 1; omega)]
    simp
  have hb1 : Below w.heap.size w w' := ((below_alloc _ _).alloc (by simp) _).trans (hb.mono (by omega))
  have hsz := hb.size
  simp only [size_alloc] at hsz
  have hcon2 := strike_is v' ns l (.slice lo llen lcap) (w.heap.size + 1) (w.heap.size + 1 + 1 + 1) w' ho hcell (by omega) (by
    have := HL.out.more (T := (· < w.heap.size)) fun b hb _ => hb
    refine (this.keep (w' := w') (by omega) fun b hb2 hs => hb1.block b hb2).more fun b _ hb2 => by omega) hln (by omega)
  have HB := Lib.hid hb1
  clear hcon hb hb1 ho hcell
  rw [← HF.out] at hcon2
  go_wp2_with fail
  refine hcon2.mono ?_
  rintro e w'' ⟨v'', rfl, hs2, hb⟩
  have HS := Lib.hid hs2
  have HBB := Lib.hid (HB.out.trans (hb.mono (by omega)))
  clear hcon2 hs2 hb HB
  go_wp2_with fail
  go_ret
  exact ⟨v'', rfl, HS.out, HBB.out⟩
end Go.Proofs.Ytdhafagihfdolaa
