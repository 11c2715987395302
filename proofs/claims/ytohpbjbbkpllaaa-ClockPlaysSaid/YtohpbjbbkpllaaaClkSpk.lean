/-
  'speaks' of the clock's laws answers true.
-/
import Derived.Test.YtohpbjbbkpllaaaClkLaw
set_option linter.unusedVariables false
set_option linter.unusedSimpArgs false
namespace Go.Proofs.Ytohpbjbbkpllaaa
open Go.RowKit Go.Maps Go.Shelf Go.Sort

def sA : ByteArray := ⟨#[97]⟩
def sB : ByteArray := ⟨#[98]⟩
def sC : ByteArray := ⟨#[99]⟩
theorem sl_names {w : World} {S : Nat → Prop} {ao : Option Addr} {cap : Nat} {d : List Tm} (h : Sl w S (.slice ao d.length cap) (namesV d)) (h0 : 0 < d.length) : ∃ b off, ao = some ⟨b, off, none⟩ ∧ S b ∧ b < w.heap.size ∧ ∀ j (hj : j < d.length), w.cell? ⟨b, off + j, none⟩ = some (.string d[j].name) := by
  obtain ⟨ao', cap', e, _, _, _, hc⟩ := h
  injection e with e1 e2 e3
  subst e1
  obtain ⟨b, off, e, hs, hb, hcc⟩ := hc (by simpa [namesV] using h0)
  exact ⟨b, off, e, hs, hb, fun j hj => by rw [hcc j (by simpa [namesV] using hj)]; simp [namesV]⟩
theorem names_read {w : World} {S : Nat → Prop} {ao : Option Addr} {cap : Nat} {d : List Tm} (h : Sl w S (.slice ao d.length cap) (namesV d)) : ∀ j (hj : j < d.length), ∃ b off, ao = some ⟨b, off, none⟩ ∧ w.cell? ⟨b, off + j, none⟩ = some (.string d[j].name) := by
  intro j hj
  obtain ⟨b, off, e, _, _, hc⟩ := sl_names h (by omega)
  exact ⟨b, off, e, hc j hj⟩
theorem tch_base {base C b : Nat} {w w' : World} (h : Tch (SetS C b) w w') (hC : base ≤ C) (hb : base ≤ b) : Tch (base ≤ ·) w w' := h.more fun x _ e => by
  rcases e with rfl | rfl
  · exact hC
  · exact hb
theorem tch_box {base C : Nat} {w w' : World} (h : Tch (· = C) w w') (hC : base ≤ C) : Tch (base ≤ ·) w w' := h.more fun x _ e => by subst e; exact hC
set_option maxHeartbeats 4000000 in
theorem speaks04 (w : World) : Calls Try.prog 20 #[] w fun e w' => e = .returned (.bool true) ∧ Below w.heap.size w w' := by
  go_enter Try.func20, Try.ntmps20
  go_wp2_with fail
  go_at_call 21
  refine (new_clk 2 2 (by omega) w).mono ?_
  rintro e w1 ⟨C, b, rfl, hc, hw⟩
  have H1 := Lib.hid hc
  have B1 := Lib.hid (tch_of_below (S := (w.heap.size ≤ ·)) hw)
  clear hc hw
  go_wp2_with fail
  go_at_call 27
  refine (set_clk w.heap.size C b 2 0 [] sA 5 w1 H1.out (by decide) (by decide)).mono ?_
  rintro e w2 ⟨rfl, hc, ht⟩
  have H2 : Hid (Clk w2 w.heap.size C b 2 1 [⟨sA, 5, 1⟩]) := hc
  have B2 := Lib.hid (B1.out.then (tch_base ht H1.out.hC H1.out.hb))
  rw [show setB 2 [] sA = true from rfl]
  clear hc ht H1 B1
  go_wp2_with fail
  go_at_call 27
  refine (set_clk w.heap.size C b 2 1 [⟨sA, 5, 1⟩] sB 3 _ (H2.out.below (Below.refl _ _)) (by decide) (by decide)).mono ?_
  rintro e w3 ⟨rfl, hc, ht⟩
  have H3 : Hid (Clk w3 w.heap.size C b 2 2 [⟨sA, 5, 1⟩, ⟨sB, 3, 2⟩]) := hc
  have B3 := Lib.hid (B2.out.then (tch_base ht H2.out.hC H2.out.hb))
  rw [show setB 2 [⟨sA, 5, 1⟩] sB = true from rfl]
  clear hc ht H2 B2
  go_wp2_with fail
  go_at_call 27
  refine (set_clk w.heap.size C b 2 2 [⟨sA, 5, 1⟩, ⟨sB, 3, 2⟩] sC 1 _ (H3.out.below (Below.refl _ _)) (by decide) (by decide)).mono ?_
  rintro e w4 ⟨rfl, hc, ht⟩
  have H4 : Hid (Clk w4 w.heap.size C b 2 2 [⟨sA, 5, 1⟩, ⟨sB, 3, 2⟩]) := hc
  have B4 := Lib.hid (B3.out.then (tch_base ht H3.out.hC H3.out.hb))
  rw [show setB 2 [⟨sA, 5, 1⟩, ⟨sB, 3, 2⟩] sC = false by decide]
  clear hc ht H3 B3
  go_wp2_with fail
  go_at_call 25
  refine (due_clk w.heap.size C b 2 2 [⟨sA, 5, 1⟩, ⟨sB, 3, 2⟩] 5 _ H4.out B4.out.size).mono ?_
  rintro e w5 ⟨ao, cap, d, b', rfl, hd, hs, hc, hb', ht⟩
  have hdd : d = [⟨sB, 3, 2⟩, ⟨sA, 5, 1⟩] := DueL.unique H4.out.rise hd ⟨List.Perm.swap _ _ _, by simp [le2]⟩
  subst hdd
  have H5 : Hid (Clk w5 w.heap.size C b' 2 2 []) := hc
  have B5 := Lib.hid (B4.out.then (tch_box ht H4.out.hC))
  obtain ⟨g, off, rfl, hg, hgl, hcell⟩ := sl_names hs (by simp)
  have c0 := hcell 0 (by simp)
  have c1 := hcell 1 (by simp)
  simp at c0 c1
  clear hs hcell hc hd ht H4 B4
  have hsa : (Value.string sA) = .string ⟨#[97]⟩ := rfl
  have hsb : (Value.string sB) = .string ⟨#[98]⟩ := rfl
  rw [hsb] at c0
  rw [hsa] at c1
  clear hsa hsb
  go_wp2_with fail
  go_at_call 28
  refine (len_clk w.heap.size C b' 2 2 [] _ (H5.out.below (Below.refl _ _))).mono ?_
  rintro e w6 ⟨rfl, rfl⟩
  go_wp2_with fail
  go_ret
  exact ⟨rfl, B5.out.below (fun x hx => by omega)⟩
end Go.Proofs.Ytohpbjbbkpllaaa
