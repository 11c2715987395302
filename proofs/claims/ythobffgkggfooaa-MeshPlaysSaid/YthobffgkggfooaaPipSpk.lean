/-
  The law's 'speaks' of pipes; texts.
-/
import Derived.Test.YthobffgkggfooaaPipOps
import Derived.Test.YthobffgkggfooaaTwo
set_option linter.unusedVariables false
set_option linter.unusedSimpArgs false
set_option maxRecDepth 100000
namespace Go.Proofs.Ythobffgkggfooaa
open Go.RowKit

def SpkP (w : World) (e : Ending) (w' : World) : Prop := e = .returned (.bool true) ∧ New w w'
/-- A pipe of one's own: what its steps turn is no elder's. -/
theorem new_of_ch {w w1 w2 : World} {c : Nat} (h : New w w1) (ht : Tch (· = c) w1 w2) (hc : w.heap.size ≤ c) : New w w2 :=
  (h : Tch _ _ _).trans ht (fun b hb e => by omega)
set_option maxHeartbeats 1000000 in
theorem speaks7 (w : World) : Calls Try.prog 22 #[] w (SpkP w) := by
  go_enter Try.func22, Try.ntmps22
  go_wp2_with fail
  refine (newp_ok w).mono ?_
  rintro e w1 ⟨rfl, hp, hn⟩
  obtain ⟨c, hc⟩ : ∃ c, c = w.heap.size := ⟨_, rfl⟩
  obtain ⟨P, hP⟩ : ∃ P, P = w.heap.size + 1 := ⟨_, rfl⟩
  rw [← hP] at hp ⊢
  rw [← hc] at hp
  have HC := Lib.hid hc
  have HP := Lib.hid hp
  have HN := Lib.hid hn
  clear hc hP hp hn
  go_wp2_with fail
  refine (psend_ok P c ⟨#[97]⟩ [] w1 HP.out).mono ?_
  rintro e w2 ⟨rfl, hp, ht⟩
  replace HP := Lib.hid hp
  replace HN := Lib.hid (new_of_ch HN.out ht (by rw [HC.out]; omega))
  rw [dec_ (show ([] : List ItA).length < 64 by simp)]
  clear hp ht
  go_wp2_with fail
  refine (pbreak_ok P c _ w2 HP.out).mono ?_
  rintro e w3 ⟨rfl, hp, ht⟩
  replace HP := Lib.hid hp
  replace HN := Lib.hid (new_of_ch HN.out ht (by rw [HC.out]; omega))
  clear hp ht
  go_wp2_with fail
  refine (psend_ok P c ⟨#[98]⟩ _ w3 HP.out).mono ?_
  rintro e w4 ⟨rfl, hp, ht⟩
  have e1 : putL [⟨true, ⟨#[]⟩⟩] ⟨false, ⟨#[98]⟩⟩ = [⟨true, ⟨#[]⟩⟩, ⟨false, ⟨#[98]⟩⟩] := rfl
  rw [e1] at hp
  replace HP := Lib.hid hp
  replace HN := Lib.hid (new_of_ch HN.out ht (by rw [HC.out]; omega))
  rw [dec_ (show ([⟨true, ⟨#[]⟩⟩] : List ItA).length < 64 by simp)]
  clear hp ht e1
  go_wp2_with fail
  refine (take_some P c _ _ w4 HP.out).mono ?_
  rintro e w5 ⟨rfl, hp, ht⟩
  replace HP := Lib.hid (hp.new ((New.refl _).alloc (.cells #[.bool true, .string ⟨#[]⟩] 57)))
  replace HN := Lib.hid (new_of_ch HN.out ht (by rw [HC.out]; omega))
  obtain ⟨w6, hw6⟩ : ∃ w6, w6 = w5.alloc (.cells #[.bool true, .string ⟨#[]⟩] 57) := ⟨_, rfl⟩
  have HB6 := Lib.hid (show Bk w6 w5.heap.size 57 #[.bool true, .string ⟨#[]⟩] by rw [hw6]; exact Bk.made _ _ _)
  rw [← hw6] at HP
  have HN6 := Lib.hid (show New w w6 by rw [hw6]; exact HN.out.alloc _)
  have HW6 := Lib.hid hw6
  have hc5 : c ≠ w5.heap.size := by
    have h1 := HP.out.ch.lt
    have h2 := hp.ch.lt
    omega
  clear hp ht hw6
  simp only [itV]
  go_wp2_with fail
  rw [← HW6.out]
  clear HW6
  refine (take_some P c _ _ w6 HP.out).mono ?_
  rintro e w7 ⟨rfl, hp, ht⟩
  have hb7 := HB6.out.tch ht (by omega)
  obtain ⟨w8, hw8⟩ : ∃ w8, w8 = w7.alloc (.cells #[.bool false, .string ⟨#[98]⟩] 57) := ⟨_, rfl⟩
  have hb8 : Bk w8 w7.heap.size 57 #[.bool false, .string ⟨#[98]⟩] := by rw [hw8]; exact Bk.made _ _ _
  have hb9 : Bk w8 w5.heap.size 57 #[.bool true, .string ⟨#[]⟩] := by rw [hw8]; exact hb7.alloc _
  have HP8 := Lib.hid (show PipIs w8 P c [] by rw [hw8]; exact hp.new ((New.refl _).alloc _))
  have HN8 := Lib.hid (show New w w8 by rw [hw8]; exact (new_of_ch HN6.out ht (by rw [HC.out]; omega)).alloc _)
  have x0 := hb7.cell 0
  have hlt := hb7.lt
  simp at x0
  have HW8 := Lib.hid hw8
  have HLE := Lib.hid (plen_ok P c [] w8 HP8.out)
  clear hp ht hb7 hb8 hb9 hw8
  simp only [itV]
  go_wp2_with fail
  rw [← HW8.out]
  clear HW8
  refine HLE.out.mono ?_
  rintro e w9 ⟨rfl, rfl⟩
  go_wp2_with fail
  go_ret
  exact ⟨rfl, HN8.out⟩
theorem and3 (n : Int) : ∃ m : Nat, bits BinOp.and IntKind.u8 n 3 = (m : Int) ∧ m ≤ 3 := by
  obtain ⟨m, hm⟩ : ∃ m : Nat, m = ((BitVec.ofInt 8 n).toNat &&& 3) := ⟨_, rfl⟩
  have h : m ≤ 3 := by rw [hm]; exact Nat.and_le_right
  have e : bits BinOp.and IntKind.u8 n 3 = IntKind.u8.wrap (m : Int) := by rw [hm]; rfl
  exact ⟨m, by rw [e, IntKind.wrap_u8]; omega, h⟩
theorem info_str : (Try.prog.info? 9).map (fun i => (i.zero, i.size, i.bytes)) = some (some (.string ⟨#[]⟩), 1, 16) := by kernel_rfl
def strsV (l : List ByteArray) : List Value := l.map Value.string
theorem strsV_app (l : List ByteArray) (s : ByteArray) : strsV l ++ [Value.string s] = strsV (l ++ [s]) := by simp [strsV]
end Go.Proofs.Ythobffgkggfooaa
