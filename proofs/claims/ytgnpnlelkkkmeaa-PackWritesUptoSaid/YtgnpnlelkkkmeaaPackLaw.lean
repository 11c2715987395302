/-
  The statements of package pack: what they begin with.
-/
import Derived.Test.YtgnpnlelkkkmeaaRead
set_option linter.unusedVariables false
namespace Go.Proofs.Ytgnpnlelkkkmeaa
open Go.RowKit

theorem enters37 (args : Array Value) (w : World) : (callFunc 37 args).run Try.prog w = .ok (.enter 37 args) w := by simp [go_sem]
theorem enters38 (args : Array Value) (w : World) : (callFunc 38 args).run Try.prog w = .ok (.enter 38 args) w := by simp [go_sem]

def S1R (W N : Nat) (w : World) (e : Ending) (w' : World) : Prop := e = .returned (.tuple #[]) ∧ (∃ v', WrIs w' W N v' [1, 2, 1, 97]) ∧ Tch (WrS W N) w w'
theorem speaks1 (W N : Nat) (v : Value) (w : World) (h : WrIs w W N v []) :
    Calls Try.prog 37 #[.pointer (some ⟨W, 0, none⟩)] w (S1R W N w) := by
  have H := Lib.hid h
  clear h
  go_enter Try.func37, Try.ntmps37
  go_wp2_with fail
  refine (num_ok W N v [] 258 2 _ H.out (by omega) (by decide) (by simp) (by omega)).mono ?_
  rintro e w1 ⟨rfl, ⟨v1, h1⟩, t1⟩
  have H1 := Lib.hid h1
  have T1 := Lib.hid t1
  clear h1 t1
  go_wp2_with fail
  refine (text_ok W N v1 _ ⟨#[97]⟩ _ H1.out (by decide) (by decide)).mono ?_
  rintro e w2 ⟨rfl, ⟨v2, h2⟩, t2⟩
  have H2 := Lib.hid h2
  have T2 := Lib.hid t2
  clear h2 t2
  go_wp2_with fail
  go_end0
  have e1 : UInt8.ofNat (⟨#[97]⟩ : ByteArray).size = 1 := rfl
  exact ⟨rfl, ⟨v2, by simpa [beL, e1] using H2.out⟩, T1.out.then T2.out⟩

def S2R (W n : Nat) (w : World) (e : Ending) (w' : World) : Prop := e = .returned (.tuple #[]) ∧ RdIs w' W [] ∧ Tch (fun b => b = W ∨ b = n) w w' ∧ w'.cell? ⟨n, 0, none⟩ = some (.int .u64 7)
theorem speaks2 (W n : Nat) (x : Value) (w : World) (h : RdIs w W [0, 7]) (hn : Bk w n 24 #[x]) (hne : n ≠ W) :
    Calls Try.prog 38 #[.pointer (some ⟨W, 0, none⟩), .pointer (some ⟨n, 0, none⟩)] w (S2R W n w) := by
  have H := Lib.hid h
  have HN := Lib.hid hn
  clear h hn
  go_enter Try.func38, Try.ntmps38
  go_wp2_with fail
  refine (rnum_ok W [0, 7] 2 _ H.out (by omega) (by simp)).mono ?_
  rintro e w1 ⟨rfl, h1, t1⟩
  rw [show beV ([0, 7].take 2) = 7 from by decide]
  have hn1 := HN.out.tch t1 hne
  have c1 := hn1.cell 0
  have f1 := hn1.frozen 0
  simp at c1
  have H1 := Lib.hid h1
  have T1 := Lib.hid t1
  have HN1 := Lib.hid hn1
  clear h1 t1 hn1
  go_wp2_with fail
  go_end0
  refine ⟨rfl, Bk.other H1.out (p := ⟨n, 0, none⟩) (Ne.symm hne) _, (T1.out.more (T := fun b => b = W ∨ b = n) (fun b _ h => .inl h)).setCell (p := ⟨n, 0, none⟩) (fun _ => .inr rfl) _, ?_⟩
  have := (HN1.out.store 0 (.int .u64 7)).cell 0
  simpa using this

theorem speaks01 (w : World) : Calls Try.prog 10 #[] w fun e w' => e = .returned (.bool true) ∧ Below w.heap.size w w' := by
  have h37 := enters37
  go_enter Try.func10, Try.ntmps10
  go_wp2_with fail
  refine (write_any 37 #[] (fun _ => False) (fun bs _ => bs = [1, 2, 1, 97]) (fun _ _ => False) (fun _ _ => False) w (fun b h => h.elim) enters37 (fun W w1 hW hb hw => ?_)).mono ?_
  · rw [Array.append_empty]
    refine (speaks1 W _ _ w1 hw).mono ?_
    rintro e w2 ⟨rfl, ⟨v, hv⟩, ht⟩
    exact ⟨ht.more (fun b hb h => by rcases h with h | h; exact .inl h; omega), .inl ⟨v, _, rfl, hv, rfl⟩⟩
  · rintro e w2 ⟨ht, w3, hs, _, ⟨bs, rfl, hq⟩ | ⟨_, _, _, hq⟩ | ⟨_, _, hq⟩⟩
    · subst hq
      have hb : Below w.heap.size w w2 := ht.below (fun _ _ h => h)
      have HB := Lib.hid hb
      clear ht hb hs
      go_wp2_with fail
      have hn0 := (Bk.made w2 24 #[.int .u64 0])
      have hbn : Below w.heap.size w (w2.alloc (.cells #[.int .u64 0] 24)) := HB.out.alloc HB.out.size _
      generalize hw4 : w2.alloc (.cells #[.int .u64 0] 24) = w4 at *
      have hs4 : w4.heap.size = w2.heap.size + 1 := by rw [← hw4]; simp
      have HE := Lib.hid hw4
      clear hw4
      refine (read_any [0, 7] 38 #[.pointer (some ⟨w2.heap.size, 0, none⟩)] (· = w2.heap.size) (fun l w => l = [] ∧ w.cell? ⟨w2.heap.size, 0, none⟩ = some (.int .u64 7)) (fun _ _ => False) (fun _ _ => False) w4 (fun b h => by omega) enters38 (fun R w5 hR hb5 hw5 => ?_)).mono ?_
      · refine (speaks2 R w2.heap.size (.int .u64 0) w5 hw5 (hn0.keep (hb5.block _ (by omega))) (by omega)).mono ?_
        rintro e w6 ⟨rfl, h6, t6, c6⟩
        exact ⟨t6, .inl ⟨[], rfl, h6, rfl, c6⟩⟩
      · rintro e w6 ⟨ht, w7, hs7, ht7, ⟨rfl, _, c7⟩ | ⟨l, hl, _, hl', _⟩ | ⟨_, _, _, hq⟩ | ⟨_, _, hq⟩⟩
        · have c6 : w6.cell? ⟨w2.heap.size, 0, none⟩ = some (.int .u64 7) := (ht7.cell (p := ⟨w2.heap.size, 0, none⟩) (by simp; omega) (by simp; omega)).trans c7
          have hb6 : Below w.heap.size w w6 := hbn.trans (ht.belowB (by have := HB.out.size; omega) (fun b hb => by have := HB.out.size; omega))
          have HB6 := Lib.hid hb6
          clear c7 hb6 hbn ht ht7 hn0
          have hstr : (binOp .eql 9 (.string ⟨[(1 : UInt8), 2, 1, 97].toArray⟩) (.string ⟨#[1, 2, 1, 97]⟩)).run Try.prog w6 = .ok (.bool true) w6 := by simp [go_sem]
          go_wp2_with fail
          go_ret
          exact ⟨rfl, HB6.out⟩
        · exact absurd hl' hl
        · exact hq.elim
        · exact hq.elim
    · exact hq.elim
    · exact hq.elim
end Go.Proofs.Ytgnpnlelkkkmeaa
