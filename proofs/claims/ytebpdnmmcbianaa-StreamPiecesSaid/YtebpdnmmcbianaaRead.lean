/-
  Package pack: Read, of whatever f.
-/
import Derived.Test.YtebpdnmmcbianaaWrite
import Derived.Test.YtebpdnmmcbianaaReader
set_option linter.unusedVariables false
set_option maxRecDepth 100000
namespace Go.Proofs.Ytebpdnmmcbianaa
open Go.RowKit

/-- How an f of Read's may end, called in the world w1 with the Reader at W. -/
def RFOut (W : Nat) (S : Nat → Prop) (Q : List UInt8 → World → Prop) (QE : Int → World → Prop) (QS : Value → World → Prop) (w1 : World) (e : Ending) (w2 : World) : Prop :=
  Tch (fun b => b = W ∨ S b) w1 w2 ∧
    ((∃ l, e = .returned (.tuple #[]) ∧ RdIs w2 W l ∧ Q l w2) ∨
     (∃ en l, en ≠ 0 ∧ e = .panicked [stopE (.pointer none) en] ∧ RdIs w2 W l ∧ QE en w2) ∨
     (∃ en er, er ≠ 0 ∧ e = .panicked [stopE (.pointer (some ⟨W, 0, none⟩)) en] ∧ RdBad w2 W er ∧ QE er w2) ∨
     (∃ s, e = .panicked [{ v := .iface 9 s, recovered := false }] ∧ (∃ l, RdIs w2 W l) ∧ QS s w2))

/-- How Read ends then. -/
def ReadR (S : Nat → Prop) (Q : List UInt8 → World → Prop) (QE : Int → World → Prop) (QS : Value → World → Prop) (w : World) (e : Ending) (w' : World) : Prop :=
  Tch S w w' ∧ ∃ w2, w.heap.size ≤ w2.heap.size ∧ Tch (fun b => w.heap.size ≤ b) w2 w' ∧
    ((e = .returned (.int .i64 0) ∧ Q [] w2) ∨ (∃ l, l ≠ [] ∧ e = .returned (.int .i64 3) ∧ Q l w2) ∨
     (∃ er, er ≠ 0 ∧ e = .returned (.int .i64 er) ∧ QE er w2) ∨
     (∃ s, e = .panicked [{ v := .iface 9 s, recovered := false }, { v := .iface 9 s, recovered := true }] ∧ QS s w2))

/-- How Read ends: behind f only its Reader turns. -/
def ReadS (S : Nat → Prop) (Q : List UInt8 → World → Prop) (QE : Int → World → Prop) (QS : Value → World → Prop) (w : World) (e : Ending) (w' : World) : Prop :=
  Tch S w w' ∧ ∃ w2, w.heap.size ≤ w2.heap.size ∧ Tch (fun b => b = w.heap.size + 1) w2 w' ∧
    ((e = .returned (.int .i64 0) ∧ Q [] w2) ∨ (∃ l, l ≠ [] ∧ e = .returned (.int .i64 3) ∧ Q l w2) ∨
     (∃ er, er ≠ 0 ∧ e = .returned (.int .i64 er) ∧ QE er w2) ∨
     (∃ s, e = .panicked [{ v := .iface 9 s, recovered := false }, { v := .iface 9 s, recovered := true }] ∧ QS s w2))

theorem neq_nilFunc2 (fn : Fn) (first cap : Array Value) (w : World) : (binOp .neq 111 (.func fn first cap) .nilFunc).run Try.prog w = .ok (.bool true) w := by kernel_rfl

/-- The closure that Read hands to call. -/
theorem read1 (T : TypeId) (B0 B2 W : Nat) (F : FuncId) (fst caps : Array Value) (S : Nat → Prop) (Q : Int → Value → World → Prop) (QS : Value → World → Prop) (w : World)
    (hF : ∀ (args : Array Value) (w : World), (callFunc F args).run Try.prog w = .ok (.enter F args) w)
    (h0 : w.cell? ⟨B0, 0, none⟩ = some (.func (.func F) fst caps)) (h2 : w.cell? ⟨B2, 0, none⟩ = some (.pointer (some ⟨W, 0, none⟩)))
    (hf : Calls Try.prog F (fst ++ #[.pointer (some ⟨W, 0, none⟩)] ++ caps) w (FOut T W S Q QS w)) :
    Calls Try.prog 88 #[.pointer (some ⟨B0, 0, none⟩), .pointer (some ⟨B2, 0, none⟩)] w (FOut T W S Q QS w) := by
  have HF := Lib.hid hf
  clear hf
  go_enter Try.func88, Try.ntmps88
  go_wp2_with fail
  refine HF.out.mono ?_
  rintro e w2 ⟨ht, hc⟩
  have HT := Lib.hid ht
  clear ht
  rcases hc with ⟨x, rfl, hbk, hq⟩ | ⟨en, x, hen, rfl, hbk, hq⟩ | ⟨en, er, x, her, rfl, hbk, hq⟩ | ⟨s, er, x, rfl, hbk, hq⟩
  · have HQ := Lib.hid hq
    have HB := Lib.hid hbk
    clear hq hbk
    go_wp2_with fail
    go_end0
    exact ⟨HT.out, .inl ⟨x, rfl, HB.out, HQ.out⟩⟩
  · exact ⟨rfl, HT.out, .inr (.inl ⟨en, x, hen, rfl, hbk, hq⟩)⟩
  · exact ⟨rfl, HT.out, .inr (.inr (.inl ⟨en, er, x, her, rfl, hbk, hq⟩))⟩
  · exact ⟨rfl, HT.out, .inr (.inr (.inr ⟨s, er, x, rfl, hbk, hq⟩))⟩

set_option maxHeartbeats 2000000 in
theorem read_anyF (s : List UInt8) (F : FuncId) (fst caps : Array Value) (S : Nat → Prop) (Q : List UInt8 → World → Prop) (QE : Int → World → Prop) (QS : Value → World → Prop) (w : World)
    (hS : ∀ b, S b → b < w.heap.size) (hF : ∀ (args : Array Value) (w : World), (callFunc F args).run Try.prog w = .ok (.enter F args) w)
    (hf : ∀ W w1, W = w.heap.size + 1 → Below w.heap.size w w1 → RdIs w1 W s → Calls Try.prog F (fst ++ #[.pointer (some ⟨W, 0, none⟩)] ++ caps) w1 (RFOut W S Q QE QS w1)) :
    Calls Try.prog 59 #[.string (str s), .func (.func F) fst caps] w (ReadS S Q QE QS w) := by
  have HF := Lib.hid hf
  clear hf
  have hmf : ∀ (fn : Fn) (first cap : Array Value) (w : World), (Instr.makeFunc fn first cap).run Try.prog w = .ok (.func fn first cap) w := fun _ _ _ _ => rfl
  have hnn := neq_nilFunc2
  go_enter Try.func59, Try.ntmps59
  go_wp2_with fail
  have hG : ∀ (args : Array Value) (w : World), (callFunc 88 args).run Try.prog w = .ok (.enter 88 args) w := fun _ _ => by simp [go_sem]
  have hW0 : Bk (((w.alloc (.cells #[.func (.func F) fst caps] 111)).alloc (.cells #[.pointer none, .bool false, .int .i64 0, .string (str s)] 155)).alloc (.cells #[.pointer (some ⟨w.heap.size + 1, 0, none⟩)] 152)) (w.heap.size + 1) 155 #[.pointer none, .bool false, .int .i64 0, .string (str s)] := by
    have := (Bk.made (w.alloc (.cells #[.func (.func F) fst caps] 111)) 155 #[.pointer none, .bool false, .int .i64 0, .string (str s)]).alloc (.cells #[.pointer (some ⟨w.heap.size + 1, 0, none⟩)] 152)
    simpa using this
  have hB0 : Bk (((w.alloc (.cells #[.func (.func F) fst caps] 111)).alloc (.cells #[.pointer none, .bool false, .int .i64 0, .string (str s)] 155)).alloc (.cells #[.pointer (some ⟨w.heap.size + 1, 0, none⟩)] 152)) w.heap.size 111 #[.func (.func F) fst caps] :=
    ((Bk.made w 111 #[.func (.func F) fst caps]).alloc _).alloc _
  have hB2 : Bk (((w.alloc (.cells #[.func (.func F) fst caps] 111)).alloc (.cells #[.pointer none, .bool false, .int .i64 0, .string (str s)] 155)).alloc (.cells #[.pointer (some ⟨w.heap.size + 1, 0, none⟩)] 152)) (w.heap.size + 1 + 1) 152 #[.pointer (some ⟨w.heap.size + 1, 0, none⟩)] := by
    have := Bk.made ((w.alloc (.cells #[.func (.func F) fst caps] 111)).alloc (.cells #[.pointer none, .bool false, .int .i64 0, .string (str s)] 155)) 152 #[.pointer (some ⟨w.heap.size + 1, 0, none⟩)]
    simpa using this
  have hbel0 : Below w.heap.size w (((w.alloc (.cells #[.func (.func F) fst caps] 111)).alloc (.cells #[.pointer none, .bool false, .int .i64 0, .string (str s)] 155)).alloc (.cells #[.pointer (some ⟨w.heap.size + 1, 0, none⟩)] 152)) :=
    (((Below.refl _ w).alloc (Nat.le_refl _) _).alloc (by simp) _).alloc (by simp; omega) _
  generalize hW0e : (((w.alloc (.cells #[.func (.func F) fst caps] 111)).alloc (.cells #[.pointer none, .bool false, .int .i64 0, .string (str s)] 155)).alloc (.cells #[.pointer (some ⟨w.heap.size + 1, 0, none⟩)] 152)) = W0 at *
  have hs0 : W0.heap.size = w.heap.size + 3 := by rw [← hW0e]; simp
  have HE := Lib.hid hW0e
  clear hW0e
  refine (call_any 155 (w.heap.size + 1) (.string (str s)) 88 _ (fun b => b = w.heap.size + 1 ∨ S b)
    (fun er x w2 => Tch (fun b => b = w.heap.size + 1 ∨ S b) W0 w2 ∧ Tch S w w2 ∧ ((er = 0 ∧ ∃ l, x = .string (str l) ∧ Q l w2) ∨ (er ≠ 0 ∧ QE er w2)))
    (fun s w2 => Tch (fun b => b = w.heap.size + 1 ∨ S b) W0 w2 ∧ Tch S w w2 ∧ QS s w2) W0 hW0 (fun b hb => by rcases hb with h | h; omega; have := hS b h; omega) hG ?_).mono ?_
  · intro w1 hb1 ht1
    have hs1 := ht1.size
    have hw1 : Below w.heap.size w w1 := hbel0.trans (ht1.belowB (by omega) (by omega))
    refine read1 155 w.heap.size (w.heap.size + 1 + 1) (w.heap.size + 1) F fst caps _ _ _ w1 hF ?_ ?_ ?_
    · rw [(hB0.tch ht1 (by omega)).cell]; rfl
    · rw [(hB2.tch ht1 (by omega)).cell]; rfl
    · refine (HF.out (w.heap.size + 1) w1 rfl hw1 hb1).mono ?_
      rintro e w2 ⟨ht, hc⟩
      have hts : Tch S w w2 := ((Tch.of_below hw1).more (T := S) (fun b hb h => by omega)).trans ht (fun b hb h => by rcases h with h | h; omega; exact h)
      have hsz : Tch (fun b => b = w.heap.size + 1 ∨ S b) W0 w2 := (ht1.more (fun b _ h => .inl h)).then ht
      refine ⟨ht, ?_⟩
      rcases hc with ⟨l, rfl, hw, hq⟩ | ⟨en, l, hen, rfl, hw, hq⟩ | ⟨en, er, her, rfl, ⟨v, hw⟩, hq⟩ | ⟨s, rfl, ⟨l, hw⟩, hq⟩
      · exact .inl ⟨_, rfl, hw, hsz, hts, .inl ⟨rfl, l, rfl, hq⟩⟩
      · exact .inr (.inl ⟨en, _, hen, rfl, hw, hsz, hts, .inr ⟨hen, hq⟩⟩)
      · exact .inr (.inr (.inl ⟨en, er, v, her, rfl, hw, hsz, hts, .inr ⟨her, hq⟩⟩))
      · exact .inr (.inr (.inr ⟨s, 0, _, rfl, hw, hsz, hts, hq⟩))
  · rintro e w3 ⟨w2, er, x, ⟨hE, hET⟩, hc⟩
    have hl3 := hE.lt
    have c2 := hE.cell 2
    have c3 := hE.cell 3
    simp at c2 c3
    rcases hc with ⟨rfl, hT0, hT, hq⟩ | ⟨s, rfl, hT0, hT, hq⟩
    · have hb2 := ((hB2.tch hT0 (fun h => by rcases h with h | h; omega; have := hS _ h; omega)).tch hET (by omega)).cell 0
      simp at hb2
      have hsw2 : w.heap.size ≤ w2.heap.size := hT.size
      have hTf : Tch S w w3 := hT.trans hET (fun b hb h => by omega)
      have hT23 : Tch (fun b => b = w.heap.size + 1) w2 w3 := hET
      have HE3 := Lib.hid hE
      have HET := Lib.hid hET
      have HT3 := Lib.hid hTf
      have HT23 := Lib.hid hT23
      clear hE hET hT0 hT hTf hT23 hB0 hB2 hW0 hbel0
      rcases hq with ⟨rfl, l, rfl, hq⟩ | ⟨her, hq⟩
      · have HQ := Lib.hid hq
        by_cases hl : l = []
        · subst hl
          have hstr : str [] = ⟨#[]⟩ := rfl
          rw [hstr] at c3
          clear hq hstr
          go_wp2_with fail
          go_ret
          exact ⟨HT3.out, w2, hsw2, HT23.out, .inl ⟨rfl, HQ.out⟩⟩
        · have hne : (str l).toList.isEmpty = false := by
            rw [ByteArray.toList_eq, str_data]
            cases l with
            | nil => exact absurd rfl hl
            | cons _ _ => rfl
          have HLN := Lib.hid hl
          clear hq hl
          go_wp2_with fail
          go_ret
          exact ⟨HT3.out, w2, hsw2, HT23.out, .inr (.inl ⟨l, HLN.out, rfl, HQ.out⟩)⟩
      · have hne : (er == 0) = false := bne_ her
        have HQ := Lib.hid hq
        have HER := Lib.hid her
        clear hq her
        go_wp2_with fail
        go_ret
        exact ⟨HT3.out, w2, hsw2, HT23.out, .inr (.inr (.inl ⟨er, HER.out, rfl, HQ.out⟩))⟩
    · exact ⟨rfl, hT.trans hET (fun b hb h => by omega), w2, hT.size, hET, .inr (.inr (.inr ⟨s, rfl, hq⟩))⟩
theorem read_any (s : List UInt8) (F : FuncId) (caps : Array Value) (S : Nat → Prop) (Q : List UInt8 → World → Prop) (QE : Int → World → Prop) (QS : Value → World → Prop) (w : World)
    (hS : ∀ b, S b → b < w.heap.size) (hF : ∀ (args : Array Value) (w : World), (callFunc F args).run Try.prog w = .ok (.enter F args) w)
    (hf : ∀ W w1, w.heap.size ≤ W → Below w.heap.size w w1 → RdIs w1 W s → Calls Try.prog F (#[.pointer (some ⟨W, 0, none⟩)] ++ caps) w1 (RFOut W S Q QE QS w1)) :
    Calls Try.prog 59 #[.string (str s), .func (.func F) #[] caps] w (ReadR S Q QE QS w) :=
  (read_anyF s F #[] caps S Q QE QS w hS hF (fun W w1 h1 h2 h3 => by simpa using hf W w1 (by omega) h2 h3)).mono fun e w' ⟨h1, w2, h2, h3, h4⟩ => ⟨h1, w2, h2, h3.more (fun b _ h => by omega), h4⟩
end Go.Proofs.Ytebpdnmmcbianaa
