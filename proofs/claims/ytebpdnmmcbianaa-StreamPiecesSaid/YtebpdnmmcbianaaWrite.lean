/-
  Package pack: Write, of whatever f.
-/
import Derived.Test.YtebpdnmmcbianaaWriter
set_option linter.unusedVariables false
set_option maxRecDepth 100000
namespace Go.Proofs.Ytebpdnmmcbianaa
open Go.RowKit

/-- How an f of Write's may end, called in the world w1 with the Writer at W: it has written bs, or it has been ended by an error, or by another's panic with a text. -/
def WFOut (W : Nat) (S : Nat → Prop) (Q : List UInt8 → World → Prop) (QE : Int → World → Prop) (QS : Value → World → Prop) (w1 : World) (e : Ending) (w2 : World) : Prop :=
  Tch (fun b => b = W ∨ S b) w1 w2 ∧
    ((∃ v bs, e = .returned (.tuple #[]) ∧ WrIs w2 W w1.heap.size v bs ∧ Q bs w2) ∨
     (∃ en v bs, en ≠ 0 ∧ e = .panicked [stopE (.pointer none) en] ∧ WrIs w2 W w1.heap.size v bs ∧ QE en w2) ∨
     (∃ en er, er ≠ 0 ∧ e = .panicked [stopE (.pointer (some ⟨W, 0, none⟩)) en] ∧ WrBad w2 W er ∧ QE er w2) ∨
     (∃ s, e = .panicked [{ v := .iface 9 s, recovered := false }] ∧ (∃ v bs, WrIs w2 W w1.heap.size v bs) ∧ QS s w2))

/-- How Write ends then. -/
def WriteR (S : Nat → Prop) (Q : List UInt8 → World → Prop) (QE : Int → World → Prop) (QS : Value → World → Prop) (w : World) (e : Ending) (w' : World) : Prop :=
  Tch S w w' ∧ ∃ w2, w.heap.size ≤ w2.heap.size ∧ Tch (fun b => w.heap.size ≤ b) w2 w' ∧
    ((∃ bs : List UInt8, e = .returned (.tuple #[.string ⟨bs.toArray⟩, .int .i64 0]) ∧ Q bs w2) ∨
     (∃ er, er ≠ 0 ∧ e = .returned (.tuple #[.string ⟨#[]⟩, .int .i64 er]) ∧ QE er w2) ∨
     (∃ s, e = .panicked [{ v := .iface 9 s, recovered := false }, { v := .iface 9 s, recovered := true }] ∧ QS s w2))

theorem neq_nilFunc (fn : Fn) (first cap : Array Value) (w : World) : (binOp .neq 100 (.func fn first cap) .nilFunc).run Try.prog w = .ok (.bool true) w := by kernel_rfl

/-- The closure that Write hands to call. -/
theorem write1 (T : TypeId) (B0 B2 W : Nat) (F : FuncId) (fst caps : Array Value) (S : Nat → Prop) (Q : Int → Value → World → Prop) (QS : Value → World → Prop) (w : World)
    (hF : ∀ (args : Array Value) (w : World), (callFunc F args).run Try.prog w = .ok (.enter F args) w)
    (h0 : w.cell? ⟨B0, 0, none⟩ = some (.func (.func F) fst caps)) (h2 : w.cell? ⟨B2, 0, none⟩ = some (.pointer (some ⟨W, 0, none⟩)))
    (hf : Calls Try.prog F (fst ++ #[.pointer (some ⟨W, 0, none⟩)] ++ caps) w (FOut T W S Q QS w)) :
    Calls Try.prog 78 #[.pointer (some ⟨B0, 0, none⟩), .pointer (some ⟨B2, 0, none⟩)] w (FOut T W S Q QS w) := by
  have HF := Lib.hid hf
  clear hf
  go_enter Try.func78, Try.ntmps78
  go_wp2_with fail
  refine HF.out.mono ?_
  rintro e w2 ⟨ht, hc⟩
  have HT := Lib.hid ht
  clear ht
  rcases hc with ⟨x, rfl, hbk, hq⟩ | ⟨en, x, hen, rfl, hbk, hq⟩ | ⟨en, er, x, her, rfl, hbk, hq⟩ | ⟨s, er, x, rfl, hbk, hq⟩
  · have HQ := Lib.hid hq
    have HB := Lib.hid hbk
    clear hq hbk
    go_wp2_with fail
    go_end0
    exact ⟨HT.out, .inl ⟨x, rfl, HB.out, HQ.out⟩⟩
  · exact ⟨rfl, HT.out, .inr (.inl ⟨en, x, hen, rfl, hbk, hq⟩)⟩
  · exact ⟨rfl, HT.out, .inr (.inr (.inl ⟨en, er, x, her, rfl, hbk, hq⟩))⟩
  · exact ⟨rfl, HT.out, .inr (.inr (.inr ⟨s, er, x, rfl, hbk, hq⟩))⟩

set_option maxHeartbeats 2000000 in
theorem write_anyF (F : FuncId) (fst caps : Array Value) (S : Nat → Prop) (Q : List UInt8 → World → Prop) (QE : Int → World → Prop) (QS : Value → World → Prop) (w : World)
    (hS : ∀ b, S b → b < w.heap.size) (hF : ∀ (args : Array Value) (w : World), (callFunc F args).run Try.prog w = .ok (.enter F args) w)
    (hf : ∀ W w1, w.heap.size ≤ W → Below w.heap.size w w1 → WrIs w1 W w1.heap.size (.slice none 0 0) [] → Calls Try.prog F (fst ++ #[.pointer (some ⟨W, 0, none⟩)] ++ caps) w1 (WFOut W S Q QE QS w1)) :
    Calls Try.prog 49 #[.func (.func F) fst caps] w (WriteR S Q QE QS w) := by
  have HF := Lib.hid hf
  clear hf
  have hmf : ∀ (fn : Fn) (first cap : Array Value) (w : World), (Instr.makeFunc fn first cap).run Try.prog w = .ok (.func fn first cap) w := fun _ _ _ _ => rfl
  have hnn := neq_nilFunc
  go_enter Try.func49, Try.ntmps49
  go_wp2_with fail
  have hG : ∀ (args : Array Value) (w : World), (callFunc 78 args).run Try.prog w = .ok (.enter 78 args) w := fun _ _ => by simp [go_sem]
  have hW0 : Bk (((w.alloc (.cells #[.func (.func F) fst caps] 100)).alloc (.cells #[.pointer none, .bool false, .int .i64 0, .slice none 0 0] 146)).alloc (.cells #[.pointer (some ⟨w.heap.size + 1, 0, none⟩)] 101)) (w.heap.size + 1) 146 #[.pointer none, .bool false, .int .i64 0, .slice none 0 0] := by
    have := (Bk.made (w.alloc (.cells #[.func (.func F) fst caps] 100)) 146 #[.pointer none, .bool false, .int .i64 0, .slice none 0 0]).alloc (.cells #[.pointer (some ⟨w.heap.size + 1, 0, none⟩)] 101)
    simpa using this
  have hB0 : Bk (((w.alloc (.cells #[.func (.func F) fst caps] 100)).alloc (.cells #[.pointer none, .bool false, .int .i64 0, .slice none 0 0] 146)).alloc (.cells #[.pointer (some ⟨w.heap.size + 1, 0, none⟩)] 101)) w.heap.size 100 #[.func (.func F) fst caps] :=
    ((Bk.made w 100 #[.func (.func F) fst caps]).alloc _).alloc _
  have hB2 : Bk (((w.alloc (.cells #[.func (.func F) fst caps] 100)).alloc (.cells #[.pointer none, .bool false, .int .i64 0, .slice none 0 0] 146)).alloc (.cells #[.pointer (some ⟨w.heap.size + 1, 0, none⟩)] 101)) (w.heap.size + 1 + 1) 101 #[.pointer (some ⟨w.heap.size + 1, 0, none⟩)] := by
    have := Bk.made ((w.alloc (.cells #[.func (.func F) fst caps] 100)).alloc (.cells #[.pointer none, .bool false, .int .i64 0, .slice none 0 0] 146)) 101 #[.pointer (some ⟨w.heap.size + 1, 0, none⟩)]
    simpa using this
  have hbel0 : Below w.heap.size w (((w.alloc (.cells #[.func (.func F) fst caps] 100)).alloc (.cells #[.pointer none, .bool false, .int .i64 0, .slice none 0 0] 146)).alloc (.cells #[.pointer (some ⟨w.heap.size + 1, 0, none⟩)] 101)) :=
    (((Below.refl _ w).alloc (Nat.le_refl _) _).alloc (by simp) _).alloc (by simp; omega) _
  generalize hW0e : (((w.alloc (.cells #[.func (.func F) fst caps] 100)).alloc (.cells #[.pointer none, .bool false, .int .i64 0, .slice none 0 0] 146)).alloc (.cells #[.pointer (some ⟨w.heap.size + 1, 0, none⟩)] 101)) = W0 at *
  have hs0 : W0.heap.size = w.heap.size + 3 := by rw [← hW0e]; simp
  have HE := Lib.hid hW0e
  clear hW0e
  refine (call_any 146 (w.heap.size + 1) (.slice none 0 0) 78 _ (fun b => b = w.heap.size + 1 ∨ S b)
    (fun er x w2 => Tch (fun b => b = w.heap.size + 1 ∨ S b) W0 w2 ∧ Tch S w w2 ∧ ((er = 0 ∧ ∃ bs N, w.heap.size + 1 < N ∧ w2.ownsRow N 5 1 x bs.length (byC bs) ∧ Q bs w2) ∨ (er ≠ 0 ∧ QE er w2)))
    (fun s w2 => Tch (fun b => b = w.heap.size + 1 ∨ S b) W0 w2 ∧ Tch S w w2 ∧ QS s w2) W0 hW0 (fun b hb => by rcases hb with h | h; omega; have := hS b h; omega) hG ?_).mono ?_
  · intro w1 hb1 ht1
    have hs1 := ht1.size
    have hw1 : Below w.heap.size w w1 := hbel0.trans (ht1.belowB (by omega) (by omega))
    refine write1 146 w.heap.size (w.heap.size + 1 + 1) (w.heap.size + 1) F fst caps _ _ _ w1 hF ?_ ?_ ?_
    · rw [(hB0.tch ht1 (by omega)).cell]; rfl
    · rw [(hB2.tch ht1 (by omega)).cell]; rfl
    · refine (HF.out (w.heap.size + 1) w1 (by omega) hw1 ⟨hb1, World.ownsRow_nil _ _ _ _, Nat.le_refl _⟩).mono ?_
      rintro e w2 ⟨ht, hc⟩
      have hts : Tch S w w2 := ((Tch.of_below hw1).more (T := S) (fun b hb h => by omega)).trans ht (fun b hb h => by rcases h with h | h; omega; exact h)
      have hsz : Tch (fun b => b = w.heap.size + 1 ∨ S b) W0 w2 := (ht1.more (fun b _ h => .inl h)).then ht
      refine ⟨ht, ?_⟩
      rcases hc with ⟨v, bs, rfl, hw, hq⟩ | ⟨en, v, bs, hen, rfl, hw, hq⟩ | ⟨en, er, her, rfl, ⟨v, hw⟩, hq⟩ | ⟨s, rfl, ⟨v, bs, hw⟩, hq⟩
      · exact .inl ⟨v, rfl, hw.1, hsz, hts, .inl ⟨rfl, bs, _, by omega, hw.2.1, hq⟩⟩
      · exact .inr (.inl ⟨en, v, hen, rfl, hw.1, hsz, hts, .inr ⟨hen, hq⟩⟩)
      · exact .inr (.inr (.inl ⟨en, er, v, her, rfl, hw, hsz, hts, .inr ⟨her, hq⟩⟩))
      · exact .inr (.inr (.inr ⟨s, 0, v, rfl, hw.1, hsz, hts, hq⟩))
  · rintro e w3 ⟨w2, er, x, ⟨hE, hET⟩, hc⟩
    have hl3 := hE.lt
    have c2 := hE.cell 2
    have c3 := hE.cell 3
    simp at c2 c3
    rcases hc with ⟨rfl, hT0, hT, hq⟩ | ⟨s, rfl, hT0, hT, hq⟩
    · have hb2 := ((hB2.tch hT0 (fun h => by rcases h with h | h; omega; have := hS _ h; omega)).tch hET (by omega)).cell 0
      simp at hb2
      have hsw2 : w.heap.size ≤ w2.heap.size := hT.size
      have hTf : Tch S w w3 := hT.trans hET (fun b hb h => by omega)
      have hT23 : Tch (fun b => w.heap.size ≤ b) w2 w3 := hET.more (fun b _ h => by omega)
      have HE3 := Lib.hid hE
      have HET := Lib.hid hET
      have HT3 := Lib.hid hTf
      have HT23 := Lib.hid hT23
      clear hE hET hT0 hT hTf hT23 hB0 hB2 hW0 hbel0
      rcases hq with ⟨rfl, bs, N, hN, hown, hq⟩ | ⟨her, hq⟩
      · obtain ⟨ao, cap, rfl, hnc, hcm, hn0, hrow⟩ := own_shape hown
        have hconv : (convert 23 9 (.slice ao bs.length cap)).run Try.prog w3 = .ok (.string ⟨bs.toArray⟩) w3 := by
          by_cases h0 : ao = none
          · have := hn0 h0
            have hbs : bs = [] := List.eq_nil_of_length_eq_zero (by omega)
            subst hbs h0
            exact run_convert_bytes_nil w3 _ _ Try.underlying23 Try.underlying5 _ _ _ Try.underlying9
          · obtain ⟨g, cur, rfl, hg, hbk, _, hcur⟩ := hrow h0
            refine run_convert_bytes_back w3 _ _ _ _ cap bs Try.underlying23 Try.underlying5 Try.underlying9 (fun j hj => ?_)
            have hbk3 := hbk.tch HET.out (by omega)
            rw [Addr.add_lit, hbk3.cell, Nat.zero_add]
            exact hcur j _ (by simp [byC, hj])
        have HQ := Lib.hid hq
        have HR := Lib.hid hrow
        clear hq hrow hn0 hown
        go_wp2_with fail
        go_ret2
        exact ⟨HT3.out, w2, hsw2, HT23.out, .inl ⟨bs, rfl, HQ.out⟩⟩
      · have hne : (er != 0) = true := by rw [bne_iff_ne]; exact her
        have HQ := Lib.hid hq
        have HER := Lib.hid her
        clear hq her
        go_wp2_with fail
        go_quiet (fail)
        go_wp2_with fail
        go_ret2
        exact ⟨HT3.out.drewN _, w2, hsw2, HT23.out.drewN _, .inr (.inl ⟨er, HER.out, rfl, HQ.out⟩)⟩
    · exact ⟨rfl, hT.trans hET (fun b hb h => by omega), w2, hT.size, hET.more (fun b _ h => by omega), .inr (.inr ⟨s, rfl, hq⟩)⟩
theorem write_any (F : FuncId) (caps : Array Value) (S : Nat → Prop) (Q : List UInt8 → World → Prop) (QE : Int → World → Prop) (QS : Value → World → Prop) (w : World)
    (hS : ∀ b, S b → b < w.heap.size) (hF : ∀ (args : Array Value) (w : World), (callFunc F args).run Try.prog w = .ok (.enter F args) w)
    (hf : ∀ W w1, w.heap.size ≤ W → Below w.heap.size w w1 → WrIs w1 W w1.heap.size (.slice none 0 0) [] → Calls Try.prog F (#[.pointer (some ⟨W, 0, none⟩)] ++ caps) w1 (WFOut W S Q QE QS w1)) :
    Calls Try.prog 49 #[.func (.func F) #[] caps] w (WriteR S Q QE QS w) :=
  write_anyF F #[] caps S Q QE QS w hS hF (fun W w1 h1 h2 h3 => by simpa using hf W w1 h1 h2 h3)
end Go.Proofs.Ytebpdnmmcbianaa
