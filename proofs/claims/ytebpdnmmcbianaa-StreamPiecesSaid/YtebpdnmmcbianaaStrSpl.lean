/-
  Package stream: a splitter in memory; fail, Bad, Left, end.
-/
import Derived.Test.YtebpdnmmcbianaaStrFrame
import Derived.Test.YtebpdnmmcbianaaMsgDec
set_option linter.unusedVariables false
set_option linter.unusedSimpArgs false
set_option maxRecDepth 100000
namespace Go.Proofs.Ytebpdnmmcbianaa
open Go.RowKit

/-- The cells of a splitter. -/
structure SpC (cs : Array Value) (st : St) : Prop where
  size : cs.size = 4100
  have_ : cs[4098]? = some (Value.int .i64 st.h.length)
  bad : cs[4099]? = some (Value.int .i64 st.bad)
  len : st.h.length ≤ 4098
  byte : ∀ (i : Nat) (b : UInt8), st.h[i]? = some b → cs[i]? = some (Value.int .u8 b.toNat)
  all : ∀ i, i < 4098 → ∃ b : UInt8, cs[i]? = some (Value.int .u8 b.toNat)
def SpIs (w : World) (P : Nat) (st : St) : Prop := ∃ cs, Bk w P 40 cs ∧ SpC cs st
theorem SpIs.tch {w w' : World} {P : Nat} {st : St} {S : Nat → Prop} (h : SpIs w P st) (ht : Tch S w w') (hs : ¬ S P) : SpIs w' P st := by
  obtain ⟨cs, hb, hc⟩ := h
  exact ⟨cs, hb.tch ht hs, hc⟩
theorem SpIs.lt {w : World} {P : Nat} {st : St} (h : SpIs w P st) : P < w.heap.size := by obtain ⟨cs, hb, _⟩ := h; exact hb.lt

/-- How fail ends. -/
def FailR (P : Nat) (er : Nat) (w : World) (e : Ending) (w' : World) : Prop := e = .returned (.tuple #[]) ∧ SpIs w' P ⟨[], er⟩ ∧ Tch (· = P) w w'
theorem SpC.cleared {cs : Array Value} {st : St} (h : SpC cs st) : SpC (cs.setIfInBounds 4098 (.int .i64 0)) ⟨[], st.bad⟩ := by
  obtain ⟨h1, h2, h3, h4, h5, h6⟩ := h
  refine ⟨by simpa using h1, by simp [h1], ?_, by simp, by simp, fun i hi => ?_⟩
  · rw [Array.getElem?_setIfInBounds_ne (by omega)]; exact h3
  · rw [Array.getElem?_setIfInBounds_ne (by omega)]; exact h6 i hi
theorem SpC.badly {cs : Array Value} {st : St} (h : SpC cs st) (er : Nat) : SpC (cs.setIfInBounds 4099 (.int .i64 er)) ⟨st.h, er⟩ := by
  obtain ⟨h1, h2, h3, h4, h5, h6⟩ := h
  refine ⟨by simpa using h1, ?_, by simp [h1], h4, fun i b hb => ?_, fun i hi => ?_⟩
  · rw [Array.getElem?_setIfInBounds_ne (by omega)]; exact h2
  · have hi : i < st.h.length := (List.getElem?_eq_some_iff.1 hb).1
    rw [Array.getElem?_setIfInBounds_ne (by omega)]; exact h5 i b hb
  · rw [Array.getElem?_setIfInBounds_ne (by omega)]; exact h6 i hi
set_option maxHeartbeats 400000 in
theorem spfail_ok (P er : Nat) (st : St) (w : World) (h : SpIs w P st) :
    Calls Try.prog 87 #[.pointer (some ⟨P, 0, none⟩), .int .i64 er] w (FailR P er w) := by
  obtain ⟨cs, hb, hc⟩ := h
  have c1 := hb.cell 4098
  have c2 := hb.cell 4099
  have f1 := hb.frozen 4098
  have f2 := hb.frozen 4099
  rw [hc.have_] at c1
  rw [hc.bad] at c2
  have HB := Lib.hid hb
  have HC := Lib.hid hc
  clear hb hc
  go_enter Try.func87, Try.ntmps87
  go_wp2_with fail
  go_end0
  exact ⟨rfl, ⟨_, (HB.out.store 4098 _).store 4099 _, HC.out.cleared.badly er⟩, ((Tch.refl (· = P) w).setCell (fun _ => rfl) _).setCell (fun _ => rfl) _⟩
set_option maxHeartbeats 400000 in
theorem spbad_ok (P : Nat) (st : St) (w : World) (h : SpIs w P st) :
    Calls Try.prog 18 #[.pointer (some ⟨P, 0, none⟩)] w (fun e w' => e = .returned (.int .i64 st.bad) ∧ w' = w) := by
  obtain ⟨cs, hb, hc⟩ := h
  have c2 := hb.cell 4099
  rw [hc.bad] at c2
  clear hb hc
  go_enter Try.func18, Try.ntmps18
  go_wp2_with fail
  go_ret
  exact ⟨rfl, rfl⟩
set_option maxHeartbeats 400000 in
theorem spleft_ok (P : Nat) (st : St) (w : World) (h : SpIs w P st) :
    Calls Try.prog 19 #[.pointer (some ⟨P, 0, none⟩)] w (fun e w' => e = .returned (.int .i64 st.h.length) ∧ w' = w) := by
  obtain ⟨cs, hb, hc⟩ := h
  have c2 := hb.cell 4098
  rw [hc.have_] at c2
  clear hb hc
  go_enter Try.func19, Try.ntmps19
  go_wp2_with fail
  go_ret
  exact ⟨rfl, rfl⟩
set_option maxHeartbeats 400000 in
/-- The closure that end hands to Read. -/
theorem end1_ok (W NB : Nat) (l : List UInt8) (u : Value) (w : World) (h : RdIs w W l) (hl : 2 ≤ l.length) (hn : w.cell? ⟨NB, 0, none⟩ = some u) (hf : w.frozen? ⟨NB, 0, none⟩ = false) (hne : NB ≠ W) :
    Calls Try.prog 85 #[.pointer (some ⟨W, 0, none⟩), .pointer (some ⟨NB, 0, none⟩)] w
      (fun e w' => e = .returned (.tuple #[]) ∧ ∃ w1, RdIs w1 W (l.drop 2) ∧ Tch (· = W) w w1 ∧ w' = w1.setCell ⟨NB, 0, none⟩ (.int .u64 (beV (l.take 2)))) := by
  have hnum := rnum_ok W l 2 w h (by omega) hl
  have HNUM := Lib.hid hnum
  have HL := Lib.hid (World.block_lt_of_cell? w _ hn)
  have HN := Lib.hid hn
  have HF := Lib.hid hf
  clear h hnum hn hf
  go_enter Try.func85, Try.ntmps85
  go_wp2_with fail
  refine HNUM.out.mono ?_
  rintro e w1 ⟨rfl, hr, ht⟩
  have c := (ht.cell HL.out hne).trans HN.out
  have f := (ht.frozen HL.out hne).trans HF.out
  have HR := Lib.hid hr
  have HT := Lib.hid ht
  clear hr ht
  go_wp2_with fail
  go_end0
  exact ⟨rfl, w1, HR.out, HT.out, rfl⟩

/-- How end ends. -/
def SpEndR (st : St) (w : World) (e : Ending) (w' : World) : Prop := e = .returned (.int .i64 (endOf st.h)) ∧ New w w'
set_option maxHeartbeats 1000000 in
theorem spend_ok (P : Nat) (st : St) (w : World) (h : SpIs w P st) :
    Calls Try.prog 54 #[.pointer (some ⟨P, 0, none⟩)] w (SpEndR st w) := by
  obtain ⟨cs, hb, hc⟩ := h
  have c1 := hb.cell 4098
  rw [hc.have_] at c1
  by_cases h2 : st.h.length < 2
  · have HE := Lib.hid (show endOf st.h = 2 by simp [endOf, h2])
    have h2i : (st.h.length : Int) < 2 := by omega
    clear hb hc h2
    go_enter Try.func54, Try.ntmps54
    go_wp2_with fail
    go_ret
    exact ⟨by rw [HE.out]; rfl, New.refl w⟩
  · have hmf : ∀ (fn : Fn) (first cap : Array Value) (w : World), (Instr.makeFunc fn first cap).run Try.prog w = .ok (.func fn first cap) w := fun _ _ _ _ => rfl
    have hF : ∀ (args : Array Value) (w : World), (callFunc 85 args).run Try.prog w = .ok (.enter 85 args) w := fun _ _ => by simp [go_sem]
    have HF := Lib.hid hF
    obtain ⟨t, ht⟩ : ∃ t, t = st.h.take 2 := ⟨_, rfl⟩
    have htl : t.length = 2 := by rw [ht, List.length_take]; omega
    have h2i : ¬ (st.h.length : Int) < 2 := by omega
    have HE := Lib.hid (show endOf st.h = 2 + beV t by rw [ht]; simp [endOf, h2])
    have hv : beV t < 65536 := by have := beV_lt t; rw [htl] at this; exact this
    obtain ⟨w1, hw1⟩ : ∃ w1, w1 = w.alloc (.cells #[.int .u64 0] 96) := ⟨_, rfl⟩
    have hn1 : New w w1 := by rw [hw1]; exact (New.refl w).alloc _
    have hb1 : Bk w1 w.heap.size 96 #[.int .u64 0] := by rw [hw1]; exact Bk.made w _ _
    have hs1 : w1.heap.size = w.heap.size + 1 := by rw [hw1]; simp
    have hbs := hn1.bk hb
    have hcv : ∀ cap, (convert 23 9 (.slice (some ⟨P, 0, none⟩) 2 cap)).run Try.prog w1 = .ok (.string (str t)) w1 := by
      intro cap
      have := run_convert_bytes_back (P := Try.prog) w1 23 9 5 ⟨P, 0, none⟩ cap t Try.underlying23 Try.underlying5 Try.underlying9 (fun j hj => by
        rw [Addr.add_lit, hbs.cell, Nat.zero_add]
        refine hc.byte j _ ?_
        rw [← List.getElem?_eq_getElem hj, ht, List.getElem?_take, if_pos (by omega)])
      rw [htl] at this
      exact this
    have hrd := read_any t 85 #[.pointer (some ⟨w.heap.size, 0, none⟩)] (fun b => b = w.heap.size) (fun l w2 => l = [] ∧ w2.cell? ⟨w.heap.size, 0, none⟩ = some (.int .u64 (beV t))) (fun _ _ => False) (fun _ _ => False) w1 (fun b hb => by omega) HF.out (by
      intro W wa hW hbe hr
      have hk : Bk wa w.heap.size 96 #[.int .u64 0] := hb1.keep (hbe.block _ (by omega))
      refine (end1_ok W w.heap.size t (.int .u64 0) wa hr (by omega) (by rw [hk.cell]; rfl) (hk.frozen 0) (by omega)).mono ?_
      rintro e w4 ⟨rfl, w3, hr3, ht3, rfl⟩
      have hk3 := hk.tch ht3 (by omega)
      have hs := hk3.store 0 (.int .u64 (beV (t.take 2)))
      refine ⟨(ht3.more (fun b _ h => .inl h)).setCell (fun _ => .inr rfl) _, .inl ⟨[], rfl, ?_, rfl, ?_⟩⟩
      · rw [List.drop_of_length_le (by omega)] at hr3
        exact Bk.other hr3 (by simp; omega) _
      · rw [hs.cell, List.take_of_length_le (by omega)]; rfl)
    have HRD := Lib.hid hrd
    rw [hw1] at hcv
    have HN1 := Lib.hid hn1
    have HW := Lib.hid hw1
    have hc2 := (hn1.cell c1)
    have HS1 := Lib.hid hs1
    clear hrd hF hb hc hw1 h2 ht htl hb1 hbs hs1
    go_enter Try.func54, Try.ntmps54
    go_wp2_with fail
    have hwx := HW.out
    rw [← hwx]
    clear hwx hcv
    refine HRD.out.mono ?_
    rintro e w5 ⟨ht5, w6, hsz6, ht6, hq⟩
    have HS1' := HS1.out
    rcases hq with ⟨rfl, _, hq⟩ | ⟨l, hl, _, h, _⟩ | ⟨_, _, _, h⟩ | ⟨_, _, h⟩
    · have hq5 := cell_tch0 ht6 hq (by omega)
      have HN5 := Lib.hid (show New w w5 from Tch.trans HN1.out ht5 (fun b hb h => by omega))
      clear ht5 ht6 hsz6 hq HRD HW
      go_wp2_with fail
      go_ret
      exact ⟨by rw [HE.out]; simp, HN5.out⟩
    · exact absurd h hl
    · exact h.elim
    · exact h.elim
end Go.Proofs.Ytebpdnmmcbianaa
