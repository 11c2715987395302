/-
  The law's 'speaks' of streams; a new splitter.
-/
import Derived.Test.YtebpdnmmcbianaaTold
set_option linter.unusedVariables false
set_option linter.unusedSimpArgs false
set_option maxRecDepth 100000
namespace Go.Proofs.Ytebpdnmmcbianaa
open Go.RowKit

theorem zero_all : (Try.zeroCells40.toList.take 4098).all (fun v => match v with | .int .u8 0 => true | _ => false) = true := by kernel_rfl
theorem spc_zero : SpC Try.zeroCells40 ⟨[], 0⟩ := by
  have hz : Try.zeroCells40.size = 4100 := by kernel_rfl
  refine ⟨hz, by kernel_rfl, by kernel_rfl, by simp, by simp, fun i hi => ⟨0, ?_⟩⟩
  have hl : i < Try.zeroCells40.size := by rw [hz]; omega
  have hm : Try.zeroCells40[i] ∈ Try.zeroCells40.toList.take 4098 := by
    rw [List.mem_take_iff_getElem]
    exact ⟨i, by rw [Array.length_toList]; omega, by simp⟩
  have := List.all_eq_true.1 zero_all _ hm
  rw [Array.getElem?_eq_getElem hl]
  split at this
  · rename_i h; rw [h]; rfl
  · cases this
/-- A new splitter. -/
theorem sp_new (w : World) : SpIs (w.alloc (.cells Try.zeroCells40 40)) w.heap.size ⟨[], 0⟩ := ⟨_, Bk.made w _ _, spc_zero⟩

def spkA : MsgA := ⟨6, 3, 0, false, [], [], []⟩
def spkF : List UInt8 := [0, 8, 6, 0, 3, 0, 0, 0, 0, 0]
theorem spk_frame : frameE spkA = (spkF, 0) := by decide +kernel
theorem spk_wf : Wf spkA := ⟨by simp [spkA], by simp [spkA]⟩
theorem spk_is (w : World) (S : Nat → Prop) : MsgIs w S spkA ⟨.slice none 0 0, .slice none 0 0, .slice none 0 0⟩ := ⟨Slk.nil, Slk.nil, Slk.nil⟩
theorem run_spk : runS ⟨[], 0⟩ spkF = (⟨[], 0⟩, [spkA]) := by
  have h := run_frame (m := spkA) (by decide +kernel) spk_wf (by decide +kernel)
  have e : frameL spkA = spkF := by decide +kernel
  rw [e] at h
  exact h
theorem run_spk1 : runS ⟨[], 0⟩ [0, 8, 6, 0, 3] = (⟨[0, 8, 6, 0, 3], 0⟩, []) := by kernel_rfl
theorem run_spk2 : runS ⟨[0, 8, 6, 0, 3], 0⟩ [0, 0, 0, 0, 0] = (⟨[], 0⟩, [spkA]) := by
  have h := runS_append ⟨[], 0⟩ [0, 8, 6, 0, 3] [0, 0, 0, 0, 0]
  have h2 := run_spk
  unfold spkF at h2
  rw [show ([0, 8, 6, 0, 3] ++ [0, 0, 0, 0, 0] : List UInt8) = [0, 8, 6, 0, 3, 0, 0, 0, 0, 0] from rfl, h2, run_spk1] at h
  simp at h
  obtain ⟨h3, h4⟩ := h
  exact Prod.ext h3.symm h4.symm
/-- The row of what was told. -/
theorem Told.shape {w : World} {base : Nat} {v : Value} {ms : List (MsgA × MsgV)} (h : Told w base v ms) : ∃ ao cap, v = .slice ao ms.length cap ∧ ms.length ≤ cap ∧ cap ≤ maxLen := by
  rcases h.1.2 with ⟨rfl, h0⟩ | ⟨g, cap, cur, rfl, hb, hg, hnc, hcm, hcs, ht⟩
  · exact ⟨none, 0, by rw [h0], by omega, by decide⟩
  · exact ⟨_, cap, rfl, hnc, hcm⟩
/-- One of them, by its cells. -/
theorem Told.at_ {w : World} {base : Nat} {ao : Option Addr} {n cap : Nat} {ms : List (MsgA × MsgV)} (h : Told w base (.slice ao n cap) ms) (hp : 0 < ms.length) :
    ∃ g, ao = some ⟨g, 0, none⟩ ∧ base ≤ g ∧ g < w.heap.size ∧ ∀ (i : Nat) (x : MsgA × MsgV) (c : Nat) (u : Value), ms[i]? = some x → (msgC x.1 x.2)[c]? = some u → w.cell? ⟨g, i * 7 + c, none⟩ = some u := by
  have h1 : w.ownsRow base 30 7 (.slice ao n cap) ms.length (ms.flatMap fun x => (msgC x.1 x.2).toList) := h.1
  have h2 := own_slk (enc := fun x : MsgA × MsgV => (msgC x.1 x.2).toList) (fun x => by simp [msgC]) h1
  obtain ⟨b, off, e, hS, hb, hc⟩ := h2.at_ hp
  rcases h1.2 with ⟨e0, h0⟩ | ⟨g, cap', cur, e0, hgb, hg, hnc, hcm, hcs, ht⟩
  · injection e0 with e1 e2 e3
    rw [h0] at hp
    exact absurd hp (by omega)
  · injection e0 with e1 e2 e3
    rw [e] at e1
    injection e1 with e1
    injection e1 with e4 e5 _
    subst e4 e5
    refine ⟨b, e, hS, hb, fun i x c u hi hu => ?_⟩
    obtain ⟨hl, rfl⟩ := List.getElem?_eq_some_iff.1 hi
    have := hc i hl c u (by simpa using hu)
    rw [Nat.zero_add] at this
    exact this
def SpkR (w : World) (e : Ending) (w' : World) : Prop := e = .returned (.bool true) ∧ New w w'
set_option maxHeartbeats 1000000 in
theorem speaks6 (w : World) : Calls Try.prog 12 #[] w (SpkR w) := by
  have HF := Lib.hid (frame_ok spkA ⟨.slice none 0 0, .slice none 0 0, .slice none 0 0⟩ (fun _ => True) w (spk_is w _) spk_wf)
  go_enter Try.func12, Try.ntmps12
  go_wp2_with fail
  refine HF.out.mono ?_
  rintro e w1 ⟨rfl, hn⟩
  rw [spk_frame]
  have HN := Lib.hid hn
  clear hn HF
  have es : str (spkF, 0).1 = (⟨#[0, 8, 6, 0, 3, 0, 0, 0, 0, 0]⟩ : ByteArray) := rfl
  have ez : ((spkF, 0) : List UInt8 × Nat).2 = 0 := rfl
  rw [es, ez]
  clear es ez
  have X1 : (⟨#[0, 8, 6, 0, 3, 0, 0, 0, 0, 0]⟩ : ByteArray).extract 0 5 = str [0, 8, 6, 0, 3] := by decide +kernel
  have X2 : (⟨#[0, 8, 6, 0, 3, 0, 0, 0, 0, 0]⟩ : ByteArray).extract 5 10 = str [0, 0, 0, 0, 0] := by decide +kernel
  have hnew := sp_new w1
  obtain ⟨w2, hw2⟩ : ∃ w2, w2 = w1.alloc (.cells Try.zeroCells40 40) := ⟨_, rfl⟩
  have hn2 : New w w2 := by rw [hw2]; exact HN.out.alloc _
  have hwz : w1.heap.size < w2.heap.size := by rw [hw2]; simp
  rw [← hw2] at hnew
  have HFE := Lib.hid (feed_ok w1.heap.size [0, 8, 6, 0, 3] ⟨[], 0⟩ w2 hnew calm_new (by simp))
  have HN2 := Lib.hid hn2
  have HW2 := Lib.hid hw2
  clear hnew hn2 hw2
  go_wp2_with fail
  rw [← HW2.out]
  clear X1 HW2
  refine HFE.out.mono ?_
  rintro e w3 ⟨v, ms, rfl, hto, hsp, hms, ht⟩
  rw [run_spk1] at hsp hms
  simp only at hsp hms
  obtain rfl : ms = [] := by simpa using hms
  obtain ⟨ao, cap, rfl, _, _⟩ := hto.shape
  have HT3 := Lib.hid (show New w w3 from (HN2.out : Tch _ _ _).trans ht (fun b hb e => by have := HN.out.size; omega))
  have hz3 := ht.size
  have HFE2 := Lib.hid (feed_ok w1.heap.size [0, 0, 0, 0, 0] _ w3 hsp (by intro _; decide +kernel) (by simp))
  clear hto hsp hms ht HFE
  go_wp2_with fail
  clear X2
  refine HFE2.out.mono ?_
  rintro e w4 ⟨v, ms, rfl, hto, hsp, hms, ht⟩
  rw [run_spk2] at hsp hms
  simp only at hsp hms
  obtain ⟨vm, rfl⟩ : ∃ vm, ms = [(spkA, vm)] := by
    match ms, hms with
    | [(a, b)], h => simp at h; exact ⟨b, by rw [h]⟩
  obtain ⟨ao2, cap2, rfl, _, _⟩ := hto.shape
  obtain ⟨g, rfl, hg1, hg2, hg3⟩ := hto.at_ (by simp)
  have c1 := hg3 0 _ 1 (.int .i64 3) rfl rfl
  have HT4 := Lib.hid (show New w w4 from (HT3.out : Tch _ _ _).trans ht (fun b hb e => by have := HN.out.size; omega))
  have HSP := Lib.hid hsp
  have HB := Lib.hid (spbad_ok w1.heap.size _ w4 hsp)
  have HL := Lib.hid (spleft_ok w1.heap.size _ w4 hsp)
  simp at c1
  clear hto hsp hms ht hg3 HFE2
  go_wp2_with fail
  refine HB.out.mono ?_
  rintro e w5 ⟨rfl, rfl⟩
  go_wp2_with fail
  refine HL.out.mono ?_
  rintro e w6 ⟨rfl, rfl⟩
  go_wp2_with fail
  go_ret
  exact ⟨rfl, HT4.out⟩
end Go.Proofs.Ytebpdnmmcbianaa
