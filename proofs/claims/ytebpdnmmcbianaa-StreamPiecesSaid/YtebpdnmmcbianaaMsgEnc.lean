/-
  Package message: Encode.
-/
import Derived.Test.YtebpdnmmcbianaaMsgWrite2
import Derived.Test.YtebpdnmmcbianaaMsgValid
import Derived.Test.YtebpdnmmcbianaaWrite
set_option linter.unusedVariables false
set_option maxRecDepth 100000
namespace Go.Proofs.Ytebpdnmmcbianaa
open Go.RowKit

/-- What Encode answers. -/
def encE (m : MsgA) : List UInt8 × Nat := if May m then if (encM m).length ≤ 4096 then (encM m, 0) else ([], 3) else ([], 1)
theorem encE_ok {m : MsgA} (h : May m) (hl : (encM m).length ≤ 4096) : encE m = (encM m, 0) := by simp [encE, h, hl]
theorem encE_zero {m : MsgA} (h : (encE m).2 = 0) : May m ∧ (encM m).length ≤ 4096 ∧ (encE m).1 = encM m := by
  unfold encE at h ⊢
  by_cases h1 : May m
  · by_cases h2 : (encM m).length ≤ 4096
    · simp [h1, h2]
    · simp [h1, h2] at h
  · simp [h1] at h
theorem encE_bad {m : MsgA} (h : (encE m).2 ≠ 0) : (encE m).1 = [] := by
  unfold encE at h ⊢
  by_cases h1 : May m
  · by_cases h2 : (encM m).length ≤ 4096
    · simp [h1, h2] at h
    · simp [h1, h2]
  · simp [h1]
theorem MsgIs.low {w : World} {S : Nat → Prop} {m : MsgA} {v : MsgV} (h : MsgIs w S m v) : MsgIs w (· < w.heap.size) m v := h.more fun b hb _ => hb

def EncR (m : MsgA) (w : World) (e : Ending) (w' : World) : Prop := e = .returned (.tuple #[.string (str (encE m).1), .int .i64 (encE m).2]) ∧ New w w'
set_option maxHeartbeats 2000000 in
theorem encode_ok (m : MsgA) (v : MsgV) (S : Nat → Prop) (w : World) (hm : MsgIs w S m v) (hw : Wf m) :
    Calls Try.prog 14 #[.agg (msgC m v)] w (EncR m w) := by
  have HW := Lib.hid hw
  have HM := Lib.hid hm
  obtain ⟨vn, vi, vr⟩ := v
  obtain ⟨hn, hi, hrr⟩ := hm
  obtain ⟨an, cn, rfl, hn1, hn2⟩ := hn.shape
  obtain ⟨ai, ci, rfl, hi1, hi2⟩ := hi.shape
  obtain ⟨ar, cr, rfl, hr1, hr2⟩ := hrr.shape
  clear hn hi hrr hn1 hn2 hi1 hi2 hr1 hr2 hw
  obtain ⟨ct, hct⟩ : ∃ ct, ct = msgC m ⟨.slice an m.nodes.length cn, .slice ai m.ids.length ci, .slice ar m.recs.length cr⟩ := ⟨_, rfl⟩
  have HCT := Lib.hid hct
  have hmf : ∀ (fn : Fn) (first cap : Array Value) (w : World), (Instr.makeFunc fn first cap).run Try.prog w = .ok (.func fn first cap) w := fun _ _ _ _ => rfl
  have hF : ∀ (args : Array Value) (w : World), (callFunc 50 args).run Try.prog w = .ok (.enter 50 args) w := fun _ _ => by simp [go_sem]
  have HF := Lib.hid hF
  clear hF
  obtain ⟨w1, hw1⟩ : ∃ w1, w1 = w.alloc (.cells #[.int .i64 m.kind, .int .i64 m.node, .int .i64 m.walk, .bool m.high, .slice an m.nodes.length cn, .slice ai m.ids.length ci, .slice ar m.recs.length cr] 30) := ⟨_, rfl⟩
  have hnw : New w w1 := by rw [hw1]; exact (New.refl w).alloc _
  have hb : Bk w1 w.heap.size 30 #[.int .i64 m.kind, .int .i64 m.node, .int .i64 m.walk, .bool m.high, .slice an m.nodes.length cn, .slice ai m.ids.length ci, .slice ar m.recs.length cr] := by rw [hw1]; exact Bk.made w _ _
  have HB := Lib.hid hb
  have HNW := Lib.hid hnw
  have HW1 := Lib.hid hw1
  clear hct hnw hb hw1
  have hval := valid_ok m ⟨.slice an m.nodes.length cn, .slice ai m.ids.length ci, .slice ar m.recs.length cr⟩ S w1 (HNW.out.msg HM.out)
  simp only [msgC] at hval ⊢
  have HVAL := Lib.hid hval
  clear hval
  go_enter Try.func14, Try.ntmps14
  go_wp2_with fail
  rw [← HW1.out]
  refine HVAL.out.mono ?_
  rintro e w2 ⟨rfl, hn2⟩
  have hb2 := hn2.bk HB.out
  have hM2 := (HNW.out.then hn2).msg HM.out
  have d0 := hb2.cell 0
  have d1 := hb2.cell 1
  have d2 := hb2.cell 2
  have d3 := hb2.cell 3
  have d4 := hb2.cell 4
  have d5 := hb2.cell 5
  have d6 := hb2.cell 6
  simp at d0 d1 d2 d3 d4 d5 d6
  have HN2 := Lib.hid (HNW.out.then hn2)
  have HM2 := Lib.hid hM2
  clear hb2 hM2 hn2
  by_cases hmay : May m
  · rw [dec_ hmay]
    have HMAY := Lib.hid hmay
    have hwr := write_anyF 50 #[.agg #[.int .i64 m.kind, .int .i64 m.node, .int .i64 m.walk, .bool m.high, .slice an m.nodes.length cn, .slice ai m.ids.length ci, .slice ar m.recs.length cr]] #[] (fun _ => False) (fun bs _ => bs = encM m) (fun _ _ => False) (fun _ _ => False) w2 (fun b h => h.elim) HF.out (by
      intro W w3 hW3 hb3 hwi
      have h3 : MsgIs w3 (· < w2.heap.size) m ⟨.slice an m.nodes.length cn, .slice ai m.ids.length ci, .slice ar m.recs.length cr⟩ := HM2.out.low.since hb3
      have hsz := hb3.size
      refine (write_ok m _ W w3.heap.size (.slice none 0 0) _ w3 h3 (fun b hb => ⟨by omega, by omega⟩) (may_r HMAY.out HW.out) hwi).mono ?_
      rintro e w4 ⟨rfl, ⟨v', hv'⟩, ht⟩
      exact ⟨Tch.more ht (fun b hb h => by rcases h with h | ⟨h, _⟩; exact .inl h; omega), .inl ⟨v', encM m, rfl, by simpa using hv', rfl⟩⟩)
    have HWR := Lib.hid hwr
    clear hmay hwr
    go_wp2_with fail
    refine HWR.out.mono ?_
    rintro e w5 ⟨ht5, w6, _, _, hc⟩
    rcases hc with ⟨bs, rfl, rfl⟩ | ⟨er, _, _, h⟩ | ⟨s, _, h⟩
    · have hn5 : New w2 w5 := Tch.more ht5 (fun b _ h => h.elim)
      have HN5 := Lib.hid (HN2.out.then hn5)
      have hsz : (⟨(encM m).toArray⟩ : ByteArray).size = (encM m).length := str_size (encM m)
      clear ht5 hn5
      by_cases hl : (encM m).length ≤ 4096
      · have HR := Lib.hid (encE_ok HMAY.out hl)
        have hl2 : ((⟨(encM m).toArray⟩ : ByteArray).size : Int) ≤ 4096 := by omega
        have hl3 : ¬ (4096 < (⟨(encM m).toArray⟩ : ByteArray).size) := by omega
        have hl4 : ((encM m).length : Int) ≤ 4096 := by omega
        clear hsz
        go_wp2_with fail
        go_ret2
        exact ⟨by rw [HR.out]; rfl, HN5.out⟩
      · have HR := Lib.hid (show encE m = ([], 3) by simp [encE, HMAY.out, hl])
        have hl3 : 4096 < (⟨(encM m).toArray⟩ : ByteArray).size := by omega
        have hl4 : 4096 < ((encM m).length : Int) := by omega
        clear hsz hl
        go_wp2_with fail
        go_ret2
        exact ⟨by rw [HR.out]; rfl, HN5.out⟩
    · exact h.elim
    · exact h.elim
  · rw [decn_ hmay]
    have HR := Lib.hid (show encE m = ([], 1) by simp [encE, hmay])
    clear hmay
    go_wp2_with fail
    go_ret2
    exact ⟨by rw [HR.out]; rfl, HN2.out⟩
end Go.Proofs.Ytebpdnmmcbianaa
