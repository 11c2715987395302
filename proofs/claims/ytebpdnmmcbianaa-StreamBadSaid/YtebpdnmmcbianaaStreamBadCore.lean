/-
  StreamBad: the core.
-/
import Derived.Test.YtebpdnmmcbianaaStrLaw
set_option linter.unusedVariables false
set_option linter.unusedSimpArgs false
set_option maxRecDepth 100000
namespace Go.Proofs.Ytebpdnmmcbianaa
open Go.RowKit

def noMsg : MsgA := ⟨0, 0, 0, false, [], [], []⟩
theorem noMsg_frame : frameE noMsg = ([], 1) := by decide +kernel
/-- One way of a bad frame. -/
structure BadWay (l : List UInt8) (want : Nat) : Prop where
  len : l.length ≤ 3
  run : runS ⟨[], 0⟩ l = (⟨[], want⟩, [])
  pos : want ≠ 0
theorem bad_run {l : List UInt8} {want : Nat} (h : BadWay l want) (q : SM) : runS ⟨[], 0⟩ ((frameL q.m ++ l) ++ frameL q.m) = (⟨[], want⟩, [q.m]) := by
  rw [runS_append, runS_append, q.run]
  simp only
  rw [h.run]
  simp only
  rw [runS_bad _ _ (by exact h.pos)]
  simp
set_option maxHeartbeats 2000000 in
theorem streamBad_core (q : SM) (how : Int) (W : World) (hq : SMOk q) (hh : 0 ≤ how ∧ how ≤ 255) :
    Calls Try.prog 4 #[.agg #[.int .i64 q.kind, .int .i64 q.node, .string q.key], .int .u8 how] W fun e W' => e = .returned (.bool true) ∧ Below W.heap.size W W' := by
  obtain ⟨w1, hw1⟩ : ∃ w1, w1 = W.alloc (.cells #[.int .i64 q.kind, .int .i64 q.node, .string q.key] 33) := ⟨_, rfl⟩
  have hn1 : New W w1 := by rw [hw1]; exact (New.refl W).alloc _
  have hb1 : Bk w1 W.heap.size 33 #[.int .i64 q.kind, .int .i64 q.node, .string q.key] := by rw [hw1]; exact Bk.made W _ _
  have HS := Lib.hid (speaks6 w1)
  have HN1 := Lib.hid hn1
  have HB1 := Lib.hid hb1
  have HW1 := Lib.hid hw1
  have HQ := Lib.hid hq
  clear hn1 hb1 hw1 hq
  go_enter Try.func4, Try.ntmps4
  go_wp2_with fail
  rw [← HW1.out]
  clear HW1
  refine HS.out.mono ?_
  rintro e w2 ⟨rfl, hn⟩
  have HN2 := Lib.hid (HN1.out.then hn)
  have hb2 := hn.bk HB1.out
  have c0 := hb2.cell 0
  have c1 := hb2.cell 1
  have c2 := hb2.cell 2
  simp at c0 c1 c2
  have HTO := Lib.hid (q.told HQ.out w2)
  clear hn HS HB1 HN1 hb2
  go_wp2_with fail
  refine HTO.out.mono ?_
  rintro e w3 ⟨an, cn, ai, ci, ar, cr, rfl, hm, hn⟩
  have HN3 := Lib.hid (HN2.out.then hn)
  have HFR := Lib.hid (frame_ok q.m _ _ w3 hm q.wf)
  clear hm hn HTO HN2 c0 c1 c2
  go_wp2_with fail
  refine HFR.out.mono ?_
  rintro e w4 ⟨rfl, hn⟩
  rw [q.frame]
  have HN4 := Lib.hid (HN3.out.then hn)
  obtain ⟨fl, hfl⟩ : ∃ fl, fl = frameL q.m := ⟨_, rfl⟩
  have e1 : str (frameL q.m, 0).1 = str fl := by rw [hfl]
  have e2 : (((frameL q.m, 0) : List UInt8 × Nat).2 : Int) = 0 := rfl
  rw [e1, e2]
  have hl : fl.length ≤ 202 := by rw [hfl]; exact q.flen
  have HL := Lib.hid hl
  have HFL := Lib.hid hfl
  clear hn HFR HN3 e1 e2 hl hfl
  obtain ⟨P, hP⟩ : ∃ P, P = w4.heap.size := ⟨_, rfl⟩
  obtain ⟨w5, hw5⟩ : ∃ w5, w5 = w4.alloc (.cells Try.zeroCells40 40) := ⟨_, rfl⟩
  have hsp : SpIs w5 P ⟨[], 0⟩ := by rw [hw5, hP]; exact sp_new w4
  have HN5 := Lib.hid (show New W w5 by rw [hw5]; exact HN4.out.alloc _)
  have HP := Lib.hid (show W.heap.size ≤ P by rw [hP]; exact HN4.out.size)
  have HW5 := Lib.hid hw5
  have HPP := Lib.hid hP
  have HSP := Lib.hid hsp
  have X1 : str [255, 255] = (⟨#[255, 255]⟩ : ByteArray) := rfl
  have X2 : str [0, 1, 0] = (⟨#[0, 1, 0]⟩ : ByteArray) := rfl
  clear hw5 hP hsp
  by_cases hbt : bits BinOp.and IntKind.u8 how 1 = 1
  · have hb0 : (bits BinOp.and IntKind.u8 how 1 == 1) = true := beq_ hbt
    clear hbt
    have A1 : ∀ w, (Op.stringOp .add (str fl) (⟨#[0, 1, 0]⟩ : ByteArray)).run Try.prog w = .ok (.string (str (fl ++ [0, 1, 0]))) w := fun w => sadd fl [0, 1, 0] (by have := HL.out; simp; omega) w
    have A2 : ∀ w, (Op.stringOp .add (str (fl ++ [0, 1, 0])) (str fl)).run Try.prog w = .ok (.string (str ((fl ++ [0, 1, 0]) ++ fl))) w := fun w => sadd (fl ++ [0, 1, 0]) fl (by have := HL.out; simp; omega) w
    have HBW : BadWay [0, 1, 0] 2 := ⟨by simp, bad_form, by decide⟩
    obtain ⟨all, hall⟩ : ∃ all, all = (fl ++ [0, 1, 0]) ++ fl := ⟨_, rfl⟩
    obtain ⟨some1, hsome⟩ : ∃ some1, some1 = fl ++ [0, 1, 0] := ⟨_, rfl⟩
    rw [← hall, ← hsome] at A2
    rw [← hsome] at A1
    have HRUN := Lib.hid (show runS ⟨[], 0⟩ all = (⟨[], 2⟩, [q.m]) by rw [hall, HFL.out]; exact bad_run HBW q)
    have HALL := Lib.hid (show all.length ≤ 1000 by have := HL.out; rw [hall]; simp; omega)
    clear hall hsome HBW X1 X2
    go_upto_region 8 with fail
    rw [← HW5.out, ← HPP.out]
    clear HW5 HPP
    have HFE := Lib.hid (feed_ok P all ⟨[], 0⟩ w5 HSP.out calm_new (by have := HALL.out; omega))
    clear HSP
    go_wp2_with fail
    refine HFE.out.mono ?_
    rintro e w6 ⟨v, ms, rfl, hto, hsp, hms, ht⟩
    rw [HRUN.out] at hsp hms
    simp only at hsp hms
    have hml : ms.length = 1 := by have := congrArg List.length hms; simpa using this
    obtain ⟨ao, cap, rfl, _, _⟩ := hto.shape
    rw [hml]
    have HN6 := Lib.hid (new_of_own HN5.out ht HP.out)
    have HFE2 := Lib.hid (feed_ok P fl _ w6 hsp (by intro h; simp at h) (by have := HL.out; omega))
    clear hto hsp hms ht HFE A1 A2 hml
    go_wp2_with fail
    refine HFE2.out.mono ?_
    rintro e w7 ⟨v, ms2, rfl, hto, hsp, hms, ht⟩
    rw [runS_bad _ _ (by simp)] at hsp hms
    simp only at hsp hms
    obtain rfl : ms2 = [] := by simpa using hms
    obtain ⟨ao2, cap2, rfl, _, _⟩ := hto.shape
    have HN7 := Lib.hid (new_of_own HN6.out ht HP.out)
    have HSP7 := Lib.hid hsp
    have HFN := Lib.hid (frame_ok noMsg ⟨.slice none 0 0, .slice none 0 0, .slice none 0 0⟩ (fun _ => True) w7 ⟨Slk.nil, Slk.nil, Slk.nil⟩ ⟨by simp [noMsg], by simp [noMsg]⟩)
    clear hto hsp hms ht HFE2
    go_wp2_with fail
    refine HFN.out.mono ?_
    rintro e w8 ⟨rfl, hn⟩
    rw [noMsg_frame]
    have HN8 := Lib.hid (HN7.out.then hn)
    have HSP8 := Lib.hid (HSP7.out.new hn)
    clear hn HFN
    have e1 : str (([], 1) : List UInt8 × Nat).1 = (⟨#[]⟩ : ByteArray) := rfl
    have e2 : ((([], 1) : List UInt8 × Nat).2 : Int) = 1 := rfl
    rw [e1, e2]
    clear e1 e2
    have HB := Lib.hid (spbad_ok P _ w8 HSP8.out)
    have HLE := Lib.hid (spleft_ok P _ w8 HSP8.out)
    go_wp2_with fail
    refine HB.out.mono ?_
    rintro e w9 ⟨rfl, rfl⟩
    go_wp2_with fail
    refine HLE.out.mono ?_
    rintro e w9 ⟨rfl, rfl⟩
    go_wp2_with fail
    refine (nilfeed_ok _ w9).mono ?_
    rintro e w10 ⟨rfl, rfl⟩
    go_wp2_with fail
    refine (nilbad_ok w10).mono ?_
    rintro e w11 ⟨rfl, rfl⟩
    go_wp2_with fail
    refine (nilleft_ok w11).mono ?_
    rintro e w12 ⟨rfl, rfl⟩
    go_wp2_with fail
    go_ret
    exact ⟨rfl, HN8.out.below⟩
  · have hb0 : (bits BinOp.and IntKind.u8 how 1 == 1) = false := bne_ hbt
    clear hbt
    have A1 : ∀ w, (Op.stringOp .add (str fl) (⟨#[255, 255]⟩ : ByteArray)).run Try.prog w = .ok (.string (str (fl ++ [255, 255]))) w := fun w => sadd fl [255, 255] (by have := HL.out; simp; omega) w
    have A2 : ∀ w, (Op.stringOp .add (str (fl ++ [255, 255])) (str fl)).run Try.prog w = .ok (.string (str ((fl ++ [255, 255]) ++ fl))) w := fun w => sadd (fl ++ [255, 255]) fl (by have := HL.out; simp; omega) w
    have HBW : BadWay [255, 255] 3 := ⟨by simp, bad_long, by decide⟩
    obtain ⟨all, hall⟩ : ∃ all, all = (fl ++ [255, 255]) ++ fl := ⟨_, rfl⟩
    obtain ⟨some1, hsome⟩ : ∃ some1, some1 = fl ++ [255, 255] := ⟨_, rfl⟩
    rw [← hall, ← hsome] at A2
    rw [← hsome] at A1
    have HRUN := Lib.hid (show runS ⟨[], 0⟩ all = (⟨[], 3⟩, [q.m]) by rw [hall, HFL.out]; exact bad_run HBW q)
    have HALL := Lib.hid (show all.length ≤ 1000 by have := HL.out; rw [hall]; simp; omega)
    clear hall hsome HBW X1 X2
    go_upto_region 8 with fail
    rw [← HW5.out, ← HPP.out]
    clear HW5 HPP
    have HFE := Lib.hid (feed_ok P all ⟨[], 0⟩ w5 HSP.out calm_new (by have := HALL.out; omega))
    clear HSP
    go_wp2_with fail
    refine HFE.out.mono ?_
    rintro e w6 ⟨v, ms, rfl, hto, hsp, hms, ht⟩
    rw [HRUN.out] at hsp hms
    simp only at hsp hms
    have hml : ms.length = 1 := by have := congrArg List.length hms; simpa using this
    obtain ⟨ao, cap, rfl, _, _⟩ := hto.shape
    rw [hml]
    have HN6 := Lib.hid (new_of_own HN5.out ht HP.out)
    have HFE2 := Lib.hid (feed_ok P fl _ w6 hsp (by intro h; simp at h) (by have := HL.out; omega))
    clear hto hsp hms ht HFE A1 A2 hml
    go_wp2_with fail
    refine HFE2.out.mono ?_
    rintro e w7 ⟨v, ms2, rfl, hto, hsp, hms, ht⟩
    rw [runS_bad _ _ (by simp)] at hsp hms
    simp only at hsp hms
    obtain rfl : ms2 = [] := by simpa using hms
    obtain ⟨ao2, cap2, rfl, _, _⟩ := hto.shape
    have HN7 := Lib.hid (new_of_own HN6.out ht HP.out)
    have HSP7 := Lib.hid hsp
    have HFN := Lib.hid (frame_ok noMsg ⟨.slice none 0 0, .slice none 0 0, .slice none 0 0⟩ (fun _ => True) w7 ⟨Slk.nil, Slk.nil, Slk.nil⟩ ⟨by simp [noMsg], by simp [noMsg]⟩)
    clear hto hsp hms ht HFE2
    go_wp2_with fail
    refine HFN.out.mono ?_
    rintro e w8 ⟨rfl, hn⟩
    rw [noMsg_frame]
    have HN8 := Lib.hid (HN7.out.then hn)
    have HSP8 := Lib.hid (HSP7.out.new hn)
    clear hn HFN
    have e1 : str (([], 1) : List UInt8 × Nat).1 = (⟨#[]⟩ : ByteArray) := rfl
    have e2 : ((([], 1) : List UInt8 × Nat).2 : Int) = 1 := rfl
    rw [e1, e2]
    clear e1 e2
    have HB := Lib.hid (spbad_ok P _ w8 HSP8.out)
    have HLE := Lib.hid (spleft_ok P _ w8 HSP8.out)
    go_wp2_with fail
    refine HB.out.mono ?_
    rintro e w9 ⟨rfl, rfl⟩
    go_wp2_with fail
    refine HLE.out.mono ?_
    rintro e w9 ⟨rfl, rfl⟩
    go_wp2_with fail
    refine (nilfeed_ok _ w9).mono ?_
    rintro e w10 ⟨rfl, rfl⟩
    go_wp2_with fail
    refine (nilbad_ok w10).mono ?_
    rintro e w11 ⟨rfl, rfl⟩
    go_wp2_with fail
    refine (nilleft_ok w11).mono ?_
    rintro e w12 ⟨rfl, rfl⟩
    go_wp2_with fail
    go_ret
    exact ⟨rfl, HN8.out.below⟩
end Go.Proofs.Ytebpdnmmcbianaa
