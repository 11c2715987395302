/-
  Package stream: Frame.
-/
import Derived.Test.YtebpdnmmcbianaaMsgEnc
import Derived.Test.YtebpdnmmcbianaaStrMath
set_option linter.unusedVariables false
set_option linter.unusedSimpArgs false
set_option maxRecDepth 100000
namespace Go.Proofs.Ytebpdnmmcbianaa
open Go.RowKit

theorem cell_tch0 {w w' : World} {S : Nat → Prop} (h : Tch S w w') {b o : Nat} {u : Value} (k : w.cell? ⟨b, o, none⟩ = some u) (hs : ¬ S b) : w'.cell? ⟨b, o, none⟩ = some u :=
  (Tch.cell h (World.block_lt_of_cell? w _ k) hs).trans k
set_option maxHeartbeats 400000 in
/-- The closure that Frame hands to Write. -/
theorem frame1_ok (W N SB : Nat) (v : Value) (s : List UInt8) (w : World) (h : WrIs w W N v []) (hs : w.cell? ⟨SB, 0, none⟩ = some (.string (str s))) (hSB : SB < N ∧ SB ≠ W) (hl : s.length ≤ 4096) :
    Calls Try.prog 51 #[.pointer (some ⟨W, 0, none⟩), .pointer (some ⟨SB, 0, none⟩)] w (RawU W N [] (beL 2 s.length ++ s) w) := by
  have H := Lib.hid h
  have HS := Lib.hid hs
  have hsz := str_size s
  have hu : IntKind.u64.wrap ((str s).size : Int) = (s.length : Int) := by rw [hsz]; exact IntWalk.u64_in _ (by omega)
  have HU := Lib.hid hu
  have p2 : (256 : Nat) ^ 2 = 65536 := by decide
  have hnum := numU_ok W N v [] s.length 2 w H.out (by omega) (by omega) (by simp) (by omega)
  have HNUM := Lib.hid hnum
  have HSZ := Lib.hid hsz
  clear h hu p2 hsz hnum
  go_enter Try.func51, Try.ntmps51
  go_wp2_with fail
  rw [HU.out]
  refine HNUM.out.mono ?_
  rintro e w2 ⟨rfl, ⟨v2, hv2⟩, ht2⟩
  have hs2 := cell_tch0 ht2.tch HS.out (by unfold WrS; omega)
  have HV2 := Lib.hid hv2
  have HT2 := Lib.hid ht2
  clear hv2 ht2 hs
  have hraw := rawU_ok W N v2 ([] ++ beL 2 s.length) (str s) w2 HV2.out (by simp [beL_length]; rw [HSZ.out]; omega)
  rw [str_data] at hraw
  have HRAW := Lib.hid hraw
  clear hraw
  go_wp2_with fail
  refine HRAW.out.mono ?_
  rintro e w3 ⟨rfl, ⟨v3, hv3⟩, ht3⟩
  have HV3 := Lib.hid hv3
  have HT3 := Lib.hid (HT2.out.then ht3)
  clear hv3 ht3
  go_wp2_with fail
  go_end0
  exact ⟨rfl, ⟨v3, by simpa using HV3.out⟩, HT3.out⟩

/-- What Frame answers. -/
def frameE (m : MsgA) : List UInt8 × Nat := if (encE m).2 = 0 then (frameL m, 0) else ([], (encE m).2)
def FrameR (m : MsgA) (w : World) (e : Ending) (w' : World) : Prop := e = .returned (.tuple #[.string (str (frameE m).1), .int .i64 (frameE m).2]) ∧ New w w'
set_option maxHeartbeats 2000000 in
theorem frame_ok (m : MsgA) (v : MsgV) (S : Nat → Prop) (w : World) (hm : MsgIs w S m v) (hw : Wf m) :
    Calls Try.prog 15 #[.agg (msgC m v)] w (FrameR m w) := by
  have hmf : ∀ (fn : Fn) (first cap : Array Value) (w : World), (Instr.makeFunc fn first cap).run Try.prog w = .ok (.func fn first cap) w := fun _ _ _ _ => rfl
  have hF : ∀ (args : Array Value) (w : World), (callFunc 51 args).run Try.prog w = .ok (.enter 51 args) w := fun _ _ => by simp [go_sem]
  have HF := Lib.hid hF
  obtain ⟨an, cn, e1, _, _⟩ := hm.n.shape
  obtain ⟨ai, ci, e2, _, _⟩ := hm.i.shape
  obtain ⟨ar, cr, e3, _, _⟩ := hm.r.shape
  obtain ⟨vn, vi, vr⟩ := v
  simp only at e1 e2 e3
  subst e1 e2 e3
  have hn1 : New w (w.alloc (.cells (msgC m ⟨.slice an m.nodes.length cn, .slice ai m.ids.length ci, .slice ar m.recs.length cr⟩) 30)) := (New.refl w).alloc _
  have he := encode_ok m _ _ _ (hn1.msg hm) hw
  have HE := Lib.hid he
  have HN1 := Lib.hid hn1
  clear hF hm hn1 he
  simp only [msgC] at HE HN1 ⊢
  go_enter Try.func15, Try.ntmps15
  go_wp2_with fail
  refine HE.out.mono ?_
  rintro e w2 ⟨rfl, hn2⟩
  have HN2 := Lib.hid (HN1.out.then hn2)
  clear hn2 HE HN1
  by_cases h0 : (encE m).2 = 0
  · obtain ⟨hmay, hlen, hs⟩ := encE_zero h0
    have i0 : ((encE m).2 : Int) = 0 := by omega
    have HR := Lib.hid (show frameE m = (frameL m, 0) by simp [frameE, h0])
    rw [hs, i0]
    obtain ⟨sb, hsb⟩ : ∃ sb, sb = encM m := ⟨_, rfl⟩
    rw [← hsb] at hlen ⊢
    have hw3 : New w2 (w2.alloc (.cells #[.string (str sb)] 9)) := (New.refl w2).alloc _
    have hwr := write_any 51 #[.pointer (some ⟨w2.heap.size, 0, none⟩)] (fun _ => False) (fun bs _ => bs = beL 2 sb.length ++ sb) (fun _ _ => False) (fun _ _ => False) (w2.alloc (.cells #[.string (str sb)] 9)) (fun b h => h.elim) HF.out (by
      intro W w3 hW3 hb3 hwi
      have hsz := hb3.size
      have hc : w3.cell? ⟨w2.heap.size, 0, none⟩ = some (.string (str sb)) := by
        have h1 : Bk (w2.alloc (.cells #[.string (str sb)] 9)) w2.heap.size 9 #[.string (str sb)] := Bk.made w2 _ _
        rw [World.cell?_of_block (hb3.block w2.heap.size h1.lt), h1.cell]
        rfl
      simp at hW3 hsz
      refine (frame1_ok W w3.heap.size w2.heap.size _ sb w3 hwi hc (by omega) hlen).mono ?_
      rintro e w4 ⟨rfl, ⟨v', hv'⟩, ht⟩
      exact ⟨Tch.more ht (fun b hb h => by rcases h with h | ⟨h, _⟩; exact .inl h; omega), .inl ⟨v', _, rfl, by simpa using hv', rfl⟩⟩)
    have HWR := Lib.hid hwr
    have HSB := Lib.hid hsb
    have HN3 := Lib.hid (HN2.out.then hw3)
    clear h0 i0 hs hmay hlen hwr hsb hw3
    go_wp2_with fail
    refine HWR.out.mono ?_
    rintro e w5 ⟨ht5, w6, _, _, hc⟩
    rcases hc with ⟨bs, rfl, rfl⟩ | ⟨er, _, _, h⟩ | ⟨s, _, h⟩
    · have HN5 := Lib.hid (HN3.out.then (Tch.more ht5 (fun b _ h => h.elim)))
      clear ht5
      go_wp2_with fail
      go_ret2
      exact ⟨by rw [HR.out, frameL, ← HSB.out]; rfl, HN5.out⟩
    · exact h.elim
    · exact h.elim
  · have HR := Lib.hid (show frameE m = ([], (encE m).2) by simp [frameE, h0])
    have i1 : ((((encE m).2 : Nat) : Int) != 0) = true := by rw [bne_iff_ne]; omega
    clear h0
    go_wp2_with fail
    go_ret2
    exact ⟨by rw [HR.out]; rfl, HN2.out.alloc _⟩
end Go.Proofs.Ytebpdnmmcbianaa
