/-
  Package message: the law's 'speaks'.
-/
import Derived.Test.YteaeodinllpfbaaMsgEnc
import Derived.Test.YteaeodinllpfbaaMsgDec
import Derived.Test.YteaeodinllpfbaaMsgSame
set_option linter.unusedVariables false
set_option linter.unusedSimpArgs false
set_option maxRecDepth 100000
namespace Go.Proofs.Yteaeodinllpfbaa
open Go.RowKit

def byeM : MsgA := ⟨6, 0, 0, false, [], [], []⟩
def spkM : MsgA := ⟨9, 2, 0, true, [], [], [⟨⟨[107], 5⟩, 7, 1, false, [100]⟩]⟩
def spkL : List UInt8 := [9, 0, 2, 0, 1, 0, 0, 1, 1, 107, 0, 0, 0, 0, 0, 0, 0, 5, 0, 7, 0, 1, 0, 1, 100]
theorem enc_bye : encE byeM = ([6, 0, 0, 0, 0, 0, 0, 0], 0) := by decide +kernel
theorem enc_spk : encM spkM = spkL := by decide +kernel
theorem may_spk : May spkM := by decide +kernel
theorem dec_spk : dec spkL = .ok spkM := by
  rw [← enc_spk]
  refine dec_enc may_spk ⟨by simp [spkM], fun x hx => ?_⟩ (by rw [enc_spk]; decide)
  simp [spkM] at hx
  subst hx
  decide
def SpkR (w : World) (e : Ending) (w' : World) : Prop := e = .returned (.bool true) ∧ New w w'
theorem wf_bye : Wf byeM := ⟨by simp [byeM], by simp [byeM]⟩
theorem bye_is (w : World) (S : Nat → Prop) : MsgIs w S byeM zeroV := ⟨Slk.nil, Slk.nil, Slk.nil⟩
set_option maxHeartbeats 2000000 in
theorem speaks5 (w : World) : Calls Try.prog 9 #[] w (SpkR w) := by
  have he := encode_ok byeM zeroV (fun _ => True) w (bye_is w _) wf_bye
  have hd := fun w => decode_ok spkL w
  have HE := Lib.hid he
  have HD := Lib.hid hd
  clear he hd
  go_enter Try.func9, Try.ntmps9
  go_wp2_with fail
  refine HE.out.mono ?_
  rintro e w1 ⟨rfl, hn⟩
  rw [enc_bye]
  have HN := Lib.hid hn
  clear hn
  have es : str ([6, 0, 0, 0, 0, 0, 0, 0], 0).1 = (⟨#[6, 0, 0, 0, 0, 0, 0, 0]⟩ : ByteArray) := rfl
  have ez : (([6, 0, 0, 0, 0, 0, 0, 0], 0) : List UInt8 × Nat).2 = 0 := rfl
  rw [es, ez]
  clear es ez
  go_wp2_with fail
  refine (HD.out w1).mono ?_
  rintro e w2 ⟨hn, ⟨m, ⟨vn, vi, vr⟩, h1, rfl, hm⟩ | ⟨er, h1, _⟩⟩
  · rw [dec_spk] at h1
    cases h1
    obtain ⟨an, cn, rfl, _, _⟩ := hm.n.shape
    obtain ⟨ai, ci, rfl, _, _⟩ := hm.i.shape
    obtain ⟨ar, cr, rfl, _, _⟩ := hm.r.shape
    obtain ⟨b, off, rfl, _, hbl, hc⟩ := hm.r.at_ (by simp [spkM])
    have c1 := hc 0 (by simp [spkM]) 1 (.int .u64 5) rfl
    have c2 := hc 0 (by simp [spkM]) 2 (.int .i64 7) rfl
    have c5 := hc 0 (by simp [spkM]) 5 (.string ⟨#[100]⟩) rfl
    simp at c1 c2 c5
    have HN2 := Lib.hid (HN.out.then hn)
    clear hc hm hn HE HD
    simp only [msgC, spkM]
    go_wp2_with fail
    go_ret
    exact ⟨rfl, HN2.out.alloc _⟩
  · rw [dec_spk] at h1
    cases h1
end Go.Proofs.Yteaeodinllpfbaa
