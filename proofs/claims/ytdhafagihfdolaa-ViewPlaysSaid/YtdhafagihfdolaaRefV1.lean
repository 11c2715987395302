/-
  The reference's views: Forget, one of some.
-/
import Derived.Test.YtdhafagihfdolaaRefVw
import Derived.BigRegion
import Derived.BigQuiet
import Derived.Deep.RegionHeld3
import Derived.Deep.CutBlock
import Derived.Deep.DeepCutAuto
set_option linter.unusedVariables false
set_option linter.unusedSimpArgs false
set_option maxRecDepth 100000
namespace Go.Proofs.Ytdhafagihfdolaa
open Go.RowKit Go.Lib Go.Sort Go.Shelf

def zR : Array Value := #[.int .i64 0, .slice none 0 0, .slice none 0 0, .int .i64 0, .int .i64 0, .slice none 0 0]
/-- The blocks of a parameter and of a result. -/
theorem rstart2 (w : World) (cs : Array Value) (w1 : World) (h : New ((w.alloc (.cells cs 35)).alloc (.cells zR 35)) w1) :
    Bk w1 w.heap.size 35 cs ∧ Bk w1 (w.heap.size + 1) 35 zR ∧ New w w1 := by
  have h2 := Bk.made (w.alloc (.cells cs 35)) 35 zR
  have e : (w.alloc (.cells cs 35)).heap.size = w.heap.size + 1 := by simp
  rw [e] at h2
  exact ⟨h.bk (((New.refl _).alloc _).bk (Bk.made w _ cs)), h.bk h2, (((New.refl w).alloc _).alloc _).then h⟩
set_option maxHeartbeats 2000000 in
theorem rforget_ok (B : Nat) (x : VA) (ds : List Int) (va vp vd : Value) (n : Int) (w : World) (h : RfS w B x ds va vp vd) (hg : x.Good) (hB : B ≤ w.heap.size) :
    Calls Try.prog 24 #[rfV x va vp vd, .int .i64 n] w (RfR B (forgetV x n) ds w) := by
  obtain ⟨⟨ao, ac, rfl⟩, ⟨po, pc, rfl⟩, dO, dc, rfl⟩ := h.slices
  obtain ⟨l, hl, hp⟩ := h.pas
  obtain ⟨self, A, P, act, pas⟩ := x
  simp only at *
  have hn0 : New w ((w.alloc (.cells #[.int .i64 self, .slice ao act.length ac, .slice po pas.length pc, .int .i64 A, .int .i64 P, .slice dO ds.length dc] 35)).alloc (.cells zR 35)) := ((New.refl w).alloc _).alloc _
  have HW := Lib.hid (without_ref _ l n _ (hl.below hn0.below) (by rw [hp.length_eq]; have := hg.pas.le; have := hg.pas.cap; simp only at *; omega))
  have H := Lib.hid h
  have HP := Lib.hid hp
  clear h hl hp hn0 hg
  unfold rfV
  simp only
  unfold zR at HW
  go_enter Try.func24, Try.ntmps24
  go_wp2_with fail
  refine HW.out.mono ?_
  rintro e w1 ⟨v1, rfl, ho1, hn1⟩
  obtain ⟨k0, k1, hn⟩ := rstart2 w _ w1 hn1.out
  have HV := Lib.hid (own_slr ho1.out)
  have HN := Lib.hid hn
  have HS := Lib.hid (H.out.new hn)
  obtain ⟨vo, vc, rfl, _⟩ := slr_ints HV.out
  have K0 := Lib.hid k0
  unfold zR at k1
  have K1 := Lib.hid k1
  have X0 := Lib.hid (show w.heap.size ≤ w.heap.size ∧ ¬ IntB w1 w.heap.size from ⟨Nat.le_refl _, not_int k0 rview_ne_int⟩)
  have X1 := Lib.hid (show w.heap.size ≤ w.heap.size + 1 ∧ ¬ IntB w1 (w.heap.size + 1) from ⟨by omega, not_int k1 rview_ne_int⟩)
  clear HW ho1 hn1 hn k0 k1
  obtain ⟨⟨a0, a1, a2, a3, a4, a5⟩, f0, f1, f2, f3, f4, f5⟩ := Bk.six K0.out
  obtain ⟨⟨b0, b1, b2, b3, b4, b5⟩, g0, g1, g2, g3, g4, g5⟩ := Bk.six K1.out
  go_wp2_with fail
  refine bodyPost_ret (v := rfV ⟨self, A, P, act, outL pas n⟩ (.slice ao act.length ac) (.slice vo (outL l n).length vc) (.slice dO ds.length dc)) (by simp [results, Try.results24, go_sem, b0, b1, b2, b3, b4, b5, rfV]) rfl ⟨_, _, _, rfl, ?_⟩
  refine rf_fin (w1 := w1) ?_ HN.out ?_ hB
  · exact ⟨HS.out.act, ⟨_, HV.out, outL_perm HP.out n⟩, HS.out.dr, HS.out.u⟩
  unfold OT
  repeat (refine Tch.setCell ?_ (fun _ => by first | exact X0.out | exact X1.out) _)
  exact Tch.refl _ _
/-- The six stores of a reference's view into a variable. -/
def put6 (w : World) (X : Nat) (a b c d e f : Value) : World :=
  (((((w.setCell ⟨X, 0, none⟩ a).setCell ⟨X, 1, none⟩ b).setCell ⟨X, 2, none⟩ c).setCell ⟨X, 3, none⟩ d).setCell ⟨X, 4, none⟩ e).setCell ⟨X, 5, none⟩ f
theorem tch_put6 (w : World) (X : Nat) (a b c d e f : Value) : Tch (· = X) w (put6 w X a b c d e f) :=
  ((((((Tch.refl (· = X) w).setCell (p := ⟨X, 0, none⟩) (fun _ => rfl) _).setCell (p := ⟨X, 1, none⟩) (fun _ => rfl) _).setCell (p := ⟨X, 2, none⟩) (fun _ => rfl) _).setCell (p := ⟨X, 3, none⟩) (fun _ => rfl) _).setCell (p := ⟨X, 4, none⟩) (fun _ => rfl) _).setCell (p := ⟨X, 5, none⟩) (fun _ => rfl) _
theorem bk_put6 {w : World} {X : Nat} {t : TypeId} {a b c d e f : Value} (h : Bk w X t #[a, b, c, d, e, f]) (a' b' c' d' e' f' : Value) : Bk (put6 w X a' b' c' d' e' f') X t #[a', b', c', d', e', f'] := (((((h.store 0 _).store 1 _).store 2 _).store 3 _).store 4 _).store 5 _
end Go.Proofs.Ytdhafagihfdolaa
