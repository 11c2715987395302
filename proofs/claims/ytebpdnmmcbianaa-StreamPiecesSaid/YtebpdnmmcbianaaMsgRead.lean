/-
  Package message: what its readers read.
-/
import Derived.Test.YtebpdnmmcbianaaRead
import Derived.Test.YtebpdnmmcbianaaMsgVal
import Derived.Deep.CutBlock
import Derived.Deep.DeepCutAuto
import Derived.Deep.RegionWith
set_option linter.unusedVariables false
set_option linter.unusedSimpArgs false
set_option maxRecDepth 100000
namespace Go.Proofs.Ytebpdnmmcbianaa
open Go.RowKit

/-- A reader of W's that is ended by the error er. -/
def RdE (W : Nat) (er : Nat) (e : Ending) (w' : World) : Prop :=
  er ≠ 0 ∧ ((e = .panicked [stopE (.pointer none) er] ∧ ∃ l, RdIs w' W l) ∨ (e = .panicked [stopE (.pointer (some ⟨W, 0, none⟩)) er] ∧ RdBad w' W er))
/-- A reader of W's that reads what res says, and answers it as val says. -/
def RdP {α : Type} (W : Nat) (res : Except Nat (α × List UInt8)) (val : α → Value) (w : World) (e : Ending) (w' : World) : Prop :=
  Tch (· = W) w w' ∧ ((∃ a r, res = .ok (a, r) ∧ e = .returned (val a) ∧ RdIs w' W r) ∨ (∃ er, res = .error er ∧ RdE W er e w'))

theorem num_p (W : Nat) (l : List UInt8) (n : Nat) (w : World) (h : RdIs w W l) (hn : 1 ≤ n ∧ n ≤ 8) :
    Calls Try.prog 86 #[.pointer (some ⟨W, 0, none⟩), .int .i64 n] w (RdP W (pNum n l) (fun a => .int .u64 a) w) := by
  by_cases hl : l.length < n
  · refine (rnum_no W l n w h (by omega) (by omega)).mono ?_
    rintro e w' ⟨rfl, hb, ht⟩
    exact ⟨ht, .inr ⟨2, by simp [pNum, hl], by decide, .inr ⟨rfl, hb⟩⟩⟩
  · refine (rnum_ok W l n w h hn (by omega)).mono ?_
    rintro e w' ⟨rfl, hb, ht⟩
    exact ⟨ht, .inl ⟨_, _, by simp [pNum, hl], rfl, hb⟩⟩
theorem text_p (W : Nat) (l : List UInt8) (w : World) (h : RdIs w W l) :
    Calls Try.prog 128 #[.pointer (some ⟨W, 0, none⟩)] w (RdP W (pText l) (fun t => .string (str t)) w) := by
  rcases l with _ | ⟨b, l⟩
  · refine (rtext_no1 W w h).mono ?_
    rintro e w' ⟨rfl, hb, ht⟩
    exact ⟨ht, .inr ⟨2, rfl, by decide, .inr ⟨rfl, hb⟩⟩⟩
  · by_cases hl : l.length < b.toNat
    · refine (rtext_no2 W b l w h hl).mono ?_
      rintro e w' ⟨rfl, hb, ht⟩
      exact ⟨ht, .inr ⟨2, by simp [pText, hl], by decide, .inr ⟨rfl, hb⟩⟩⟩
    · refine (rtext_ok W b l w h (by omega)).mono ?_
      rintro e w' ⟨rfl, hb, ht⟩
      exact ⟨ht, .inl ⟨_, _, by simp [pText, hl], rfl, hb⟩⟩
theorem num_lt {n : Nat} {l : List UInt8} {a : Nat} {r : List UInt8} (h : pNum n l = .ok (a, r)) : a < 256 ^ n := ((Inv.num n).bwd _ _ _ h).1

theorem count_p (W : Nat) (l : List UInt8) (most : Nat) (w : World) (h : RdIs w W l) (hm : most ≤ 255) :
    Calls Try.prog 90 #[.pointer (some ⟨W, 0, none⟩), .int .i64 most] w (RdP W (pCount most l) (fun a => .int .i64 a) w) := by
  have H := Lib.hid h
  clear h
  go_enter Try.func90, Try.ntmps90
  go_wp2_with fail
  refine (num_p W l 1 _ H.out (by omega)).mono ?_
  rintro e w2 ⟨ht, ⟨a, r, hp, rfl, hr⟩ | ⟨er, hp, h0, ⟨rfl, hr⟩ | ⟨rfl, hr⟩⟩⟩
  · have ha := num_lt hp
    have e1 : (256 : Nat) ^ 1 = 256 := by decide
    have e2 : IntKind.i64.wrap (a : Int) = a := IntWalk.i64_in _ (by omega)
    have HR := Lib.hid hr
    have HT := Lib.hid ht
    have HP := Lib.hid hp
    by_cases hc : most < a
    · have hx : pCount most l = .error 4 := by simp [pCount, pMost, hp, hc]
      have HX := Lib.hid hx
      clear hr ht hp hx e1 ha
      go_wp2_with fail
      refine (refuse_ok 4 _).mono ?_
      rintro e w3 ⟨rfl, rfl⟩
      exact ⟨rfl, HT.out, .inr ⟨4, HX.out, by decide, .inl ⟨rfl, _, HR.out⟩⟩⟩
    · have hx : pCount most l = .ok (a, r) := by simp [pCount, pMost, hp, hc]
      have HX := Lib.hid hx
      clear hr ht hp hx e1 ha
      go_wp2_with fail
      go_ret
      exact ⟨HT.out, .inl ⟨_, _, HX.out, rfl, HR.out⟩⟩
  · exact ⟨rfl, ht, .inr ⟨er, by simp [pCount, pMost, hp], h0, .inl ⟨rfl, hr⟩⟩⟩
  · exact ⟨rfl, ht, .inr ⟨er, by simp [pCount, pMost, hp], h0, .inr ⟨rfl, hr⟩⟩⟩
theorem txt_p (W : Nat) (l : List UInt8) (most : Nat) (w : World) (h : RdIs w W l) (hm : most ≤ 255) :
    Calls Try.prog 111 #[.pointer (some ⟨W, 0, none⟩), .int .i64 most] w (RdP W (pTxt most l) (fun t => .string (str t)) w) := by
  have H := Lib.hid h
  clear h
  go_enter Try.func111, Try.ntmps111
  go_wp2_with fail
  refine (text_p W l _ H.out).mono ?_
  rintro e w2 ⟨ht, ⟨a, r, hp, rfl, hr⟩ | ⟨er, hp, h0, ⟨rfl, hr⟩ | ⟨rfl, hr⟩⟩⟩
  · have hsz := str_size a
    have HR := Lib.hid hr
    have HT := Lib.hid ht
    by_cases hc : most < a.length
    · have hx : pTxt most l = .error 4 := by simp [pTxt, pMost, hp, hc]
      have HX := Lib.hid hx
      have hc2 : (most : Int) < ((str a).size : Int) := by omega
      clear hr ht hp hx hsz hc
      go_wp2_with fail
      refine (refuse_ok 4 _).mono ?_
      rintro e w3 ⟨rfl, rfl⟩
      exact ⟨rfl, HT.out, .inr ⟨4, HX.out, by decide, .inl ⟨rfl, _, HR.out⟩⟩⟩
    · have hx : pTxt most l = .ok (a, r) := by simp [pTxt, pMost, hp, hc]
      have HX := Lib.hid hx
      have hc2 : ¬ (most : Int) < ((str a).size : Int) := by omega
      clear hr ht hp hx hsz hc
      go_wp2_with fail
      go_ret
      exact ⟨HT.out, .inl ⟨_, _, HX.out, rfl, HR.out⟩⟩
  · exact ⟨rfl, ht, .inr ⟨er, by simp [pTxt, pMost, hp], h0, .inl ⟨rfl, hr⟩⟩⟩
  · exact ⟨rfl, ht, .inr ⟨er, by simp [pTxt, pMost, hp], h0, .inr ⟨rfl, hr⟩⟩⟩
theorem flag_p (W : Nat) (l : List UInt8) (w : World) (h : RdIs w W l) :
    Calls Try.prog 89 #[.pointer (some ⟨W, 0, none⟩)] w (RdP W (pFlag l) (fun b => .bool b) w) := by
  have H := Lib.hid h
  clear h
  go_enter Try.func89, Try.ntmps89
  go_wp2_with fail
  refine (count_p W l 1 _ H.out (by omega)).mono ?_
  rintro e w2 ⟨ht, ⟨a, r, hp, rfl, hr⟩ | ⟨er, hp, h0, ⟨rfl, hr⟩ | ⟨rfl, hr⟩⟩⟩
  · have hx : pFlag l = .ok (decide (a = 1), r) := by simp [pFlag, pMap, hp]
    have HR := Lib.hid hr
    have HT := Lib.hid ht
    have HX := Lib.hid hx
    clear hr ht hp hx
    by_cases ha : a = 1
    · subst ha
      go_wp2_with fail
      go_ret
      exact ⟨HT.out, .inl ⟨_, _, HX.out, rfl, HR.out⟩⟩
    · have hb : ((a : Int) == 1) = false := bne_ (by omega)
      have hd := decn_ ha
      rw [hd] at HX
      clear ha hd
      go_wp2_with fail
      go_ret
      exact ⟨HT.out, .inl ⟨_, _, HX.out, rfl, HR.out⟩⟩
  · exact ⟨rfl, ht, .inr ⟨er, by simp [pFlag, pMap, hp], h0, .inl ⟨rfl, hr⟩⟩⟩
  · exact ⟨rfl, ht, .inr ⟨er, by simp [pFlag, pMap, hp], h0, .inr ⟨rfl, hr⟩⟩⟩
end Go.Proofs.Ytebpdnmmcbianaa
