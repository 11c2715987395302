/-
  Package pack: the Reader's fields.
-/
import Derived.Test.YthobffgkggfooaaWriter
import Derived.Lib.Strings
import Derived.Lib.IndexBytes
import Derived.Laws.BitsAllLaws
set_option linter.unusedVariables false
set_option maxRecDepth 100000
namespace Go.Proofs.Ythobffgkggfooaa
open Go.RowKit

/-- The text of these bytes. -/
def str (l : List UInt8) : ByteArray := ⟨l.toArray⟩
theorem str_size (l : List UInt8) : (str l).size = l.length := by simp [str, ByteArray.size]
theorem str_data (l : List UInt8) : (str l).data.toList = l := by simp [str]
theorem str_of (s : ByteArray) : str s.data.toList = s := by simp [str]
theorem str_inj {l r : List UInt8} (h : str l = str r) : l = r := by
  have := congrArg (fun s : ByteArray => s.data.toList) h
  simpa [str] using this
theorem str_head (l : List UInt8) (n : Nat) : (str l).extract 0 n = str (l.take n) := by
  rw [Lib.extract_eq, str_data]
  simp [str]
theorem str_tail (l : List UInt8) (n : Nat) : (str l).extract n (str l).size = str (l.drop n) := by
  rw [Lib.extract_eq, str_data, str_size, List.take_of_length_le (by simp)]
  rfl

/-- The Reader at W, whose f still runs without an error, has these bytes left. -/
def RdIs (w : World) (W : Nat) (l : List UInt8) : Prop := Bk w W 155 #[.pointer (some ⟨W, 0, none⟩), .bool false, .int .i64 0, .string (str l)]
def RdBad (w : World) (W : Nat) (er : Int) : Prop := ∃ x, Bk w W 155 #[.pointer (some ⟨W, 0, none⟩), .bool false, .int .i64 er, x]
def RBadR (W : Nat) (en : Int) (w : World) (e : Ending) (w' : World) : Prop := e = .panicked [stopE (.pointer (some ⟨W, 0, none⟩)) en] ∧ RdBad w' W en ∧ Tch (· = W) w w'
theorem rd_fail (W : Nat) (l : List UInt8) (en : Int) (w : World) (h : RdIs w W l) :
    Calls Try.prog 84 #[.pointer (some ⟨W, 0, none⟩), .int .i64 en] w (RBadR W en w) := by
  have c1 := Bk.cell h 1
  have c2 := Bk.cell h 2
  simp at c1 c2
  refine (fail_ok W en w c1 c2 (Bk.frozen h 2)).mono ?_
  rintro e w' ⟨rfl, rfl⟩
  exact ⟨rfl, ⟨_, by simpa using Bk.store h 2 (.int .i64 en)⟩, (Tch.refl (· = W) w).setCell (p := ⟨W, 2, none⟩) (fun _ => rfl) _⟩

def TakeR (W : Nat) (l : List UInt8) (n : Nat) (w : World) (e : Ending) (w' : World) : Prop := e = .returned (.string (str (l.take n))) ∧ RdIs w' W (l.drop n) ∧ Tch (· = W) w w'
theorem take_no (W : Nat) (l : List UInt8) (n : Int) (w : World) (h : RdIs w W l) (hn : (l.length : Int) < n) :
    Calls Try.prog 109 #[.pointer (some ⟨W, 0, none⟩), .int .i64 n] w (RBadR W 2 w) := by
  have H := Lib.hid h
  have c3 := Bk.cell h 3
  have hsz := str_size l
  simp at c3
  rw [← hsz] at hn
  clear h hsz
  go_enter Try.func109, Try.ntmps109
  go_wp2_with (go_at_call 84; refine (rd_fail W l 2 _ H.out).mono ?_; rintro e w' ⟨rfl, hbad, ht⟩)
  exact ⟨rfl, rfl, hbad, ht⟩
theorem take_ok (W : Nat) (l : List UInt8) (n : Nat) (w : World) (h : RdIs w W l) (hn : n ≤ l.length) :
    Calls Try.prog 109 #[.pointer (some ⟨W, 0, none⟩), .int .i64 n] w (TakeR W l n w) := by
  have H := Lib.hid h
  have c3 := Bk.cell h 3
  have f3 := Bk.frozen h 3
  have hsz := str_size l
  simp at c3
  rw [← hsz] at hn
  clear h hsz
  go_enter Try.func109, Try.ntmps109
  go_wp2_with fail
  go_ret
  refine ⟨by show Ending.returned (.string _) = _; rw [str_head], ?_, (Tch.refl (· = W) w).setCell (p := ⟨W, 3, none⟩) (fun _ => rfl) _⟩
  rw [str_tail]
  simpa [RdIs] using Bk.store H.out 3 (.string (str (l.drop n)))

/-- The number of these bytes. -/
def beV (l : List UInt8) : Nat := l.foldl (fun a b => 256 * a + b.toNat) 0
theorem beV_snoc (l : List UInt8) (b : UInt8) : beV (l ++ [b]) = 256 * beV l + b.toNat := by simp [beV]
theorem beV_lt (l : List UInt8) : beV l < 256 ^ l.length := by
  suffices h : ∀ (r : List UInt8), beV r.reverse < 256 ^ r.length by simpa using h l.reverse
  intro r
  induction r with
  | nil => simp [beV]
  | cons b r ih =>
    rw [List.reverse_cons, beV_snoc, List.length_cons, Nat.pow_succ]
    have := b.toNat_lt
    omega

theorem or_byte (m : Nat) (b : UInt8) (hm : m < 72057594037927936) : bits .or .u64 ((m : Int) * 256) (IntKind.u64.wrap (b.toNat : Int)) = ((256 * m + b.toNat : Nat) : Int) := by
  have hb := b.toNat_lt
  rw [IntWalk.u64_in _ (by omega), u64_or _ _ (by omega) (by omega) (by omega) (by omega)]
  have h1 : ((m : Int) * 256).toNat = m * 256 := by omega
  have h2 := Nat.shiftLeft_add_eq_or_of_lt (i := 8) (b := b.toNat) (by simpa using hb) m
  rw [Nat.shiftLeft_eq, show (2 : Nat) ^ 8 = 256 from rfl] at h2
  rw [h1, Int.toNat_natCast, ← h2, Nat.mul_comm]

def RNumR (W : Nat) (l : List UInt8) (n : Nat) (w : World) (e : Ending) (w' : World) : Prop := e = .returned (.int .u64 (beV (l.take n))) ∧ RdIs w' W (l.drop n) ∧ Tch (· = W) w w'
theorem rnum_bad (W : Nat) (l : List UInt8) (n : Int) (w : World) (h : RdIs w W l) (hn : ¬ (1 ≤ n ∧ n ≤ 8)) :
    Calls Try.prog 86 #[.pointer (some ⟨W, 0, none⟩), .int .i64 n] w (RBadR W 11 w) := by
  have H := Lib.hid h
  have c0 := Bk.cell h 0
  simp at c0
  clear h
  have HN := Lib.hid hn
  clear hn
  go_enter Try.func86, Try.ntmps86
  go_wp2_with (first
    | (go_at_call 82; refine (check_ok W _ c0).mono ?_; rintro e w' ⟨rfl, rfl⟩)
    | (go_at_call 83; refine (sized_no _ _ HN.out).mono ?_; rintro e w' ⟨rfl, rfl⟩)
    | (go_at_call 84; refine (rd_fail W l 11 _ H.out).mono ?_; rintro e w' ⟨rfl, hbad, ht⟩))
  exact ⟨rfl, rfl, hbad, ht⟩
theorem rnum_no (W : Nat) (l : List UInt8) (n : Int) (w : World) (h : RdIs w W l) (hn : 1 ≤ n ∧ n ≤ 8) (hl : (l.length : Int) < n) :
    Calls Try.prog 86 #[.pointer (some ⟨W, 0, none⟩), .int .i64 n] w (RBadR W 2 w) := by
  have H := Lib.hid h
  have c0 := Bk.cell h 0
  simp at c0
  clear h
  have HN := Lib.hid hn
  have HL := Lib.hid hl
  clear hn hl
  go_enter Try.func86, Try.ntmps86
  go_wp2_with (first
    | (go_at_call 82; refine (check_ok W _ c0).mono ?_; rintro e w' ⟨rfl, rfl⟩)
    | (go_at_call 83; refine (sized_yes _ _ HN.out).mono ?_; rintro e w' ⟨rfl, rfl⟩)
    | (go_at_call 109; refine (take_no W l n _ H.out HL.out).mono ?_; rintro e w' ⟨rfl, hbad, ht⟩))
  exact ⟨rfl, rfl, hbad, ht⟩
theorem rnum_ok (W : Nat) (l : List UInt8) (n : Nat) (w : World) (h : RdIs w W l) (hn : 1 ≤ n ∧ n ≤ 8) (hl : n ≤ l.length) :
    Calls Try.prog 86 #[.pointer (some ⟨W, 0, none⟩), .int .i64 n] w (RNumR W l n w) := by
  have H := Lib.hid h
  have c0 := Bk.cell h 0
  simp at c0
  clear h
  obtain ⟨t, ht⟩ : ∃ t, t = l.take n := ⟨_, rfl⟩
  have htl : t.length = n := by rw [ht, List.length_take]; omega
  have HTK := Lib.hid ht
  clear ht
  obtain ⟨hn1, hn2⟩ := hn
  have HSZ := Lib.hid ((str_size t).trans htl)
  have hts : t.length ≤ 8 := by omega
  go_enter Try.func86, Try.ntmps86
  go_wp2_with (first
    | (go_at_call 82; refine (check_ok W _ c0).mono ?_; rintro e w' ⟨rfl, rfl⟩)
    | (go_at_call 83; refine (sized_yes _ _ (by omega)).mono ?_; rintro e w' ⟨rfl, rfl⟩)
    | (go_at_call 109; refine (take_ok W l n _ H.out hl).mono ?_; rintro e w' ⟨rfl, hr, ht⟩; have HR := Lib.hid hr; have HT := Lib.hid ht; clear hr ht; rw [← HTK.out]))
  rw [HSZ.out]
  have hpow : (256 : Nat) ^ 8 = 18446744073709551616 := by decide
  have hlt : ∀ k, k < 8 → beV (t.take k) < 72057594037927936 := by
    intro k hk
    have h1 := beV_lt (t.take k)
    have h2 : (256 : Nat) ^ (t.take k).length ≤ 256 ^ 7 := Nat.pow_le_pow_right (by omega) (by rw [List.length_take]; omega)
    have h3 : (256 : Nat) ^ 7 = 72057594037927936 := by decide
    omega
  have HLT := Lib.hid hlt
  clear hpow hlt
  go_loop [6, 24] (fun vn vi => ∃ k : Nat, k ≤ n ∧ vi = .int .i64 k ∧ vn = .int .u64 (beV (t.take k))) (fun _ vi => n - (intOf vi).toNat)
  case atStart => exact ⟨0, by omega, rfl, by simp [beV]⟩
  case round =>
    obtain ⟨k, hk, rfl, rfl⟩ := hrel
    by_cases hlt : k < n
    · have hks : k < (str t).size := by rw [HSZ.out]; exact hlt
      obtain ⟨m, hm⟩ : ∃ m, m = beV (t.take k) := ⟨_, rfl⟩
      rw [← hm]
      have hmb : m < 72057594037927936 := by rw [hm]; exact HLT.out k (by omega)
      have HM := Lib.hid hm
      clear hm
      go_wp2_with fail
      go_roundw
      case rel =>
        refine ⟨k + 1, by omega, by go_num, ?_⟩
        have hkt : k < t.length := by omega
        rw [or_byte _ _ hmb, HM.out, List.take_add_one, List.getElem?_eq_getElem hkt, Option.toList_some, beV_snoc]
        rfl
      case measure => simp [intOf]; omega
    · obtain rfl : k = n := by omega
      go_wp2_with fail
      go_ret
      refine ⟨?_, HR.out, HT.out⟩
      show Ending.returned (.int .u64 _) = _
      rw [List.take_of_length_le (by omega), HTK.out]

theorem rtext_no1 (W : Nat) (w : World) (h : RdIs w W []) :
    Calls Try.prog 128 #[.pointer (some ⟨W, 0, none⟩)] w (RBadR W 2 w) := by
  have H := Lib.hid h
  have c0 := Bk.cell h 0
  simp at c0
  clear h
  go_enter Try.func128, Try.ntmps128
  go_wp2_with (first
    | (go_at_call 82; refine (check_ok W _ c0).mono ?_; rintro e w' ⟨rfl, rfl⟩)
    | (go_at_call 86; refine (rnum_no W [] 1 _ H.out (by omega) (by simp)).mono ?_; rintro e w' ⟨rfl, hbad, ht⟩))
  exact ⟨rfl, rfl, hbad, ht⟩
theorem rtext_no2 (W : Nat) (b : UInt8) (l : List UInt8) (w : World) (h : RdIs w W (b :: l)) (hl : l.length < b.toNat) :
    Calls Try.prog 128 #[.pointer (some ⟨W, 0, none⟩)] w (RBadR W 2 w) := by
  have H := Lib.hid h
  have c0 := Bk.cell h 0
  simp at c0
  clear h
  have hv : beV ((b :: l).take 1) = b.toNat := by simp [beV]
  have HV := Lib.hid hv
  have hb := b.toNat_lt
  clear hv
  go_enter Try.func128, Try.ntmps128
  go_wp2_with (first
    | (go_at_call 82; refine (check_ok W _ c0).mono ?_; rintro e w' ⟨rfl, rfl⟩)
    | (go_at_call 86; refine (rnum_ok W (b :: l) 1 _ H.out (by omega) (by simp)).mono ?_; rintro e w' ⟨rfl, hr, ht⟩; rw [HV.out]; have HR := Lib.hid hr; have HT := Lib.hid ht; clear hr ht)
    | (go_at_call 109; refine (take_no W l _ _ (by simpa using HR.out) (by omega)).mono ?_; rintro e w' ⟨rfl, hbad, ht⟩))
  exact ⟨rfl, rfl, hbad, (HT.out.then ht)⟩
def RTextR (W : Nat) (b : UInt8) (l : List UInt8) (w : World) (e : Ending) (w' : World) : Prop := e = .returned (.string (str (l.take b.toNat))) ∧ RdIs w' W (l.drop b.toNat) ∧ Tch (· = W) w w'
theorem rtext_ok (W : Nat) (b : UInt8) (l : List UInt8) (w : World) (h : RdIs w W (b :: l)) (hl : b.toNat ≤ l.length) :
    Calls Try.prog 128 #[.pointer (some ⟨W, 0, none⟩)] w (RTextR W b l w) := by
  have H := Lib.hid h
  have c0 := Bk.cell h 0
  simp at c0
  clear h
  have hv : beV ((b :: l).take 1) = b.toNat := by simp [beV]
  have HV := Lib.hid hv
  have hb := b.toNat_lt
  clear hv
  go_enter Try.func128, Try.ntmps128
  go_wp2_with (first
    | (go_at_call 82; refine (check_ok W _ c0).mono ?_; rintro e w' ⟨rfl, rfl⟩)
    | (go_at_call 86; refine (rnum_ok W (b :: l) 1 _ H.out (by omega) (by simp)).mono ?_; rintro e w' ⟨rfl, hr, ht⟩; rw [HV.out]; have HR := Lib.hid hr; have HT := Lib.hid ht; clear hr ht)
    | (go_at_call 109; refine (take_ok W l b.toNat _ (by simpa using HR.out) hl).mono ?_; rintro e w' ⟨rfl, hr2, ht2⟩; have HR2 := Lib.hid hr2; have HT2 := Lib.hid ht2; clear hr2 ht2))
  go_ret
  exact ⟨rfl, HR2.out, HT.out.then HT2.out⟩
end Go.Proofs.Ythobffgkggfooaa
