/-
  Package pack: the Writer's fields.
-/
import Derived.Test.YthobffgkggfooaaPack
import Derived.Lib.AppendStr
import Derived.Laws.IdiomStrings
import Derived.Laws.BytesArg
import Derived.Deep.DeepCutAuto
set_option linter.unusedVariables false
set_option maxRecDepth 100000
namespace Go.Proofs.Ythobffgkggfooaa
open Go.RowKit

theorem info_u8 : (Try.prog.info? 5).map (fun i => (i.zero, i.size, i.bytes)) = some (some (.int .u8 0), 1, 1) := by kernel_rfl

/-- Bytes as cells. -/
def byC (l : List UInt8) : List Value := l.map fun b => Value.int .u8 b.toNat
theorem byC_length (l : List UInt8) : (byC l).length = l.length := by simp [byC]
theorem byC_append (l r : List UInt8) : byC (l ++ r) = byC l ++ byC r := by simp [byC]
theorem byC_str (s : ByteArray) : Lib.strCells s = byC s.data.toList := rfl
theorem byC_one (l : List UInt8) : ∀ u ∈ byC l, u.oneCell' = true := by
  intro u hu
  obtain ⟨b, _, rfl⟩ := List.mem_map.1 hu
  rfl

/-- The Writer at W, whose f still runs without an error, has written bs; its bytes lie in a block from N on. -/
def WrIs (w : World) (W N : Nat) (v : Value) (bs : List UInt8) : Prop :=
  Bk w W 146 #[.pointer (some ⟨W, 0, none⟩), .bool false, .int .i64 0, v] ∧ w.ownsRow N 5 1 v bs.length (byC bs) ∧ N ≤ w.heap.size
/-- .. has been ended by the error er. -/
def WrBad (w : World) (W : Nat) (er : Int) : Prop := ∃ v, Bk w W 146 #[.pointer (some ⟨W, 0, none⟩), .bool false, .int .i64 er, v]

def WrS (W N : Nat) (b : Nat) : Prop := b = W ∨ N ≤ b

theorem sized_yes (n : Int) (w : World) (h : 1 ≤ n ∧ n ≤ 8) : Calls Try.prog 83 #[.int .i64 n] w fun e w' => e = .returned (.bool true) ∧ w = w' := by
  obtain ⟨h1, h2⟩ := h
  go_enter Try.func83, Try.ntmps83
  go_wp2
  go_ret
  exact ⟨by first | rfl | (congr 2; simp; omega), rfl⟩
theorem sized_no (n : Int) (w : World) (h : ¬ (1 ≤ n ∧ n ≤ 8)) : Calls Try.prog 83 #[.int .i64 n] w fun e w' => e = .returned (.bool false) ∧ w = w' := by
  rcases (show n < 1 ∨ (1 ≤ n ∧ 8 < n) by omega) with h1 | ⟨h1, h2⟩
  all_goals clear h
  all_goals go_enter Try.func83, Try.ntmps83
  all_goals go_wp2
  all_goals go_ret
  all_goals exact ⟨by first | rfl | (congr 2; simp; omega), rfl⟩

/-- Raw. -/
def RawR (W N : Nat) (bs cs : List UInt8) (w : World) (e : Ending) (w' : World) : Prop := e = .returned (.tuple #[]) ∧ (∃ v', WrIs w' W N v' (bs ++ cs)) ∧ Tch (WrS W N) w w'
/-- What the Writer is when its bytes have grown and the slice has been stored. -/
theorem wr_store (W N : Nat) (v v' : Value) (bs cs : List UInt8) (w w0 w1 : World) (h : WrIs w W N v bs) (h0 : Tch (fun b => w.heap.size ≤ b) w w0) (hown : w1.ownsRow N 5 1 v' (bs.length + cs.length) (byC bs ++ byC cs)) (hg : w0.grownBy w1 v.ownBlock) :
    WrIs (w1.setCell ⟨W, 3, none⟩ v') W N v' (bs ++ cs) ∧ Tch (WrS W N) w (w1.setCell ⟨W, 3, none⟩ v') ∧ Bk w1 W 146 #[.pointer (some ⟨W, 0, none⟩), .bool false, .int .i64 0, v] := by
  obtain ⟨hb, ho, hN⟩ := h
  have hne := own_ne ho hb (by decide)
  have hl := hb.lt
  have hb1 := (hb.tch h0 (by omega)).tch (Tch.of_grown hg) (fun e => hne _ e.symm rfl)
  have hne1 := own_ne hown hb1 (by decide)
  have t1 : Tch (WrS W N) w w1 := (h0.more (T := WrS W N) (fun b hb h => by omega)).trans (Tch.of_grown hg) (fun b hb e => .inr (own_base ho e.symm).1)
  have hs1 := t1.size
  refine ⟨⟨by simpa using hb1.store 3 v', ?_, by simp; omega⟩, t1.setCell (p := ⟨W, 3, none⟩) (fun _ => .inl rfl) _, hb1⟩
  rw [byC_append, List.length_append]
  exact own_tch hown ((Tch.refl (· = W) w1).setCell (p := ⟨W, 3, none⟩) (fun _ => rfl) _) (fun b hb e => hne1 b hb e)

theorem raw_ok (W N : Nat) (v : Value) (bs : List UInt8) (s : ByteArray) (w : World) (h : WrIs w W N v bs) (hl : bs.length + s.size ≤ 140737488355328) :
    Calls Try.prog 53 #[.pointer (some ⟨W, 0, none⟩), .string s] w (RawR W N bs s.data.toList w) := by
  obtain ⟨i0, hi, hz0, hz1, hz2⟩ := info_parts info_u8
  have H := Lib.hid h
  obtain ⟨hb, hown, hN⟩ := h
  have c0 := hb.cell 0
  have c3 := hb.cell 3
  have f3 := hb.frozen 3
  simp at c0 c3
  have HO := Lib.hid hown
  clear hb hown
  go_enter Try.func53, Try.ntmps53
  go_wp2_with (first
    | (go_at_call 82; refine (check_ok W _ c0).mono ?_; rintro e w' ⟨rfl, rfl⟩)
    | (at_builtin; refine Lib.wpList_append_own_string _ rfl (.tmp 12) (.tmp 13) 23 9 rfl N 5 i0 Try.underlying23 Try.underlying9 hi hz0 hz1 hz2 v bs.length _ rfl HO.out s rfl ?c1 hl hN ?_))
  case c1 => exact Nat.le_trans hl (by decide)
  intro v' w1 hown1 hg1 _
  obtain ⟨hW, hT, hb1⟩ := wr_store W N v v' bs s.data.toList w w w1 H.out (Tch.refl _ _) (by rw [byC_str] at hown1; simpa using hown1) hg1
  obtain ⟨ao, cap, rfl, _⟩ := own_shape hown1
  have c3' := hb1.cell 3
  have f3' := hb1.frozen 3
  simp at c3'
  have HW := Lib.hid hW
  have HT := Lib.hid hT
  clear hW hT hb1 hown1 hg1
  go_wp2_with fail
  go_end0
  exact ⟨rfl, ⟨_, HW.out⟩, HT.out⟩

/-- A field that ends f. -/
def WBadR (W : Nat) (en : Int) (w : World) (e : Ending) (w' : World) : Prop := e = .panicked [stopE (.pointer (some ⟨W, 0, none⟩)) en] ∧ WrBad w' W en ∧ Tch (· = W) w w'
theorem wr_fail (W N : Nat) (v : Value) (bs : List UInt8) (en : Int) (w : World) (h : WrIs w W N v bs) :
    Calls Try.prog 84 #[.pointer (some ⟨W, 0, none⟩), .int .i64 en] w (WBadR W en w) := by
  obtain ⟨hb, hown, hN⟩ := h
  have c1 := hb.cell 1
  have c2 := hb.cell 2
  simp at c1 c2
  refine (fail_ok W en w c1 c2 (hb.frozen 2)).mono ?_
  rintro e w' ⟨rfl, rfl⟩
  exact ⟨rfl, ⟨v, by simpa using hb.store 2 (.int .i64 en)⟩, (Tch.refl (· = W) w).setCell (p := ⟨W, 2, none⟩) (fun _ => rfl) _⟩

theorem text_no (W N : Nat) (v : Value) (bs : List UInt8) (s : ByteArray) (w : World) (h : WrIs w W N v bs) (hl : 255 < s.size) :
    Calls Try.prog 108 #[.pointer (some ⟨W, 0, none⟩), .string s] w (WBadR W 3 w) := by
  have H := Lib.hid h
  obtain ⟨hb, hown, hN⟩ := h
  have c0 := hb.cell 0
  simp at c0
  clear hb hown
  go_enter Try.func108, Try.ntmps108
  go_wp2_with (first
    | (go_at_call 82; refine (check_ok W _ c0).mono ?_; rintro e w' ⟨rfl, rfl⟩)
    | (go_at_call 84; refine (wr_fail W N v bs 3 _ H.out).mono ?_; rintro e w' ⟨rfl, hbad, ht⟩))
  exact ⟨rfl, rfl, hbad, ht⟩

theorem text_ok (W N : Nat) (v : Value) (bs : List UInt8) (s : ByteArray) (w : World) (h : WrIs w W N v bs) (hs : s.size ≤ 255) (hl : bs.length + 1 + s.size ≤ 140737488355328) :
    Calls Try.prog 108 #[.pointer (some ⟨W, 0, none⟩), .string s] w (RawR W N bs (UInt8.ofNat s.size :: s.data.toList) w) := by
  obtain ⟨i0, hi, hz0, hz1, hz2⟩ := info_parts info_u8
  have H := Lib.hid h
  obtain ⟨hb, hown, hN⟩ := h
  have c0 := hb.cell 0
  have c3 := hb.cell 3
  have f3 := hb.frozen 3
  simp at c0 c3
  have HO := Lib.hid hown
  have hWl := hb.lt
  clear hb hown
  have hu8 : ((UInt8.ofNat s.size).toNat : Int) = (s.size : Int) := by simp; omega
  have HU := Lib.hid hu8
  clear hu8
  go_enter Try.func108, Try.ntmps108
  go_upto_region 4 with (first
    | (go_at_call 82; refine (check_ok W _ c0).mono ?_; rintro e w' ⟨rfl, rfl⟩)
    | (at_builtin; refine list_app rfl (.tmp 19) (.tmp 23) 23 rfl N 5 i0 (.int .u8 0) 1 Try.underlying23 hi hz0 hz1 hz2 rfl v bs.length _ rfl (HO.out.alloc _) (some ⟨w.heap.size, 0, none⟩) 1 1 [.int .u8 (s.size : Int)] rfl rfl (by simp) (by simp) (fun _ => ⟨_, rfl, cells_one _ _ _⟩) (by intro u hu; simp at hu; subst hu; rfl) (Nat.le_trans (by omega) (by decide : 9223372036854775807 ≤ maxLen)) (by omega) (by simp; omega) ?_; intro v1 w1 HO1 HG1
       obtain ⟨hW1, hT1, hb1⟩ := wr_store W N v v1 bs [UInt8.ofNat s.size] w _ w1 H.out ((Tch.refl _ _).alloc _) (by have := HO1.out; rw [← HU.out] at this; exact this) HG1.out
       obtain ⟨ao1, cap1, rfl, _⟩ := own_shape HO1.out
       have c3' := hb1.cell 3
       have f3' := hb1.frozen 3
       simp at c3'
       have HW1 := Lib.hid hW1
       have HT1 := Lib.hid hT1
       clear hW1 hT1 hb1))
  obtain ⟨hb2, hown2, hN2⟩ := HW1.out
  have c32 := hb2.cell 3
  have f32 := hb2.frozen 3
  simp at c32
  have HO2 := Lib.hid hown2
  clear hb2 hown2 c3' f3'
  go_wp2_with (at_builtin; refine Lib.wpList_append_own_string _ rfl (.tmp 31) (.tmp 32) 23 9 rfl N 5 i0 Try.underlying23 Try.underlying9 hi hz0 hz1 hz2 _ _ _ (by simp [Act.eval]) HO2.out s (by simp [Act.eval]) ?c1 (by simp; omega) hN2 ?_)
  case c1 => exact Nat.le_trans (by simp; omega) (by decide : 140737488355328 ≤ maxLen)
  intro v2 w2 hown2 hg2 _
  obtain ⟨hW2, hT2, hb2⟩ := wr_store W N _ v2 (bs ++ [UInt8.ofNat s.size]) s.data.toList _ _ w2 HW1.out (Tch.refl _ _) (by rw [byC_str] at hown2; simpa using hown2) hg2
  obtain ⟨ao2, cap2, rfl, _⟩ := own_shape hown2
  have c33 := hb2.cell 3
  have f33 := hb2.frozen 3
  simp at c33
  have HW2 := Lib.hid hW2
  have HT2 := Lib.hid hT2
  clear hW2 hT2 hb2 hown2 hg2
  go_wp2_with fail
  go_end0
  exact ⟨rfl, ⟨_, by simpa using HW2.out⟩, HT1.out.then HT2.out⟩

/-- Num: a size, or a number, that is not allowed. -/
theorem num_no (W N : Nat) (v : Value) (bs : List UInt8) (n : Nat) (k : Int) (w : World) (h : WrIs w W N v bs) (hk : ¬ (1 ≤ k ∧ k ≤ 8)) :
    Calls Try.prog 52 #[.pointer (some ⟨W, 0, none⟩), .int .u64 n, .int .i64 k] w (WBadR W 11 w) := by
  have H := Lib.hid h
  obtain ⟨hb, hown, hN⟩ := h
  have c0 := hb.cell 0
  simp at c0
  clear hb hown
  have HK := Lib.hid hk
  clear hk
  go_enter Try.func52, Try.ntmps52
  go_wp2_with (first
    | (go_at_call 82; refine (check_ok W _ c0).mono ?_; rintro e w' ⟨rfl, rfl⟩)
    | (go_at_call 83; refine (sized_no _ _ HK.out).mono ?_; rintro e w' ⟨rfl, rfl⟩)
    | (go_at_call 84; refine (wr_fail W N v bs 11 _ H.out).mono ?_; rintro e w' ⟨rfl, hbad, ht⟩))
  exact ⟨rfl, rfl, hbad, ht⟩

theorem pow_256 (k : Nat) : (2 : Int) ^ (8 * k) = ((256 ^ k : Nat) : Int) := by
  rw [Int.pow_mul]
  simp
/-- A number's bytes, the greatest first. -/
def beL : Nat → Nat → List UInt8
  | 0, _ => []
  | k + 1, n => UInt8.ofNat (n / 256 ^ k) :: beL k n
theorem beL_length (k n : Nat) : (beL k n).length = k := by induction k with
  | zero => rfl
  | succ k ih => simp [beL, ih]
theorem beL_get : ∀ (k n r : Nat) (h : r < k), (beL k n)[r]? = some (UInt8.ofNat (n / 256 ^ (k - 1 - r)))
  | k + 1, n, 0, _ => by simp [beL]
  | k + 1, n, r + 1, h => by
    rw [beL, List.getElem?_cons_succ, beL_get k n r (by omega)]
    congr 4
    omega

theorem num_big (W N : Nat) (v : Value) (bs : List UInt8) (n k : Nat) (w : World) (h : WrIs w W N v bs) (hk : 1 ≤ k ∧ k ≤ 8) (hn : 256 ^ k ≤ n) :
    Calls Try.prog 52 #[.pointer (some ⟨W, 0, none⟩), .int .u64 n, .int .i64 k] w (WBadR W 11 w) := by
  have H := Lib.hid h
  obtain ⟨hb, hown, hN⟩ := h
  have c0 := hb.cell 0
  simp at c0
  clear hb hown
  obtain ⟨hk1, hk2⟩ := hk
  have hq : ((n : Int) / 2 ^ (8 * k) != 0) = true := by
    rw [pow_256]
    have : 1 ≤ n / 256 ^ k := (Nat.one_le_div_iff (Nat.pow_pos (by omega))).2 hn
    rw [bne_iff_ne]
    omega
  clear hn
  go_enter Try.func52, Try.ntmps52
  go_wp2_with (first
    | (go_at_call 82; refine (check_ok W _ c0).mono ?_; rintro e w' ⟨rfl, rfl⟩)
    | (go_at_call 83; refine (sized_yes _ _ (by omega)).mono ?_; rintro e w' ⟨rfl, rfl⟩)
    | (go_at_call 84; refine (wr_fail W N v bs 11 _ H.out).mono ?_; rintro e w' ⟨rfl, hbad, ht⟩))
  exact ⟨rfl, rfl, hbad, ht⟩

theorem num_ok (W N : Nat) (v : Value) (bs : List UInt8) (n k : Nat) (w : World) (h : WrIs w W N v bs) (hk : 1 ≤ k ∧ k ≤ 8) (hn : n < 256 ^ k) (hl : bs.length + 8 ≤ 140737488355328) (hn64 : n ≤ 18446744073709551615) :
    Calls Try.prog 52 #[.pointer (some ⟨W, 0, none⟩), .int .u64 n, .int .i64 k] w (RawR W N bs (beL k n) w) := by
  obtain ⟨i0, hi, hz0, hz1, hz2⟩ := info_parts info_u8
  have H := Lib.hid h
  obtain ⟨hb, hown, hN⟩ := h
  have c0 := hb.cell 0
  simp at c0
  clear hb hown
  obtain ⟨hk1, hk2⟩ := hk
  have hq : ((n : Int) / 2 ^ (8 * k) != 0) = false := by
    rw [pow_256, bne_eq_false_iff_eq]
    have := Nat.div_eq_of_lt hn
    omega
  clear hn
  go_enter Try.func52, Try.ntmps52
  go_wp2_with (first
    | (go_at_call 82; refine (check_ok W _ c0).mono ?_; rintro e w' ⟨rfl, rfl⟩)
    | (go_at_call 83; refine (sized_yes _ _ (by omega)).mono ?_; rintro e w' ⟨rfl, rfl⟩))
  go_loopw [6] (fun vi wr => ∃ r : Nat, r ≤ k ∧ vi = .int .i64 ((k : Int) - 1 - r) ∧ Hid (∃ v', WrIs wr W N v' (bs ++ (beL k n).take r)) ∧ Hid (Tch (WrS W N) w wr)) (fun vi _ => (intOf vi + 1).toNat)
  case atStart => exact ⟨0, by omega, by simp, ⟨v, by simpa using H.out⟩, Tch.refl _ _⟩
  case round =>
    obtain ⟨r, hr, rfl, HW, HT⟩ := hrel
    obtain ⟨v', hW⟩ := HW.out
    by_cases hlt : r < k
    · obtain ⟨i, hik⟩ : ∃ i : Nat, (i : Int) = (k : Int) - 1 - r := ⟨k - 1 - r, by omega⟩
      obtain ⟨ds, hds⟩ : ∃ ds, ds = bs ++ (beL k n).take r := ⟨_, rfl⟩
      have hlen : ds.length + 1 ≤ 140737488355328 := by rw [hds]; simp [beL_length]; omega
      rw [← hds] at hW
      have HWr := Lib.hid hW
      obtain ⟨hb, hown, hN'⟩ := hW
      have c3 := hb.cell 3
      have f3 := hb.frozen 3
      simp at c3
      have hWl := hb.lt
      have HO := Lib.hid hown
      have HB := Lib.hid hb
      have HLE := Lib.hid hlen
      clear hb hown hlen
      rw [← hik]
      have hi8 : i < k := by omega
      have hbyte : IntKind.u8.wrap ((n : Int) / 2 ^ (8 * i)) = ((UInt8.ofNat (n / 256 ^ i)).toNat : Int) := by
        rw [pow_256, IntKind.wrap_u8]
        simp
      have hnext : bs ++ (beL k n).take (r + 1) = ds ++ [UInt8.ofNat (n / 256 ^ i)] := by
        rw [hds, List.take_add_one, beL_get k n r hlt, List.append_assoc, show k - 1 - r = i from by omega]
        rfl
      have hnx : (i : Int) - 1 = (k : Int) - 1 - ((r + 1 : Nat) : Int) := by omega
      have HNX := Lib.hid hnx
      have HNE := Lib.hid hnext
      have HBY := Lib.hid hbyte
      clear hik hbyte hnext hnx hds
      go_wp2_with fail
      have hw1 : IntKind.i64.wrap (8 * (i : Int)) = 8 * (i : Int) := IntWalk.i64_in _ (by omega)
      have hw2 : (0 : Int) ≤ 8 * (i : Int) := by omega
      have hw3 : (8 * (i : Int)).toNat = 8 * i := by omega
      have hw4 : (8 : Int) * (i : Int) < 64 := by omega
      go_region_law
        (refine step_app rfl (.tmp 35) (.tmp 41) 23 rfl N 5 i0 (.int .u8 0) 1 Try.underlying23 hi hz0 hz1 hz2 rfl v' _ _ (by simp [Act.eval]) (HO.out.alloc _) (some ⟨wr.heap.size, 0, none⟩) 1 1 [.int .u8 (IntKind.u8.wrap ((n : Int) / 2 ^ (8 * i)))] (by simp [Act.eval]) rfl (by simp) (by simp) (fun _ => ⟨_, rfl, fun j u hu => cells_one wr _ _ j u hu⟩) (by intro u hu; simp at hu; subst hu; rfl) (Nat.le_trans HLE.out (by decide : 140737488355328 ≤ maxLen)) (by have := HLE.out; omega) (by simp; omega) ?_
         intro v1 w1 HO1 HG1
         obtain ⟨hW1, hT1, hb1⟩ := wr_store W N v' v1 _ [UInt8.ofNat (n / 256 ^ i)] wr _ w1 HWr.out (((Tch.refl _ wr).alloc (.cells #[.int .u8 (IntKind.u8.wrap ((n : Int) / 2 ^ (8 * i)))] 5)).drew) (by have := HO1.out; rw [HBY.out] at this; exact this) HG1.out
         obtain ⟨ao1, cap1, rfl, _⟩ := own_shape HO1.out
         have c3' := hb1.cell 3
         have f3' := hb1.frozen 3
         simp at c3'
         have HW1 := Lib.hid hW1
         have HT1 := Lib.hid hT1
         clear hW1 hT1 hb1)
      all_goals
        go_wp2_with fail
        go_roundw
        case rel => exact ⟨r + 1, by omega, by rw [← HNX.out], ⟨_, by rw [HNE.out]; exact HW1.out⟩, HT.out.then HT1.out⟩
        case measure => simp [intOf]
    · obtain rfl : r = k := by omega
      rw [List.take_of_length_le (by rw [beL_length]; exact Nat.le_refl _)] at hW
      have HWr := Lib.hid hW
      clear hW
      have hneg : (r : Int) - 1 - (r : Int) < 0 := by omega
      go_wp2_with fail
      go_end0
      exact ⟨rfl, ⟨_, HWr.out⟩, HT.out⟩
end Go.Proofs.Ythobffgkggfooaa
