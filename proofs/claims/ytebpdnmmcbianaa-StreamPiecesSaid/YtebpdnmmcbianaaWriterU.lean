/-
  Package pack: the Writer's fields, told by the type of the blocks that turn: the Writer's own and blocks of bytes.
-/
import Derived.Test.YtebpdnmmcbianaaWriter
set_option linter.unusedVariables false
set_option maxRecDepth 100000
namespace Go.Proofs.Ytebpdnmmcbianaa
open Go.RowKit

/-- A block of bytes. -/
def U8 (w : World) (b : Nat) : Prop := ∃ cs fz, w.heap[b]? = some (.cells cs 5 fz)
/-- Only W, and blocks of bytes from N on, may have turned. -/
def TchU (W N : Nat) (w w' : World) : Prop := Tch (fun b => b = W ∨ (N ≤ b ∧ U8 w b)) w w'
theorem TchU.refl (W N : Nat) (w : World) : TchU W N w w := Tch.refl _ _
theorem TchU.then {W N : Nat} {w w1 w2 : World} (h : TchU W N w w1) (k : TchU W N w1 w2) : TchU W N w w2 :=
  ⟨k.os.trans h.os, k.tape.trans h.tape, k.output.trans h.output, Nat.le_trans h.size k.size, fun b hb hs => by
    have h1 := h.block b hb hs
    rw [← h1]
    refine k.block b (Nat.lt_of_lt_of_le hb h.size) (fun hk => hs ?_)
    rcases hk with hk | ⟨hk1, cs, fz, hk2⟩
    · exact .inl hk
    · exact .inr ⟨hk1, cs, fz, by rw [← h1]; exact hk2⟩⟩
theorem TchU.alloc {W N : Nat} {w w1 : World} (h : TchU W N w w1) (o : Obj) : TchU W N w (w1.alloc o) := Tch.alloc h o
theorem TchU.bk {W N : Nat} {w w1 : World} (h : TchU W N w w1) {g : Nat} {t : TypeId} {cs : Array Value} (k : Bk w g t cs) (hg : g ≠ W) (ht : t ≠ 5) : Bk w1 g t cs := by
  refine Bk.tch k h ?_
  rintro (e | ⟨_, cs', fz, e⟩)
  · exact hg e
  · unfold Bk at k
    rw [k] at e
    injection e with e
    injection e with _ e _
    exact ht e
theorem TchU.tch {W N : Nat} {w w1 : World} (h : TchU W N w w1) : Tch (WrS W N) w w1 := Tch.more h fun b _ hs => hs.elim .inl fun k => .inr k.1
theorem own_type {w : World} {base : Nat} {e : TypeId} {size : Nat} {v : Value} {n : Nat} {xs : List Value} (h : w.ownsRow base e size v n xs) {b : Nat} (hb : v.ownBlock = some b) : ∃ cs fz, w.heap[b]? = some (.cells cs e fz) := by
  rcases h.2 with ⟨rfl, _⟩ | ⟨g, cap, cur, rfl, _, hh, _⟩
  · simp [Value.ownBlock] at hb
  · simp [Value.ownBlock] at hb
    subst hb
    exact ⟨_, _, hh⟩

/-- Raw. -/
def RawU (W N : Nat) (bs cs : List UInt8) (w : World) (e : Ending) (w' : World) : Prop := e = .returned (.tuple #[]) ∧ (∃ v', WrIs w' W N v' (bs ++ cs)) ∧ TchU W N w w'
/-- What the Writer is when its bytes have grown and the slice has been stored. -/
theorem wr_storeU (W N : Nat) (v v' : Value) (bs cs : List UInt8) (w w0 w1 : World) (h : WrIs w W N v bs) (h0 : Tch (fun b => w.heap.size ≤ b) w w0) (hown : w1.ownsRow N 5 1 v' (bs.length + cs.length) (byC bs ++ byC cs)) (hg : w0.grownBy w1 v.ownBlock) :
    WrIs (w1.setCell ⟨W, 3, none⟩ v') W N v' (bs ++ cs) ∧ TchU W N w (w1.setCell ⟨W, 3, none⟩ v') ∧ Bk w1 W 146 #[.pointer (some ⟨W, 0, none⟩), .bool false, .int .i64 0, v] := by
  obtain ⟨hb, ho, hN⟩ := h
  have hne := own_ne ho hb (by decide)
  have hl := hb.lt
  have hb1 := (hb.tch h0 (by omega)).tch (Tch.of_grown hg) (fun e => hne _ e.symm rfl)
  have hne1 := own_ne hown hb1 (by decide)
  have t1 : TchU W N w w1 := Tch.trans (h0.more (fun b hb h => by omega)) (Tch.of_grown hg) (fun b hb e => .inr ⟨(own_base ho e.symm).1, own_type ho e.symm⟩)
  have hs1 := Tch.size t1
  refine ⟨⟨by simpa using hb1.store 3 v', ?_, by simp; omega⟩, Tch.setCell t1 (p := ⟨W, 3, none⟩) (fun _ => .inl rfl) _, hb1⟩
  rw [byC_append, List.length_append]
  exact own_tch hown ((Tch.refl (· = W) w1).setCell (p := ⟨W, 3, none⟩) (fun _ => rfl) _) (fun b hb e => hne1 b hb e)

theorem rawU_ok (W N : Nat) (v : Value) (bs : List UInt8) (s : ByteArray) (w : World) (h : WrIs w W N v bs) (hl : bs.length + s.size ≤ 140737488355328) :
    Calls Try.prog 53 #[.pointer (some ⟨W, 0, none⟩), .string s] w (RawU W N bs s.data.toList w) := by
  obtain ⟨i0, hi, hz0, hz1, hz2⟩ := info_parts info_u8
  have H := Lib.hid h
  obtain ⟨hb, hown, hN⟩ := h
  have c0 := hb.cell 0
  have c3 := hb.cell 3
  have f3 := hb.frozen 3
  simp at c0 c3
  have HO := Lib.hid hown
  clear hb hown
  go_enter Try.func53, Try.ntmps53
  go_wp2_with (first
    | (go_at_call 82; refine (check_ok W _ c0).mono ?_; rintro e w' ⟨rfl, rfl⟩)
    | (at_builtin; refine Lib.wpList_append_own_string _ rfl (.tmp 12) (.tmp 13) 23 9 rfl N 5 i0 Try.underlying23 Try.underlying9 hi hz0 hz1 hz2 v bs.length _ rfl HO.out s rfl ?c1 hl hN ?_))
  case c1 => exact Nat.le_trans hl (by decide)
  intro v' w1 hown1 hg1 _
  obtain ⟨hW, hT, hb1⟩ := wr_storeU W N v v' bs s.data.toList w w w1 H.out (Tch.refl _ _) (by rw [byC_str] at hown1; simpa using hown1) hg1
  obtain ⟨ao, cap, rfl, _⟩ := own_shape hown1
  have c3' := hb1.cell 3
  have f3' := hb1.frozen 3
  simp at c3'
  have HW := Lib.hid hW
  have HT := Lib.hid hT
  clear hW hT hb1 hown1 hg1
  go_wp2_with fail
  go_end0
  exact ⟨rfl, ⟨_, HW.out⟩, HT.out⟩

theorem textU_ok (W N : Nat) (v : Value) (bs : List UInt8) (s : ByteArray) (w : World) (h : WrIs w W N v bs) (hs : s.size ≤ 255) (hl : bs.length + 1 + s.size ≤ 140737488355328) :
    Calls Try.prog 108 #[.pointer (some ⟨W, 0, none⟩), .string s] w (RawU W N bs (UInt8.ofNat s.size :: s.data.toList) w) := by
  obtain ⟨i0, hi, hz0, hz1, hz2⟩ := info_parts info_u8
  have H := Lib.hid h
  obtain ⟨hb, hown, hN⟩ := h
  have c0 := hb.cell 0
  have c3 := hb.cell 3
  have f3 := hb.frozen 3
  simp at c0 c3
  have HO := Lib.hid hown
  have hWl := hb.lt
  clear hb hown
  have hu8 : ((UInt8.ofNat s.size).toNat : Int) = (s.size : Int) := by simp; omega
  have HU := Lib.hid hu8
  clear hu8
  go_enter Try.func108, Try.ntmps108
  go_upto_region 4 with (first
    | (go_at_call 82; refine (check_ok W _ c0).mono ?_; rintro e w' ⟨rfl, rfl⟩)
    | (at_builtin; refine list_app rfl (.tmp 19) (.tmp 23) 23 rfl N 5 i0 (.int .u8 0) 1 Try.underlying23 hi hz0 hz1 hz2 rfl v bs.length _ rfl (HO.out.alloc _) (some ⟨w.heap.size, 0, none⟩) 1 1 [.int .u8 (s.size : Int)] rfl rfl (by simp) (by simp) (fun _ => ⟨_, rfl, cells_one _ _ _⟩) (by intro u hu; simp at hu; subst hu; rfl) (Nat.le_trans (by omega) (by decide : 9223372036854775807 ≤ maxLen)) (by omega) (by simp; omega) ?_; intro v1 w1 HO1 HG1
       obtain ⟨hW1, hT1, hb1⟩ := wr_storeU W N v v1 bs [UInt8.ofNat s.size] w _ w1 H.out ((Tch.refl _ _).alloc _) (by have := HO1.out; rw [← HU.out] at this; exact this) HG1.out
       obtain ⟨ao1, cap1, rfl, _⟩ := own_shape HO1.out
       have c3' := hb1.cell 3
       have f3' := hb1.frozen 3
       simp at c3'
       have HW1 := Lib.hid hW1
       have HT1 := Lib.hid hT1
       clear hW1 hT1 hb1))
  obtain ⟨hb2, hown2, hN2⟩ := HW1.out
  have c32 := hb2.cell 3
  have f32 := hb2.frozen 3
  simp at c32
  have HO2 := Lib.hid hown2
  clear hb2 hown2 c3' f3'
  go_wp2_with (at_builtin; refine Lib.wpList_append_own_string _ rfl (.tmp 31) (.tmp 32) 23 9 rfl N 5 i0 Try.underlying23 Try.underlying9 hi hz0 hz1 hz2 _ _ _ (by simp [Act.eval]) HO2.out s (by simp [Act.eval]) ?c1 (by simp; omega) hN2 ?_)
  case c1 => exact Nat.le_trans (by simp; omega) (by decide : 140737488355328 ≤ maxLen)
  intro v2 w2 hown2 hg2 _
  obtain ⟨hW2, hT2, hb2⟩ := wr_storeU W N _ v2 (bs ++ [UInt8.ofNat s.size]) s.data.toList _ _ w2 HW1.out (Tch.refl _ _) (by rw [byC_str] at hown2; simpa using hown2) hg2
  obtain ⟨ao2, cap2, rfl, _⟩ := own_shape hown2
  have c33 := hb2.cell 3
  have f33 := hb2.frozen 3
  simp at c33
  have HW2 := Lib.hid hW2
  have HT2 := Lib.hid hT2
  clear hW2 hT2 hb2 hown2 hg2
  go_wp2_with fail
  go_end0
  exact ⟨rfl, ⟨_, by simpa using HW2.out⟩, HT1.out.then HT2.out⟩

theorem numU_ok (W N : Nat) (v : Value) (bs : List UInt8) (n k : Nat) (w : World) (h : WrIs w W N v bs) (hk : 1 ≤ k ∧ k ≤ 8) (hn : n < 256 ^ k) (hl : bs.length + 8 ≤ 140737488355328) (hn64 : n ≤ 18446744073709551615) :
    Calls Try.prog 52 #[.pointer (some ⟨W, 0, none⟩), .int .u64 n, .int .i64 k] w (RawU W N bs (beL k n) w) := by
  obtain ⟨i0, hi, hz0, hz1, hz2⟩ := info_parts info_u8
  have H := Lib.hid h
  obtain ⟨hb, hown, hN⟩ := h
  have c0 := hb.cell 0
  simp at c0
  clear hb hown
  obtain ⟨hk1, hk2⟩ := hk
  have hq : ((n : Int) / 2 ^ (8 * k) != 0) = false := by
    rw [pow_256, bne_eq_false_iff_eq]
    have := Nat.div_eq_of_lt hn
    omega
  clear hn
  go_enter Try.func52, Try.ntmps52
  go_wp2_with (first
    | (go_at_call 82; refine (check_ok W _ c0).mono ?_; rintro e w' ⟨rfl, rfl⟩)
    | (go_at_call 83; refine (sized_yes _ _ (by omega)).mono ?_; rintro e w' ⟨rfl, rfl⟩))
  go_loopw [6] (fun vi wr => ∃ r : Nat, r ≤ k ∧ vi = .int .i64 ((k : Int) - 1 - r) ∧ Hid (∃ v', WrIs wr W N v' (bs ++ (beL k n).take r)) ∧ Hid (TchU W N w wr)) (fun vi _ => (intOf vi + 1).toNat)
  case atStart => exact ⟨0, by omega, by simp, ⟨v, by simpa using H.out⟩, Tch.refl _ _⟩
  case round =>
    obtain ⟨r, hr, rfl, HW, HT⟩ := hrel
    obtain ⟨v', hW⟩ := HW.out
    by_cases hlt : r < k
    · obtain ⟨i, hik⟩ : ∃ i : Nat, (i : Int) = (k : Int) - 1 - r := ⟨k - 1 - r, by omega⟩
      obtain ⟨ds, hds⟩ : ∃ ds, ds = bs ++ (beL k n).take r := ⟨_, rfl⟩
      have hlen : ds.length + 1 ≤ 140737488355328 := by rw [hds]; simp [beL_length]; omega
      rw [← hds] at hW
      have HWr := Lib.hid hW
      obtain ⟨hb, hown, hN'⟩ := hW
      have c3 := hb.cell 3
      have f3 := hb.frozen 3
      simp at c3
      have hWl := hb.lt
      have HO := Lib.hid hown
      have HB := Lib.hid hb
      have HLE := Lib.hid hlen
      clear hb hown hlen
      rw [← hik]
      have hi8 : i < k := by omega
      have hbyte : IntKind.u8.wrap ((n : Int) / 2 ^ (8 * i)) = ((UInt8.ofNat (n / 256 ^ i)).toNat : Int) := by
        rw [pow_256, IntKind.wrap_u8]
        simp
      have hnext : bs ++ (beL k n).take (r + 1) = ds ++ [UInt8.ofNat (n / 256 ^ i)] := by
        rw [hds, List.take_add_one, beL_get k n r hlt, List.append_assoc, show k - 1 - r = i from by omega]
        rfl
      have hnx : (i : Int) - 1 = (k : Int) - 1 - ((r + 1 : Nat) : Int) := by omega
      have HNX := Lib.hid hnx
      have HNE := Lib.hid hnext
      have HBY := Lib.hid hbyte
      clear hik hbyte hnext hnx hds
      go_wp2_with fail
      have hw1 : IntKind.i64.wrap (8 * (i : Int)) = 8 * (i : Int) := IntWalk.i64_in _ (by omega)
      have hw2 : (0 : Int) ≤ 8 * (i : Int) := by omega
      have hw3 : (8 * (i : Int)).toNat = 8 * i := by omega
      have hw4 : (8 : Int) * (i : Int) < 64 := by omega
      go_region_law
        (refine step_app rfl (.tmp 35) (.tmp 41) 23 rfl N 5 i0 (.int .u8 0) 1 Try.underlying23 hi hz0 hz1 hz2 rfl v' _ _ (by simp [Act.eval]) (HO.out.alloc _) (some ⟨wr.heap.size, 0, none⟩) 1 1 [.int .u8 (IntKind.u8.wrap ((n : Int) / 2 ^ (8 * i)))] (by simp [Act.eval]) rfl (by simp) (by simp) (fun _ => ⟨_, rfl, fun j u hu => cells_one wr _ _ j u hu⟩) (by intro u hu; simp at hu; subst hu; rfl) (Nat.le_trans HLE.out (by decide : 140737488355328 ≤ maxLen)) (by have := HLE.out; omega) (by simp; omega) ?_
         intro v1 w1 HO1 HG1
         obtain ⟨hW1, hT1, hb1⟩ := wr_storeU W N v' v1 _ [UInt8.ofNat (n / 256 ^ i)] wr _ w1 HWr.out (((Tch.refl _ wr).alloc (.cells #[.int .u8 (IntKind.u8.wrap ((n : Int) / 2 ^ (8 * i)))] 5)).drew) (by have := HO1.out; rw [HBY.out] at this; exact this) HG1.out
         obtain ⟨ao1, cap1, rfl, _⟩ := own_shape HO1.out
         have c3' := hb1.cell 3
         have f3' := hb1.frozen 3
         simp at c3'
         have HW1 := Lib.hid hW1
         have HT1 := Lib.hid hT1
         clear hW1 hT1 hb1)
      all_goals
        go_wp2_with fail
        go_roundw
        case rel => exact ⟨r + 1, by omega, by rw [← HNX.out], ⟨_, by rw [HNE.out]; exact HW1.out⟩, HT.out.then HT1.out⟩
        case measure => simp [intOf]
    · obtain rfl : r = k := by omega
      rw [List.take_of_length_le (by rw [beL_length]; exact Nat.le_refl _)] at hW
      have HWr := Lib.hid hW
      clear hW
      have hneg : (r : Int) - 1 - (r : Int) < 0 := by omega
      go_wp2_with fail
      go_end0
      exact ⟨rfl, ⟨_, HWr.out⟩, HT.out⟩

end Go.Proofs.Ytebpdnmmcbianaa
