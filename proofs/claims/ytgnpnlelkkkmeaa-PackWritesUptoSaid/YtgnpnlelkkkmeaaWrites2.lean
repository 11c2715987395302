/-
  PackWrites: the closure that Read runs over what was written.
-/
import Derived.Test.YtgnpnlelkkkmeaaWrites1
set_option linter.unusedVariables false
namespace Go.Proofs.Ytgnpnlelkkkmeaa
open Go.RowKit

theorem beV_beL : ∀ (k n : Nat), beV (beL k n) = n % 256 ^ k := by
  intro k
  induction k with
  | zero => intro n; simp [beL, beV, Nat.mod_one]
  | succ k ih =>
    intro n
    have hf : ∀ (l : List UInt8) (a : Nat), l.foldl (fun a b => 256 * a + b.toNat) a = a * 256 ^ l.length + beV l := by
      intro l
      induction l with
      | nil => intro a; simp [beV]
      | cons b l ih =>
        intro a
        simp only [List.foldl_cons, beV, List.length_cons]
        rw [ih, ih (256 * 0 + b.toNat), Nat.pow_succ]
        generalize 256 ^ l.length = P
        generalize b.toNat = c
        have e : (256 * a + c) * P = a * (P * 256) + c * P := by rw [Nat.add_mul, Nat.mul_comm 256 a, Nat.mul_assoc, Nat.mul_comm 256 P]
        rw [e, Nat.mul_zero, Nat.zero_add, Nat.add_assoc]
    have h1 : beV (beL (k + 1) n) = (UInt8.ofNat (n / 256 ^ k)).toNat * 256 ^ (beL k n).length + beV (beL k n) := by
      show List.foldl _ 0 (UInt8.ofNat (n / 256 ^ k) :: beL k n) = _
      rw [List.foldl_cons, hf]
      simp
    rw [h1, ih, beL_length, Nat.pow_succ, Nat.mod_mul]
    have : (UInt8.ofNat (n / 256 ^ k)).toNat = n / 256 ^ k % 256 := by simp
    rw [this, Nat.mul_comm, Nat.add_comm]

def RbT (W SB B : Nat) (b : Nat) : Prop := b = W ∨ b = SB ∨ B ≤ b

set_option maxHeartbeats 2000000 in
theorem writes2 (W LB SB : Nat) (ps : List Pt) (bs : List UInt8) (k : Nat) (ao : Option Addr) (cap : Nat) (w : World)
    (h : RdIs w W bs) (hL : Bk w LB 22 #[.slice ao ps.length cap]) (hl : Ps w (fun b => ¬ RbT W SB w.heap.size b) (.slice ao ps.length cap) ps)
    (hS : Bk w SB 4 #[.bool true]) (hd : LB ≠ W ∧ LB ≠ SB ∧ W ≠ SB) (hgo : WrGo ps bs 0 k) (hok : ∀ q ∈ ps, PtOk q) (h12 : ps.length ≤ 12) (htx : ∀ q ∈ ps, q.text.size ≤ 140737488355000) :
    Calls Try.prog 19 #[.pointer (some ⟨W, 0, none⟩), .pointer (some ⟨LB, 0, none⟩), .pointer (some ⟨SB, 0, none⟩)] w
      (RFOut W (fun b => b = SB) (fun l w2 => l = [] ∧ w2.cell? ⟨SB, 0, none⟩ = some (.bool true)) (fun _ _ => False) (fun _ _ => False) w) := by
  have H := Lib.hid h
  have HL := Lib.hid hL
  have HLs := Lib.hid hl
  have HS := Lib.hid hS
  have HD := Lib.hid hd
  have HG := Lib.hid hgo
  have HOK := Lib.hid hok
  have HTX := Lib.hid htx
  have hLl := hL.lt
  have hSl := hS.lt
  have hWl := Bk.lt h
  clear h hL hl hS hd hgo hok htx
  go_enter Try.func19, Try.ntmps19
  go_wp2_with fail
  go_loopw [4] (fun vi wr => ∃ (i k2 : Nat) (b2 : List UInt8), vi = .int .i64 i ∧ i ≤ ps.length ∧ Hid (WrGo (ps.drop i) b2 0 k2) ∧ Hid (RdIs wr W b2) ∧ Hid (Bk wr SB 4 #[.bool true]) ∧ Hid (Tch (RbT W SB w.heap.size) w wr)) (fun vi _ => ps.length - (intOf vi).toNat)
  case atStart => exact ⟨0, k, bs, rfl, by omega, Lib.hid (by simpa using HG.out), H, HS, Lib.hid (Tch.refl _ _)⟩
  case round =>
    obtain ⟨i, k2, b2, rfl, hi, HG, HR, HSr, HT⟩ := hrel
    obtain ⟨hd1, hd2, hd3⟩ := HD.out
    have cL := (HL.out.tch HT.out (by unfold RbT; omega)).cell 0
    have cS := HSr.out.cell 0
    have fS := HSr.out.frozen 0
    have hrs := HT.out.size
    simp at cL cS
    by_cases hlt : i < ps.length
    · obtain ⟨p, hp⟩ : ∃ p, p = ps[i] := ⟨_, rfl⟩
      have hdr : ps.drop i = p :: ps.drop (i + 1) := by rw [hp]; exact List.drop_eq_getElem_cons hlt
      have hpk : PtOk p := HOK.out p (by rw [hp]; exact List.getElem_mem _)
      have hpt : p.text.size ≤ 140737488355000 := HTX.out p (by rw [hp]; exact List.getElem_mem _)
      obtain ⟨b, off, rfl, hx0, hx1, hx2, hx3⟩ : ∃ b off, ao = some ⟨b, off, none⟩ ∧ wr.cell? ⟨b, off + i * 4, none⟩ = some (.int .i64 p.what) ∧ wr.cell? ⟨b, off + i * 4 + 1, none⟩ = some (.int .u64 p.num) ∧
          wr.cell? ⟨b, off + i * 4 + 2, none⟩ = some (.int .i64 p.size) ∧ wr.cell? ⟨b, off + i * 4 + 3, none⟩ = some (.string p.text) := by
        obtain ⟨ao', cap', e, _, _, hc⟩ := HLs.out.tch HT.out (fun b hb h => hb h)
        injection e with e1 e2 e3
        subst e1
        obtain ⟨b, off, e, hs, _, hc⟩ := hc (by omega)
        exact ⟨b, off, e, by rw [hp]; exact hc i hlt⟩
      clear hp
      have hk4 := kind4 p.what
      have t1 : Tch (fun b => w.heap.size ≤ b) wr (wr.alloc (.cells #[.int .i64 p.what, .int .u64 p.num, .int .i64 p.size, .string p.text] 26)).drew := (((Tch.refl (fun b => wr.heap.size ≤ b) wr).alloc _).drew).more (fun b hb h => by omega)
      have q1 : RdIs (wr.alloc (.cells #[.int .i64 p.what, .int .u64 p.num, .int .i64 p.size, .string p.text] 26)).drew W b2 := Bk.tch HR.out t1 (by omega)
      have s1 : Bk (wr.alloc (.cells #[.int .i64 p.what, .int .u64 p.num, .int .i64 p.size, .string p.text] 26)).drew SB 4 #[.bool true] := HSr.out.tch t1 (by omega)
      have x1 : Bk (wr.alloc (.cells #[.int .i64 p.what, .int .u64 p.num, .int .i64 p.size, .string p.text] 26)).drew wr.heap.size 26 #[.int .i64 p.what, .int .u64 p.num, .int .i64 p.size, .string p.text] := Bk.made wr 26 #[.int .i64 p.what, .int .u64 p.num, .int .i64 p.size, .string p.text]
      have tt : Tch (RbT W SB w.heap.size) w (wr.alloc (.cells #[.int .i64 p.what, .int .u64 p.num, .int .i64 p.size, .string p.text] 26)).drew := HT.out.then (t1.more (fun b _ h => .inr (.inr h)))
      have Q1 := Lib.hid q1
      have S1 := Lib.hid s1
      have X1 := Lib.hid x1
      have TT := Lib.hid tt
      obtain ⟨pk1, pk2, pk3⟩ := hpk
      have hSr : SB < wr.heap.size := by omega
      have hg := HG.out
      rw [hdr] at hg
      clear q1 s1 x1 tt t1 hdr
      rcases hg with ⟨t, bs', k', hpt', hbb, hkk, hgo⟩ | ⟨hpb, _, _⟩
      rotate_left
      · exfalso
        rcases hpb with ⟨_, _, h⟩ | ⟨_, _, _, _, _, h⟩ | ⟨_, _, h⟩ | ⟨_, h, h2⟩ | ⟨_, _, h⟩ <;> omega
      · have HGO := Lib.hid hgo
        have okw : ∀ w2, RdIs w2 W bs' → Tch (· = W) (wr.alloc (.cells #[.int .i64 p.what, .int .u64 p.num, .int .i64 p.size, .string p.text] 26)).drew w2 → ∃ (i' k2 : Nat) (b2 : List UInt8), Value.int .i64 ((i : Int) + 1) = .int .i64 i' ∧ i' ≤ ps.length ∧ Hid (WrGo (ps.drop i') b2 0 k2) ∧ Hid (RdIs (w2.setCell ⟨SB, 0, none⟩ (.bool true)) W b2) ∧
            Hid (Bk (w2.setCell ⟨SB, 0, none⟩ (.bool true)) SB 4 #[.bool true]) ∧ Hid (Tch (RbT W SB w.heap.size) w (w2.setCell ⟨SB, 0, none⟩ (.bool true))) := by
          intro w2 h1 h2
          refine ⟨i + 1, k', bs', by go_num, by omega, HGO, Lib.hid (Bk.other h1 (p := ⟨SB, 0, none⟩) hd3 _), Lib.hid ?_, Lib.hid ((TT.out.then (h2.more (fun b _ h => .inl h))).setCell (p := ⟨SB, 0, none⟩) (fun _ => .inr (.inl rfl)) _)⟩
          have := (S1.out.tch h2 (Ne.symm hd3)).store 0 (.bool true)
          simpa using this
        have OKW := Lib.hid okw
        have after : ∀ w2, Tch (· = W) (wr.alloc (.cells #[.int .i64 p.what, .int .u64 p.num, .int .i64 p.size, .string p.text] 26)).drew w2 → w2.cell? ⟨wr.heap.size, 1, none⟩ = some (.int .u64 p.num) ∧ w2.cell? ⟨wr.heap.size, 2, none⟩ = some (.int .i64 p.size) ∧ w2.cell? ⟨wr.heap.size, 3, none⟩ = some (.string p.text) ∧ w2.cell? ⟨SB, 0, none⟩ = some (.bool true) ∧ w2.frozen? ⟨SB, 0, none⟩ = false := by
          intro w2 h2
          have k := X1.out.tch h2 (by omega)
          have k2 := S1.out.tch h2 (Ne.symm hd3)
          have a1 := k.cell 1
          have a2 := k.cell 2
          have a3 := k.cell 3
          have a4 := k2.cell 0
          simp at a1 a2 a3 a4
          exact ⟨a1, a2, a3, a4, k2.frozen 0⟩
        have AFT := Lib.hid after
        clear hgo hkk okw after
        rcases hpt' with ⟨c0, n, c1, c2, c3, rfl⟩ | ⟨c0, c1, rfl⟩ | ⟨c0, rfl⟩
        · rw [c0] at hk4
          have hcall : Calls Try.prog 20 #[.pointer (some ⟨W, 0, none⟩), .int .i64 p.size] (wr.alloc (.cells #[.int .i64 p.what, .int .u64 p.num, .int .i64 p.size, .string p.text] 26)).drew (fun e w' => e = .returned (.int .u64 p.num) ∧ RdIs w' W bs' ∧ Tch (· = W) (wr.alloc (.cells #[.int .i64 p.what, .int .u64 p.num, .int .i64 p.size, .string p.text] 26)).drew w') := by
            have hx := rnum_ok W b2 n (wr.alloc (.cells #[.int .i64 p.what, .int .u64 p.num, .int .i64 p.size, .string p.text] 26)).drew Q1.out c2 (by rw [hbb]; simp [beL_length])
            rw [← c1] at hx
            refine hx.mono ?_
            rintro e w' ⟨h1, h2, h3⟩
            rw [hbb, List.take_left' (beL_length n p.num), beV_beL, Nat.mod_eq_of_lt c3] at h1
            rw [hbb, List.drop_left' (beL_length n p.num)] at h2
            exact ⟨h1, h2, h3⟩
          clear c1 c2 c3 hbb
          have HCALL := Lib.hid hcall
          clear hcall
          go_wp2_with fail
          go_region_with (go_at_call 20; refine HCALL.out.mono ?_; rintro e w2 ⟨rfl, h2, t2⟩; obtain ⟨a1, a2, a3, a4, a5⟩ := AFT.out w2 t2; have H2 := Lib.hid h2; have T2 := Lib.hid t2; clear h2 t2)
          all_goals
            go_wp2_with fail
            go_roundw
            case rel => exact OKW.out w2 H2.out T2.out
            case measure => simp [intOf]; omega
        · rw [c0] at hk4
          have hcall : Calls Try.prog 21 #[.pointer (some ⟨W, 0, none⟩)] (wr.alloc (.cells #[.int .i64 p.what, .int .u64 p.num, .int .i64 p.size, .string p.text] 26)).drew (fun e w' => e = .returned (.string p.text) ∧ RdIs w' W bs' ∧ Tch (· = W) (wr.alloc (.cells #[.int .i64 p.what, .int .u64 p.num, .int .i64 p.size, .string p.text] 26)).drew w') := by
            have hu : (UInt8.ofNat p.text.size).toNat = p.text.size := by simp; omega
            have hlen : p.text.data.toList.length = p.text.size := Array.length_toList
            have hq : RdIs (wr.alloc (.cells #[.int .i64 p.what, .int .u64 p.num, .int .i64 p.size, .string p.text] 26)).drew W (UInt8.ofNat p.text.size :: (p.text.data.toList ++ bs')) := by have := Q1.out; rw [hbb] at this; exact this
            refine (rtext_ok W _ (p.text.data.toList ++ bs') (wr.alloc (.cells #[.int .i64 p.what, .int .u64 p.num, .int .i64 p.size, .string p.text] 26)).drew hq (by rw [hu, List.length_append, hlen]; omega)).mono ?_
            rintro e w' ⟨h1, h2, h3⟩
            rw [hu, List.take_left' hlen, str_of] at h1
            rw [hu, List.drop_left' hlen] at h2
            exact ⟨h1, h2, h3⟩
          clear hbb
          have HCALL := Lib.hid hcall
          clear hcall
          go_wp2_with fail
          go_region_with (go_at_call 21; refine HCALL.out.mono ?_; rintro e w2 ⟨rfl, h2, t2⟩; obtain ⟨a1, a2, a3, a4, a5⟩ := AFT.out w2 t2; have H2 := Lib.hid h2; have T2 := Lib.hid t2; clear h2 t2)
          all_goals
            go_wp2_with fail
            go_roundw
            case rel => exact OKW.out w2 H2.out T2.out
            case measure => simp [intOf]; omega
        · rw [c0] at hk4
          have hcall : Calls Try.prog 22 #[.pointer (some ⟨W, 0, none⟩), .int .i64 p.text.size] (wr.alloc (.cells #[.int .i64 p.what, .int .u64 p.num, .int .i64 p.size, .string p.text] 26)).drew (fun e w' => e = .returned (.string p.text) ∧ RdIs w' W bs' ∧ Tch (· = W) (wr.alloc (.cells #[.int .i64 p.what, .int .u64 p.num, .int .i64 p.size, .string p.text] 26)).drew w') := by
            have hlen : p.text.data.toList.length = p.text.size := Array.length_toList
            refine (rraw_ok W b2 p.text.size (wr.alloc (.cells #[.int .i64 p.what, .int .u64 p.num, .int .i64 p.size, .string p.text] 26)).drew Q1.out (by rw [hbb, List.length_append, hlen]; omega)).mono ?_
            rintro e w' ⟨h1, h2, h3⟩
            rw [hbb, List.take_left' hlen, str_of] at h1
            rw [hbb, List.drop_left' hlen] at h2
            exact ⟨h1, h2, h3⟩
          clear hbb
          have HCALL := Lib.hid hcall
          clear hcall
          go_wp2_with fail
          go_region_with (go_at_call 22; refine HCALL.out.mono ?_; rintro e w2 ⟨rfl, h2, t2⟩; obtain ⟨a1, a2, a3, a4, a5⟩ := AFT.out w2 t2; have H2 := Lib.hid h2; have T2 := Lib.hid t2; clear h2 t2)
          all_goals
            go_wp2_with fail
            go_roundw
            case rel => exact OKW.out w2 H2.out T2.out
            case measure => simp [intOf]; omega
    · obtain rfl : i = ps.length := by omega
      have hg := HG.out
      rw [List.drop_of_length_le (Nat.le_refl _)] at hg
      obtain ⟨g1, g2, g3⟩ := hg
      have HB2 := Lib.hid g1
      clear g1 g2 g3
      go_wp2_with fail
      go_end0
      refine ⟨HT.out.more ?_, .inl ⟨b2, rfl, HR.out, HB2.out, cS⟩⟩
      intro b hb h
      rcases h with h | h | h
      · exact .inl h
      · exact .inr h
      · omega
end Go.Proofs.Ytgnpnlelkkkmeaa
