/-
  PackOrder: numbers of one size are ordered as their bytes are.
-/
import Derived.Test.YtgnpnlelkkkmeaaPackLaw
import Derived.Deep.DeepCutAuto
set_option linter.unusedVariables false
namespace Go.Proofs.Ytgnpnlelkkkmeaa
open Go.RowKit

theorem mod_256 (k a : Nat) : a % 256 ^ (k + 1) = 256 ^ k * (a / 256 ^ k % 256) + a % 256 ^ k := by
  rw [Nat.pow_succ, Nat.mod_mul]; omega
theorem lexi (p x y r s : Nat) (hr : r < p) (hs : s < p) : (decide (x < y) || decide (x = y) && decide (r < s)) = decide (p * x + r < p * y + s) := by
  rcases Nat.lt_trichotomy x y with h | h | h
  · have : p * x + p ≤ p * y := by rw [← Nat.mul_succ]; exact Nat.mul_le_mul_left _ h
    rw [decide_eq_true h, decide_eq_true (p := p * x + r < p * y + s) (by omega)]; rfl
  · subst h
    simp
  · have : p * y + p ≤ p * x := by rw [← Nat.mul_succ]; exact Nat.mul_le_mul_left _ h
    rw [decide_eq_false (p := x < y) (by omega), decide_eq_false (p := x = y) (by omega), decide_eq_false (p := p * x + r < p * y + s) (by omega)]; rfl
theorem beL_less : ∀ (k a b : Nat), Op.bytesLess (beL k a) (beL k b) = decide (a % 256 ^ k < b % 256 ^ k)
  | 0, a, b => by simp [beL, Op.bytesLess, Nat.mod_one]
  | k + 1, a, b => by
    have hp : 0 < 256 ^ k := Nat.pow_pos (by omega)
    rw [beL, beL, Op.bytesLess, beL_less k a b, mod_256 k a, mod_256 k b]
    have hx : a / 256 ^ k % 256 < 256 := Nat.mod_lt _ (by omega)
    have hy : b / 256 ^ k % 256 < 256 := Nat.mod_lt _ (by omega)
    have hr : a % 256 ^ k < 256 ^ k := Nat.mod_lt _ hp
    have hs : b % 256 ^ k < 256 ^ k := Nat.mod_lt _ hp
    have hxn : (UInt8.ofNat (a / 256 ^ k)).toNat = a / 256 ^ k % 256 := by simp
    have hyn : (UInt8.ofNat (b / 256 ^ k)).toNat = b / 256 ^ k % 256 := by simp
    generalize a / 256 ^ k = x at *
    generalize b / 256 ^ k = y at *
    generalize a % 256 ^ k = r at *
    generalize b % 256 ^ k = s at *
    have e1 : (UInt8.ofNat x < UInt8.ofNat y) = (x % 256 < y % 256) := by rw [UInt8.lt_iff_toNat_lt, hxn, hyn]
    have e2 : (UInt8.ofNat x == UInt8.ofNat y) = decide (x % 256 = y % 256) := by
      rw [Bool.eq_iff_iff, beq_iff_eq, decide_eq_true_iff, ← UInt8.toNat_inj, hxn, hyn]
    have e3 : decide (UInt8.ofNat x < UInt8.ofNat y) = decide (x % 256 < y % 256) := decide_eq_decide.2 (Iff.of_eq e1)
    rw [e2]
    refine Eq.trans ?_ (lexi (256 ^ k) (x % 256) (y % 256) r s hr hs)
    exact congrArg (· || decide (x % 256 = y % 256) && decide (r < s)) e3
theorem beL_inj : ∀ (k a b : Nat), beL k a = beL k b → a % 256 ^ k = b % 256 ^ k
  | 0, a, b, _ => by simp [Nat.mod_one]
  | k + 1, a, b, h => by
    rw [beL, beL] at h
    injection h with h1 h2
    rw [mod_256 k a, mod_256 k b, beL_inj k a b h2]
    have := congrArg UInt8.toNat h1
    simp at this
    rw [this]
theorem beL_less' (k a b : Nat) (ha : a < 256 ^ k) (hb : b < 256 ^ k) : Op.bytesLess (beL k a) (beL k b) = decide (a < b) := by
  rw [beL_less, Nat.mod_eq_of_lt ha, Nat.mod_eq_of_lt hb]
theorem beL_eq' (k a b : Nat) (ha : a < 256 ^ k) (hb : b < 256 ^ k) : (beL k a = beL k b) = (a = b) := by
  apply propext
  refine ⟨fun h => ?_, fun h => by rw [h]⟩
  have := beL_inj k a b h
  rwa [Nat.mod_eq_of_lt ha, Nat.mod_eq_of_lt hb] at this

theorem mask_64 (a n : Nat) (h1 : 1 ≤ n) (h8 : n < 8) (ha : a ≤ 18446744073709551615) : bits .and .u64 (a : Int) (IntKind.u64.wrap (IntKind.u64.wrap ((2 : Int) ^ (8 * n)) - 1)) = ((a % 256 ^ n : Nat) : Int) := by
  have e : IntKind.u64.wrap (IntKind.u64.wrap ((2 : Int) ^ (8 * n)) - 1) = ((2 ^ (8 * n) - 1 : Nat) : Int) := by
    have : n = 1 ∨ n = 2 ∨ n = 3 ∨ n = 4 ∨ n = 5 ∨ n = 6 ∨ n = 7 := by omega
    rcases this with rfl | rfl | rfl | rfl | rfl | rfl | rfl <;> decide
  have hlt : 2 ^ (8 * n) - 1 < 18446744073709551616 := by
    have := Nat.pow_le_pow_right (n := 2) (by omega) (show 8 * n ≤ 64 by omega)
    omega
  rw [e, u64_and_nat a _ (by omega) hlt, Nat.and_two_pow_sub_one_eq_mod, Nat.pow_mul]

theorem enters27 (args : Array Value) (w : World) : (callFunc 27 args).run Try.prog w = .ok (.enter 27 args) w := by simp [go_sem]
theorem enters28 (args : Array Value) (w : World) : (callFunc 28 args).run Try.prog w = .ok (.enter 28 args) w := by simp [go_sem]

theorem order1 (W N A C : Nat) (v : Value) (a n : Nat) (w : World) (h : WrIs w W N v []) (ha : w.cell? ⟨A, 0, none⟩ = some (.int .u64 a)) (hn : w.cell? ⟨C, 0, none⟩ = some (.int .i64 n)) (hk : 1 ≤ n ∧ n ≤ 8) (hl : a < 256 ^ n) (h64 : a ≤ 18446744073709551615) :
    Calls Try.prog 27 #[.pointer (some ⟨W, 0, none⟩), .pointer (some ⟨A, 0, none⟩), .pointer (some ⟨C, 0, none⟩)] w fun e w' => e = .returned (.tuple #[]) ∧ (∃ v', WrIs w' W N v' (beL n a)) ∧ Tch (WrS W N) w w' := by
  have H := Lib.hid h
  clear h
  go_enter Try.func27, Try.ntmps27
  go_wp2_with fail
  refine (num_ok W N v [] a n _ H.out hk hl (by simp) h64).mono ?_
  rintro e w1 ⟨rfl, ⟨v1, h1⟩, t1⟩
  have H1 := Lib.hid h1
  have T1 := Lib.hid t1
  clear h1 t1
  go_wp2_with fail
  go_end0
  exact ⟨rfl, ⟨v1, by simpa using H1.out⟩, T1.out⟩
theorem order2 (W N A C : Nat) (v : Value) (a n : Nat) (w : World) (h : WrIs w W N v []) (ha : w.cell? ⟨A, 0, none⟩ = some (.int .u64 a)) (hn : w.cell? ⟨C, 0, none⟩ = some (.int .i64 n)) (hk : 1 ≤ n ∧ n ≤ 8) (hl : a < 256 ^ n) (h64 : a ≤ 18446744073709551615) :
    Calls Try.prog 28 #[.pointer (some ⟨W, 0, none⟩), .pointer (some ⟨A, 0, none⟩), .pointer (some ⟨C, 0, none⟩)] w fun e w' => e = .returned (.tuple #[]) ∧ (∃ v', WrIs w' W N v' (beL n a)) ∧ Tch (WrS W N) w w' := by
  have H := Lib.hid h
  clear h
  go_enter Try.func28, Try.ntmps28
  go_wp2_with fail
  refine (num_ok W N v [] a n _ H.out hk hl (by simp) h64).mono ?_
  rintro e w1 ⟨rfl, ⟨v1, h1⟩, t1⟩
  have H1 := Lib.hid h1
  have T1 := Lib.hid t1
  clear h1 t1
  go_wp2_with fail
  go_end0
  exact ⟨rfl, ⟨v1, by simpa using H1.out⟩, T1.out⟩

theorem packOrder_core (a b : Nat) (sz : Nat) (w : World) (ha : a ≤ 18446744073709551615) (hb : b ≤ 18446744073709551615) (hs : sz ≤ 255) :
    Calls Try.prog 6 #[.int .u64 a, .int .u64 b, .int .u8 sz] w fun e w' => e = .returned (.bool true) ∧ Below w.heap.size w w' := by
  have hmf : ∀ (fn : Fn) (first cap : Array Value) (w : World), (Instr.makeFunc fn first cap).run Try.prog w = .ok (.func fn first cap) w := fun _ _ _ _ => rfl
  go_enter Try.func6, Try.ntmps6
  go_upto_if 19 with (go_at_call 10; refine (speaks01 _).mono ?_; rintro e w1 ⟨rfl, hb1⟩; have HB1 := Lib.hid hb1; clear hb1)
  obtain ⟨n, hn⟩ : ∃ n : Nat, n = 1 + sz % 8 := ⟨_, rfl⟩
  have hn' : (1 : Int) + (sz : Int) % 8 = (n : Int) := by omega
  have hn8 : 1 ≤ n ∧ n ≤ 8 := by omega
  rw [hn']
  obtain ⟨n1, n2⟩ := hn8
  clear hn hn'
  have hh := HB1.out.size
  simp at hh
  have hA : Bk (w1.alloc (.cells #[.int .i64 n] 3)) w.heap.size 24 #[.int .u64 a] := by
    refine Bk.alloc (Bk.keep ?_ (HB1.out.block _ (by simp; omega))) _
    exact (Bk.made w 24 #[.int .u64 a]).alloc _
  have hB : Bk (w1.alloc (.cells #[.int .i64 n] 3)) (w.heap.size + 1) 24 #[.int .u64 b] := by
    refine Bk.alloc (Bk.keep ?_ (HB1.out.block _ (by simp))) _
    simpa using (Bk.made (w.alloc (.cells #[.int .u64 a] 24)) 24 #[.int .u64 b])
  have hC : Bk (w1.alloc (.cells #[.int .i64 n] 3)) w1.heap.size 3 #[.int .i64 n] := Bk.made _ _ _
  have hb0 : Below w.heap.size w (w1.alloc (.cells #[.int .i64 n] 3)) := ((((Below.refl _ w).alloc (Nat.le_refl _) _).alloc (by simp) _).trans (HB1.out.mono (by simp; omega))).alloc (by omega) _
  generalize hw2 : w1.alloc (.cells #[.int .i64 n] 3) = w2 at *
  have hs2 : w2.heap.size = w1.heap.size + 1 := by rw [← hw2]; simp
  clear hw2
  have HA := Lib.hid hA
  have HBb := Lib.hid hB
  have HC := Lib.hid hC
  have HB0 := Lib.hid hb0
  go_cut [] (fun wx => ∃ a' b' : Nat, Hid (a' < 256 ^ n ∧ b' < 256 ^ n ∧ a' ≤ 18446744073709551615 ∧ b' ≤ 18446744073709551615) ∧ Hid (Bk wx w.heap.size 24 #[.int .u64 a'] ∧ Bk wx (w.heap.size + 1) 24 #[.int .u64 b'] ∧ Bk wx w1.heap.size 3 #[.int .i64 n] ∧ Below w.heap.size w wx ∧ wx.heap.size = w2.heap.size))
  case first =>
    have ca := hA.cell 0
    have cb := hB.cell 0
    have cc := hC.cell 0
    have fa := hA.frozen 0
    have fb := hB.frozen 0
    simp at ca cb cc
    clear hA hB hC hb0
    have hw1 : IntKind.i64.wrap (8 * (n : Int)) = 8 * (n : Int) := IntWalk.i64_in _ (by omega)
    have hw2 : (0 : Int) ≤ 8 * (n : Int) := by omega
    have hw3 : (8 * (n : Int)).toNat = 8 * n := by omega
    by_cases h8 : n < 8
    · have hw4 : (8 : Int) * (n : Int) < 64 := by omega
      have hlt : (n : Int) < 8 := by omega
      go_wp2_with fail
      go_region
      rw [mask_64 a n n1 h8 ha, mask_64 b n n1 h8 hb]
      have hp : 0 < 256 ^ n := Nat.pow_pos (by omega)
      have hla := Nat.mod_lt a hp
      have hlb := Nat.mod_lt b hp
      have hma := Nat.mod_le a (256 ^ n)
      have hmb := Nat.mod_le b (256 ^ n)
      have k1 : Bk (((w2.setCell ⟨w.heap.size, 0, none⟩ (.int .u64 ((a % 256 ^ n : Nat) : Int))).setCell ⟨w.heap.size + 1, 0, none⟩ (.int .u64 ((b % 256 ^ n : Nat) : Int))).drew) w.heap.size 24 #[.int .u64 ((a % 256 ^ n : Nat) : Int)] :=
        (by simpa using HA.out.store 0 (.int .u64 ((a % 256 ^ n : Nat) : Int)) : Bk _ _ _ _).other (p := ⟨w.heap.size + 1, 0, none⟩) (by simp) _
      have k2 : Bk (((w2.setCell ⟨w.heap.size, 0, none⟩ (.int .u64 ((a % 256 ^ n : Nat) : Int))).setCell ⟨w.heap.size + 1, 0, none⟩ (.int .u64 ((b % 256 ^ n : Nat) : Int))).drew) (w.heap.size + 1) 24 #[.int .u64 ((b % 256 ^ n : Nat) : Int)] := by
        have h0 : Bk ((w2.setCell ⟨w.heap.size, 0, none⟩ (.int .u64 ((a % 256 ^ n : Nat) : Int))).setCell ⟨w.heap.size + 1, 0, none⟩ (.int .u64 ((b % 256 ^ n : Nat) : Int))) (w.heap.size + 1) 24 #[.int .u64 ((b % 256 ^ n : Nat) : Int)] := by
          have := (HBb.out.other (p := ⟨w.heap.size, 0, none⟩) (by simp) (.int .u64 ((a % 256 ^ n : Nat) : Int))).store 0 (.int .u64 ((b % 256 ^ n : Nat) : Int))
          simpa using this
        exact h0
      have k3 : Bk (((w2.setCell ⟨w.heap.size, 0, none⟩ (.int .u64 ((a % 256 ^ n : Nat) : Int))).setCell ⟨w.heap.size + 1, 0, none⟩ (.int .u64 ((b % 256 ^ n : Nat) : Int))).drew) w1.heap.size 3 #[.int .i64 n] :=
        (HC.out.other (p := ⟨w.heap.size, 0, none⟩) (by simp; omega) _).other (p := ⟨w.heap.size + 1, 0, none⟩) (by simp; omega) _
      have k4 := ((HB0.out.setCell (p := ⟨w.heap.size, 0, none⟩) (Nat.le_refl _) (.int .u64 ((a % 256 ^ n : Nat) : Int))).setCell (p := ⟨w.heap.size + 1, 0, none⟩) (by simp) (.int .u64 ((b % 256 ^ n : Nat) : Int))).drew
      have K1 := Lib.hid k1
      have K2 := Lib.hid k2
      have K3 := Lib.hid k3
      have K4 := Lib.hid k4
      clear k1 k2 k3 k4
      go_wp2_with fail
      go_meet
      case rel => exact ⟨_, _, ⟨hla, hlb, by omega, by omega⟩, K1.out, K2.out, K3.out, K4.out, by simp⟩
    · have hlt : ¬ (n : Int) < 8 := by omega
      obtain rfl : n = 8 := by omega
      go_wp2_with fail
      go_meet
      case rel => exact ⟨a, b, ⟨by omega, by omega, ha, hb⟩, HA.out, HBb.out, HC.out, HB0.out, rfl⟩
  case rest =>
    clear hA hB hC hb0
    obtain ⟨a', b', H1, H2⟩ := hcut
    have hwc : w1.heap.size < wc.heap.size := by have := H2.out.2.2.2.2; omega
    go_wp2_with fail
    refine (write_any 27 #[.pointer (some ⟨w.heap.size, 0, none⟩), .pointer (some ⟨w1.heap.size, 0, none⟩)] (fun _ => False) (fun bs _ => bs = beL n a') (fun _ _ => False) (fun _ _ => False) wc (fun b h => h.elim) enters27 (fun W w3 hW hb3 hw3 => ?_)).mono ?_
    · obtain ⟨k1, k2, k3, k4⟩ := H1.out
      obtain ⟨c1, c2, c3, c4, c5⟩ := H2.out
      refine (order1 W _ w.heap.size w1.heap.size _ a' n w3 hw3 ?_ ?_ ⟨n1, n2⟩ k1 k3).mono ?_
      · rw [(c1.keep (hb3.block _ (by omega))).cell]; rfl
      · rw [(c3.keep (hb3.block _ (by omega))).cell]; rfl
      · rintro e w4 ⟨rfl, ⟨v, hv⟩, ht⟩
        exact ⟨ht.more (fun b hb h => by rcases h with h | h; exact .inl h; omega), .inl ⟨v, _, rfl, hv, rfl⟩⟩
    rintro e w4 ⟨ht4, w5, hs, _, ⟨bs, rfl, rfl⟩ | ⟨_, _, _, hq⟩ | ⟨_, _, hq⟩⟩
    rotate_left
    · exact hq.elim
    · exact hq.elim
    have HT4 := Lib.hid ht4
    clear ht4 hs
    go_wp2_with fail
    have hs4 := HT4.out.size
    refine (write_any 28 #[.pointer (some ⟨w.heap.size + 1, 0, none⟩), .pointer (some ⟨w1.heap.size, 0, none⟩)] (fun _ => False) (fun bs _ => bs = beL n b') (fun _ _ => False) (fun _ _ => False) w4 (fun b h => h.elim) enters28 (fun W w3 hW hb3 hw3 => ?_)).mono ?_
    · obtain ⟨k1, k2, k3, k4⟩ := H1.out
      obtain ⟨c1, c2, c3, c4, c5⟩ := H2.out
      refine (order2 W _ (w.heap.size + 1) w1.heap.size _ b' n w3 hw3 ?_ ?_ ⟨n1, n2⟩ k2 k4).mono ?_
      · rw [((c2.tch HT4.out (fun h => h)).keep (hb3.block _ (by omega))).cell]; rfl
      · rw [((c3.tch HT4.out (fun h => h)).keep (hb3.block _ (by omega))).cell]; rfl
      · rintro e w4 ⟨rfl, ⟨v, hv⟩, ht⟩
        exact ⟨ht.more (fun b hb h => by rcases h with h | h; exact .inl h; omega), .inl ⟨v, _, rfl, hv, rfl⟩⟩
    rintro e w6 ⟨ht6, w5', hs', _, ⟨bs, rfl, rfl⟩ | ⟨_, _, _, hq⟩ | ⟨_, _, hq⟩⟩
    rotate_left
    · exact hq.elim
    · exact hq.elim
    have ht := HT4.out.then ht6
    have hbz : Below w.heap.size w w6 := H2.out.2.2.2.1.trans (ht.belowB (by omega) (fun _ _ h => h))
    have ca := (H2.out.1.tch ht (fun h => h)).cell 0
    have cb := (H2.out.2.1.tch ht (fun h => h)).cell 0
    have cc := (H2.out.2.2.1.tch ht (fun h => h)).cell 0
    simp at ca cb cc
    have HZ := Lib.hid hbz
    clear hbz ht ht6 hs' hs4 hwc
    have hl1 : ((⟨(beL n a').toArray⟩ : ByteArray).size : Int) = n := by simp [ByteArray.size, beL_length]
    have hl2 : ((⟨(beL n b').toArray⟩ : ByteArray).size : Int) = n := by simp [ByteArray.size, beL_length]
    have hless := beL_less' _ _ _ H1.out.1 H1.out.2.1
    have heqb : (beL n a' == beL n b') = ((a' : Int) == (b' : Int)) := by
      rw [Bool.eq_iff_iff, beq_iff_eq, beq_iff_eq, beL_eq' _ _ _ H1.out.1 H1.out.2.1]
      omega
    rcases Nat.lt_trichotomy a' b' with h | h | h
    · have e1 : ((a' : Int) == (b' : Int)) = false := bne_ (by omega)
      have e2 : decide ((a' : Int) < (b' : Int)) = true := dec_ (by omega)
      rw [e1] at heqb
      rw [dec_ h] at hless
      go_wp2_with fail
      go_ret
      exact ⟨rfl, HZ.out⟩
    · subst h
      have e1 : ((a' : Int) == (a' : Int)) = true := beq_ rfl
      rw [e1] at heqb
      rw [decn_ (Nat.lt_irrefl _)] at hless
      go_wp2_with fail
      go_ret
      exact ⟨rfl, HZ.out⟩
    · have e1 : ((a' : Int) == (b' : Int)) = false := bne_ (by omega)
      have e2 : decide ((a' : Int) < (b' : Int)) = false := decn_ (by omega)
      rw [e1] at heqb
      rw [decn_ (show ¬ a' < b' by omega)] at hless
      have e3 := decn_ (show ¬ a' < b' by omega)
      have e4 := decn_ (show ¬ a' = b' by omega)
      go_wp2_with fail
      go_ret
      exact ⟨rfl, HZ.out⟩
end Go.Proofs.Ytgnpnlelkkkmeaa
