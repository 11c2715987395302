/-
  PackWrites: the parts by definition; the reference's Num.
-/
import Derived.Test.YtgnpnlelkkkmeaaPackLaw
import Derived.Test.YtgnpnlelkkkmeaaParts
import Derived.Deep.CutBlock
import Derived.Deep.DeepCutAuto
import Derived.Deep.RegionWith
set_option linter.unusedVariables false
namespace Go.Proofs.Ytgnpnlelkkkmeaa
open Go.RowKit

theorem byte_str (w : World) (x : Int) (h : 0 ≤ x ∧ x < 256) : (convert 28 9 (.slice (some ⟨w.heap.size, 0, none⟩) 1 1)).run Try.prog (w.alloc (.cells #[.int .u8 x] 5)) = .ok (.string (str [UInt8.ofNat x.toNat])) (w.alloc (.cells #[.int .u8 x] 5)) := by
  refine run_convert_bytes_back (w.alloc (.cells #[.int .u8 x] 5)) _ _ _ _ 1 [UInt8.ofNat x.toNat] Try.underlying28 Try.underlying5 Try.underlying9 (fun j hj => ?_)
  simp at hj
  subst hj
  rw [Addr.add_lit, (Bk.made w 5 #[.int .u8 x]).cell]
  simp
  omega

theorem str_append (l r : List UInt8) : str l ++ str r = str (l ++ r) := by
  have h : (str l ++ str r).data.toList = l ++ r := by simp [str, ByteArray.data_append]
  rw [← str_of (str l ++ str r), h]
theorem byte_mod (m : Nat) : UInt8.ofNat (m % 256) = UInt8.ofNat m := by
  rw [← UInt8.toNat_inj]; simp

def NumR (s : List UInt8) (w : World) (e : Ending) (w' : World) : Prop := e = .returned (.string (str s)) ∧ Tch (fun b => w.heap.size ≤ b) w w'
theorem refnum_size (n : Nat) (k : Int) (w : World) (hk : ¬ (1 ≤ k ∧ k ≤ 8)) : Calls Try.prog 11 #[.int .u64 n, .int .i64 k] w (NumR [] w) := by
  go_enter Try.func11, Try.ntmps11
  by_cases h1 : k < 1
  · go_wp2_with fail
    go_ret
    exact ⟨rfl, Tch.refl _ _⟩
  · have h2 : 8 < k := by omega
    clear hk
    go_wp2_with fail
    go_ret
    exact ⟨rfl, Tch.refl _ _⟩

theorem refnum (n k : Nat) (w : World) (hk : 1 ≤ k ∧ k ≤ 8) (h64 : n ≤ 18446744073709551615) :
    Calls Try.prog 11 #[.int .u64 n, .int .i64 k] w (NumR (if n < 256 ^ k then beL k n else []) w) := by
  obtain ⟨hk1, hk2⟩ := hk
  obtain ⟨res, hres⟩ : ∃ res, res = if n < 256 ^ k then beL k n else [] := ⟨_, rfl⟩
  rw [← hres]
  have HRES := Lib.hid hres
  clear hres
  have d1 : decide ((k : Int) < 1) = false := decn_ (by omega)
  have d2 : decide ((8 : Int) < k) = false := decn_ (by omega)
  have d3 : ¬ (k : Int) < 1 := by omega
  have d4 : ¬ (8 : Int) < k := by omega
  go_enter Try.func11, Try.ntmps11
  go_wp2_with fail
  go_loopw [0, 5, 6] (fun vn vs vi wr => ∃ i : Nat, i ≤ k ∧ vi = .int .i64 i ∧ vn = .int .u64 ((n / 256 ^ i : Nat) : Int) ∧ vs = .string (str (beL i n)) ∧ Hid (Tch (fun b => w.heap.size ≤ b) w wr)) (fun _ _ vi _ => k - (intOf vi).toNat)
  case atStart => exact ⟨0, by omega, rfl, by simp, rfl, Tch.refl _ _⟩
  case round =>
    obtain ⟨i, hi, rfl, rfl, rfl, HT⟩ := hrel
    obtain ⟨m, hm⟩ : ∃ m, m = n / 256 ^ i := ⟨_, rfl⟩
    have hml : m ≤ 18446744073709551615 := by have := Nat.div_le_self n (256 ^ i); omega
    rw [← hm]
    by_cases hlt : i < k
    · have hbs := byte_str wr ((m : Int) % 256) (by omega)
      have hmn : ((m : Int) % 256).toNat = m % 256 := by omega
      rw [hmn] at hbs
      clear hmn
      have hnext : n / 256 ^ (i + 1) = m / 256 := by rw [hm, Nat.pow_succ, Nat.div_div_eq_div_mul]
      have hs1 : (str (beL i n)).size = i := by rw [str_size, beL_length]
      have hs2 : (str [UInt8.ofNat (m % 256)]).size = 1 := rfl
      have HM := Lib.hid hm
      have HX := Lib.hid hnext
      clear hm hnext
      go_wp2_with fail
      go_roundw
      case rel =>
        refine ⟨i + 1, by omega, by go_num, ?_, ?_, HT.out.alloc _⟩
        · rw [HX.out]; rfl
        · rw [str_append, beL, ← HM.out, byte_mod]
          rfl
      case measure => simp [intOf]; omega
    · obtain rfl : i = k := by omega
      have HM := Lib.hid hm
      have hp : 0 < 256 ^ i := Nat.pow_pos (by omega)
      by_cases hn : n < 256 ^ i
      · have h0 : m = 0 := by rw [hm]; exact Nat.div_eq_of_lt hn
        have h0' : (m : Int) = 0 := by omega
        rw [h0']
        clear hm h0 h0'
        go_wp2_with fail
        go_ret
        refine ⟨?_, HT.out⟩
        have := HRES.out
        rw [if_pos hn] at this
        rw [this]
        rfl
      · have h0 : 0 < m := by rw [hm]; exact Nat.div_pos (by omega) hp
        have h0' : (0 : Int) < (m : Int) := by omega
        clear hm h0
        go_wp2_with fail
        go_ret
        refine ⟨?_, HT.out⟩
        have := HRES.out
        rw [if_neg hn] at this
        rw [this]
        rfl
end Go.Proofs.Ytgnpnlelkkkmeaa
