/-
  The law's 'told'; the reference's Length.
-/
import Derived.Test.YtebpdnmmcbianaaStrFeedD
import Derived.BigRegion
import Derived.Deep.RegionHeld3
set_option linter.unusedVariables false
set_option linter.unusedSimpArgs false
set_option maxRecDepth 100000
namespace Go.Proofs.Ytebpdnmmcbianaa
open Go.RowKit

theorem kind14 (z : Int) : (wrap64 (z.tmod 14 + 14)).tmod 14 = z % 14 := by
  have h : z.tmod 14 = z % 14 ∨ z.tmod 14 = z % 14 - 14 := by
    rcases Int.le_total 0 z with h | h
    · exact .inl (Int.tmod_eq_emod_of_nonneg h)
    · obtain ⟨y, rfl⟩ : ∃ y, z = -y := ⟨-z, by omega⟩
      rw [Int.neg_tmod, Int.tmod_eq_emod_of_nonneg (by omega)]
      omega
  have hw : wrap64 (z.tmod 14 + 14) = z.tmod 14 + 14 := by unfold wrap64; omega
  rw [hw, Int.tmod_eq_emod_of_nonneg (by omega)]
  omega
theorem and_node (n : Int) : 0 ≤ bits BinOp.and IntKind.i64 n 65535 ∧ bits BinOp.and IntKind.i64 n 65535 ≤ 65535 := by
  obtain ⟨m, hm⟩ : ∃ m : Nat, m = ((BitVec.ofInt 64 n).toNat &&& 65535) := ⟨_, rfl⟩
  have h : m ≤ 65535 := by rw [hm]; exact Nat.and_le_right
  have e : bits BinOp.and IntKind.i64 n 65535 = IntKind.i64.wrap (m : Int) := by rw [hm]; rfl
  rw [e, IntKind.wrap_i64]
  omega
/-- The message that is told. -/
def toldM (k n : Int) (s : List UInt8) : MsgA := ⟨1 + k % 14, bits .and .i64 n 65535, 0, false, [], [⟨s.take 64, 9⟩], []⟩
theorem told_may (k n : Int) (s : List UInt8) : May (toldM k n s) := by
  refine ⟨⟨by simp [toldM]; omega, by simp [toldM]; omega⟩, and_node n, ⟨by simp [toldM], by simp [toldM]⟩, by simp [toldM], by simp [toldM], by simp [toldM], by simp [toldM], ?_, by simp [toldM]⟩
  intro i hi
  simp [toldM] at hi
  subst hi
  simp [IdOk]
  omega
theorem told_wf (k n : Int) (s : List UInt8) : Wf (toldM k n s) := ⟨by intro i hi; simp [toldM] at hi; subst hi; simp, by simp [toldM]⟩
theorem told_len (k n : Int) (s : List UInt8) : (encM (toldM k n s)).length ≤ 200 := by
  have : (s.take 64).length ≤ 64 := by rw [List.length_take]; omega
  simp [encM, toldM, encL, encB, encI, encT, beL_length]
  omega
theorem told_enc (k n : Int) (s : List UInt8) : encE (toldM k n s) = (encM (toldM k n s), 0) := encE_ok (told_may k n s) (by have := told_len k n s; omega)
theorem told_frame (k n : Int) (s : List UInt8) : frameE (toldM k n s) = (frameL (toldM k n s), 0) := by simp [frameE, told_enc]
theorem frameL_len (m : MsgA) : (frameL m).length = 2 + (encM m).length := by simp [frameL, beL_length]

theorem third_cell (w : World) (A B : Obj) (t : TypeId) (cs : Array Value) (c : Nat) : (((w.alloc A).alloc B).alloc (.cells cs t)).cell? ⟨w.heap.size + 1 + 1, c, none⟩ = cs[c]? := by
  have := (Bk.made ((w.alloc A).alloc B) t cs).cell c
  rw [World.size_alloc, World.size_alloc] at this
  exact this
def ToldR (k n : Int) (s : ByteArray) (w : World) (e : Ending) (w' : World) : Prop :=
  ∃ v, e = .returned (.agg (msgC (toldM k n s.data.toList) v)) ∧ MsgIs w' (fun b => w.heap.size ≤ b) (toldM k n s.data.toList) v ∧ New w w'
set_option maxHeartbeats 1000000 in
theorem told_ok (k n : Int) (s : ByteArray) (hk : -9223372036854775808 ≤ k ∧ k ≤ 9223372036854775807) (hn : -9223372036854775808 ≤ n ∧ n ≤ 9223372036854775807) (w : World) :
    Calls Try.prog 13 #[.agg #[.int .i64 k, .int .i64 n, .string s]] w (ToldR k n s w) := by
  have hk14 := kind14 k
  obtain ⟨kk, hkk⟩ : ∃ kk, kk = k % 14 := ⟨_, rfl⟩
  rw [← hkk] at hk14
  have b1 : 0 ≤ kk := by omega
  have b2 : kk < 14 := by omega
  have HKK := Lib.hid hkk
  clear hkk
  go_enter Try.func13, Try.ntmps13
  go_upto_region 1 with fail
  go_region
  obtain ⟨mm, hmm⟩ : ∃ mm, mm = (if 64 < (s.size : Int) then 64 else (s.size : Int)) := ⟨_, rfl⟩
  rw [← hmm]
  have HMM := Lib.hid hmm
  clear hmm
  go_wp2_with fail
  have ht : str (s.data.toList.take 64) = s.extract 0 mm.toNat := by
    have hz : s.data.size = s.size := rfl
    obtain ⟨m, hm⟩ : ∃ m, m = mm.toNat := ⟨_, rfl⟩
    rw [← hm]
    have hm2 : m = min 64 s.size := by rw [hm, HMM.out]; split <;> omega
    refine toList_inj ?_
    rw [ByteArray.toList_eq, ByteArray.toList_eq]
    simp [str, ByteArray.data_extract]
    first | done | omega | (rw [List.take_eq_take_iff]; simp; omega)
  rw [← ht, HKK.out]
  refine bodyPost_ret (v := .agg (msgC (toldM k n s.data.toList) ⟨.slice none 0 0, .slice (some ⟨w.heap.size + 1 + 1, 0, none⟩) 1 1, .slice none 0 0⟩)) (by simp [results, Try.results13, go_sem, msgC, toldM]) rfl ⟨_, rfl, ⟨Slk.nil, ?_, Slk.nil⟩, ?_⟩
  · show Slk idC 2 _ _ _ [⟨s.data.toList.take 64, 9⟩]
    generalize s.data.toList.take 64 = tk
    refine ⟨_, 1, rfl, by simp, by decide, (fun h => by cases h), fun _ => ⟨w.heap.size + 1 + 1, 0, rfl, by first | omega | simp, by simp, ?_⟩⟩
    intro j hj c u hu
    obtain rfl : j = 0 := by simpa using hj
    refine Eq.trans ?_ (show #[Value.string (str tk), .int .u64 9][c]? = some u from by simpa [idC] using hu)
    have e0 : 0 + 0 * 2 + c = c := by omega
    rw [e0]
    exact third_cell w _ _ _ _ c
  · exact (((New.refl w).alloc _).alloc _ |>.alloc _).drew
def LenR (n : Nat) (w : World) (e : Ending) (w' : World) : Prop := e = .returned (.string (str (beL 2 n))) ∧ New w w'
set_option maxHeartbeats 1000000 in
theorem length_ok (n : Nat) (hn : n < 65536) (w : World) : Calls Try.prog 16 #[.int .i64 n] w (LenR n w) := by
  have hq : ((n : Int)).tdiv 256 = ((n / 256 : Nat) : Int) := by rw [Int.tdiv_eq_ediv_of_nonneg (by omega)]; omega
  have hr : ((n : Int)).tmod 256 = ((n % 256 : Nat) : Int) := by rw [Int.tmod_eq_emod_of_nonneg (by omega)]; omega
  obtain ⟨a, ha⟩ : ∃ a : UInt8, a = UInt8.ofNat (n / 256) := ⟨_, rfl⟩
  obtain ⟨b, hb⟩ : ∃ b : UInt8, b = UInt8.ofNat (n % 256) := ⟨_, rfl⟩
  have ua : (a.toNat : Int) = (n : Int) / 256 := by rw [ha]; simp; omega
  have ub : (b.toNat : Int) = (n : Int) % 256 := by rw [hb]; simp
  have HL := Lib.hid (show beL 2 n = [a, b] by rw [ha, hb]; simp [beL]; exact UInt8.toNat_inj.1 (by simp))
  have hcv := run_convert_bytes_back (P := Try.prog) (w.alloc (.cells #[.int .u8 a.toNat, .int .u8 b.toNat] 5)) 23 9 5 ⟨w.heap.size, 0, none⟩ 2 [a, b] Try.underlying23 Try.underlying5 Try.underlying9 (fun j hj => by
    rw [Addr.add_lit, (Bk.made w _ _).cell]
    have : j = 0 ∨ j = 1 := by simp at hj; omega
    rcases this with rfl | rfl <;> rfl)
  rw [ua, ub] at hcv
  have e2 : [a, b].length = 2 := rfl
  rw [e2] at hcv
  have HCV := Lib.hid hcv
  clear ha hb hq hr ua ub e2
  go_enter Try.func16, Try.ntmps16
  go_wp2_with fail
  go_ret
  exact ⟨by rw [HL.out]; rfl, (New.refl w).alloc _⟩
end Go.Proofs.Ytebpdnmmcbianaa
