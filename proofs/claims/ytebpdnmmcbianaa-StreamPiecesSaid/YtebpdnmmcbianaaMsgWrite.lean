/-
  Package message: what write writes.
-/
import Derived.Test.YtebpdnmmcbianaaWriterU
import Derived.Test.YtebpdnmmcbianaaMsgVal
import Derived.Deep.CutBlock
import Derived.Deep.DeepCutAuto
set_option linter.unusedVariables false
set_option maxRecDepth 100000
namespace Go.Proofs.Ytebpdnmmcbianaa
open Go.RowKit

theorem WrIs.new {w w' : World} {W N : Nat} {v : Value} {bs : List UInt8} (h : WrIs w W N v bs) (k : New w w') : WrIs w' W N v bs :=
  ⟨k.bk h.1, own_tch h.2.1 k (fun b hb hs => by have := (own_base h.2.1 hb).2; omega), Nat.le_trans h.2.2 (Tch.size k)⟩

theorem writeFlag_ok (W N : Nat) (v : Value) (bs : List UInt8) (b : Bool) (w : World) (h : WrIs w W N v bs) (hl : bs.length ≤ 1000000) :
    Calls Try.prog 79 #[.pointer (some ⟨W, 0, none⟩), .bool b] w (RawU W N bs (encB b) w) := by
  have H := Lib.hid h
  clear h
  cases b
  · go_enter Try.func79, Try.ntmps79
    go_wp2_with (go_at_call 52; refine (numU_ok W N v bs 0 1 _ H.out (by omega) (by omega) (by omega) (by omega)).mono ?_; rintro e w' ⟨rfl, hv, ht⟩; have HV := Lib.hid hv; have HT := Lib.hid ht; clear hv ht)
    go_end0
    exact ⟨rfl, HV.out, HT.out⟩
  · go_enter Try.func79, Try.ntmps79
    go_wp2_with (go_at_call 52; refine (numU_ok W N v bs 1 1 _ H.out (by omega) (by omega) (by omega) (by omega)).mono ?_; rintro e w' ⟨rfl, hv, ht⟩; have HV := Lib.hid hv; have HT := Lib.hid ht; clear hv ht)
    go_end0
    exact ⟨rfl, HV.out, HT.out⟩

theorem writeId_ok (W N : Nat) (v : Value) (bs : List UInt8) (i : IdA) (w : World) (h : WrIs w W N v bs) (hi : IdR i) (hl : bs.length ≤ 1000000) :
    Calls Try.prog 80 #[.pointer (some ⟨W, 0, none⟩), .agg (idC i).toArray] w (RawU W N bs (encI i) w) := by
  obtain ⟨hi1, hi2⟩ := hi
  have hsz := str_size i.key
  have hW := h.1.lt
  obtain ⟨w1, hw1⟩ : ∃ w1, w1 = w.alloc (.cells #[.string (str i.key), .int .u64 i.ver] 98) := ⟨_, rfl⟩
  have hn : New w w1 := by rw [hw1]; exact (New.refl w).alloc _
  have hb : Bk w1 w.heap.size 98 #[.string (str i.key), .int .u64 i.ver] := by rw [hw1]; exact Bk.made w _ _
  have HB := Lib.hid hb
  have H1 := Lib.hid (h.new hn)
  have hu : TchU W N w w1 := by rw [hw1]; exact (TchU.refl W N w).alloc _
  have HU := Lib.hid hu
  have HW1 := Lib.hid hw1
  clear h hn hb hu hw1
  unfold idC
  go_enter Try.func80, Try.ntmps80
  go_wp2_with fail
  rw [← HW1.out]
  refine (textU_ok W N v bs (str i.key) w1 H1.out (by omega) (by omega)).mono ?_
  rintro e w2 ⟨rfl, ⟨v2, hv2⟩, ht2⟩
  have hb2 := ht2.bk HB.out (by omega) (by decide)
  have c1 := hb2.cell 1
  simp at c1
  have HV2 := Lib.hid hv2
  have HT2 := Lib.hid ht2
  clear hb2 hv2 ht2
  have hlen : (bs ++ (UInt8.ofNat (str i.key).size :: (str i.key).data.toList)).length ≤ 1000100 := by simp [str_data]; omega
  have HLEN := Lib.hid hlen
  clear hlen
  go_wp2_with fail
  refine (numU_ok W N v2 _ i.ver 8 _ HV2.out (by omega) (by omega) (by have := HLEN.out; omega) (by omega)).mono ?_
  rintro e w3 ⟨rfl, hv3, ht3⟩
  have HV3 := Lib.hid hv3
  have HT3 := Lib.hid ht3
  clear hv3 ht3
  go_wp2_with fail
  go_end0
  refine ⟨rfl, ?_, (HU.out.then HT2.out).then HT3.out⟩
  obtain ⟨v3, hv3⟩ := HV3.out
  refine ⟨v3, ?_⟩
  have e : bs ++ encI i = bs ++ (UInt8.ofNat (str i.key).size :: (str i.key).data.toList) ++ beL 8 i.ver := by simp [encI, encT, str_data, str_size]
  rw [e]
  exact hv3

/-- Two writes, one behind the other. -/
theorem RawU.then {W N : Nat} {bs c d : List UInt8} {w w1 w2 : World} {e e2 : Ending} (h : TchU W N w w1) (k : RawU W N (bs ++ c) d w1 e2 w2) : RawU W N bs (c ++ d) w e2 w2 := by
  obtain ⟨k1, k2, k3⟩ := k
  exact ⟨k1, by rw [← List.append_assoc]; exact k2, h.then k3⟩

theorem u64_nat {n : Int} {k : Nat} (h : n = (k : Int)) (hk : k < 18446744073709551616) : IntKind.u64.wrap n = (k : Int) := by subst h; exact IntWalk.u64_in _ (by omega)

theorem writeRec_ok (W N : Nat) (v : Value) (bs : List UInt8) (x : RecA) (w : World) (h : WrIs w W N v bs) (hx : RecR x) (hl : bs.length ≤ 900000) :
    Calls Try.prog 81 #[.pointer (some ⟨W, 0, none⟩), .agg (recC x).toArray] w (RawU W N bs (encR x) w) := by
  obtain ⟨hi, ho, ha, hd⟩ := hx
  have hsz := str_size x.data
  have hW := h.1.lt
  have hil : (encI x.id).length ≤ 100 := by simp [encI, encT, beL_length]; have := hi.1; omega
  obtain ⟨or, hor⟩ := Int.eq_ofNat_of_zero_le ho.1
  obtain ⟨ag, hag⟩ := Int.eq_ofNat_of_zero_le ha.1
  have horl : or < 256 ^ 2 := by have := ho.2; rw [hor, ← pow_i] at this; exact Int.ofNat_lt.1 this
  have hagl : ag < 256 ^ 2 := by have := ha.2; rw [hag, ← pow_i] at this; exact Int.ofNat_lt.1 this
  have e2 : (256 : Nat) ^ 2 = 65536 := by decide
  have uo := u64_nat hor (by omega)
  have ua := u64_nat hag (by omega)
  obtain ⟨w1, hw1⟩ : ∃ w1, w1 = w.alloc (.cells #[.string (str x.id.key), .int .u64 x.id.ver, .int .i64 x.origin, .int .i64 x.age, .bool x.gone, .string (str x.data)] 109) := ⟨_, rfl⟩
  have hn : New w w1 := by rw [hw1]; exact (New.refl w).alloc _
  have hb : Bk w1 w.heap.size 109 #[.string (str x.id.key), .int .u64 x.id.ver, .int .i64 x.origin, .int .i64 x.age, .bool x.gone, .string (str x.data)] := by rw [hw1]; exact Bk.made w _ _
  have HB := Lib.hid hb
  have H1 := Lib.hid (h.new hn)
  have hu : TchU W N w w1 := by rw [hw1]; exact (TchU.refl W N w).alloc _
  have HU := Lib.hid hu
  have HW1 := Lib.hid hw1
  have HI := Lib.hid hi
  have HO := Lib.hid horl
  have HA := Lib.hid hagl
  have UO := Lib.hid uo
  have UA := Lib.hid ua
  have ho2 : x.origin.toNat = or := by omega
  have ha2 : x.age.toNat = ag := by omega
  have HO2 := Lib.hid ho2
  have HA2 := Lib.hid ha2
  clear h hn hb hu hw1 hi horl hagl uo ua hor hag e2 ho ha ho2 ha2
  unfold recC
  go_enter Try.func81, Try.ntmps81
  go_wp2_with fail
  rw [← HW1.out]
  refine (writeId_ok W N v bs x.id w1 H1.out HI.out (by omega)).mono ?_
  rintro e w2 ⟨rfl, ⟨v2, hv2⟩, ht2⟩
  have hb2 := ht2.bk HB.out (by omega) (by decide)
  have HB2 := Lib.hid hb2
  have HV2 := Lib.hid hv2
  have HT2 := Lib.hid (HU.out.then ht2)
  have d2 := hb2.cell 2
  simp at d2
  clear hb2 hv2 ht2
  go_wp2_with fail
  rw [UO.out]
  refine (numU_ok W N v2 _ or 2 _ HV2.out (by omega) HO.out (by simp; omega) (by have := HO.out; omega)).mono ?_
  rintro e w3 ⟨rfl, ⟨v3, hv3⟩, ht3⟩
  have hb3 := ht3.bk HB2.out (by omega) (by decide)
  have HB3 := Lib.hid hb3
  have HV3 := Lib.hid hv3
  have HT3 := Lib.hid (HT2.out.then ht3)
  have d3 := hb3.cell 3
  simp at d3
  clear hb3 hv3 ht3 d2
  go_wp2_with fail
  rw [UA.out]
  refine (numU_ok W N v3 _ ag 2 _ HV3.out (by omega) HA.out (by simp [beL_length]; omega) (by have := HA.out; omega)).mono ?_
  rintro e w4 ⟨rfl, ⟨v4, hv4⟩, ht4⟩
  have hb4 := ht4.bk HB3.out (by omega) (by decide)
  have HB4 := Lib.hid hb4
  have HV4 := Lib.hid hv4
  have HT4 := Lib.hid (HT3.out.then ht4)
  have d4 := hb4.cell 4
  simp at d4
  clear hb4 hv4 ht4 d3
  go_wp2_with fail
  refine (writeFlag_ok W N v4 _ x.gone _ HV4.out (by simp [beL_length]; omega)).mono ?_
  rintro e w5 ⟨rfl, ⟨v5, hv5⟩, ht5⟩
  have hb5 := ht5.bk HB4.out (by omega) (by decide)
  have HV5 := Lib.hid hv5
  have HT5 := Lib.hid (HT4.out.then ht5)
  have d5 := hb5.cell 5
  simp at d5
  clear hb5 hv5 ht5 d4
  go_wp2_with fail
  refine (textU_ok W N v5 _ (str x.data) _ HV5.out (by omega) (by simp [beL_length, encB]; omega)).mono ?_
  rintro e w6 ⟨rfl, ⟨v6, hv6⟩, ht6⟩
  have HV6 := Lib.hid hv6
  have HT6 := Lib.hid (HT5.out.then ht6)
  clear hv6 ht6
  go_wp2_with fail
  go_end0
  refine ⟨rfl, ⟨v6, ?_⟩, HT6.out⟩
  have e : bs ++ encR x = bs ++ encI x.id ++ beL 2 or ++ beL 2 ag ++ encB x.gone ++ (UInt8.ofNat (str x.data).size :: (str x.data).data.toList) := by
    simp only [encR, encT, str_data, str_size, HO2.out, HA2.out, List.append_assoc]
  rw [e]
  exact HV6.out
end Go.Proofs.Ytebpdnmmcbianaa
