/-
  The document's messages: Num, text, bit, May.
-/
import Derived.Test.YteaeodinllpfbaaMessageParsesCore
import Derived.Deep.RegionWith
import Derived.Deep.RegionHeld3
set_option linter.unusedVariables false
set_option linter.unusedSimpArgs false
set_option maxRecDepth 100000
namespace Go.Proofs.Yteaeodinllpfbaa
open Go.RowKit

theorem byte_str (w : World) (x : Int) (h : 0 ≤ x ∧ x < 256) : (convert 47 9 (.slice (some ⟨w.heap.size, 0, none⟩) 1 1)).run Try.prog (w.alloc (.cells #[.int .u8 x] 5)) = .ok (.string (str [UInt8.ofNat x.toNat])) (w.alloc (.cells #[.int .u8 x] 5)) := by
  refine run_convert_bytes_back (w.alloc (.cells #[.int .u8 x] 5)) _ _ _ _ 1 [UInt8.ofNat x.toNat] Try.underlying47 Try.underlying5 Try.underlying9 (fun j hj => ?_)
  simp at hj
  subst hj
  rw [Addr.add_lit, (Bk.made w 5 #[.int .u8 x]).cell]
  simp
  omega

theorem byte_mod (m : Nat) : UInt8.ofNat (m % 256) = UInt8.ofNat m := by
  rw [← UInt8.toNat_inj]; simp

def NumR (s : List UInt8) (w : World) (e : Ending) (w' : World) : Prop := e = .returned (.string (str s)) ∧ Tch (fun b => w.heap.size ≤ b) w w'
theorem refnum_size (n : Nat) (k : Int) (w : World) (hk : ¬ (1 ≤ k ∧ k ≤ 8)) : Calls Try.prog 26 #[.int .u64 n, .int .i64 k] w (NumR [] w) := by
  go_enter Try.func26, Try.ntmps26
  by_cases h1 : k < 1
  · go_wp2_with fail
    go_ret
    exact ⟨rfl, Tch.refl _ _⟩
  · have h2 : 8 < k := by omega
    clear hk
    go_wp2_with fail
    go_ret
    exact ⟨rfl, Tch.refl _ _⟩

theorem refnum (n k : Nat) (w : World) (hk : 1 ≤ k ∧ k ≤ 8) (h64 : n ≤ 18446744073709551615) :
    Calls Try.prog 26 #[.int .u64 n, .int .i64 k] w (NumR (if n < 256 ^ k then beL k n else []) w) := by
  obtain ⟨hk1, hk2⟩ := hk
  obtain ⟨res, hres⟩ : ∃ res, res = if n < 256 ^ k then beL k n else [] := ⟨_, rfl⟩
  rw [← hres]
  have HRES := Lib.hid hres
  clear hres
  have d1 : decide ((k : Int) < 1) = false := decn_ (by omega)
  have d2 : decide ((8 : Int) < k) = false := decn_ (by omega)
  have d3 : ¬ (k : Int) < 1 := by omega
  have d4 : ¬ (8 : Int) < k := by omega
  go_enter Try.func26, Try.ntmps26
  go_wp2_with fail
  go_loopw [0, 5, 6] (fun vn vs vi wr => ∃ i : Nat, i ≤ k ∧ vi = .int .i64 i ∧ vn = .int .u64 ((n / 256 ^ i : Nat) : Int) ∧ vs = .string (str (beL i n)) ∧ Hid (Tch (fun b => w.heap.size ≤ b) w wr)) (fun _ _ vi _ => k - (intOf vi).toNat)
  case atStart => exact ⟨0, by omega, rfl, by simp, rfl, Tch.refl _ _⟩
  case round =>
    obtain ⟨i, hi, rfl, rfl, rfl, HT⟩ := hrel
    obtain ⟨m, hm⟩ : ∃ m, m = n / 256 ^ i := ⟨_, rfl⟩
    have hml : m ≤ 18446744073709551615 := by have := Nat.div_le_self n (256 ^ i); omega
    rw [← hm]
    by_cases hlt : i < k
    · have hbs := byte_str wr ((m : Int) % 256) (by omega)
      have hmn : ((m : Int) % 256).toNat = m % 256 := by omega
      rw [hmn] at hbs
      clear hmn
      have hnext : n / 256 ^ (i + 1) = m / 256 := by rw [hm, Nat.pow_succ, Nat.div_div_eq_div_mul]
      have hs1 : (str (beL i n)).size = i := by rw [str_size, beL_length]
      have hs2 : (str [UInt8.ofNat (m % 256)]).size = 1 := rfl
      have HM := Lib.hid hm
      have HX := Lib.hid hnext
      clear hm hnext
      go_wp2_with fail
      go_roundw
      case rel =>
        refine ⟨i + 1, by omega, by go_num, ?_, ?_, HT.out.alloc _⟩
        · rw [HX.out]; rfl
        · rw [str_app, beL, ← HM.out, byte_mod]
          rfl
      case measure => simp [intOf]; omega
    · obtain rfl : i = k := by omega
      have HM := Lib.hid hm
      have hp : 0 < 256 ^ i := Nat.pow_pos (by omega)
      by_cases hn : n < 256 ^ i
      · have h0 : m = 0 := by rw [hm]; exact Nat.div_eq_of_lt hn
        have h0' : (m : Int) = 0 := by omega
        rw [h0']
        clear hm h0 h0'
        go_wp2_with fail
        go_ret
        refine ⟨?_, HT.out⟩
        have := HRES.out
        rw [if_pos hn] at this
        rw [this]
        rfl
      · have h0 : 0 < m := by rw [hm]; exact Nat.div_pos (by omega) hp
        have h0' : (0 : Int) < (m : Int) := by omega
        clear hm h0
        go_wp2_with fail
        go_ret
        refine ⟨?_, HT.out⟩
        have := HRES.out
        rw [if_neg hn] at this
        rw [this]
        rfl

theorem bit_ok (b : Bool) (w : World) : Calls Try.prog 27 #[.bool b] w fun e w' => e = .returned (.string (str (encB b))) ∧ w = w' := by
  cases b
  · go_enter Try.func27, Try.ntmps27
    go_wp2_with fail
    go_ret
    exact ⟨rfl, rfl⟩
  · go_enter Try.func27, Try.ntmps27
    go_wp2_with fail
    go_ret
    exact ⟨rfl, rfl⟩
theorem text5_ok (t : List UInt8) (w : World) (h : t.length ≤ 255) : Calls Try.prog 28 #[.string (str t)] w (NumR (encT t) w) := by
  have hsz := str_size t
  have hbs := byte_str w ((str t).size : Int) (by omega)
  have e1 : ((str t).size : Int).toNat = t.length := by omega
  rw [e1] at hbs
  have hwr : IntKind.u8.wrap ((str t).size : Int) = ((str t).size : Int) := by rw [IntKind.wrap_u8]; omega
  have hs1 : (str [UInt8.ofNat t.length]).size = 1 := rfl
  have hs2 : (str t).size ≤ 255 := by omega
  have HE := Lib.hid (str_app [UInt8.ofNat t.length] t)
  clear hsz e1
  go_enter Try.func28, Try.ntmps28
  go_wp2_with fail
  go_ret
  exact ⟨congrArg (fun s => Ending.returned (.string s)) HE.out, (Tch.refl _ w).alloc _⟩

set_option maxHeartbeats 2000000 in
/-- Which messages may be. -/
theorem rmay_ok (m : MsgA) (v : MsgV) (S : Nat → Prop) (w : World) (h : MsgIs w S m v) :
    Calls Try.prog 25 #[.agg (msgC m v)] w fun e w' => e = .returned (.bool (decide (May m))) ∧ New w w' := by
  obtain ⟨an, cn, ai, ci, ar, cr, rfl⟩ := h.shape
  obtain ⟨hn, hi, hr⟩ := h
  have hcn : m.nodes.length ≤ 9223372036854775807 := by obtain ⟨_, _, _, h1, h2⟩ := hn.shape; exact Nat.le_trans h1 (Nat.le_trans h2 (by decide))
  have hci : m.ids.length ≤ 9223372036854775807 := by obtain ⟨_, _, _, h1, h2⟩ := hi.shape; exact Nat.le_trans h1 (Nat.le_trans h2 (by decide))
  have hcr : m.recs.length ≤ 9223372036854775807 := by obtain ⟨_, _, _, h1, h2⟩ := hr.shape; exact Nat.le_trans h1 (Nat.le_trans h2 (by decide))
  obtain ⟨w1, hw1⟩ : ∃ w1, w1 = w.alloc (.cells (msgC m ⟨.slice an m.nodes.length cn, .slice ai m.ids.length ci, .slice ar m.recs.length cr⟩) 34) := ⟨_, rfl⟩
  have hn1 : New w w1 := by rw [hw1]; exact (New.refl w).alloc _
  have bX : Bk w1 w.heap.size 34 (msgC m ⟨.slice an m.nodes.length cn, .slice ai m.ids.length ci, .slice ar m.recs.length cr⟩) := by rw [hw1]; exact Bk.made w _ _
  have HNn := Lib.hid (hn1.slk hn)
  have HNi := Lib.hid (hn1.slk hi)
  have HNr := Lib.hid (hn1.slk hr)
  have HN1 := Lib.hid hn1
  have HX := Lib.hid bX
  have HW1 := Lib.hid hw1
  clear hn hi hr hn1 bX hw1
  simp only [msgC]
  obtain ⟨t, ht⟩ : ∃ t, t = decide (May m) := ⟨_, rfl⟩
  rw [← ht]
  have HT := Lib.hid ht
  clear ht
  have no : ¬ May m → ∀ (w' : World) (u : Value), u = .bool false → New w w' → Ending.returned u = .returned (.bool t) ∧ New w w' := fun h1 w' u h2 h3 => ⟨by rw [HT.out, decn_ h1, h2], h3⟩
  have NO := Lib.hid no
  clear no
  go_enter Try.func25, Try.ntmps25
  by_cases h0 : m.kind < 1
  · have hm : ¬ May m := fun h => by obtain ⟨p1, p2, p3, p4, p5, p6, _⟩ := h; omega
    have HM := Lib.hid hm
    clear hm
    go_wp2_with fail
    go_ret
    exact NO.out HM.out _ _ rfl ((New.refl w).alloc _)
  by_cases h1 : 14 < m.kind
  · have hm : ¬ May m := fun h => by obtain ⟨p1, p2, p3, p4, p5, p6, _⟩ := h; omega
    have HM := Lib.hid hm
    clear hm
    go_wp2_with fail
    go_ret
    exact NO.out HM.out _ _ rfl ((New.refl w).alloc _)
  by_cases h2 : m.node < 0
  · have hm : ¬ May m := fun h => by obtain ⟨p1, p2, p3, p4, p5, p6, _⟩ := h; omega
    have HM := Lib.hid hm
    clear hm
    go_wp2_with fail
    go_ret
    exact NO.out HM.out _ _ rfl ((New.refl w).alloc _)
  by_cases h3 : 65535 < m.node
  · have hm : ¬ May m := fun h => by obtain ⟨p1, p2, p3, p4, p5, p6, _⟩ := h; omega
    have HM := Lib.hid hm
    clear hm
    go_wp2_with fail
    go_ret
    exact NO.out HM.out _ _ rfl ((New.refl w).alloc _)
  by_cases h4 : m.walk < 0
  · have hm : ¬ May m := fun h => by obtain ⟨p1, p2, p3, p4, p5, p6, _⟩ := h; omega
    have HM := Lib.hid hm
    clear hm
    go_wp2_with fail
    go_ret
    exact NO.out HM.out _ _ rfl ((New.refl w).alloc _)
  by_cases h5 : 15 < m.walk
  · have hm : ¬ May m := fun h => by obtain ⟨p1, p2, p3, p4, p5, p6, _⟩ := h; omega
    have HM := Lib.hid hm
    clear hm
    go_wp2_with fail
    go_ret
    exact NO.out HM.out _ _ rfl ((New.refl w).alloc _)
  by_cases h6 : (64 : Int) < (m.nodes.length : Int)
  · have hm : ¬ May m := fun h => by obtain ⟨p1, p2, p3, p4, p5, p6, _⟩ := h; omega
    have HM := Lib.hid hm
    clear hm
    go_wp2_with fail
    go_ret
    exact NO.out HM.out _ _ rfl ((New.refl w).alloc _)
  by_cases h7 : (64 : Int) < (m.ids.length : Int)
  · have hm : ¬ May m := fun h => by obtain ⟨p1, p2, p3, p4, p5, p6, _⟩ := h; omega
    have HM := Lib.hid hm
    clear hm
    go_wp2_with fail
    go_ret
    exact NO.out HM.out _ _ rfl ((New.refl w).alloc _)
  by_cases h8 : (16 : Int) < (m.recs.length : Int)
  · have hm : ¬ May m := fun h => by obtain ⟨p1, p2, p3, p4, p5, p6, _⟩ := h; omega
    have HM := Lib.hid hm
    clear hm
    go_wp2_with fail
    go_ret
    exact NO.out HM.out _ _ rfl ((New.refl w).alloc _)
  go_upto_region 3 with fail
  have hwx := HW1.out
  simp only [msgC] at hwx
  rw [← hwx]
  clear hwx
  have HH := Lib.hid (show ((1 ≤ m.kind ∧ m.kind ≤ 14) ∧ (0 ≤ m.node ∧ m.node ≤ 65535) ∧ (0 ≤ m.walk ∧ m.walk ≤ 15) ∧ m.nodes.length ≤ 64 ∧ m.ids.length ≤ 64 ∧ m.recs.length ≤ 16) by omega)
  clear h0 h1 h2 h3 h4 h5 h6 h7 h8 HW1
  have x4 := HX.out.cell 4
  simp [msgC] at x4
  go_wp2_with fail
  go_loopw [3] (fun vj wr => ∃ j : Nat, vj = .int .i64 j ∧ j ≤ m.nodes.length ∧ Hid (∀ x ∈ m.nodes.take j, NodeOk x) ∧ Hid (New w1 wr)) (fun vj _ => m.nodes.length - (intOf vj).toNat)
  case atStart => exact ⟨0, rfl, by omega, Lib.hid (by simp), Lib.hid (New.refl _)⟩
  case round =>
    obtain ⟨j, rfl, hj, HP, HNr1⟩ := hrel
    have x4 := (HNr1.out.bk HX.out).cell 4
    simp [msgC] at x4
    by_cases hlt : j < m.nodes.length
    · obtain ⟨y, hy⟩ : ∃ y, y = m.nodes[j] := ⟨_, rfl⟩
      obtain ⟨b, off, rfl, _, hbl, hc⟩ := (HNr1.out.slk HNn.out).at_ (by omega)
      have c0 := hc j hlt 0 (.int .i64 y) (by rw [← hy]; rfl)
      simp only [Nat.mul_one, Nat.add_zero] at c0
      have hd : m.nodes.take (j + 1) = m.nodes.take j ++ [y] := by rw [List.take_add_one, List.getElem?_eq_getElem hlt, ← hy]; rfl
      have hmem : y ∈ m.nodes := by rw [hy]; exact List.getElem_mem _
      have HD := Lib.hid hd
      have HMEM := Lib.hid hmem
      clear hd hc hy hmem
      by_cases h1 : y < 1
      · have hm : ¬ May m := fun h => by have := (h.2.2.2.2.2.2.1 y HMEM.out).1; omega
        have HM := Lib.hid hm
        clear hm
        go_wp2_with fail
        go_ret
        exact NO.out HM.out _ _ rfl (HN1.out.then HNr1.out)
      · by_cases h2 : 65535 < y
        · have hm : ¬ May m := fun h => by have := (h.2.2.2.2.2.2.1 y HMEM.out).2; omega
          have HM := Lib.hid hm
          clear hm
          go_wp2_with fail
          go_ret
          exact NO.out HM.out _ _ rfl (HN1.out.then HNr1.out)
        · have hok : NodeOk y := ⟨by omega, by omega⟩
          have HOK := Lib.hid hok
          clear hok
          go_wp2_with fail
          go_roundw
          case rel =>
            refine ⟨j + 1, by go_num, by omega, Lib.hid (fun z hz => ?_), HNr1⟩
            rw [HD.out] at hz
            rcases List.mem_append.1 hz with hz | hz
            · exact HP.out z hz
            · obtain rfl : z = y := by simpa using hz
              exact HOK.out
          case measure => simp [intOf]; omega
    · obtain rfl : j = m.nodes.length := by omega
      have hp := HP.out
      rw [List.take_of_length_le (Nat.le_refl _)] at hp
      have HP1 := Lib.hid hp
      clear hp HP
      obtain ⟨wo, rfl⟩ : ∃ z, z = wr := ⟨_, rfl⟩
      have x5 := (HNr1.out.bk HX.out).cell 5
      simp [msgC] at x5
      go_wp2_with fail
      go_loopw [4] (fun vj wr => ∃ j : Nat, vj = .int .i64 j ∧ j ≤ m.ids.length ∧ Hid (∀ x ∈ m.ids.take j, IdOk x) ∧ Hid (New w1 wr)) (fun vj _ => m.ids.length - (intOf vj).toNat)
      case atStart => exact ⟨0, rfl, by omega, Lib.hid (by simp), HNr1⟩
      case round =>
        obtain ⟨j, rfl, hj, HP, HNr2⟩ := hrel
        have x5 := (HNr2.out.bk HX.out).cell 5
        simp [msgC] at x5
        by_cases hlt : j < m.ids.length
        · obtain ⟨y, hy⟩ : ∃ y, y = m.ids[j] := ⟨_, rfl⟩
          obtain ⟨b, off, rfl, _, hbl, hc⟩ := (HNr2.out.slk HNi.out).at_ (by omega)
          have c0 := hc j hlt 0 (.string (str y.key)) (by rw [← hy]; rfl)
          simp only [Nat.add_zero] at c0
          have hd : m.ids.take (j + 1) = m.ids.take j ++ [y] := by rw [List.take_add_one, List.getElem?_eq_getElem hlt, ← hy]; rfl
          have hmem : y ∈ m.ids := by rw [hy]; exact List.getElem_mem _
          have HD := Lib.hid hd
          have HMEM := Lib.hid hmem
          have HSZ := Lib.hid (str_size y.key)
          clear hd hc hy hmem
          by_cases h1 : 64 < (str y.key).size
          · have hm : ¬ May m := fun h => by have := h.2.2.2.2.2.2.2.1 y HMEM.out; unfold IdOk at this; have := HSZ.out; omega
            have HM := Lib.hid hm
            clear hm
            go_wp2_with fail
            go_ret
            exact NO.out HM.out _ _ rfl (HN1.out.then HNr2.out)
          · have hok : IdOk y := by unfold IdOk; have := HSZ.out; omega
            have HOK := Lib.hid hok
            clear hok
            go_wp2_with fail
            go_roundw
            case rel =>
              refine ⟨j + 1, by go_num, by omega, Lib.hid (fun z hz => ?_), HNr2⟩
              rw [HD.out] at hz
              rcases List.mem_append.1 hz with hz | hz
              · exact HP.out z hz
              · obtain rfl : z = y := by simpa using hz
                exact HOK.out
            case measure => simp [intOf]; omega
        · obtain rfl : j = m.ids.length := by omega
          have hp := HP.out
          rw [List.take_of_length_le (Nat.le_refl _)] at hp
          have HP2 := Lib.hid hp
          clear hp HP
          obtain ⟨wp, rfl⟩ : ∃ z, z = wr := ⟨_, rfl⟩
          have x6 := (HNr2.out.bk HX.out).cell 6
          simp [msgC] at x6
          go_wp2_with fail
          go_loopw [5] (fun vj wr => ∃ j : Nat, vj = .int .i64 j ∧ j ≤ m.recs.length ∧ Hid (∀ x ∈ m.recs.take j, RecOk x) ∧ Hid (New w1 wr)) (fun vj _ => m.recs.length - (intOf vj).toNat)
          case atStart => exact ⟨0, rfl, by omega, Lib.hid (by simp), HNr2⟩
          case round =>
            obtain ⟨j, rfl, hj, HP, HNr3⟩ := hrel
            have x6 := (HNr3.out.bk HX.out).cell 6
            simp [msgC] at x6
            by_cases hlt : j < m.recs.length
            · obtain ⟨y, hy⟩ : ∃ y, y = m.recs[j] := ⟨_, rfl⟩
              obtain ⟨b, off, rfl, _, hbl, hc⟩ := (HNr3.out.slk HNr.out).at_ (by omega)
              have c0 := hc j hlt 0 (.string (str y.id.key)) (by rw [← hy]; rfl)
              have c1 := hc j hlt 1 (.int .u64 y.id.ver) (by rw [← hy]; rfl)
              have c2 := hc j hlt 2 (.int .i64 y.origin) (by rw [← hy]; rfl)
              have c3 := hc j hlt 3 (.int .i64 y.age) (by rw [← hy]; rfl)
              have c4 := hc j hlt 4 (.bool y.gone) (by rw [← hy]; rfl)
              have c5 := hc j hlt 5 (.string (str y.data)) (by rw [← hy]; rfl)
              simp only [Nat.add_zero] at c0
              have hd : m.recs.take (j + 1) = m.recs.take j ++ [y] := by rw [List.take_add_one, List.getElem?_eq_getElem hlt, ← hy]; rfl
              have hmem : y ∈ m.recs := by rw [hy]; exact List.getElem_mem _
              have HD := Lib.hid hd
              have HMEM := Lib.hid hmem
              have HSZ := Lib.hid (str_size y.id.key)
              have HSD := Lib.hid (str_size y.data)
              clear hd hc hy hmem
              by_cases h0 : 64 < (str y.id.key).size
              · have hm : ¬ May m := fun h => by
                  obtain ⟨r1, r2, r3, r4⟩ := h.2.2.2.2.2.2.2.2 y HMEM.out
                  unfold IdOk at r1
                  unfold NodeOk at r2
                  have := HSZ.out
                  have := HSD.out
                  omega
                have HM := Lib.hid hm
                clear hm
                go_wp2_with fail
                go_ret
                exact NO.out HM.out _ _ rfl ((HN1.out.then HNr3.out).alloc _)
              by_cases h1 : 64 < (str y.data).size
              · have hm : ¬ May m := fun h => by
                  obtain ⟨r1, r2, r3, r4⟩ := h.2.2.2.2.2.2.2.2 y HMEM.out
                  unfold IdOk at r1
                  unfold NodeOk at r2
                  have := HSZ.out
                  have := HSD.out
                  omega
                have HM := Lib.hid hm
                clear hm
                go_wp2_with fail
                go_ret
                exact NO.out HM.out _ _ rfl ((HN1.out.then HNr3.out).alloc _)
              by_cases h2 : y.origin < 1
              · have hm : ¬ May m := fun h => by
                  obtain ⟨r1, r2, r3, r4⟩ := h.2.2.2.2.2.2.2.2 y HMEM.out
                  unfold IdOk at r1
                  unfold NodeOk at r2
                  have := HSZ.out
                  have := HSD.out
                  omega
                have HM := Lib.hid hm
                clear hm
                go_wp2_with fail
                go_ret
                exact NO.out HM.out _ _ rfl ((HN1.out.then HNr3.out).alloc _)
              by_cases h3 : 65535 < y.origin
              · have hm : ¬ May m := fun h => by
                  obtain ⟨r1, r2, r3, r4⟩ := h.2.2.2.2.2.2.2.2 y HMEM.out
                  unfold IdOk at r1
                  unfold NodeOk at r2
                  have := HSZ.out
                  have := HSD.out
                  omega
                have HM := Lib.hid hm
                clear hm
                go_wp2_with fail
                go_ret
                exact NO.out HM.out _ _ rfl ((HN1.out.then HNr3.out).alloc _)
              by_cases h4 : y.age < 0
              · have hm : ¬ May m := fun h => by
                  obtain ⟨r1, r2, r3, r4⟩ := h.2.2.2.2.2.2.2.2 y HMEM.out
                  unfold IdOk at r1
                  unfold NodeOk at r2
                  have := HSZ.out
                  have := HSD.out
                  omega
                have HM := Lib.hid hm
                clear hm
                go_wp2_with fail
                go_ret
                exact NO.out HM.out _ _ rfl ((HN1.out.then HNr3.out).alloc _)
              by_cases h5 : 65535 < y.age
              · have hm : ¬ May m := fun h => by
                  obtain ⟨r1, r2, r3, r4⟩ := h.2.2.2.2.2.2.2.2 y HMEM.out
                  unfold IdOk at r1
                  unfold NodeOk at r2
                  have := HSZ.out
                  have := HSD.out
                  omega
                have HM := Lib.hid hm
                clear hm
                go_wp2_with fail
                go_ret
                exact NO.out HM.out _ _ rfl ((HN1.out.then HNr3.out).alloc _)
              have hok : RecOk y := by
                have := HSZ.out
                have := HSD.out
                exact ⟨by unfold IdOk; omega, ⟨by omega, by omega⟩, ⟨by omega, by omega⟩, by omega⟩
              have HOK := Lib.hid hok
              clear hok
              go_wp2_with fail
              go_roundw
              case rel =>
                refine ⟨j + 1, by go_num, by omega, Lib.hid (fun z hz => ?_), Lib.hid (HNr3.out.alloc _)⟩
                rw [HD.out] at hz
                rcases List.mem_append.1 hz with hz | hz
                · exact HP.out z hz
                · obtain rfl : z = y := by simpa using hz
                  exact HOK.out
              case measure => simp [intOf]; omega
            · obtain rfl : j = m.recs.length := by omega
              have hp := HP.out
              rw [List.take_of_length_le (Nat.le_refl _)] at hp
              have HM := Lib.hid (show May m by obtain ⟨q1, q2, q3, q4, q5, q6⟩ := HH.out; exact ⟨q1, q2, q3, q4, q5, q6, HP1.out, HP2.out, hp⟩)
              clear hp HP
              go_wp2_with fail
              go_ret
              exact ⟨by rw [HT.out, dec_ HM.out]; rfl, HN1.out.then HNr3.out⟩
end Go.Proofs.Yteaeodinllpfbaa
