/-
  Package message: which messages are valid.
-/
import Derived.Test.YtebpdnmmcbianaaMsgVal
import Derived.Deep.CutBlock
import Derived.Deep.DeepCutAuto
set_option linter.unusedVariables false
set_option maxRecDepth 100000
namespace Go.Proofs.Ytebpdnmmcbianaa
open Go.RowKit

theorem between_ok (n a b : Int) (w : World) : Calls Try.prog 70 #[.int .i64 n, .int .i64 a, .int .i64 b] w fun e w' => e = .returned (.bool (decide (a ≤ n ∧ n ≤ b))) ∧ w = w' := by
  obtain ⟨t, ht⟩ : ∃ t, t = decide (a ≤ n ∧ n ≤ b) := ⟨_, rfl⟩
  rw [← ht]
  go_enter Try.func70, Try.ntmps70
  by_cases h1 : a ≤ n
  · by_cases h2 : n ≤ b
    · obtain rfl : t = true := by rw [ht]; exact dec_ ⟨h1, h2⟩
      clear ht
      go_wp2_with fail
      go_ret
      exact ⟨by simp, rfl⟩
    · obtain rfl : t = false := by rw [ht]; exact decn_ (fun h => h2 h.2)
      clear ht
      go_wp2_with fail
      go_ret
      exact ⟨by simp, rfl⟩
  · obtain rfl : t = false := by rw [ht]; exact decn_ (fun h => h1 h.1)
    clear ht
    go_wp2_with fail
    go_ret
    exact ⟨rfl, rfl⟩

theorem isNode_ok (n : Int) (w : World) : Calls Try.prog 72 #[.int .i64 n] w fun e w' => e = .returned (.bool (decide (NodeOk n))) ∧ w = w' := by
  go_enter Try.func72, Try.ntmps72
  go_wp2_with (go_at_call 70; refine (between_ok n 1 65535 _).mono ?_; rintro e w' ⟨rfl, rfl⟩)
  go_ret
  exact ⟨by simp [NodeOk]; exact (Bool.decide_and _ _).symm, rfl⟩
theorem isKey_ok (k : List UInt8) (w : World) : Calls Try.prog 103 #[.string (str k)] w fun e w' => e = .returned (.bool (decide (k.length ≤ 64))) ∧ w = w' := by
  have hk := str_size k
  go_enter Try.func103, Try.ntmps103
  go_wp2_with fail
  go_ret
  exact ⟨by simp; omega, rfl⟩
theorem idValid_ok (i : IdA) (w : World) : Calls Try.prog 74 #[.agg (idC i).toArray] w fun e w' => e = .returned (.bool (decide (IdOk i))) ∧ New w w' := by
  unfold idC
  go_enter Try.func74, Try.ntmps74
  go_wp2_with (go_at_call 103; refine (isKey_ok i.key _).mono ?_; rintro e w' ⟨rfl, rfl⟩)
  go_ret
  exact ⟨rfl, (New.refl w).alloc _⟩
theorem recValid_ok (x : RecA) (w : World) : Calls Try.prog 76 #[.agg (recC x).toArray] w fun e w' => e = .returned (.bool (decide (RecOk x))) ∧ New w w' := by
  unfold recC
  have hd := str_size x.data
  obtain ⟨t, ht⟩ : ∃ t, t = decide (RecOk x) := ⟨_, rfl⟩
  rw [← ht]
  have HD := Lib.hid hd
  clear hd
  by_cases h1 : IdOk x.id
  · by_cases h2 : NodeOk x.origin
    · by_cases h3 : 0 ≤ x.age ∧ x.age ≤ 65535
      · have e1 : decide (x.id.key.length ≤ 64) = true := dec_ h1
        have e2 := dec_ h2
        have e3 := dec_ h3
        have e4 : decide ((str x.data).size ≤ 64) = t := by
          rw [ht, HD.out]
          by_cases h4 : x.data.length ≤ 64
          · rw [dec_ h4, dec_ (show RecOk x from ⟨h1, h2, h3, h4⟩)]
          · rw [decn_ h4, decn_ (show ¬ RecOk x from fun h => h4 h.2.2.2)]
        have E4 := Lib.hid e4
        clear ht h1 h2 h3 e4
        go_enter Try.func76, Try.ntmps76
        go_wp2_with (first
          | (go_at_call 103; refine (isKey_ok x.id.key _).mono ?_; rintro e w' ⟨rfl, rfl⟩; rw [e1])
          | (go_at_call 72; refine (isNode_ok x.origin _).mono ?_; rintro e w' ⟨rfl, rfl⟩; rw [e2])
          | (go_at_call 70; refine (between_ok x.age 0 65535 _).mono ?_; rintro e w' ⟨rfl, rfl⟩; rw [e3]))
        go_ret
        exact ⟨by rw [← E4.out]; simp; omega, (New.refl w).alloc _⟩
      · obtain rfl : t = false := by rw [ht]; exact decn_ (fun h => h3 h.2.2.1)
        have e1 : decide (x.id.key.length ≤ 64) = true := dec_ h1
        have e2 := dec_ h2
        have e3 := decn_ h3
        clear ht h1 h2 h3
        go_enter Try.func76, Try.ntmps76
        go_wp2_with (first
          | (go_at_call 103; refine (isKey_ok x.id.key _).mono ?_; rintro e w' ⟨rfl, rfl⟩; rw [e1])
          | (go_at_call 72; refine (isNode_ok x.origin _).mono ?_; rintro e w' ⟨rfl, rfl⟩; rw [e2])
          | (go_at_call 70; refine (between_ok x.age 0 65535 _).mono ?_; rintro e w' ⟨rfl, rfl⟩; rw [e3]))
        go_ret
        exact ⟨rfl, (New.refl w).alloc _⟩
    · obtain rfl : t = false := by rw [ht]; exact decn_ (fun h => h2 h.2.1)
      have e1 : decide (x.id.key.length ≤ 64) = true := dec_ h1
      have e2 := decn_ h2
      clear ht h1 h2
      go_enter Try.func76, Try.ntmps76
      go_wp2_with (first
        | (go_at_call 103; refine (isKey_ok x.id.key _).mono ?_; rintro e w' ⟨rfl, rfl⟩; rw [e1])
        | (go_at_call 72; refine (isNode_ok x.origin _).mono ?_; rintro e w' ⟨rfl, rfl⟩; rw [e2]))
      go_ret
      exact ⟨rfl, (New.refl w).alloc _⟩
  · obtain rfl : t = false := by rw [ht]; exact decn_ (fun h => h1 h.1)
    have e1 : decide (x.id.key.length ≤ 64) = false := decn_ h1
    clear ht h1
    go_enter Try.func76, Try.ntmps76
    go_wp2_with (go_at_call 103; refine (isKey_ok x.id.key _).mono ?_; rintro e w' ⟨rfl, rfl⟩; rw [e1])
    go_ret
    exact ⟨rfl, (New.refl w).alloc _⟩

/-- The closure that asks for what is not good. -/
theorem node1_ok (x : Int) (B : Nat) (w : World) (hB : w.cell? ⟨B, 0, none⟩ = some (.func (.func 72) #[] #[])) :
    Calls Try.prog 100 #[.int .i64 x, .pointer (some ⟨B, 0, none⟩)] w fun e w' => e = .returned (.bool (!decide (NodeOk x))) ∧ New w w' := by
  have hBl := World.block_lt_of_cell? w _ hB
  skip
  go_enter Try.func100, Try.ntmps100
  go_wp2_with fail
  refine (isNode_ok x _).mono ?_
  rintro e w' ⟨rfl, hn⟩
  have HN := Lib.hid hn
  clear hn
  go_wp2_with fail
  go_ret
  exact ⟨rfl, new_of_eq HN.out⟩
theorem nodeIndex_ok (l : List Int) (v : Value) (B : Nat) (S : Nat → Prop) (w : World) (hl : Slk nodeC 1 w S v l) (hB : w.cell? ⟨B, 0, none⟩ = some (.func (.func 72) #[] #[])) :
    Calls Try.prog 125 #[v, .func (.func 100) #[] #[.pointer (some ⟨B, 0, none⟩)]] w fun e w' => (∃ r : Int, e = .returned (.int .i64 r) ∧ decide (0 ≤ r) = !decide (∀ x ∈ l, NodeOk x)) ∧ New w w' := by
  obtain ⟨ao, cap, rfl, hlc, hcm⟩ := hl.shape
  have hcb : cap ≤ 9223372036854775807 := Nat.le_trans hcm (by decide)
  have HL := Lib.hid hl
  have HB := Lib.hid hB
  clear hl hB
  go_enter Try.func125, Try.ntmps125
  go_wp2_with fail
  go_loopw [8] (fun vi wr => ∃ j : Nat, j ≤ l.length ∧ vi = .int .i64 j ∧ Hid (∀ x ∈ l.take j, NodeOk x) ∧ Hid (New w wr)) (fun vi _ => l.length - (intOf vi).toNat)
  case atStart => exact ⟨0, by omega, rfl, Lib.hid (by simp), Lib.hid (New.refl _)⟩
  case round =>
    obtain ⟨j, hj, rfl, HP, HN⟩ := hrel
    by_cases hlt : j < l.length
    · obtain ⟨x, hx⟩ : ∃ x, x = l[j] := ⟨_, rfl⟩
      obtain ⟨b, off, rfl, _, hbl, hc⟩ := (HN.out.slk HL.out).at_ (by omega)
      have hcj := hc j hlt
      rw [← hx] at hcj
      have c0 := hcj 0 _ rfl
      simp only [Nat.mul_one, Nat.add_zero] at c0
      have hd : l.take (j + 1) = l.take j ++ [x] := by rw [List.take_add_one, List.getElem?_eq_getElem hlt, ← hx]; rfl
      have hmem : x ∈ l := by rw [hx]; exact List.getElem_mem _
      have HD := Lib.hid hd
      clear hd hc hcj hx
      go_wp2_with fail
      refine (node1_ok x B _ (HN.out.cell HB.out)).mono ?_
      rintro e w' ⟨rfl, hn⟩
      have HN2 := Lib.hid hn
      clear hn
      by_cases hok : NodeOk x
      · have e1 := dec_ hok
        rw [e1]
        clear e1
        go_wp2_with fail
        go_roundw
        case rel =>
          refine ⟨j + 1, by omega, by go_num, Lib.hid (fun y hy => ?_), Lib.hid (HN.out.then HN2.out)⟩
          rw [HD.out] at hy
          rcases List.mem_append.1 hy with hy | hy
          · exact HP.out y hy
          · obtain rfl : y = x := by simpa using hy
            exact hok
        case measure => simp [intOf]; omega
      · have e1 := decn_ hok
        rw [e1]
        clear e1
        go_wp2_with fail
        go_ret
        refine ⟨⟨j, rfl, ?_⟩, HN.out.then HN2.out⟩
        rw [dec_ (by omega), decn_ (fun h => hok (h x hmem))]
        rfl
    · obtain rfl : j = l.length := by omega
      go_wp2_with fail
      go_ret
      refine ⟨⟨-1, rfl, ?_⟩, HN.out⟩
      have := HP.out
      rw [List.take_of_length_le (Nat.le_refl _)] at this
      rw [dec_ this]
      rfl
theorem nodeContains_ok (l : List Int) (v : Value) (B : Nat) (S : Nat → Prop) (w : World) (hl : Slk nodeC 1 w S v l) (hB : w.cell? ⟨B, 0, none⟩ = some (.func (.func 72) #[] #[])) :
    Calls Try.prog 99 #[v, .func (.func 100) #[] #[.pointer (some ⟨B, 0, none⟩)]] w fun e w' => e = .returned (.bool (!decide (∀ x ∈ l, NodeOk x))) ∧ New w w' := by
  have HL := Lib.hid hl
  have HB := Lib.hid hB
  obtain ⟨ao, cap, rfl, hlc, hcm⟩ := hl.shape
  clear hl hB
  go_enter Try.func99, Try.ntmps99
  go_wp2_with (go_at_call 125; refine (nodeIndex_ok l _ B S _ HL.out HB.out).mono ?_; rintro e w' ⟨⟨r, rfl, hr⟩, hn⟩; have HN := Lib.hid hn; have HR := Lib.hid hr; clear hn hr)
  go_ret
  exact ⟨by rw [← HR.out]; rfl, HN.out⟩
theorem nodeAll_ok (l : List Int) (v : Value) (S : Nat → Prop) (w : World) (hl : Slk nodeC 1 w S v l) :
    Calls Try.prog 71 #[v, .func (.func 72) #[] #[]] w fun e w' => e = .returned (.bool (decide (∀ x ∈ l, NodeOk x))) ∧ New w w' := by
  obtain ⟨ao, cap, rfl, hlc, hcm⟩ := hl.shape
  have hmf : ∀ (fn : Fn) (first cap : Array Value) (w : World), (Instr.makeFunc fn first cap).run Try.prog w = .ok (.func fn first cap) w := fun _ _ _ _ => rfl
  have hn1 : New w (w.alloc (.cells #[.func (.func 72) #[] #[]] 93)) := (New.refl w).alloc _
  have h1 := hn1.slk hl
  have h2 : (w.alloc (.cells #[.func (.func 72) #[] #[]] 93)).cell? ⟨w.heap.size, 0, none⟩ = some (.func (.func 72) #[] #[]) := by rw [(Bk.made w _ _).cell]; rfl
  have H1 := Lib.hid h1
  have H2 := Lib.hid h2
  have HN1 := Lib.hid hn1
  clear hl h1 h2 hn1
  go_enter Try.func71, Try.ntmps71
  go_wp2_with fail
  refine (nodeContains_ok l _ _ S _ H1.out H2.out).mono ?_
  rintro e w' ⟨rfl, hn⟩
  have HN := Lib.hid hn
  clear hn
  go_wp2_with fail
  go_ret
  exact ⟨by simp, HN1.out.then HN.out⟩

/-- The closure that asks for what is not good. -/
theorem id1_ok (x : IdA) (B : Nat) (w : World) (hB : w.cell? ⟨B, 0, none⟩ = some (.func (.func 74) #[] #[])) :
    Calls Try.prog 102 #[.agg (idC x).toArray, .pointer (some ⟨B, 0, none⟩)] w fun e w' => e = .returned (.bool (!decide (IdOk x))) ∧ New w w' := by
  have hBl := World.block_lt_of_cell? w _ hB
  unfold idC
  go_enter Try.func102, Try.ntmps102
  go_wp2_with fail
  refine (idValid_ok x _).mono ?_
  rintro e w' ⟨rfl, hn⟩
  have HN := Lib.hid hn
  clear hn
  go_wp2_with fail
  go_ret
  exact ⟨rfl, ((New.refl w).alloc _).then HN.out⟩
theorem idIndex_ok (l : List IdA) (v : Value) (B : Nat) (S : Nat → Prop) (w : World) (hl : Slk idC 2 w S v l) (hB : w.cell? ⟨B, 0, none⟩ = some (.func (.func 74) #[] #[])) :
    Calls Try.prog 126 #[v, .func (.func 102) #[] #[.pointer (some ⟨B, 0, none⟩)]] w fun e w' => (∃ r : Int, e = .returned (.int .i64 r) ∧ decide (0 ≤ r) = !decide (∀ x ∈ l, IdOk x)) ∧ New w w' := by
  obtain ⟨ao, cap, rfl, hlc, hcm⟩ := hl.shape
  have hcb : cap ≤ 9223372036854775807 := Nat.le_trans hcm (by decide)
  have HL := Lib.hid hl
  have HB := Lib.hid hB
  clear hl hB
  go_enter Try.func126, Try.ntmps126
  go_wp2_with fail
  go_loopw [8] (fun vi wr => ∃ j : Nat, j ≤ l.length ∧ vi = .int .i64 j ∧ Hid (∀ x ∈ l.take j, IdOk x) ∧ Hid (New w wr)) (fun vi _ => l.length - (intOf vi).toNat)
  case atStart => exact ⟨0, by omega, rfl, Lib.hid (by simp), Lib.hid (New.refl _)⟩
  case round =>
    obtain ⟨j, hj, rfl, HP, HN⟩ := hrel
    by_cases hlt : j < l.length
    · obtain ⟨x, hx⟩ : ∃ x, x = l[j] := ⟨_, rfl⟩
      obtain ⟨b, off, rfl, _, hbl, hc⟩ := (HN.out.slk HL.out).at_ (by omega)
      have hcj := hc j hlt
      rw [← hx] at hcj
      have c0 := hcj 0 _ rfl
      have c1 := hcj 1 _ rfl
      simp only [Nat.add_zero] at c0
      have hd : l.take (j + 1) = l.take j ++ [x] := by rw [List.take_add_one, List.getElem?_eq_getElem hlt, ← hx]; rfl
      have hmem : x ∈ l := by rw [hx]; exact List.getElem_mem _
      have HD := Lib.hid hd
      clear hd hc hcj hx
      go_wp2_with fail
      refine (id1_ok x B _ (HN.out.cell HB.out)).mono ?_
      rintro e w' ⟨rfl, hn⟩
      have HN2 := Lib.hid hn
      clear hn
      by_cases hok : IdOk x
      · have e1 := dec_ hok
        rw [e1]
        clear e1
        go_wp2_with fail
        go_roundw
        case rel =>
          refine ⟨j + 1, by omega, by go_num, Lib.hid (fun y hy => ?_), Lib.hid (HN.out.then HN2.out)⟩
          rw [HD.out] at hy
          rcases List.mem_append.1 hy with hy | hy
          · exact HP.out y hy
          · obtain rfl : y = x := by simpa using hy
            exact hok
        case measure => simp [intOf]; omega
      · have e1 := decn_ hok
        rw [e1]
        clear e1
        go_wp2_with fail
        go_ret
        refine ⟨⟨j, rfl, ?_⟩, HN.out.then HN2.out⟩
        rw [dec_ (by omega), decn_ (fun h => hok (h x hmem))]
        rfl
    · obtain rfl : j = l.length := by omega
      go_wp2_with fail
      go_ret
      refine ⟨⟨-1, rfl, ?_⟩, HN.out⟩
      have := HP.out
      rw [List.take_of_length_le (Nat.le_refl _)] at this
      rw [dec_ this]
      rfl
theorem idContains_ok (l : List IdA) (v : Value) (B : Nat) (S : Nat → Prop) (w : World) (hl : Slk idC 2 w S v l) (hB : w.cell? ⟨B, 0, none⟩ = some (.func (.func 74) #[] #[])) :
    Calls Try.prog 101 #[v, .func (.func 102) #[] #[.pointer (some ⟨B, 0, none⟩)]] w fun e w' => e = .returned (.bool (!decide (∀ x ∈ l, IdOk x))) ∧ New w w' := by
  have HL := Lib.hid hl
  have HB := Lib.hid hB
  obtain ⟨ao, cap, rfl, hlc, hcm⟩ := hl.shape
  clear hl hB
  go_enter Try.func101, Try.ntmps101
  go_wp2_with (go_at_call 126; refine (idIndex_ok l _ B S _ HL.out HB.out).mono ?_; rintro e w' ⟨⟨r, rfl, hr⟩, hn⟩; have HN := Lib.hid hn; have HR := Lib.hid hr; clear hn hr)
  go_ret
  exact ⟨by rw [← HR.out]; rfl, HN.out⟩
theorem idAll_ok (l : List IdA) (v : Value) (S : Nat → Prop) (w : World) (hl : Slk idC 2 w S v l) :
    Calls Try.prog 73 #[v, .func (.func 74) #[] #[]] w fun e w' => e = .returned (.bool (decide (∀ x ∈ l, IdOk x))) ∧ New w w' := by
  obtain ⟨ao, cap, rfl, hlc, hcm⟩ := hl.shape
  have hmf : ∀ (fn : Fn) (first cap : Array Value) (w : World), (Instr.makeFunc fn first cap).run Try.prog w = .ok (.func fn first cap) w := fun _ _ _ _ => rfl
  have hn1 : New w (w.alloc (.cells #[.func (.func 74) #[] #[]] 139)) := (New.refl w).alloc _
  have h1 := hn1.slk hl
  have h2 : (w.alloc (.cells #[.func (.func 74) #[] #[]] 139)).cell? ⟨w.heap.size, 0, none⟩ = some (.func (.func 74) #[] #[]) := by rw [(Bk.made w _ _).cell]; rfl
  have H1 := Lib.hid h1
  have H2 := Lib.hid h2
  have HN1 := Lib.hid hn1
  clear hl h1 h2 hn1
  go_enter Try.func73, Try.ntmps73
  go_wp2_with fail
  refine (idContains_ok l _ _ S _ H1.out H2.out).mono ?_
  rintro e w' ⟨rfl, hn⟩
  have HN := Lib.hid hn
  clear hn
  go_wp2_with fail
  go_ret
  exact ⟨by simp, HN1.out.then HN.out⟩

/-- The closure that asks for what is not good. -/
theorem rec1_ok (x : RecA) (B : Nat) (w : World) (hB : w.cell? ⟨B, 0, none⟩ = some (.func (.func 76) #[] #[])) :
    Calls Try.prog 105 #[.agg (recC x).toArray, .pointer (some ⟨B, 0, none⟩)] w fun e w' => e = .returned (.bool (!decide (RecOk x))) ∧ New w w' := by
  have hBl := World.block_lt_of_cell? w _ hB
  unfold recC
  go_enter Try.func105, Try.ntmps105
  go_wp2_with fail
  refine (recValid_ok x _).mono ?_
  rintro e w' ⟨rfl, hn⟩
  have HN := Lib.hid hn
  clear hn
  go_wp2_with fail
  go_ret
  exact ⟨rfl, ((New.refl w).alloc _).then HN.out⟩
theorem recIndex_ok (l : List RecA) (v : Value) (B : Nat) (S : Nat → Prop) (w : World) (hl : Slk recC 6 w S v l) (hB : w.cell? ⟨B, 0, none⟩ = some (.func (.func 76) #[] #[])) :
    Calls Try.prog 127 #[v, .func (.func 105) #[] #[.pointer (some ⟨B, 0, none⟩)]] w fun e w' => (∃ r : Int, e = .returned (.int .i64 r) ∧ decide (0 ≤ r) = !decide (∀ x ∈ l, RecOk x)) ∧ New w w' := by
  obtain ⟨ao, cap, rfl, hlc, hcm⟩ := hl.shape
  have hcb : cap ≤ 9223372036854775807 := Nat.le_trans hcm (by decide)
  have HL := Lib.hid hl
  have HB := Lib.hid hB
  clear hl hB
  go_enter Try.func127, Try.ntmps127
  go_wp2_with fail
  go_loopw [8] (fun vi wr => ∃ j : Nat, j ≤ l.length ∧ vi = .int .i64 j ∧ Hid (∀ x ∈ l.take j, RecOk x) ∧ Hid (New w wr)) (fun vi _ => l.length - (intOf vi).toNat)
  case atStart => exact ⟨0, by omega, rfl, Lib.hid (by simp), Lib.hid (New.refl _)⟩
  case round =>
    obtain ⟨j, hj, rfl, HP, HN⟩ := hrel
    by_cases hlt : j < l.length
    · obtain ⟨x, hx⟩ : ∃ x, x = l[j] := ⟨_, rfl⟩
      obtain ⟨b, off, rfl, _, hbl, hc⟩ := (HN.out.slk HL.out).at_ (by omega)
      have hcj := hc j hlt
      rw [← hx] at hcj
      have c0 := hcj 0 _ rfl
      have c1 := hcj 1 _ rfl
      have c2 := hcj 2 _ rfl
      have c3 := hcj 3 _ rfl
      have c4 := hcj 4 _ rfl
      have c5 := hcj 5 _ rfl
      simp only [Nat.add_zero] at c0
      have hd : l.take (j + 1) = l.take j ++ [x] := by rw [List.take_add_one, List.getElem?_eq_getElem hlt, ← hx]; rfl
      have hmem : x ∈ l := by rw [hx]; exact List.getElem_mem _
      have HD := Lib.hid hd
      clear hd hc hcj hx
      go_wp2_with fail
      refine (rec1_ok x B _ (HN.out.cell HB.out)).mono ?_
      rintro e w' ⟨rfl, hn⟩
      have HN2 := Lib.hid hn
      clear hn
      by_cases hok : RecOk x
      · have e1 := dec_ hok
        rw [e1]
        clear e1
        go_wp2_with fail
        go_roundw
        case rel =>
          refine ⟨j + 1, by omega, by go_num, Lib.hid (fun y hy => ?_), Lib.hid (HN.out.then HN2.out)⟩
          rw [HD.out] at hy
          rcases List.mem_append.1 hy with hy | hy
          · exact HP.out y hy
          · obtain rfl : y = x := by simpa using hy
            exact hok
        case measure => simp [intOf]; omega
      · have e1 := decn_ hok
        rw [e1]
        clear e1
        go_wp2_with fail
        go_ret
        refine ⟨⟨j, rfl, ?_⟩, HN.out.then HN2.out⟩
        rw [dec_ (by omega), decn_ (fun h => hok (h x hmem))]
        rfl
    · obtain rfl : j = l.length := by omega
      go_wp2_with fail
      go_ret
      refine ⟨⟨-1, rfl, ?_⟩, HN.out⟩
      have := HP.out
      rw [List.take_of_length_le (Nat.le_refl _)] at this
      rw [dec_ this]
      rfl
theorem recContains_ok (l : List RecA) (v : Value) (B : Nat) (S : Nat → Prop) (w : World) (hl : Slk recC 6 w S v l) (hB : w.cell? ⟨B, 0, none⟩ = some (.func (.func 76) #[] #[])) :
    Calls Try.prog 104 #[v, .func (.func 105) #[] #[.pointer (some ⟨B, 0, none⟩)]] w fun e w' => e = .returned (.bool (!decide (∀ x ∈ l, RecOk x))) ∧ New w w' := by
  have HL := Lib.hid hl
  have HB := Lib.hid hB
  obtain ⟨ao, cap, rfl, hlc, hcm⟩ := hl.shape
  clear hl hB
  go_enter Try.func104, Try.ntmps104
  go_wp2_with (go_at_call 127; refine (recIndex_ok l _ B S _ HL.out HB.out).mono ?_; rintro e w' ⟨⟨r, rfl, hr⟩, hn⟩; have HN := Lib.hid hn; have HR := Lib.hid hr; clear hn hr)
  go_ret
  exact ⟨by rw [← HR.out]; rfl, HN.out⟩
theorem recAll_ok (l : List RecA) (v : Value) (S : Nat → Prop) (w : World) (hl : Slk recC 6 w S v l) :
    Calls Try.prog 75 #[v, .func (.func 76) #[] #[]] w fun e w' => e = .returned (.bool (decide (∀ x ∈ l, RecOk x))) ∧ New w w' := by
  obtain ⟨ao, cap, rfl, hlc, hcm⟩ := hl.shape
  have hmf : ∀ (fn : Fn) (first cap : Array Value) (w : World), (Instr.makeFunc fn first cap).run Try.prog w = .ok (.func fn first cap) w := fun _ _ _ _ => rfl
  have hn1 : New w (w.alloc (.cells #[.func (.func 76) #[] #[]] 141)) := (New.refl w).alloc _
  have h1 := hn1.slk hl
  have h2 : (w.alloc (.cells #[.func (.func 76) #[] #[]] 141)).cell? ⟨w.heap.size, 0, none⟩ = some (.func (.func 76) #[] #[]) := by rw [(Bk.made w _ _).cell]; rfl
  have H1 := Lib.hid h1
  have H2 := Lib.hid h2
  have HN1 := Lib.hid hn1
  clear hl h1 h2 hn1
  go_enter Try.func75, Try.ntmps75
  go_wp2_with fail
  refine (recContains_ok l _ _ S _ H1.out H2.out).mono ?_
  rintro e w' ⟨rfl, hn⟩
  have HN := Lib.hid hn
  clear hn
  go_wp2_with fail
  go_ret
  exact ⟨by simp, HN1.out.then HN.out⟩

/-- Which messages are valid. -/
theorem valid_ok (m : MsgA) (v : MsgV) (S : Nat → Prop) (w : World) (h : MsgIs w S m v) :
    Calls Try.prog 48 #[.agg (msgC m v)] w fun e w' => e = .returned (.bool (decide (May m))) ∧ New w w' := by
  obtain ⟨vn, vi, vr⟩ := v
  obtain ⟨hn, hi, hr⟩ := h
  obtain ⟨an, cn, rfl, hn1, hn2⟩ := hn.shape
  obtain ⟨ai, ci, rfl, hi1, hi2⟩ := hi.shape
  obtain ⟨ar, cr, rfl, hr1, hr2⟩ := hr.shape
  have HNn := Lib.hid hn
  have HNi := Lib.hid hi
  have HNr := Lib.hid hr
  clear hn hi hr hn1 hn2 hi1 hi2 hr1 hr2
  simp only [msgC]
  obtain ⟨t, ht⟩ : ∃ t, t = decide (May m) := ⟨_, rfl⟩
  rw [← ht]
  have hb : New w (w.alloc (.cells #[.int .i64 m.kind, .int .i64 m.node, .int .i64 m.walk, .bool m.high, .slice an m.nodes.length cn, .slice ai m.ids.length ci, .slice ar m.recs.length cr] 30)) := (New.refl w).alloc _
  have HB := Lib.hid hb
  have hbk := Bk.made w 30 #[.int .i64 m.kind, .int .i64 m.node, .int .i64 m.walk, .bool m.high, .slice an m.nodes.length cn, .slice ai m.ids.length ci, .slice ar m.recs.length cr]
  have HBK := Lib.hid hbk
  clear hb hbk
  by_cases h1 : 1 ≤ m.kind ∧ m.kind ≤ 14
  · by_cases h2 : 0 ≤ m.node ∧ m.node ≤ 65535
    · by_cases h3 : 0 ≤ m.walk ∧ m.walk ≤ 15
      · by_cases h4 : (m.nodes.length : Int) ≤ 64
        · by_cases h5 : (m.ids.length : Int) ≤ 64
          · by_cases h6 : (m.recs.length : Int) ≤ 16
            · by_cases h7 : ∀ n ∈ m.nodes, NodeOk n
              · by_cases h8 : ∀ i ∈ m.ids, IdOk i
                · by_cases h9 : ∀ x ∈ m.recs, RecOk x
                  · obtain rfl : t = true := by rw [ht]; exact dec_ ⟨h1, h2, h3, by omega, by omega, by omega, h7, h8, h9⟩
                    have E1 := Lib.hid (dec_ h1)
                    have E2 := Lib.hid (dec_ h2)
                    have E3 := Lib.hid (dec_ h3)
                    have e4 : decide ((m.nodes.length : Int) ≤ 64) = true := dec_ h4
                    have e5 : decide ((m.ids.length : Int) ≤ 64) = true := dec_ h5
                    have e6 : decide ((m.recs.length : Int) ≤ 16) = true := dec_ h6
                    have E7 := Lib.hid (dec_ h7)
                    have E8 := Lib.hid (dec_ h8)
                    have E9 := Lib.hid (dec_ h9)
                    have tok1 : True := trivial
                    have tok2 : True := trivial
                    have tok3 : True := trivial
                    clear ht h1 h2 h3 h4 h5 h6 h7 h8 h9
                    go_enter Try.func48, Try.ntmps48
                    go_wp2_with (first
                          | (go_at_call 70; have _t := tok1; refine (between_ok m.kind 1 14 _).mono ?_; rintro e w' ⟨rfl, rfl⟩; rw [E1.out]; clear tok1 _t)
                          | (go_at_call 70; have _t := tok2; refine (between_ok m.node 0 65535 _).mono ?_; rintro e w' ⟨rfl, rfl⟩; rw [E2.out]; clear tok2 _t)
                          | (go_at_call 70; have _t := tok3; refine (between_ok m.walk 0 15 _).mono ?_; rintro e w' ⟨rfl, rfl⟩; rw [E3.out]; clear tok3 _t)
                          | (go_at_call 71; refine (nodeAll_ok m.nodes _ S _ (HB.out.slk HNn.out)).mono ?_; rintro e w1 ⟨rfl, hw1⟩; have X7 := Lib.hid (HB.out.then hw1); have ci5 := (hw1.bk HBK.out).cell 5; have ci6 := (hw1.bk HBK.out).cell 6; have BK1 := Lib.hid (hw1.bk HBK.out); simp at ci5 ci6; clear hw1; rw [E7.out])
                          | (go_at_call 73; refine (idAll_ok m.ids _ S _ (X7.out.slk HNi.out)).mono ?_; rintro e w2 ⟨rfl, hw2⟩; have X8 := Lib.hid (X7.out.then hw2); have ci6 := (hw2.bk BK1.out).cell 6; simp at ci6; clear hw2; rw [E8.out])
                          | (go_at_call 75; refine (recAll_ok m.recs _ S _ (X8.out.slk HNr.out)).mono ?_; rintro e w3 ⟨rfl, hw3⟩; have X9 := Lib.hid (X8.out.then hw3); clear hw3; rw [E9.out]))
                    go_ret
                    exact ⟨rfl, X9.out⟩
                  · obtain rfl : t = false := by rw [ht]; exact decn_ (fun h => h9 (h.2.2.2.2.2.2.2.2))
                    have E1 := Lib.hid (dec_ h1)
                    have E2 := Lib.hid (dec_ h2)
                    have E3 := Lib.hid (dec_ h3)
                    have e4 : decide ((m.nodes.length : Int) ≤ 64) = true := dec_ h4
                    have e5 : decide ((m.ids.length : Int) ≤ 64) = true := dec_ h5
                    have e6 : decide ((m.recs.length : Int) ≤ 16) = true := dec_ h6
                    have E7 := Lib.hid (dec_ h7)
                    have E8 := Lib.hid (dec_ h8)
                    have E9 := Lib.hid (decn_ h9)
                    have tok1 : True := trivial
                    have tok2 : True := trivial
                    have tok3 : True := trivial
                    clear ht h1 h2 h3 h4 h5 h6 h7 h8 h9
                    go_enter Try.func48, Try.ntmps48
                    go_wp2_with (first
                          | (go_at_call 70; have _t := tok1; refine (between_ok m.kind 1 14 _).mono ?_; rintro e w' ⟨rfl, rfl⟩; rw [E1.out]; clear tok1 _t)
                          | (go_at_call 70; have _t := tok2; refine (between_ok m.node 0 65535 _).mono ?_; rintro e w' ⟨rfl, rfl⟩; rw [E2.out]; clear tok2 _t)
                          | (go_at_call 70; have _t := tok3; refine (between_ok m.walk 0 15 _).mono ?_; rintro e w' ⟨rfl, rfl⟩; rw [E3.out]; clear tok3 _t)
                          | (go_at_call 71; refine (nodeAll_ok m.nodes _ S _ (HB.out.slk HNn.out)).mono ?_; rintro e w1 ⟨rfl, hw1⟩; have X7 := Lib.hid (HB.out.then hw1); have ci5 := (hw1.bk HBK.out).cell 5; have ci6 := (hw1.bk HBK.out).cell 6; have BK1 := Lib.hid (hw1.bk HBK.out); simp at ci5 ci6; clear hw1; rw [E7.out])
                          | (go_at_call 73; refine (idAll_ok m.ids _ S _ (X7.out.slk HNi.out)).mono ?_; rintro e w2 ⟨rfl, hw2⟩; have X8 := Lib.hid (X7.out.then hw2); have ci6 := (hw2.bk BK1.out).cell 6; simp at ci6; clear hw2; rw [E8.out])
                          | (go_at_call 75; refine (recAll_ok m.recs _ S _ (X8.out.slk HNr.out)).mono ?_; rintro e w3 ⟨rfl, hw3⟩; have X9 := Lib.hid (X8.out.then hw3); clear hw3; rw [E9.out]))
                    go_ret
                    exact ⟨rfl, X9.out⟩
                · obtain rfl : t = false := by rw [ht]; exact decn_ (fun h => h8 (h.2.2.2.2.2.2.2.1))
                  have E1 := Lib.hid (dec_ h1)
                  have E2 := Lib.hid (dec_ h2)
                  have E3 := Lib.hid (dec_ h3)
                  have e4 : decide ((m.nodes.length : Int) ≤ 64) = true := dec_ h4
                  have e5 : decide ((m.ids.length : Int) ≤ 64) = true := dec_ h5
                  have e6 : decide ((m.recs.length : Int) ≤ 16) = true := dec_ h6
                  have E7 := Lib.hid (dec_ h7)
                  have E8 := Lib.hid (decn_ h8)
                  have tok1 : True := trivial
                  have tok2 : True := trivial
                  have tok3 : True := trivial
                  clear ht h1 h2 h3 h4 h5 h6 h7 h8
                  go_enter Try.func48, Try.ntmps48
                  go_wp2_with (first
                        | (go_at_call 70; have _t := tok1; refine (between_ok m.kind 1 14 _).mono ?_; rintro e w' ⟨rfl, rfl⟩; rw [E1.out]; clear tok1 _t)
                        | (go_at_call 70; have _t := tok2; refine (between_ok m.node 0 65535 _).mono ?_; rintro e w' ⟨rfl, rfl⟩; rw [E2.out]; clear tok2 _t)
                        | (go_at_call 70; have _t := tok3; refine (between_ok m.walk 0 15 _).mono ?_; rintro e w' ⟨rfl, rfl⟩; rw [E3.out]; clear tok3 _t)
                        | (go_at_call 71; refine (nodeAll_ok m.nodes _ S _ (HB.out.slk HNn.out)).mono ?_; rintro e w1 ⟨rfl, hw1⟩; have X7 := Lib.hid (HB.out.then hw1); have ci5 := (hw1.bk HBK.out).cell 5; have ci6 := (hw1.bk HBK.out).cell 6; have BK1 := Lib.hid (hw1.bk HBK.out); simp at ci5 ci6; clear hw1; rw [E7.out])
                        | (go_at_call 73; refine (idAll_ok m.ids _ S _ (X7.out.slk HNi.out)).mono ?_; rintro e w2 ⟨rfl, hw2⟩; have X8 := Lib.hid (X7.out.then hw2); have ci6 := (hw2.bk BK1.out).cell 6; simp at ci6; clear hw2; rw [E8.out]))
                  go_ret
                  exact ⟨rfl, X8.out⟩
              · obtain rfl : t = false := by rw [ht]; exact decn_ (fun h => h7 (h.2.2.2.2.2.2.1))
                have E1 := Lib.hid (dec_ h1)
                have E2 := Lib.hid (dec_ h2)
                have E3 := Lib.hid (dec_ h3)
                have e4 : decide ((m.nodes.length : Int) ≤ 64) = true := dec_ h4
                have e5 : decide ((m.ids.length : Int) ≤ 64) = true := dec_ h5
                have e6 : decide ((m.recs.length : Int) ≤ 16) = true := dec_ h6
                have E7 := Lib.hid (decn_ h7)
                have tok1 : True := trivial
                have tok2 : True := trivial
                have tok3 : True := trivial
                clear ht h1 h2 h3 h4 h5 h6 h7
                go_enter Try.func48, Try.ntmps48
                go_wp2_with (first
                      | (go_at_call 70; have _t := tok1; refine (between_ok m.kind 1 14 _).mono ?_; rintro e w' ⟨rfl, rfl⟩; rw [E1.out]; clear tok1 _t)
                      | (go_at_call 70; have _t := tok2; refine (between_ok m.node 0 65535 _).mono ?_; rintro e w' ⟨rfl, rfl⟩; rw [E2.out]; clear tok2 _t)
                      | (go_at_call 70; have _t := tok3; refine (between_ok m.walk 0 15 _).mono ?_; rintro e w' ⟨rfl, rfl⟩; rw [E3.out]; clear tok3 _t)
                      | (go_at_call 71; refine (nodeAll_ok m.nodes _ S _ (HB.out.slk HNn.out)).mono ?_; rintro e w1 ⟨rfl, hw1⟩; have X7 := Lib.hid (HB.out.then hw1); have ci5 := (hw1.bk HBK.out).cell 5; have ci6 := (hw1.bk HBK.out).cell 6; have BK1 := Lib.hid (hw1.bk HBK.out); simp at ci5 ci6; clear hw1; rw [E7.out]))
                go_ret
                exact ⟨rfl, X7.out⟩
            · obtain rfl : t = false := by rw [ht]; exact decn_ (fun h => h6 (Int.ofNat_le.2 h.2.2.2.2.2.1))
              have E1 := Lib.hid (dec_ h1)
              have E2 := Lib.hid (dec_ h2)
              have E3 := Lib.hid (dec_ h3)
              have e4 : decide ((m.nodes.length : Int) ≤ 64) = true := dec_ h4
              have e5 : decide ((m.ids.length : Int) ≤ 64) = true := dec_ h5
              have e6 : decide ((m.recs.length : Int) ≤ 16) = false := decn_ h6
              have tok1 : True := trivial
              have tok2 : True := trivial
              have tok3 : True := trivial
              clear ht h1 h2 h3 h4 h5 h6
              go_enter Try.func48, Try.ntmps48
              go_wp2_with (first
                    | (go_at_call 70; have _t := tok1; refine (between_ok m.kind 1 14 _).mono ?_; rintro e w' ⟨rfl, rfl⟩; rw [E1.out]; clear tok1 _t)
                    | (go_at_call 70; have _t := tok2; refine (between_ok m.node 0 65535 _).mono ?_; rintro e w' ⟨rfl, rfl⟩; rw [E2.out]; clear tok2 _t)
                    | (go_at_call 70; have _t := tok3; refine (between_ok m.walk 0 15 _).mono ?_; rintro e w' ⟨rfl, rfl⟩; rw [E3.out]; clear tok3 _t))
              go_ret
              exact ⟨rfl, HB.out⟩
          · obtain rfl : t = false := by rw [ht]; exact decn_ (fun h => h5 (Int.ofNat_le.2 h.2.2.2.2.1))
            have E1 := Lib.hid (dec_ h1)
            have E2 := Lib.hid (dec_ h2)
            have E3 := Lib.hid (dec_ h3)
            have e4 : decide ((m.nodes.length : Int) ≤ 64) = true := dec_ h4
            have e5 : decide ((m.ids.length : Int) ≤ 64) = false := decn_ h5
            have tok1 : True := trivial
            have tok2 : True := trivial
            have tok3 : True := trivial
            clear ht h1 h2 h3 h4 h5
            go_enter Try.func48, Try.ntmps48
            go_wp2_with (first
                  | (go_at_call 70; have _t := tok1; refine (between_ok m.kind 1 14 _).mono ?_; rintro e w' ⟨rfl, rfl⟩; rw [E1.out]; clear tok1 _t)
                  | (go_at_call 70; have _t := tok2; refine (between_ok m.node 0 65535 _).mono ?_; rintro e w' ⟨rfl, rfl⟩; rw [E2.out]; clear tok2 _t)
                  | (go_at_call 70; have _t := tok3; refine (between_ok m.walk 0 15 _).mono ?_; rintro e w' ⟨rfl, rfl⟩; rw [E3.out]; clear tok3 _t))
            go_ret
            exact ⟨rfl, HB.out⟩
        · obtain rfl : t = false := by rw [ht]; exact decn_ (fun h => h4 (Int.ofNat_le.2 h.2.2.2.1))
          have E1 := Lib.hid (dec_ h1)
          have E2 := Lib.hid (dec_ h2)
          have E3 := Lib.hid (dec_ h3)
          have e4 : decide ((m.nodes.length : Int) ≤ 64) = false := decn_ h4
          have tok1 : True := trivial
          have tok2 : True := trivial
          have tok3 : True := trivial
          clear ht h1 h2 h3 h4
          go_enter Try.func48, Try.ntmps48
          go_wp2_with (first
                | (go_at_call 70; have _t := tok1; refine (between_ok m.kind 1 14 _).mono ?_; rintro e w' ⟨rfl, rfl⟩; rw [E1.out]; clear tok1 _t)
                | (go_at_call 70; have _t := tok2; refine (between_ok m.node 0 65535 _).mono ?_; rintro e w' ⟨rfl, rfl⟩; rw [E2.out]; clear tok2 _t)
                | (go_at_call 70; have _t := tok3; refine (between_ok m.walk 0 15 _).mono ?_; rintro e w' ⟨rfl, rfl⟩; rw [E3.out]; clear tok3 _t))
          go_ret
          exact ⟨rfl, HB.out⟩
      · obtain rfl : t = false := by rw [ht]; exact decn_ (fun h => h3 (h.2.2.1))
        have E1 := Lib.hid (dec_ h1)
        have E2 := Lib.hid (dec_ h2)
        have E3 := Lib.hid (decn_ h3)
        have tok1 : True := trivial
        have tok2 : True := trivial
        have tok3 : True := trivial
        clear ht h1 h2 h3
        go_enter Try.func48, Try.ntmps48
        go_wp2_with (first
              | (go_at_call 70; have _t := tok1; refine (between_ok m.kind 1 14 _).mono ?_; rintro e w' ⟨rfl, rfl⟩; rw [E1.out]; clear tok1 _t)
              | (go_at_call 70; have _t := tok2; refine (between_ok m.node 0 65535 _).mono ?_; rintro e w' ⟨rfl, rfl⟩; rw [E2.out]; clear tok2 _t)
              | (go_at_call 70; have _t := tok3; refine (between_ok m.walk 0 15 _).mono ?_; rintro e w' ⟨rfl, rfl⟩; rw [E3.out]; clear tok3 _t))
        go_ret
        exact ⟨rfl, HB.out⟩
    · obtain rfl : t = false := by rw [ht]; exact decn_ (fun h => h2 (h.2.1))
      have E1 := Lib.hid (dec_ h1)
      have E2 := Lib.hid (decn_ h2)
      have tok1 : True := trivial
      have tok2 : True := trivial
      have tok3 : True := trivial
      clear ht h1 h2
      go_enter Try.func48, Try.ntmps48
      go_wp2_with (first
            | (go_at_call 70; have _t := tok1; refine (between_ok m.kind 1 14 _).mono ?_; rintro e w' ⟨rfl, rfl⟩; rw [E1.out]; clear tok1 _t)
            | (go_at_call 70; have _t := tok2; refine (between_ok m.node 0 65535 _).mono ?_; rintro e w' ⟨rfl, rfl⟩; rw [E2.out]; clear tok2 _t))
      go_ret
      exact ⟨rfl, HB.out⟩
  · obtain rfl : t = false := by rw [ht]; exact decn_ (fun h => h1 (h.1))
    have E1 := Lib.hid (decn_ h1)
    have tok1 : True := trivial
    have tok2 : True := trivial
    have tok3 : True := trivial
    clear ht h1
    go_enter Try.func48, Try.ntmps48
    go_wp2_with (first
          | (go_at_call 70; have _t := tok1; refine (between_ok m.kind 1 14 _).mono ?_; rintro e w' ⟨rfl, rfl⟩; rw [E1.out]; clear tok1 _t))
    go_ret
    exact ⟨rfl, HB.out⟩
end Go.Proofs.Ytebpdnmmcbianaa
