/-
  Package pipe: the other functions, by contracts; no pipe.
-/
import Derived.Test.YthobffgkggfooaaPipCon
import Derived.Conc.LoneSelectN
set_option linter.unusedVariables false
set_option linter.unusedSimpArgs false
set_option maxRecDepth 100000
namespace Go.Proofs.Ythobffgkggfooaa
open Go.RowKit

/-- A send by definition. -/
def putL (l : List ItA) (x : ItA) : List ItA := if l.length < 64 then l ++ [x] else l
theorem pput_ok (P c : Nat) (x : ItA) (l : List ItA) (w : World) (h : PipIs w P c l) :
    Calls Try.prog 61 #[.pointer (some ⟨P, 0, none⟩), itV x] w fun e w' => e = .returned (.bool (decide (l.length < 64))) ∧ PipIs w' P c (putL l x) ∧ Tch (· = c) w w' := by
  by_cases hl : l.length < 64
  · have := put_room P c x l w h hl
    rw [dec_ hl, putL, if_pos hl]
    exact this
  · have := put_full P c x l w h (by have := h.len; omega)
    rw [decn_ hl, putL, if_neg hl]
    exact this
def headI (l : List ItA) : ItA := match l with | [] => zeroI | x :: _ => x
theorem ptake_ok (P c : Nat) (l : List ItA) (w : World) (h : PipIs w P c l) :
    Calls Try.prog 24 #[.pointer (some ⟨P, 0, none⟩)] w fun e w' => e = .returned (.tuple #[itV (headI l), .bool (decide (0 < l.length))]) ∧ PipIs w' P c l.tail ∧ Tch (· = c) w w' := by
  rcases l with _ | ⟨x, l⟩
  · exact take_none P c w h
  · have := take_some P c x l w h
    rw [dec_ (show 0 < (x :: l).length by simp)]
    exact this
theorem bytes_item : ∃ i, Try.prog.info? 57 = some i ∧ i.bytes = 24 := by
  have h : (Try.prog.info? 57).map (·.bytes) = some 24 := by kernel_rfl
  obtain ⟨i, hi, hb⟩ := Option.map_eq_some_iff.1 h
  exact ⟨i, hi, hb⟩
theorem mk64 (w : World) : (Instr.makeChan 112 (.int .i64 64)).run Try.prog w = .ok (.chan (some w.heap.size)) (w.alloc (.chan 64 #[] false 0 0 false)) := by
  obtain ⟨i, hi, hb⟩ := bytes_item
  simpa using Go.Conc.run_makeChan (P := Try.prog) (w := w) Try.underlying112 hi .i64 64 (by omega) (by rw [hb]; omega)
set_option maxHeartbeats 400000 in
theorem newp_ok (w : World) : Calls Try.prog 23 #[] w fun e w' => e = .returned (.pointer (some ⟨w.heap.size + 1, 0, none⟩)) ∧ PipIs w' (w.heap.size + 1) w.heap.size [] ∧ New w w' := by
  have hmc := mk64
  go_enter Try.func23, Try.ntmps23
  go_wp2_with fail
  go_ret
  refine ⟨rfl, ⟨?_, ⟨0, 0, ?_⟩, by simp⟩, ((New.refl w).alloc _).alloc _⟩
  · have := Bk.made (w.alloc (.chan 64 #[] false 0 0 false)) 114 #[.chan (some w.heap.size)]
    rw [World.size_alloc] at this
    exact this
  · exact (Below.heap_alloc _ _ _ (by simp)).trans (heap_alloc_new w _)
set_option maxHeartbeats 400000 in
theorem plen_ok (P c : Nat) (l : List ItA) (w : World) (h : PipIs w P c l) :
    Calls Try.prog 29 #[.pointer (some ⟨P, 0, none⟩)] w fun e w' => e = .returned (.int .i64 l.length) ∧ w' = w := by
  have c0 : w.cell? ⟨P, 0, none⟩ = some (.chan (some c)) := by rw [h.bk.cell]; rfl
  obtain ⟨s, r, hc⟩ := h.ch
  have hlen : (Builtin.len_ #[112] 3 #[.chan (some c)]).run Try.prog w = .ok (.int .i64 l.length) w := by
    have := Go.Conc.run_len_chan (P := Try.prog) 112 3 Try.underlying112 hc
    simpa [goInt] using this
  clear hc
  go_enter Try.func29, Try.ntmps29
  go_wp2_with fail
  go_ret
  exact ⟨rfl, rfl⟩
set_option maxHeartbeats 400000 in
theorem psend_ok (P c : Nat) (s : ByteArray) (l : List ItA) (w : World) (h : PipIs w P c l) :
    Calls Try.prog 28 #[.pointer (some ⟨P, 0, none⟩), .string s] w fun e w' => e = .returned (.bool (decide (l.length < 64))) ∧ PipIs w' P c (putL l ⟨false, s⟩) ∧ Tch (· = c) w w' := by
  have HP := Lib.hid (pput_ok P c ⟨false, s⟩ l w h)
  simp only [itV] at HP
  clear h
  go_enter Try.func28, Try.ntmps28
  go_wp2_with fail
  refine HP.out.mono ?_
  rintro e w1 ⟨rfl, h1, h2⟩
  obtain ⟨b, hb⟩ : ∃ b, b = decide (l.length < 64) := ⟨_, rfl⟩
  rw [← hb]
  have H1 := Lib.hid h1
  have H2 := Lib.hid h2
  have HB := Lib.hid hb
  clear h1 h2 HP hb
  go_wp2_with fail
  go_ret
  exact ⟨by rw [← HB.out]; rfl, H1.out, H2.out⟩
set_option maxHeartbeats 1000000 in
theorem pclear_ok (P c : Nat) (l : List ItA) (w : World) (h : PipIs w P c l) :
    Calls Try.prog 26 #[.pointer (some ⟨P, 0, none⟩)] w fun e w' => e = .returned (.tuple #[]) ∧ PipIs w' P c [] ∧ Tch (· = c) w w' := by
  have HL := Lib.hid (plen_ok P c l w h)
  have H := Lib.hid h
  have hl := h.len
  clear h
  go_enter Try.func26, Try.ntmps26
  go_wp2_with fail
  refine HL.out.mono ?_
  rintro e w1 ⟨rfl, rfl⟩
  clear HL
  go_wp2_with fail
  go_loopw [4] (fun v wr => ∃ j : Nat, v = .int .i64 j ∧ Hid (j ≤ l.length) ∧ Hid (PipIs wr P c (l.drop j)) ∧ Hid (Tch (· = c) w1 wr)) (fun v _ => l.length - (intOf v).toNat)
  case atStart => exact ⟨0, rfl, Lib.hid (by omega), H, Lib.hid (Tch.refl _ _)⟩
  case round =>
    obtain ⟨j, rfl, HJ, HP, HT⟩ := hrel
    by_cases hj : j < l.length
    · have HTK := Lib.hid (ptake_ok P c _ wr HP.out)
      go_wp2_with fail
      refine HTK.out.mono ?_
      rintro e w2 ⟨rfl, h1, h2⟩
      have H1 := Lib.hid h1
      have H2 := Lib.hid (HT.out.then h2)
      clear h1 h2 HTK
      obtain ⟨x, hx⟩ : ∃ x, x = itV (headI (l.drop j)) := ⟨_, rfl⟩
      obtain ⟨b, hb⟩ : ∃ b, b = decide (0 < (l.drop j).length) := ⟨_, rfl⟩
      rw [← hx, ← hb]
      clear hx hb
      go_wp2_with fail
      go_roundw
      case rel => exact ⟨j + 1, rfl, Lib.hid (by omega), Lib.hid (by have := H1.out; rwa [List.tail_drop] at this), H2⟩
      case measure => simp [intOf]; omega
    · obtain rfl : j = l.length := by have := HJ.out; omega
      go_wp2_with fail
      go_end0
      exact ⟨rfl, by have := HP.out; rwa [List.drop_length] at this, HT.out⟩
set_option maxHeartbeats 400000 in
theorem pbreak_ok (P c : Nat) (l : List ItA) (w : World) (h : PipIs w P c l) :
    Calls Try.prog 25 #[.pointer (some ⟨P, 0, none⟩)] w fun e w' => e = .returned (.tuple #[]) ∧ PipIs w' P c [⟨true, ⟨#[]⟩⟩] ∧ Tch (· = c) w w' := by
  have HC := Lib.hid (pclear_ok P c l w h)
  clear h
  go_enter Try.func25, Try.ntmps25
  go_wp2_with fail
  refine HC.out.mono ?_
  rintro e w1 ⟨rfl, h1, h2⟩
  have HP := Lib.hid (put_room P c ⟨true, ⟨#[]⟩⟩ [] w1 h1 (by simp))
  simp only [itV] at HP
  have H2 := Lib.hid h2
  clear h1 h2 HC
  go_wp2_with fail
  refine HP.out.mono ?_
  rintro e w2 ⟨rfl, h1, h2⟩
  have H1 := Lib.hid h1
  have H3 := Lib.hid (H2.out.then h2)
  clear h1 h2 HP H2
  go_wp2_with fail
  go_end0
  exact ⟨rfl, H1.out, H3.out⟩
/-! no pipe -/
set_option maxHeartbeats 400000 in
theorem nilplen_ok (w : World) : Calls Try.prog 29 #[.pointer none] w fun e w' => e = .returned (.int .i64 0) ∧ w' = w := by
  go_enter Try.func29, Try.ntmps29
  go_wp2_with fail
  go_ret
  exact ⟨rfl, rfl⟩
set_option maxHeartbeats 400000 in
theorem nilput_ok (x : ItA) (w : World) : Calls Try.prog 61 #[.pointer none, itV x] w fun e w' => e = .returned (.bool false) ∧ New w w' := by
  simp only [itV]
  go_enter Try.func61, Try.ntmps61
  go_wp2_with fail
  go_ret
  exact ⟨rfl, (New.refl w).alloc _⟩
set_option maxHeartbeats 400000 in
theorem nilsend_ok (s : ByteArray) (w : World) : Calls Try.prog 28 #[.pointer none, .string s] w fun e w' => e = .returned (.bool false) ∧ New w w' := by
  have HP := Lib.hid (nilput_ok ⟨false, s⟩ w)
  simp only [itV] at HP
  go_enter Try.func28, Try.ntmps28
  go_wp2_with fail
  refine HP.out.mono ?_
  rintro e w1 ⟨rfl, h2⟩
  have H2 := Lib.hid h2
  clear h2 HP
  go_wp2_with fail
  go_ret
  exact ⟨rfl, H2.out⟩
set_option maxHeartbeats 400000 in
theorem niltake_ok (w : World) : Calls Try.prog 24 #[.pointer none] w fun e w' => e = .returned (.tuple #[itV zeroI, .bool false]) ∧ New w w' := by
  go_enter Try.func24, Try.ntmps24
  go_wp2_with fail
  refine bodyPost_ret (v := .tuple #[itV zeroI, .bool false]) (by simp [results, Try.results24, go_sem, itV, zeroI]) rfl ⟨rfl, ?_⟩
  exact (New.refl w).alloc _
set_option maxHeartbeats 400000 in
theorem nilclear_ok (w : World) : Calls Try.prog 26 #[.pointer none] w fun e w' => e = .returned (.tuple #[]) ∧ w' = w := by
  go_enter Try.func26, Try.ntmps26
  go_wp2_with fail
  refine (nilplen_ok w).mono ?_
  rintro e w1 ⟨rfl, rfl⟩
  go_wp2_with fail
  go_loopw [4] (fun v wr => v = .int .i64 0 ∧ wr = w1) (fun v _ => 0)
  case atStart => exact ⟨rfl, rfl⟩
  case round =>
    obtain ⟨rfl, rfl⟩ := hrel
    go_wp2_with fail
    go_end0
    exact ⟨rfl, rfl⟩
set_option maxHeartbeats 400000 in
theorem nilbreak_ok (w : World) : Calls Try.prog 25 #[.pointer none] w fun e w' => e = .returned (.tuple #[]) ∧ New w w' := by
  go_enter Try.func25, Try.ntmps25
  go_wp2_with fail
  refine (nilclear_ok w).mono ?_
  rintro e w1 ⟨rfl, rfl⟩
  have HP := Lib.hid (nilput_ok ⟨true, ⟨#[]⟩⟩ w1)
  simp only [itV] at HP
  go_wp2_with fail
  refine HP.out.mono ?_
  rintro e w2 ⟨rfl, h2⟩
  have H2 := Lib.hid h2
  clear h2 HP
  go_wp2_with fail
  go_end0
  exact ⟨rfl, H2.out⟩
end Go.Proofs.Ythobffgkggfooaa
