/-
  Views: Sane (slices.ContainsFunc with a bound method).
-/
import Derived.Test.YtdhafagihfdolaaViwOps
import Derived.Deep.RegionHeld3
set_option linter.unusedVariables false
set_option linter.unusedSimpArgs false
set_option maxRecDepth 100000
namespace Go.Proofs.Ytdhafagihfdolaa
open Go.RowKit Go.Lib Go.Sort Go.Shelf

set_option maxHeartbeats 2000000 in
theorem index_ok (most : Nat) (sv v : Value) (ns l : List Int) (w : World) (h : SetV w (.agg #[.int .i64 most, sv]) most ns) (hs : Slr w v (ints l)) (hl : l.length ≤ 1000000) :
    Calls Try.prog 90 #[v, .func (.func 34) #[.agg #[.int .i64 most, sv]] #[]] w fun e w' => ∃ k : Int, e = .returned (.int .i64 k) ∧ (0 ≤ k ↔ ∃ x ∈ l, x ∈ ns) ∧ New w w' := by
  obtain ⟨ao, cap, rfl, h1, h2, h3, h4⟩ := slr_ints hs
  have HS := Lib.hid hs
  have HH := Lib.hid (fun (x : Int) (wx : World) (k : New w wx) => has_lay most sv ns x wx (h.below k.below))
  have HC := Lib.hid h4
  clear h hs h4 h3
  go_enter Try.func90, Try.ntmps90
  go_wp2_with fail
  go_loopw [8] (fun vj wr => ∃ j : Nat, vj = .int .i64 j ∧ Hid (j ≤ l.length ∧ ∀ i, i < j → l.getD i 0 ∉ ns) ∧ Hid (New w wr)) (fun vj _ => l.length - (intOf vj).toNat)
  case atStart => exact ⟨0, rfl, Lib.hid ⟨Nat.zero_le _, fun i hi => by omega⟩, Lib.hid (New.refl _)⟩
  case round =>
    obtain ⟨j, rfl, HJ, HN⟩ := hrel
    by_cases hj : j < l.length
    · have hj2 : (j : Int) < l.length := by omega
      obtain ⟨b, off, hao, _, hb, hc⟩ := HC.out (by omega)
      subst hao
      obtain ⟨y, hy⟩ : ∃ y, y = l.getD j 0 := ⟨_, rfl⟩
      have cy := HN.out.cell (hc j hj)
      rw [← hy] at cy
      have HY := Lib.hid hy
      have hca := HH.out y wr HN.out
      clear hc hy hb
      by_cases hin : y ∈ ns
      · rw [dec_ hin] at hca
        have HR := Lib.hid (show ∃ x ∈ l, x ∈ ns from ⟨y, by rw [HY.out, List.getD, List.getElem?_eq_getElem hj]; exact List.getElem_mem _, hin⟩)
        clear hin
        go_wp2_with fail
        refine hca.mono ?_
        rintro e w2 ⟨rfl, hn⟩
        go_wp2_with fail
        go_ret
        exact ⟨j, rfl, ⟨fun _ => HR.out, fun _ => by omega⟩, HN.out.then hn.out⟩
      · rw [decn_ hin] at hca
        have HNI := Lib.hid hin
        clear hin
        go_wp2_with fail
        refine hca.mono ?_
        rintro e w2 ⟨rfl, hn⟩
        go_wp2_with fail
        go_roundw
        case rel => exact ⟨j + 1, rfl, Lib.hid ⟨by omega, fun i hi => by
          rcases Nat.lt_or_ge i j with h | h
          · exact HJ.out.2 i h
          · obtain rfl : i = j := by omega
            rw [← HY.out]; exact HNI.out⟩, Lib.hid (HN.out.then hn.out)⟩
        case measure => simp [intOf]; omega
    · have hj2 : ¬ (j : Int) < l.length := by omega
      have HR := Lib.hid (show ¬ ∃ x ∈ l, x ∈ ns by
        rintro ⟨x, hx, hxn⟩
        obtain ⟨i, hi, rfl⟩ := List.getElem_of_mem hx
        have := HJ.out.2 i (by have := HJ.out.1; omega)
        rw [List.getD, List.getElem?_eq_getElem hi] at this
        exact this hxn)
      go_wp2_with fail
      go_ret
      exact ⟨-1, rfl, ⟨fun h => absurd h (by decide), fun h => absurd h HR.out⟩, HN.out⟩
theorem cfunc_ok (most : Nat) (sv v : Value) (ns l : List Int) (w : World) (h : SetV w (.agg #[.int .i64 most, sv]) most ns) (hs : Slr w v (ints l)) (hl : l.length ≤ 1000000) :
    Calls Try.prog 70 #[v, .func (.func 34) #[.agg #[.int .i64 most, sv]] #[]] w fun e w' => e = .returned (.bool (decide (∃ x ∈ l, x ∈ ns))) ∧ Hid (New w w') := by
  have hix := index_ok most sv v ns l w h hs hl
  clear h hs hl
  go_enter Try.func70, Try.ntmps70
  go_wp2_with fail
  refine hix.mono ?_
  rintro e w1 ⟨k, rfl, hk, hn⟩
  have HE := Lib.hid hk
  have HN := Lib.hid hn
  clear hix hk hn
  by_cases h0 : 0 ≤ k
  · have HR := Lib.hid (show decide (∃ x ∈ l, x ∈ ns) = true from dec_ (HE.out.1 h0))
    go_wp2_with fail
    go_ret
    exact ⟨by rw [HR.out]; rfl, HN⟩
  · have HR := Lib.hid (show decide (∃ x ∈ l, x ∈ ns) = false from decn_ (fun h => h0 (HE.out.2 h)))
    have t0 := decn_ h0
    clear h0
    go_wp2_with fail
    go_ret
    exact ⟨by rw [HR.out]; rfl, HN⟩
instance (x : VA) : Decidable x.Sane := by unfold VA.Sane; infer_instance
set_option maxHeartbeats 2000000 in
theorem sane_ok (x : VA) (sa sp : Value) (w : World) (h : ViwS w x sa sp) :
    Calls Try.prog 27 #[viwV x sa sp] w fun e w' => e = .returned (.bool (decide x.Sane)) ∧ Hid (New w w') := by
  obtain ⟨⟨ao, al, ac, rfl⟩, po, pl, pc, rfl⟩ := h.slices
  obtain ⟨self, A, P, act, pas⟩ := x
  obtain ⟨w0, hw0⟩ : ∃ w0, w0 = w.alloc (.cells #[.int .i64 self, .int .i64 A, .slice ao al ac, .int .i64 P, .slice po pl pc] 30) := ⟨_, rfl⟩
  have hn0 : New w w0 := by rw [hw0]; exact (New.refl w).alloc _
  have HK := Lib.hid (show Bk w0 w.heap.size 30 #[.int .i64 self, .int .i64 A, .slice ao al ac, .int .i64 P, .slice po pl pc] by rw [hw0]; exact Bk.made _ _ _)
  have hca := has_lay A (.slice ao al ac) act self w0 (h.new hn0).seta
  have H := Lib.hid h
  have HN0 := Lib.hid hn0
  clear h hn0
  unfold viwV
  simp only
  go_enter Try.func27, Try.ntmps27
  go_upto_region 1 with fail
  rw [← hw0]
  clear hw0
  obtain ⟨⟨a0, a1, a2, a3, a4⟩, a5, a6, a7, a8, a9⟩ := HK.out.five
  by_cases h1 : self ∈ act
  · have HR := Lib.hid (show decide (VA.Sane ⟨self, A, P, act, pas⟩) = false from decn_ (fun h => h.1 h1))
    rw [dec_ h1] at hca
    clear h1
    go_wp2_with fail
    refine hca.mono ?_
    rintro e w1 ⟨rfl, hn1⟩
    go_wp2_with fail
    go_ret
    exact ⟨by rw [HR.out]; rfl, HN0.out.then hn1.out⟩
  · rw [decn_ h1] at hca
    have H1 := Lib.hid h1
    clear h1
    go_wp2_with fail
    refine hca.mono ?_
    rintro e w1 ⟨rfl, hn1⟩
    have HN1 := Lib.hid (HN0.out.then hn1.out)
    have HK1 := Lib.hid (hn1.out.bk HK.out)
    have hcp := has_lay P (.slice po pl pc) pas self w1 (H.out.new HN1.out).setp
    clear hca hn1 HK HN0 a0 a1 a2 a3 a4 a5 a6 a7 a8 a9
    obtain ⟨⟨a0, a1, a2, a3, a4⟩, a5, a6, a7, a8, a9⟩ := HK1.out.five
    by_cases h2 : self ∈ pas
    · have HR := Lib.hid (show decide (VA.Sane ⟨self, A, P, act, pas⟩) = false from decn_ (fun h => h.2.1 h2))
      rw [dec_ h2] at hcp
      clear h2
      go_wp2_with fail
      refine hcp.mono ?_
      rintro e w2 ⟨rfl, hn2⟩
      go_wp2_with fail
      go_ret
      exact ⟨by rw [HR.out]; rfl, HN1.out.then hn2.out⟩
    · rw [decn_ h2] at hcp
      have H2 := Lib.hid h2
      clear h2
      go_wp2_with fail
      refine hcp.mono ?_
      rintro e w2 ⟨rfl, hn2⟩
      have HN2 := Lib.hid (HN1.out.then hn2.out)
      have HK2 := Lib.hid (hn2.out.bk HK1.out)
      have KEEP : Hid (∀ x, New w2 x → x.cell? ⟨w.heap.size, 1, none⟩ = some (.int .i64 A) ∧ x.cell? ⟨w.heap.size, 2, none⟩ = some (.slice ao al ac) ∧ x.cell? ⟨w.heap.size, 3, none⟩ = some (.int .i64 P) ∧ x.cell? ⟨w.heap.size, 4, none⟩ = some (.slice po pl pc)) := fun x hx => by
        obtain ⟨⟨b0, b1, b2, b3, b4⟩, _⟩ := (hx.bk HK2.out).five
        exact ⟨b1, b2, b3, b4⟩
      have HAL := Lib.hid (fun (wx : World) (k : New w2 wx) => all_lay A (.slice ao al ac) act wx (H.out.new (HN2.out.then k)).seta)
      have HCF := Lib.hid (fun (wx : World) (k : New w2 wx) (v : Value) (hs : Slr wx v (ints act)) => cfunc_ok P (.slice po pl pc) v pas act wx (H.out.new (HN2.out.then k)).setp hs (by have := H.out.good.act.le; have := H.out.good.act.cap; simp only at *; omega))
      have BC := Lib.hid (show New w2 w2.drew from (New.refl _).drew)
      have HR := Lib.hid (show decide (VA.Sane ⟨self, A, P, act, pas⟩) = !decide (∃ x ∈ act, x ∈ pas) by
        by_cases h3 : ∃ x ∈ act, x ∈ pas
        · rw [dec_ h3, decn_]
          · rfl
          · rintro ⟨_, _, h⟩
            obtain ⟨y, h4, h5⟩ := h3
            exact h y h4 h5
        · rw [decn_ h3, dec_]
          · rfl
          · exact ⟨H1.out, H2.out, fun y h4 h5 => h3 ⟨y, h4, h5⟩⟩)
      obtain ⟨bb, hbb⟩ : ∃ bb, bb = decide (∃ x ∈ act, x ∈ pas) := ⟨_, rfl⟩
      rw [← hbb] at HR HCF
      clear hcp hn2 HK1 HN1 hbb a0 a1 a2 a3 a4 a5 a6 a7 a8 a9
      go_upto_region 3 with fail
      go_region_held3 (fun x => x.cell? ⟨w.heap.size, 1, none⟩ = some (.int .i64 A) ∧ x.cell? ⟨w.heap.size, 2, none⟩ = some (.slice ao al ac) ∧ x.cell? ⟨w.heap.size, 3, none⟩ = some (.int .i64 P) ∧ x.cell? ⟨w.heap.size, 4, none⟩ = some (.slice po pl pc))
        ((refine KEEP.out _ ?_; first | exact BC.out | exact BC.out.drew | exact BC.out.drewN _))
        (first
         | (go_at_call 30; refine (HAL.out _ (by first | exact BC.out | exact BC.out.drew)).mono ?_; rintro e w6 ⟨lo, lc, rfl, hs6, hn6⟩; have HS6 := Lib.hid hs6.out; replace BC := Lib.hid (show New w2 w6 from New.then (by first | exact BC.out | exact BC.out.drew) hn6.out); clear hs6 hn6)
         | (go_at_call 70; refine (HCF.out _ (by first | exact BC.out | exact BC.out.drew) _ (by first | exact HS6.out | exact HS6.out.below (New.drew (New.refl _)).below)).mono ?_; rintro e w7 ⟨rfl, hn7⟩; replace BC := Lib.hid (show New w2 w7 from New.then (by first | exact BC.out | exact BC.out.drew) hn7.out); clear hn7))
      all_goals
        have HNN := Lib.hid (HN2.out.then BC.out)
        go_wp2_with fail
        go_ret
        exact ⟨by rw [HR.out]; rfl, HNN⟩
end Go.Proofs.Ytdhafagihfdolaa
