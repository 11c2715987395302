/-
  PackReads' walk.
-/
import Derived.Test.YtgnpnlelkkkmeaaReads
set_option linter.unusedVariables false
namespace Go.Proofs.Ytgnpnlelkkkmeaa
open Go.RowKit

theorem enters23 (args : Array Value) (w : World) : (callFunc 23 args).run Try.prog w = .ok (.enter 23 args) w := by simp [go_sem]
theorem info_Text : (Try.prog.info? 9).map (fun i => (i.zero, i.size, i.bytes)) = some (some (.string ⟨#[]⟩), 1, 16) := by kernel_rfl

theorem text_head (b : UInt8) (l : List UInt8) (n : Nat) : (str (b :: l)).extract 1 (1 + n) = str (l.take n) := by
  rw [Lib.extract_eq, str_data, Nat.add_comm 1 n]
  simp [str]
theorem text_tail (b : UInt8) (l : List UInt8) (n : Nat) : (str (b :: l)).extract (1 + n) (str (b :: l)).size = str (l.drop n) := by
  rw [str_tail, Nat.add_comm 1 n]
  rfl

/-- What a round leaves. -/
theorem reads_round (w wd wr w1 : World) (bo : Option Addr) (m cap1 : Nat) (ws : List (List UInt8)) (R R' T : List UInt8) (v1 vw : Value) (t1 : Tch (fun b => wd.heap.size + 2 ≤ b) wr w1) (HRr : Bk wr wd.heap.size 9 #[.string (str R)])
    (HWr : Bk wr (wd.heap.size + 1) 45 #[vw]) (HLr : Bk wr w.heap.size 44 #[.slice bo m cap1]) (HBr : Below w.heap.size w wr) (hwd : w.heap.size < wd.heap.size) (hwr : wd.heap.size + 2 ≤ wr.heap.size)
    (HO1 : w1.ownsRow (wd.heap.size + 2) 9 1 v1 (ws.length + 1) (strs ws ++ [.string (str T)])) :
    Bk ((w1.setCell ⟨wd.heap.size + 1, 0, none⟩ v1).setCell ⟨wd.heap.size, 0, none⟩ (.string (str R'))) wd.heap.size 9 #[.string (str R')] ∧
    Bk ((w1.setCell ⟨wd.heap.size + 1, 0, none⟩ v1).setCell ⟨wd.heap.size, 0, none⟩ (.string (str R'))) (wd.heap.size + 1) 45 #[v1] ∧
    ((w1.setCell ⟨wd.heap.size + 1, 0, none⟩ v1).setCell ⟨wd.heap.size, 0, none⟩ (.string (str R'))).ownsRow (wd.heap.size + 2) 9 1 v1 (ws ++ [T]).length (strs (ws ++ [T])) ∧
    Bk ((w1.setCell ⟨wd.heap.size + 1, 0, none⟩ v1).setCell ⟨wd.heap.size, 0, none⟩ (.string (str R'))) w.heap.size 44 #[.slice bo m cap1] ∧
    Below w.heap.size w ((w1.setCell ⟨wd.heap.size + 1, 0, none⟩ v1).setCell ⟨wd.heap.size, 0, none⟩ (.string (str R'))) ∧
    wd.heap.size + 2 ≤ ((w1.setCell ⟨wd.heap.size + 1, 0, none⟩ v1).setCell ⟨wd.heap.size, 0, none⟩ (.string (str R'))).heap.size := by
  have t2 : Tch (fun b => b = wd.heap.size + 1 ∨ b = wd.heap.size) w1 ((w1.setCell ⟨wd.heap.size + 1, 0, none⟩ v1).setCell ⟨wd.heap.size, 0, none⟩ (.string (str R'))) :=
    ((Tch.refl _ w1).setCell (p := ⟨wd.heap.size + 1, 0, none⟩) (fun _ => .inl rfl) _).setCell (p := ⟨wd.heap.size, 0, none⟩) (fun _ => .inr rfl) _
  have hs := t1.size
  refine ⟨?_, ?_, ?_, ?_, ?_, ?_⟩
  · have := ((HRr.tch t1 (by omega)).other (p := ⟨wd.heap.size + 1, 0, none⟩) (by simp) v1).store 0 (.string (str R'))
    simpa using this
  · have h1 : Bk (w1.setCell ⟨wd.heap.size + 1, 0, none⟩ v1) (wd.heap.size + 1) 45 #[v1] := by simpa using (HWr.tch t1 (by omega)).store 0 v1
    exact h1.other (p := ⟨wd.heap.size, 0, none⟩) (by simp) _
  · have h1 := own_tch HO1 t2 (fun b hb h => by have := (own_base HO1 hb).1; omega)
    simpa [strs] using h1
  · exact (HLr.tch t1 (by omega)).tch t2 (by omega)
  · exact HBr.trans ((t1.belowB HBr.size (by omega)).trans (t2.belowB (by omega) (by omega)))
  · have := t2.size
    omega

set_option maxRecDepth 100000 in
set_option maxHeartbeats 4000000 in
theorem packReads_core (v1 : Value) (bs : List UInt8) (zs : List Int) (w : World) (h1 : Sl w (· < w.heap.size) v1 (intsV zs)) (hzs : ∀ z ∈ zs, -9223372036854775808 ≤ z ∧ z ≤ 9223372036854775807) (hbs : bs.length ≤ 9223372036854775807) :
    Calls Try.prog 4 #[.string (str bs), v1] w fun e w' => e = .returned (.bool true) ∧ Below w.heap.size w w' := by
  have H1 := Lib.hid h1
  have HZ := Lib.hid hzs
  obtain ⟨bo, cap1, rfl, hl1, hm1, _, _⟩ := h1
  rw [show (intsV zs).length = zs.length from by simp [intsV]] at hl1 ⊢
  unfold maxLen at hm1
  obtain ⟨i0, hi, hz0, hz1, hz2⟩ := info_parts info_Text
  clear hzs
  have hsz := str_size bs
  rw [← hsz] at hbs
  have HSZ := Lib.hid hsz
  clear hsz
  go_enter Try.func4, Try.ntmps4
  go_upto_region 3 with (go_at_call 10; refine (speaks01 _).mono ?_; rintro e w1 ⟨rfl, hb1⟩; have HB1 := Lib.hid hb1; clear hb1)
  have hbk : Bk w1 w.heap.size 44 #[.slice bo zs.length cap1] := (Bk.made w 44 #[.slice bo zs.length cap1]).keep (HB1.out.block _ (by simp))
  have hbw : Below w.heap.size w w1 := ((Below.refl _ w).alloc (Nat.le_refl _) _).trans (HB1.out.mono (by simp))
  have hs1 : w.heap.size < w1.heap.size := hbk.lt
  have HBk := Lib.hid hbk
  have HBw := Lib.hid hbw
  have c0 := hbk.cell 0
  have f0 := hbk.frozen 0
  simp at c0
  clear hbk hbw
  go_cut [0] (fun v wx => ∃ m : Nat, v = .string (str (bs.take 100)) ∧ Hid (Sl w (· < w.heap.size) (.slice bo m cap1) (intsV (zs.take 12))) ∧ Hid (Bk wx w.heap.size 44 #[.slice bo m cap1]) ∧ Hid (Below w.heap.size w wx))
  case first =>
    have HT : ∀ M, (M = 12 ∧ 12 ≤ zs.length ∨ M = zs.length ∧ zs.length ≤ 12) → Hid (Sl w (· < w.heap.size) (.slice bo M cap1) (intsV (zs.take 12))) := by
      intro M hM
      have := H1.out.head (n := M) (by simp [intsV]; omega)
      have e : (intsV zs).take M = intsV (zs.take 12) := by
        simp only [intsV, ← List.map_take]
        rcases hM with ⟨rfl, _⟩ | ⟨rfl, h⟩
        · rfl
        · rw [List.take_of_length_le (Nat.le_refl _), List.take_of_length_le h]
      rwa [e] at this
    have HX : ∀ M, (M = 100 ∧ 100 ≤ (str bs).size ∨ M = (str bs).size ∧ (str bs).size ≤ 100) → (str bs).extract 0 M = str (bs.take 100) := by
      intro M hM
      rw [str_head]
      rw [HSZ.out] at hM
      rcases hM with ⟨rfl, _⟩ | ⟨rfl, h⟩
      · rfl
      · rw [List.take_of_length_le (Nat.le_refl _), List.take_of_length_le h]
    have HX2 : (str bs).size ≤ 100 → str bs = str (bs.take 100) := by
      intro h
      rw [HSZ.out] at h
      rw [List.take_of_length_le h]
    have HK : ∀ M, Hid (Bk (w1.setCell ⟨w.heap.size, 0, none⟩ (.slice bo M cap1)).drew w.heap.size 44 #[.slice bo M cap1]) := by
      intro M
      have : Bk (w1.setCell ⟨w.heap.size, 0, none⟩ (.slice bo M cap1)) w.heap.size 44 #[.slice bo M cap1] := by
        simpa using HBk.out.store 0 (.slice bo M cap1)
      exact this
    have HBW : ∀ M, Hid (Below w.heap.size w (w1.setCell ⟨w.heap.size, 0, none⟩ (.slice bo M cap1)).drew) := fun M => (HBw.out.setCell (p := ⟨w.heap.size, 0, none⟩) (Nat.le_refl _) _).drew
    have HXH := Lib.hid HX
    have HX2H := Lib.hid HX2
    clear HX HX2
    rcases (show 100 ≤ (str bs).size ∨ (str bs).size < 100 by omega) with h2 | h2
    all_goals rcases (show 12 ≤ zs.length ∨ zs.length < 12 by omega) with h3 | h3
    all_goals go_region
    all_goals go_wp2_with fail
    all_goals go_meet
    all_goals refine ⟨_, ?_, HT _ ?_, HK _, HBW _⟩
    all_goals first | omega | exact congrArg Value.string (HXH.out 100 (by omega)) | exact congrArg Value.string (HX2H.out (by omega))
  case rest =>
    obtain ⟨m, rfl, HS, HB, HBl⟩ := hcut
    obtain ⟨wd, hwd⟩ : ∃ x, x = wc := ⟨_, rfl⟩
    subst hwd
    obtain ⟨xs, hxs⟩ : ∃ xs, xs = bs.take 100 := ⟨_, rfl⟩
    obtain ⟨ys, hys⟩ : ∃ ys, ys = zs.take 12 := ⟨_, rfl⟩
    have hz : ∀ z ∈ ys, -9223372036854775808 ≤ z ∧ z ≤ 9223372036854775807 := fun z h => HZ.out z (List.mem_of_mem_take (hys ▸ h))
    rw [← hys] at HS
    rw [← hxs]
    have hxl : xs.length ≤ 100 := by rw [hxs, List.length_take]; omega
    have hal : ys.length ≤ 12 := by rw [hys, List.length_take]; omega
    have hm : m = ys.length := by obtain ⟨ao', cap', e, _⟩ := HS.out; injection e with e1 e2 e3; simpa [intsV] using e2
    subst hm
    have HAZ := Lib.hid hz
    clear hz hxs hys HBk HBw c0 f0 hbs HSZ HZ H1 HB1 hl1 hs1
    have cL := HB.out.cell 0
    simp at cL
    go_upto_block 0 with fail
    have hwz : w.heap.size < wd.heap.size := HB.out.lt
    have hR : Bk ((wd.alloc (.cells #[.string (str xs)] 9)).alloc (.cells #[.slice none 0 0] 45)) wd.heap.size 9 #[.string (str xs)] := (Bk.made _ _ _).alloc _
    have hWt : Bk ((wd.alloc (.cells #[.string (str xs)] 9)).alloc (.cells #[.slice none 0 0] 45)) (wd.heap.size + 1) 45 #[.slice none 0 0] := by
      simpa using Bk.made (wd.alloc (.cells #[.string (str xs)] 9)) 45 #[.slice none 0 0]
    have hL : Bk ((wd.alloc (.cells #[.string (str xs)] 9)).alloc (.cells #[.slice none 0 0] 45)) w.heap.size 44 #[.slice bo ys.length cap1] := (HB.out.alloc _).alloc _
    have hBl : Below w.heap.size w ((wd.alloc (.cells #[.string (str xs)] 9)).alloc (.cells #[.slice none 0 0] 45)) := (HBl.out.alloc (by omega) _).alloc (by simp; omega) _
    generalize hw0 : (wd.alloc (.cells #[.string (str xs)] 9)).alloc (.cells #[.slice none 0 0] 45) = w0 at *
    have hs0 : w0.heap.size = wd.heap.size + 2 := by rw [← hw0]; simp
    clear hw0
    have HL := Lib.hid hL
    have HBl := Lib.hid hBl
    have HR0 := Lib.hid hR
    have HW0 := Lib.hid hWt
    clear hL hBl hR hWt cL
    go_cut [6, 8, 9, 10] (fun bad i sz ah wx => ∃ (er : Nat) (rF : List UInt8) (ws : List (List UInt8)) (vw : Value), bad = .int .i64 er ∧ ws.length ≤ 12 ∧ (er = 0 ∨ er = 2 ∨ er = 11) ∧ Hid (RdGo ys xs ws er rF) ∧ Hid (Bk wx wd.heap.size 9 #[.string (str rF)]) ∧ Hid (Bk wx (wd.heap.size + 1) 45 #[vw]) ∧
      Hid (wx.ownsRow (wd.heap.size + 2) 9 1 vw ws.length (strs ws)) ∧ Hid (Bk wx w.heap.size 44 #[.slice bo ys.length cap1]) ∧ Hid (Below w.heap.size w wx) ∧ wd.heap.size + 2 ≤ wx.heap.size)
    case first =>
      go_wp2_with fail
      go_loopw [6, 8, 9, 10] (fun bad i sz ah wr => ∃ (k : Nat) (r : List UInt8) (ws : List (List UInt8)) (vw : Value), bad = .int .i64 0 ∧ i = .int .i64 k ∧ k ≤ ys.length ∧ ws.length = k ∧ r.length ≤ 100 ∧ Hid (∀ ws2 e2 r2, RdGo (ys.drop k) r ws2 e2 r2 → RdGo ys xs (ws ++ ws2) e2 r2) ∧ Hid (Bk wr wd.heap.size 9 #[.string (str r)]) ∧ Hid (Bk wr (wd.heap.size + 1) 45 #[vw]) ∧
        Hid (wr.ownsRow (wd.heap.size + 2) 9 1 vw ws.length (strs ws)) ∧ Hid (Bk wr w.heap.size 44 #[.slice bo ys.length cap1]) ∧ Hid (Below w.heap.size w wr) ∧ wd.heap.size + 2 ≤ wr.heap.size) (fun _ i _ _ _ => ys.length - (intOf i).toNat)
      case atStart => exact ⟨0, xs, [], .slice none 0 0, rfl, rfl, by omega, rfl, hxl, by intro ws2 e2 r2 h; simpa using h, HR0, HW0, World.ownsRow_nil _ _ _ _, HL, HBl, by omega⟩
      case round =>
        obtain ⟨k, r, ws, vw, rfl, rfl, hk, hwl, hrl, HI, HRr, HWr, HO, HLr, HBr, hwr⟩ := hrel
        subst hwl
        have hWl : wd.heap.size + 1 < wr.heap.size := by omega
        have hRl : wd.heap.size < wr.heap.size := by omega
        have hsz := str_size r
        have cL := HLr.out.cell 0
        have cR := HRr.out.cell 0
        have fR := HRr.out.frozen 0
        have cW := HWr.out.cell 0
        have fW := HWr.out.frozen 0
        simp at cL cR cW
        by_cases hlt : ws.length < ys.length
        · obtain ⟨a, ha⟩ : ∃ a, a = ys[ws.length] := ⟨_, rfl⟩
          have hdr : ys.drop ws.length = a :: ys.drop (ws.length + 1) := by rw [ha]; exact List.drop_eq_getElem_cons hlt
          have hab : -9223372036854775808 ≤ a ∧ a ≤ 9223372036854775807 := HAZ.out a (by rw [ha]; exact List.getElem_mem _)
          obtain ⟨b, off, rfl, hcz⟩ : ∃ b off, bo = some ⟨b, off, none⟩ ∧ wr.cell? ⟨b, off + ws.length, none⟩ = some (.int .i64 a) := by
            obtain ⟨ao', cap', e, _, _, _, hc⟩ := HS.out.below HBr.out
            injection e with e1 e2 e3
            subst e1
            obtain ⟨b, off, e, _, _, hc⟩ := hc (by simp [intsV]; omega)
            exact ⟨b, off, e, by rw [hc ws.length (by simp [intsV]; omega), ha]; simp [intsV]⟩
          have HI2 := HI.out
          rw [hdr] at HI2
          have HI := Lib.hid HI2
          clear HI2 hdr ha
          by_cases h1 : a < 1
          · clear hsz
            go_wp2_with fail
            go_meet
            exact ⟨11, r, ws, vw, rfl, by omega, by omega, Lib.hid (by simpa using HI.out [] 11 r (.inl ⟨h1, rfl, rfl, rfl⟩)), HRr, HWr, HO, HLr, HBr, hwr⟩
          · by_cases h9 : a = 9
            · subst h9
              rcases r with _ | ⟨b1, r1⟩
              · have hs1 : ((str ([] : List UInt8)).size : Int) < 1 := by rw [hsz]; simp
                clear hsz
                go_wp2_with fail
                go_meet
                exact ⟨2, [], ws, vw, rfl, by omega, by omega, Lib.hid (by simpa using HI.out [] 2 [] (.inr (.inr (.inr (.inl ⟨rfl, rfl, rfl, rfl, rfl⟩))))), HRr, HWr, HO, HLr, HBr, hwr⟩
              · rw [List.length_cons] at hsz hrl
                have hs1 : ¬ ((str (b1 :: r1)).size : Int) < 1 := by omega
                have hs2 : 0 < (str (b1 :: r1)).size := by omega
                have hidx : ∀ h : 0 < (str (b1 :: r1)).size, (str (b1 :: r1))[0]'h = b1 := fun _ => rfl
                have hbl := b1.toNat_lt
                have hwb : IntKind.i64.wrap (b1.toNat : Int) = b1.toNat := IntWalk.i64_in _ (by omega)
                go_wp2_with fail
                go_quiet (fail)
                have kR : Bk (wr.drewN nq) wd.heap.size 9 #[.string (str (b1 :: r1))] := HRr.out
                have kW : Bk (wr.drewN nq) (wd.heap.size + 1) 45 #[vw] := HWr.out
                have kL : Bk (wr.drewN nq) w.heap.size 44 #[.slice (some ⟨b, off, none⟩) ys.length cap1] := HLr.out
                have kB : Below w.heap.size w (wr.drewN nq) := bdN HBr.out nq
                have kO := own_tch HO.out ((Tch.refl (fun _ => False) wr).drewN nq) (fun _ _ h => h)
                have kc : (wr.drewN nq).cell? ⟨b, off + ws.length, none⟩ = some (.int .i64 9) := hcz
                have kz : (wr.drewN nq).heap.size = wr.heap.size := rfl
                generalize wr.drewN nq = wq at kR kW kL kB kO kc kz ⊢
                have HRr := Lib.hid kR
                have HWr := Lib.hid kW
                have HLr := Lib.hid kL
                have HBr := Lib.hid kB
                have HO := Lib.hid kO
                have hwr : wd.heap.size + 2 ≤ wq.heap.size := by omega
                have hWl : wd.heap.size + 1 < wq.heap.size := by omega
                have hRl : wd.heap.size < wq.heap.size := by omega
                have cL := kL.cell 0
                have cR := kR.cell 0
                have fR := kR.frozen 0
                have cW := kW.cell 0
                have fW := kW.frozen 0
                simp at cL cR cW
                clear kR kW kL kB kO
                have hwd1 : IntKind.i64.wrap (((str (b1 :: r1)).size : Int) - 1) = ((str (b1 :: r1)).size : Int) - 1 := IntWalk.i64_in _ (by omega)
                by_cases hn : r1.length < b1.toNat
                · have HNR := Lib.hid hn
                  have hn1 : ((str (b1 :: r1)).size : Int) - 1 < b1.toNat := by omega
                  clear hn
                  clear hsz
                  go_wp2_with fail
                  go_meet
                  exact ⟨2, b1 :: r1, ws, vw, rfl, by omega, by omega, Lib.hid (by simpa using HI.out [] 2 (b1 :: r1) (.inr (.inr (.inr (.inr (.inl ⟨rfl, b1, r1, rfl, HNR.out, rfl, rfl, rfl⟩)))))), HRr, HWr, HO, HLr, HBr, hwr⟩
                · have hn1 : (b1.toNat : Int) ≤ ((str (b1 :: r1)).size : Int) - 1 := by omega
                  have HNL := Lib.hid (show b1.toNat ≤ r1.length by omega)
                  have hw0 : IntKind.i64.wrap (1 + (b1.toNat : Int)) = 1 + (b1.toNat : Int) := IntWalk.i64_in _ (by omega)
                  have hw1 : 1 + (b1.toNat : Int) ≤ ((str (b1 :: r1)).size : Int) := by omega
                  have hw2 : (1 : Int) ≤ 1 + (b1.toNat : Int) := by omega
                  have hw3 : (1 + (b1.toNat : Int)).toNat = 1 + b1.toNat := by omega
                  have hw4 : (0 : Int) ≤ 1 + (b1.toNat : Int) := by omega
                  have hs100 : (str (b1 :: r1)).size ≤ 101 := by omega
                  clear hn
                  have hx1 : (str (b1 :: r1)).extract 1 (1 + b1.toNat) = str (r1.take b1.toNat) := text_head b1 r1 b1.toNat
                  have hx2 : (str (b1 :: r1)).extract (1 + b1.toNat) (str (b1 :: r1)).size = str (r1.drop b1.toNat) := text_tail b1 r1 b1.toNat
                  have HX1 := Lib.hid hx1
                  have HX2 := Lib.hid hx2
                  clear hx1 hx2
                  obtain ⟨aw, capw, rfl, hwc, hwm, hwn, hwrow⟩ := own_shape HO.out
                  clear hsz hwrow hwn
                  go_wp2_with fail
                  go_region_law
                    (refine step_app rfl (.tmp 79) (.tmp 86) 45 rfl (wd.heap.size + 2) 9 i0 (.string ⟨#[]⟩) 16 Try.underlying45 hi hz0 hz1 hz2 rfl (.slice aw ws.length capw) _ _ (by simp [Act.eval]) (HO.out.alloc _) (some ⟨wq.heap.size, 0, none⟩) 1 1 [.string ((str (b1 :: r1)).extract 1 (1 + b1.toNat))] (by simp [Act.eval]) rfl (by simp) (by simp) (fun _ => ⟨_, rfl, fun j u hu => cells_one wq _ _ j u hu⟩) (by intro u hu; simp at hu; subst hu; rfl) (by unfold maxLen; omega) (by omega) (by simp; omega) ?_
                     intro v1 w1 HO1 HG1
                     have t1 : Tch (fun b => wd.heap.size + 2 ≤ b) wq w1 := Tch.grown (((Tch.refl _ wq).alloc _).drew) HG1.out (fun g hg _ => (own_base HO.out hg).1)
                     obtain ⟨ao1, capw1, rfl, _⟩ := own_shape HO1.out
                     have cR1 := (HRr.out.tch t1 (by omega)).cell 0
                     have fR1 := (HRr.out.tch t1 (by omega)).frozen 0
                     have fW1 := (HWr.out.tch t1 (by omega)).frozen 0
                     have cW1 := (HWr.out.tch t1 (by omega)).cell 0
                     simp at cR1 cW1
                     have T1 := Lib.hid t1
                     clear t1)
                  all_goals
                    go_wp2_with fail
                    go_roundw
                    case rel =>
                      have ho := HO1.out
                      rw [HX1.out] at ho
                      rw [HX2.out]
                      obtain ⟨q1, q2, q3, q4, q5, q6⟩ := reads_round w wd wq w1 (some ⟨b, off, none⟩) ys.length cap1 ws (b1 :: r1) (r1.drop b1.toNat) (r1.take b1.toNat) _ _ T1.out HRr.out HWr.out HLr.out HBr.out hwz hwr ho
                      refine ⟨ws.length + 1, r1.drop b1.toNat, ws ++ [r1.take b1.toNat], _, rfl, by go_num, by omega, by simp, by simp; (try simp at hrl); omega, Lib.hid (fun ws2 e2 r2 hg => ?_), Lib.hid q1, Lib.hid q2, Lib.hid q3, Lib.hid q4, Lib.hid q5, q6⟩
                      have := HI.out (r1.take b1.toNat :: ws2) e2 r2 (.inr (.inr (.inr (.inr (.inr (.inl ⟨rfl, b1, r1, ws2, rfl, HNL.out, rfl, hg⟩))))))
                      simpa using this
                    case measure => simp [intOf]; omega
            · have g9 : (a == 9) = false := bne_ h9
              by_cases h10 : 9 < a
              · have hw10 : IntKind.i64.wrap (a - 10) = a - 10 := IntWalk.i64_in _ (by omega)
                by_cases hn : (r.length : Int) < a - 10
                · have HNR := Lib.hid hn
                  rw [← hsz] at hn
                  clear hsz
                  go_wp2_with fail
                  go_meet
                  exact ⟨2, r, ws, vw, rfl, by omega, by omega, Lib.hid (by simpa using HI.out [] 2 r (.inr (.inr (.inr (.inr (.inr (.inr (.inl ⟨by omega, HNR.out, rfl, rfl, rfl⟩)))))))), HRr, HWr, HO, HLr, HBr, hwr⟩
                · obtain ⟨n, hna⟩ : ∃ n : Nat, a - 10 = n := ⟨(a - 10).toNat, by omega⟩
                  have han : a = (n : Int) + 10 := by omega
                  subst han
                  have hw10 : IntKind.i64.wrap ((n : Int) + 10 - 10) = n := by rw [IntWalk.i64_in _ (by omega)]; omega
                  have hnl : n ≤ (str r).size := by omega
                  have HNL := Lib.hid (show n ≤ r.length by omega)
                  have hw0 : IntKind.i64.wrap (n : Int) = n := IntWalk.i64_in _ (by omega)
                  have hw1 : (n : Int) ≤ ((str r).size : Int) := by omega
                  have hs100 : (str r).size ≤ 100 := by omega
                  clear hn hna
                  have hx1 : (str (r)).extract 0 n = str (r.take n) := str_head r n
                  have hx2 : (str (r)).extract n (str (r)).size = str (r.drop n) := str_tail r n
                  have HX1 := Lib.hid hx1
                  have HX2 := Lib.hid hx2
                  clear hx1 hx2
                  obtain ⟨aw, capw, rfl, hwc, hwm, hwn, hwrow⟩ := own_shape HO.out
                  clear hsz hwrow hwn
                  go_wp2_with fail
                  go_region_law
                    (refine step_app rfl (.tmp 79) (.tmp 86) 45 rfl (wd.heap.size + 2) 9 i0 (.string ⟨#[]⟩) 16 Try.underlying45 hi hz0 hz1 hz2 rfl (.slice aw ws.length capw) _ _ (by simp [Act.eval]) (HO.out.alloc _) (some ⟨wr.heap.size, 0, none⟩) 1 1 [.string ((str (r)).extract 0 n)] (by simp [Act.eval]) rfl (by simp) (by simp) (fun _ => ⟨_, rfl, fun j u hu => cells_one wr _ _ j u hu⟩) (by intro u hu; simp at hu; subst hu; rfl) (by unfold maxLen; omega) (by omega) (by simp; omega) ?_
                     intro v1 w1 HO1 HG1
                     have t1 : Tch (fun b => wd.heap.size + 2 ≤ b) wr w1 := Tch.grown (((Tch.refl _ wr).alloc _).drew) HG1.out (fun g hg _ => (own_base HO.out hg).1)
                     obtain ⟨ao1, capw1, rfl, _⟩ := own_shape HO1.out
                     have cR1 := (HRr.out.tch t1 (by omega)).cell 0
                     have fR1 := (HRr.out.tch t1 (by omega)).frozen 0
                     have fW1 := (HWr.out.tch t1 (by omega)).frozen 0
                     have cW1 := (HWr.out.tch t1 (by omega)).cell 0
                     simp at cR1 cW1
                     have T1 := Lib.hid t1
                     clear t1)
                  all_goals
                    go_wp2_with fail
                    go_roundw
                    case rel =>
                      have ho := HO1.out
                      rw [HX1.out] at ho
                      rw [HX2.out]
                      obtain ⟨q1, q2, q3, q4, q5, q6⟩ := reads_round w wd wr w1 (some ⟨b, off, none⟩) ys.length cap1 ws (r) (r.drop n) (r.take n) _ _ T1.out HRr.out HWr.out HLr.out HBr.out hwz hwr ho
                      refine ⟨ws.length + 1, r.drop n, ws ++ [r.take n], _, rfl, by go_num, by omega, by simp, by simp; (try simp at hrl); omega, Lib.hid (fun ws2 e2 r2 hg => ?_), Lib.hid q1, Lib.hid q2, Lib.hid q3, Lib.hid q4, Lib.hid q5, q6⟩
                      have := HI.out (r.take n :: ws2) e2 r2 (.inr (.inr (.inr (.inr (.inr (.inr (.inr ⟨n, ws2, rfl, HNL.out, rfl, hg⟩)))))))
                      simpa using this
                    case measure => simp [intOf]; omega
              · by_cases hn : (r.length : Int) < a
                · have HNR := Lib.hid hn
                  rw [← hsz] at hn
                  clear hsz
                  go_wp2_with fail
                  go_meet
                  exact ⟨2, r, ws, vw, rfl, by omega, by omega, Lib.hid (by simpa using HI.out [] 2 r (.inr (.inl ⟨by omega, HNR.out, rfl, rfl, rfl⟩))), HRr, HWr, HO, HLr, HBr, hwr⟩
                · obtain ⟨n, rfl⟩ : ∃ n : Nat, a = n := ⟨a.toNat, by omega⟩
                  have hnl : n ≤ (str r).size := by omega
                  have HNL := Lib.hid (show n ≤ r.length by omega)
                  have HN9 := Lib.hid (show 1 ≤ n ∧ n < 9 by omega)
                  have hw0 : IntKind.i64.wrap (n : Int) = n := IntWalk.i64_in _ (by omega)
                  have hw1 : (n : Int) ≤ ((str r).size : Int) := by omega
                  have hs100 : (str r).size ≤ 100 := by omega
                  clear hn
                  have hx1 : (str (r)).extract 0 n = str (r.take n) := str_head r n
                  have hx2 : (str (r)).extract n (str (r)).size = str (r.drop n) := str_tail r n
                  have HX1 := Lib.hid hx1
                  have HX2 := Lib.hid hx2
                  clear hx1 hx2
                  obtain ⟨aw, capw, rfl, hwc, hwm, hwn, hwrow⟩ := own_shape HO.out
                  clear hsz hwrow hwn
                  go_wp2_with fail
                  go_region_law
                    (refine step_app rfl (.tmp 79) (.tmp 86) 45 rfl (wd.heap.size + 2) 9 i0 (.string ⟨#[]⟩) 16 Try.underlying45 hi hz0 hz1 hz2 rfl (.slice aw ws.length capw) _ _ (by simp [Act.eval]) (HO.out.alloc _) (some ⟨wr.heap.size, 0, none⟩) 1 1 [.string ((str (r)).extract 0 n)] (by simp [Act.eval]) rfl (by simp) (by simp) (fun _ => ⟨_, rfl, fun j u hu => cells_one wr _ _ j u hu⟩) (by intro u hu; simp at hu; subst hu; rfl) (by unfold maxLen; omega) (by omega) (by simp; omega) ?_
                     intro v1 w1 HO1 HG1
                     have t1 : Tch (fun b => wd.heap.size + 2 ≤ b) wr w1 := Tch.grown (((Tch.refl _ wr).alloc _).drew) HG1.out (fun g hg _ => (own_base HO.out hg).1)
                     obtain ⟨ao1, capw1, rfl, _⟩ := own_shape HO1.out
                     have cR1 := (HRr.out.tch t1 (by omega)).cell 0
                     have fR1 := (HRr.out.tch t1 (by omega)).frozen 0
                     have fW1 := (HWr.out.tch t1 (by omega)).frozen 0
                     have cW1 := (HWr.out.tch t1 (by omega)).cell 0
                     simp at cR1 cW1
                     have T1 := Lib.hid t1
                     clear t1)
                  all_goals
                    go_wp2_with fail
                    go_roundw
                    case rel =>
                      have ho := HO1.out
                      rw [HX1.out] at ho
                      rw [HX2.out]
                      obtain ⟨q1, q2, q3, q4, q5, q6⟩ := reads_round w wd wr w1 (some ⟨b, off, none⟩) ys.length cap1 ws (r) (r.drop n) (r.take n) _ _ T1.out HRr.out HWr.out HLr.out HBr.out hwz hwr ho
                      refine ⟨ws.length + 1, r.drop n, ws ++ [r.take n], _, rfl, by go_num, by omega, by simp, by simp; (try simp at hrl); omega, Lib.hid (fun ws2 e2 r2 hg => ?_), Lib.hid q1, Lib.hid q2, Lib.hid q3, Lib.hid q4, Lib.hid q5, q6⟩
                      have := HI.out (r.take n :: ws2) e2 r2 (.inr (.inr (.inl ⟨n, ws2, rfl, HN9.out, HNL.out, rfl, hg⟩)))
                      simpa using this
                    case measure => simp [intOf]; omega
        · have hkk : ws.length = ys.length := by omega
          clear hsz
          go_wp2_with fail
          go_meet
          exact ⟨0, r, ws, vw, rfl, by omega, .inl rfl, Lib.hid (by have := HI.out [] 0 r (by rw [hkk, List.drop_of_length_le (Nat.le_refl _)]; exact ⟨rfl, rfl, rfl⟩); simpa using this), HRr, HWr, HO, HLr, HBr, hwr⟩
    case rest =>
      obtain ⟨er, rF, ws, vw, rfl, hwl, her, HG, HRf, HWf, HO, HLf, HBf, hwf⟩ := hcut
      obtain ⟨aw, capw, rfl, hwc, hwm, hwn, hwrow⟩ := own_shape HO.out
      have HWS := Lib.hid (own_sl HO.out)
      clear hwc hwm hwn hwrow
      have cR := HRf.out.cell 0
      simp at cR
      obtain ⟨B, hB⟩ : ∃ B : Nat, (er = 0 ∧ rF = [] ∧ B = 0) ∨ (er = 0 ∧ rF ≠ [] ∧ B = 3) ∨ (er ≠ 0 ∧ B = er) := by
        by_cases h0 : er = 0
        · by_cases h1 : rF = []
          · exact ⟨0, .inl ⟨h0, h1, rfl⟩⟩
          · exact ⟨3, .inr (.inl ⟨h0, h1, rfl⟩)⟩
        · exact ⟨er, .inr (.inr ⟨h0, rfl⟩)⟩
      have HB3 := Lib.hid hB
      go_upto_region 23 with fail
      go_cut [98] (fun t wx => t = .bool (decide (er = 0 ∧ rF ≠ [])) ∧ wx = wc)
      case first =>
        rcases hB with ⟨rfl, rfl, _⟩ | ⟨rfl, h1, _⟩ | ⟨h0, _⟩
        · go_wp2_with fail
          go_meet
          exact ⟨by simp [str, Lib.toList_data], rfl⟩
        · obtain ⟨c, l, rfl⟩ := List.exists_cons_of_ne_nil h1
          go_wp2_with fail
          go_meet
          exact ⟨by simp [str, Lib.toList_data], rfl⟩
        · have h00 : ((er : Int) == 0) = false := bne_ (by omega)
          go_wp2_with fail
          go_meet
          exact ⟨by simp [h0], rfl⟩
      case rest =>
        obtain ⟨rfl, rfl⟩ := hcut
        obtain ⟨bb, hbb⟩ : ∃ bb, decide (er = 0 ∧ rF ≠ []) = bb := ⟨_, rfl⟩
        rw [hbb]
        have hbB : (bb = true ∧ B = 3) ∨ (bb = false ∧ B = er) := by
          cases bb with
          | true => have := of_decide_eq_true hbb; left; refine ⟨rfl, ?_⟩; rcases hB with ⟨_, h, _⟩ | ⟨_, _, h⟩ | ⟨h, _⟩; exact absurd h this.2; exact h; exact absurd this.1 h
          | false => have := of_decide_eq_false hbb; right; refine ⟨rfl, ?_⟩; rcases hB with ⟨h, _, h2⟩ | ⟨h1, h2, h3⟩ | ⟨_, h⟩; omega; exact absurd ⟨h1, h2⟩ this; exact h
        clear hbb hB
        have hk4 : w.heap.size < wc.heap.size := by omega
        rcases hbB with ⟨rfl, hBv⟩ | ⟨rfl, hBv⟩
        all_goals
          go_wp2_with fail
          have kN : Bk ((wc.alloc (.cells #[.int .i64 0] 3)).alloc (.cells #[.bool true] 4)) wc.heap.size 3 #[.int .i64 0] := (Bk.made _ _ _).alloc _
          have kS : Bk ((wc.alloc (.cells #[.int .i64 0] 3)).alloc (.cells #[.bool true] 4)) (wc.heap.size + 1) 4 #[.bool true] := by
            simpa using Bk.made (wc.alloc (.cells #[.int .i64 0] 3)) 4 #[.bool true]
          have kL : Bk ((wc.alloc (.cells #[.int .i64 0] 3)).alloc (.cells #[.bool true] 4)) w.heap.size 44 #[.slice bo ys.length cap1] := (HLf.out.alloc _).alloc _
          have kW : Bk ((wc.alloc (.cells #[.int .i64 0] 3)).alloc (.cells #[.bool true] 4)) (wd.heap.size + 1) 45 #[.slice aw ws.length capw] := (HWf.out.alloc _).alloc _
          have kR : Bk ((wc.alloc (.cells #[.int .i64 0] 3)).alloc (.cells #[.bool true] 4)) wd.heap.size 9 #[.string (str rF)] := (HRf.out.alloc _).alloc _
          have kB : Below w.heap.size w ((wc.alloc (.cells #[.int .i64 0] 3)).alloc (.cells #[.bool true] 4)) := (HBf.out.alloc (by omega) _).alloc (by simp; omega) _
          have kk : ∀ b, b < wc.heap.size → ((wc.alloc (.cells #[.int .i64 0] 3)).alloc (.cells #[.bool true] 4)).heap[b]? = wc.heap[b]? := fun b hb => (Below.heap_alloc _ _ _ (by simp; omega)).trans (Below.heap_alloc _ _ _ hb)
          generalize hw4 : (wc.alloc (.cells #[.int .i64 0] 3)).alloc (.cells #[.bool true] 4) = w4 at *
          have hs4 : w4.heap.size = wc.heap.size + 2 := by rw [← hw4]; simp
          clear hw4
          refine (read_any xs 23 #[.pointer (some ⟨w.heap.size, 0, none⟩), .pointer (some ⟨wc.heap.size + 1, 0, none⟩), .pointer (some ⟨wc.heap.size, 0, none⟩), .pointer (some ⟨wd.heap.size + 1, 0, none⟩), .pointer (some ⟨wd.heap.size, 0, none⟩)]
            (fun b => b = wc.heap.size + 1 ∨ b = wc.heap.size) (fun l w2 => er = 0 ∧ l = rF ∧ w2.cell? ⟨wc.heap.size, 0, none⟩ = some (.int .i64 ws.length) ∧ w2.cell? ⟨wc.heap.size + 1, 0, none⟩ = some (.bool true)) (fun en w2 => (en = er ∧ er ≠ 0) ∧ w2.cell? ⟨wc.heap.size, 0, none⟩ = some (.int .i64 ws.length) ∧ w2.cell? ⟨wc.heap.size + 1, 0, none⟩ = some (.bool true)) (fun _ _ => False) w4 (fun b h => by omega) enters23 (fun R w5 hR hb5 hw5 => ?_)).mono ?_
          · refine reads1 R w.heap.size (wc.heap.size + 1) wc.heap.size (wd.heap.size + 1) wd.heap.size ys xs rF ws er bo aw cap1 capw w5 hw5 (kL.keep (hb5.block _ (by omega))) (((HS.out.below (kB.trans (hb5.mono (by omega))))).more (fun b _ hb h => by unfold RdT at h; omega)) (kS.keep (hb5.block _ (by omega))) (kN.keep (hb5.block _ (by omega))) (kW.keep (hb5.block _ (by omega)))
              ((HWS.out.more (T := fun b => b < wc.heap.size ∧ ¬ RdT R (wc.heap.size + 1) wc.heap.size b) (fun b hb _ => ⟨hb, fun h => by unfold RdT at h; omega⟩)).keep (by have := hb5.size; omega) (fun b hb _ => (hb5.block b (by omega)).trans (kk b hb)) |>.more (fun b _ h => h.2)) (kR.keep (hb5.block _ (by omega))) (by omega) HG.out HAZ.out hal hwl
          · rintro e w5 ⟨ht, w6, hs6, ht6, hcase⟩
            have hfin : e = .returned (.int .i64 (B : Int)) ∧ w6.cell? ⟨wc.heap.size, 0, none⟩ = some (.int .i64 ws.length) ∧ w6.cell? ⟨wc.heap.size + 1, 0, none⟩ = some (.bool true) := by
              rcases hcase with ⟨rfl, h0, hl, hn, hs⟩ | ⟨l, hl0, rfl, h0, hl, hn, hs⟩ | ⟨en, _, rfl, ⟨he, hne⟩, hn, hs⟩ | ⟨_, _, hq⟩
              · rcases HB3.out with ⟨_, _, h⟩ | ⟨_, h, _⟩ | ⟨h, _⟩
                · exact ⟨by rw [h]; rfl, hn, hs⟩
                · exact absurd hl.symm h
                · exact absurd h0 h
              · rcases HB3.out with ⟨_, h, _⟩ | ⟨_, _, h⟩ | ⟨h, _⟩
                · exact absurd (hl.trans h) hl0
                · exact ⟨by rw [h]; rfl, hn, hs⟩
                · exact absurd h0 h
              · rcases HB3.out with ⟨h, _, _⟩ | ⟨h, _, _⟩ | ⟨_, h⟩
                · exact absurd h hne
                · exact absurd h hne
                · exact ⟨by rw [he, h], hn, hs⟩
              · exact hq.elim
            obtain ⟨rfl, c6n, c6s⟩ := hfin
            have c5n : w5.cell? ⟨wc.heap.size, 0, none⟩ = some (.int .i64 ws.length) := (ht6.cell (p := ⟨wc.heap.size, 0, none⟩) (by simp; omega) (by simp; omega)).trans c6n
            have c5s : w5.cell? ⟨wc.heap.size + 1, 0, none⟩ = some (.bool true) := (ht6.cell (p := ⟨wc.heap.size + 1, 0, none⟩) (by simp; omega) (by simp; omega)).trans c6s
            have c5w := (kW.tch ht (by omega)).cell 0
            simp at c5w
            have kB5 : Below w.heap.size w w5 := kB.trans (ht.belowB (by omega) (by omega))
            have KB5 := Lib.hid kB5
            clear hcase ht ht6 hs6 c6n c6s kN kS kL kW kR kB kk kB5 cR
            have hBB := beq_ (show (B : Int) = _ from by rw [hBv])
            go_wp2_with fail
            go_ret
            exact ⟨rfl, KB5.out⟩
end Go.Proofs.Ytgnpnlelkkkmeaa
