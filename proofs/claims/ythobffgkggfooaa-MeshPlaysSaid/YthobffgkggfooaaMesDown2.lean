/-
  Package mesh: Down as a contract.
-/
import Derived.Test.YthobffgkggfooaaMesDown
set_option linter.unusedVariables false
set_option linter.unusedSimpArgs false
set_option maxRecDepth 100000
namespace Go.Proofs.Ythobffgkggfooaa
open Go.RowKit Go.Maps

/-- A step of an iterator. -/
theorem MeshX.iter {w w1 : World} {M bl bp B N r : Nat} {lv : List Int} {it : Ways} {a : Option Nat} {s : Nat} {e : Array Nat} {c : Nat} (h : MeshX w M bl bp B N lv it) (hx : w.heap[r]? = some (.mapIter a s e c)) (ht : Tch (· = r) w w1) : MeshX w1 M bl bp B N lv it := by
  obtain ⟨es, h, h2, h3⟩ := h
  refine ⟨es, ⟨h.box.tch ht (fun e => ?_), h.live.tch ht (fun e => ?_), h.way.tch ht (fun e => ?_), fun e he => (h.pip e he).tch ht (fun e2 => ?_) (fun e2 => ?_), h.base, h.le, h.ne, h.apart⟩, h2, h3⟩
  · have := h.box
    unfold Bk at this
    rw [e, hx] at this
    cases this
  · obtain ⟨a, c2, ho⟩ := h.live.obj
    rw [e, hx] at ho
    cases ho
  · obtain ⟨a, c2, ho⟩ := h.way.obj
    rw [e, hx] at ho
    cases ho
  · have := (h.pip e he).bk
    unfold Bk at this
    rw [e2, hx] at this
    cases this
  · obtain ⟨s, r, hc⟩ := (h.pip e he).ch
    rw [e2, hx] at hc
    cases hc
set_option maxHeartbeats 2000000 in
theorem down_live (M B N : Nat) (lv : List Int) (it : Ways) (n : Int) (w : World) (h : MeshA w M B N lv it) (hn : I64 n) (hl : n ∈ lv) (hN : N + lv.length < 900000) :
    Calls Try.prog 40 #[.pointer (some ⟨M, 0, none⟩), .int .i64 n] w fun e w' => e = .returned (.tuple #[]) ∧ MeshA w' M B (N + lv.length) (downL lv n) (downI lv it n) ∧ MT B w w' := by
  have hMM := h.base
  obtain ⟨w1, hw1⟩ : ∃ w1, w1 = w.alloc (.cells #[.int .i64 n] 3) := ⟨_, rfl⟩
  have hn1 : New w w1 := by rw [hw1]; exact (New.refl w).alloc _
  have HG := Lib.hid (show Bk w1 w.heap.size 3 #[.int .i64 n] by rw [hw1]; exact Bk.made _ _ _)
  have HLI := Lib.hid (liveA M B N lv it n w1 (h.new hn1) hn)
  rw [dec_ hl] at HLI
  have HM := Lib.hid (h.new hn1)
  have HT := Lib.hid (MT.of_new (B := B) hn1)
  have HW1 := Lib.hid hw1
  have HL := Lib.hid hl
  have HBW := Lib.hid (show B ≤ w.heap.size from hMM)
  have g0 := HG.out.cell 0
  simp at g0
  clear h hn1 hl hMM hw1
  go_enter Try.func40, Try.ntmps40
  go_upto_region 1 with fail
  rw [← HW1.out]
  clear HW1
  go_wp2_with fail
  refine HLI.out.mono ?_
  rintro e w2 ⟨rfl, hn2⟩
  replace HG := Lib.hid (hn2.bk HG.out)
  replace HM := Lib.hid (HM.out.new hn2)
  replace HT := Lib.hid (HT.out.then (MT.of_new hn2))
  clear hn2 HLI g0
  have hgc := HG.out.cell 0
  have hgl := HG.out.lt
  simp at hgc
  obtain ⟨bl, bp, es, m1, m2, m3⟩ := HM.out
  have hM := m1.box.lt
  have c0 : w2.cell? ⟨M, 0, none⟩ = some (.map (some bl)) := by rw [m1.box.cell]; rfl
  obtain ⟨D, ho, hD⟩ := m1.live
  obtain ⟨w3, hrun, ho3, ht3⟩ := World.ownsMap.drop (w := w2.drew) (t := 116) (e := 120) ho liveG.keyed Try.underlying116 (key := .int .i64 n) (key_int hn) 0
  have hdel := hD.del liveG (ho.tidy liveG.keyed) (s := n) hn
  rw [← downL_map] at hdel
  obtain ⟨k1, k2⟩ := m1.turnLive (w1 := w3) (lv2 := downL lv n) ⟨_, ho3, hdel⟩ (((Tch.refl (· = bl) w2).drew).then (tch_map ht3))
  have HI3 := Lib.hid k1
  have HT3 := Lib.hid (HT.out.then k2)
  have HG3 := Lib.hid (k2.bk HG.out)
  have HM2 := Lib.hid m2
  have HM3 := Lib.hid m3
  clear m1 m2 m3 ho hD ho3 ht3 hdel k1 k2
  go_upto_region 2 with fail
  go_region
  have d0 : w3.cell? ⟨M, 0, none⟩ = some (.map (some bl)) := by rw [HI3.out.box.cell]; rfl
  have d1 : w3.cell? ⟨M, 1, none⟩ = some (.map (some bp)) := by rw [HI3.out.box.cell]; rfl
  have hM3 := HI3.out.box.lt
  have e0 := HG3.out.cell 0
  have el := HG3.out.lt
  simp at e0
  have HDF := Lib.hid (dfunc_ok bp N w.heap.size n _ w3 HI3.out.way e0)
  clear hgc hgl c0 hM
  go_wp2_with fail
  refine HDF.out.mono ?_
  rintro e w4 ⟨rfl, hm4, ht4⟩
  have hfm : (es.map fun e => (e.1, some e.2.P)).filter (fun e => decide (e.1.2 ≠ n)) = (es.filter fun e => decide (e.1.2 ≠ n)).map fun e => (e.1, some e.2.P) := by
    rw [List.filter_map]
    rfl
  rw [hfm] at hm4
  obtain ⟨k1, k2⟩ := HI3.out.cut (fun e => decide (e.1.2 ≠ n)) hm4 ht4
  have HI4 := Lib.hid k1
  have HT4 := Lib.hid (HT3.out.then k2)
  have HG4 := Lib.hid (k2.bk HG3.out)
  clear hm4 ht4 hfm k1 k2 HDF d0 d1 hM3 e0 el
  have d0 : w4.cell? ⟨M, 0, none⟩ = some (.map (some bl)) := by rw [HI4.out.box.cell]; rfl
  have hM4 := HI4.out.box.lt
  obtain ⟨Dl, ho, hDl⟩ := HI4.out.live
  have HO := Lib.hid ho
  have HDL := Lib.hid hDl
  clear ho hDl
  go_wp2_with (refine wpList_range_own _ rfl _ 116 rfl 3 120 liveG.keyed Try.underlying116 liveS.R bl N Dl rfl HO.out ?_; intro w5 hr5 hg5 hs5)
  go_frame
  have hn5 : New w4 w5 := Tch.of_grown hg5 |>.more (fun b hb e => by cases e)
  have HR5 := Lib.hid hr5
  have HT5 := Lib.hid (HT4.out.then (MT.of_new hn5))
  have HG5 := Lib.hid (hn5.bk HG4.out)
  have HX5 := Lib.hid (show MeshX w5 M bl bp B N (downL lv n) (downW (downL lv n) it n (Maps.has Dl)) from by
    refine ⟨_, HI4.out.new hn5, fun q => ?_, fun e he => HM3.out e (List.mem_filter.1 he).1⟩
    unfold downW
    by_cases hq : q.2 = n
    · rw [if_pos hq]
      unfold itemsAt getE
      have : (es.filter fun e => decide (e.1.2 ≠ n)).find? (fun e => decide (e.1 = q)) = none := by
        rw [List.find?_eq_none]
        intro e he
        simp at he
        simp
        intro e2
        exact he.2 (by rw [e2]; exact hq)
      rw [this]
      rfl
    · rw [if_neg hq, if_neg, ← HM2.out q]
      · unfold itemsAt getE
        have : (es.filter fun e => decide (e.1.2 ≠ n)).find? (fun e => decide (e.1 = q)) = es.find? (fun e => decide (e.1 = q)) := by
          rw [List.find?_filter]
          congr 1
          funext e
          by_cases h2 : e.1 = q
          · simp [h2, hq]
          · simp [h2]
        rw [this]
      · rintro ⟨_, h2, h3⟩
        have hok := HDL.out.ok (q.2, ()) (List.mem_map.2 ⟨q.2, h2, rfl⟩)
        have h4 := HDL.out.has q.2 hok
        rw [dec_ (show ∃ t ∈ (downL lv n).map (fun n => (n, ())), t.1 = q.2 from ⟨(q.2, ()), List.mem_map.2 ⟨q.2, h2, rfl⟩, rfl⟩)] at h4
        have h5 : Maps.has Dl (.int .i64 q.2) = true := h4
        rw [h5] at h3
        cases h3)
  have HSZ := Lib.hid (show N + Maps.size Dl ≤ N + lv.length by
    rw [HDL.out.size, List.length_map]
    have := List.length_filter_le (fun m => decide (m ≠ n)) lv
    unfold downL
    omega)
  clear hr5 hg5 hs5 hn5 d0 hM4
  go_loopw [25] (fun _ wr => ∃ (left : Lit → Bool) (cnt Nn : Nat), Hid (wr.ranges Try.prog 3 liveS.R bl w4.heap.size N Dl left cnt) ∧ Hid (∀ kl, left kl = true → Maps.has Dl kl = true) ∧
      Hid (MeshX wr M bl bp B Nn (downL lv n) (downW (downL lv n) it n left)) ∧ Hid (Nn + cnt ≤ N + lv.length) ∧ Hid (MT B w wr) ∧ Hid (Bk wr w.heap.size 3 #[.int .i64 n]))
    (fun _ wr => wr.rangeLeft bl w4.heap.size)
  case atStart => exact ⟨_, _, N, HR5, Lib.hid (fun _ h => h), HX5, HSZ, HT5, HG5⟩
  case round =>
    obtain ⟨left, cnt, Nn, HR, HS, HX, HNN, HT, HG⟩ := hrel
    clear HR5 HX5 HSZ HT5 HG5
    go_wp2_with (refine wpList_next_ranges _ rfl _ rfl 3 liveG.keyed liveS.R (fun n : Int => Value.int .i64 n) (fun _ : Unit => Value.agg #[]) (fun key kl hk => by obtain ⟨k, e, _⟩ := keyOf_int_inv Try.underlying3 hk; exact ⟨k, e⟩) (fun v y hv => by obtain ⟨x, e, _⟩ := liveG.inv v y.1 y.2 hv; exact ⟨x, e⟩) bl w4.heap.size N Dl _ _ rfl HR.out ?_ ?_)
    · intro _ hl0
      go_wp2_with fail
      go_end0
      have := HX.out.mesh
      rw [downW_end hl0] at this
      exact ⟨rfl, this.more (by have := HNN.out; omega), HT.out⟩
    · intro k kl yd yp w6 cnt6 hkey hlk hv hat hr6 hlt hg6 hs6 hen
      obtain ⟨k', ek, rfl, hwf⟩ := keyOf_int_inv Try.underlying3 hkey
      obtain rfl : k = k' := by injection ek
      have hik : I64 k := by simpa [I64, Lit.wf, IntKind.min, IntKind.max, IntKind.signed, IntKind.bits] using hwf
      have hhas := HS.out _ hlk
      have hkl : k ∈ downL lv n := by
        have h1 := HDL.out.has k hik
        have h2 : Maps.has Dl (liveS.kl k) = true := hhas
        rw [h2] at h1
        have h3 := of_decide_eq_true h1.symm
        obtain ⟨t, ht, rfl⟩ := h3
        obtain ⟨m, hm, rfl⟩ := List.mem_map.1 ht
        exact hm
      obtain ⟨i1, i2, i3, hit⟩ := ranges_iter HR.out
      have htc : Tch (· = w4.heap.size) wr w6 := Tch.of_grown hg6 |>.more (fun b hb e => by injection e)
      have HKL := Lib.hid hkl
      have HIK := Lib.hid hik
      have HR6 := Lib.hid hr6
      have HX6 := Lib.hid (HX.out.iter hit htc)
      have hmt6 : MT B wr w6 := MT.one htc (Nat.le_trans HBW.out (by have := HT4.out.size; omega)) (fun cs t z e => by rw [hit] at e; cases e)
      have HT6 := Lib.hid (HT.out.then hmt6)
      have HG6 := Lib.hid (hmt6.bk HG.out)
      have HLT := Lib.hid (show cnt6 < cnt from hlt)
      have HRL := Lib.hid (show wr.rangeLeft bl w4.heap.size = cnt from HR.out.left_eq)
      have HS6 := Lib.hid (show ∀ z, (left z && !z.sameKey (.int .i64 k)) = true → Maps.has Dl z = true from fun z hz => HS.out z (by simp at hz; exact hz.1))
      have HLK := Lib.hid (linkX M bl bp B Nn (downL lv n) _ n k w6 HX6.out hn hik (by have := HNN.out; omega))
      have e0 := HG6.out.cell 0
      have el := HG6.out.lt
      simp at e0
      clear hkey hlk hv hat hr6 hlt hg6 hs6 ek hwf hik hhas hkl hit htc hmt6
      go_wp2_with fail
      refine HLK.out.mono ?_
      rintro e w7 ⟨p, rfl, hh, ht⟩
      obtain ⟨i1, i2, i3, hit⟩ := ranges_iter HR6.out
      obtain ⟨es6, hI6, _, _⟩ := HX6.out
      obtain ⟨oa, oc, hob⟩ := hI6.way.obj
      have hr7 := ranges_tch HR6.out ht hI6.ne (fun e => by rw [e, hob] at hit; cases hit)
      have hmt7 : MT B w6 w7 := MT.one ht hI6.le.2.2 (fun cs t z e => by rw [hob] at e; cases e)
      have HH := Lib.hid hh
      have HR7 := Lib.hid hr7
      have HT7 := Lib.hid (HT6.out.then hmt7)
      have HG7 := Lib.hid (hmt7.bk HG6.out)
      have HBR := Lib.hid (pbreak_ok p.P p.c _ w7 hh.pip)
      clear hh ht hit hI6 hob hr7 hmt7 HLK e0 el
      go_wp2_with fail
      refine HBR.out.mono ?_
      rintro e w8 ⟨rfl, hp, ht⟩
      obtain ⟨i1, i2, i3, hit⟩ := ranges_iter HR7.out
      obtain ⟨oa, oc, hob⟩ : ∃ a c, w7.heap[bl]? = some (.map a c) := by
        obtain ⟨es7, cl7, hb7, _⟩ := HR7.out.owns
        exact ⟨_, _, hb7⟩
      obtain ⟨s0, r0, hc0⟩ := HH.out.pip.ch
      have hr8 := ranges_tch HR7.out ht (fun e => by rw [e, hc0] at hob; cases hob) (fun e => by rw [e, hc0] at hit; cases hit)
      have hx8 := HH.out.turn hp ht (by simp)
      have hmt8 : MT B w7 w8 := MT.one ht HH.out.base.1 (fun cs t z e => by rw [hc0] at e; cases e)
      have hx8' : MeshX w8 M bl bp B (Nn + 1) (downL lv n) (downW (downL lv n) it n (fun z => left z && !z.sameKey (.int .i64 k))) := by
        have e8 := downW_step (it := it) (left := left) HIK.out HKL.out (downL_mem.1 HKL.out).2
        rw [← e8]
        exact hx8
      have HR8 := Lib.hid hr8
      have HX8 := Lib.hid hx8'
      have HT8 := Lib.hid (HT7.out.then hmt8)
      have HG8 := Lib.hid (hmt8.bk HG7.out)
      have HN8 := Lib.hid (show Nn + 1 + cnt6 ≤ N + lv.length by have := HNN.out; have := HLT.out; omega)
      clear hp ht hit hob hc0 hr8 hx8 hx8' hmt8 HBR HH
      go_wp2_with fail
      go_roundw
      case rel => exact ⟨_, _, Nn + 1, HR8, HS6, HX8, HN8, HT8, HG8⟩
      case measure => rw [HR8.out.left_eq, HRL.out]; exact HLT.out
end Go.Proofs.Ythobffgkggfooaa
