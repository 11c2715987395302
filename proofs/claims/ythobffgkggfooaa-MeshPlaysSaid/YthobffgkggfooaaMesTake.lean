/-
  Package mesh: Take.
-/
import Derived.Test.YthobffgkggfooaaMesSend
set_option linter.unusedVariables false
set_option linter.unusedSimpArgs false
set_option maxRecDepth 100000
namespace Go.Proofs.Ythobffgkggfooaa
open Go.RowKit Go.Maps

/-- A step on an item's block. -/
theorem MeshI.item {w w1 : World} {M bl bp B N : Nat} {lv : List Int} {es : List ((Int × Int) × PA)} {X : Nat} {cs : Array Value} (h : MeshI w M bl bp B N lv es) (hx : Bk w X 57 cs) (ht : Tch (· = X) w w1) : MeshI w1 M bl bp B N lv es := by
  have hx' := hx
  unfold Bk at hx'
  refine ⟨h.box.tch ht (fun e => ?_), h.live.tch ht (fun e => ?_), h.way.tch ht (fun e => ?_), fun e he => (h.pip e he).tch ht (fun e2 => ?_) (fun e2 => ?_), h.base, h.le, h.ne, h.apart⟩
  · have := h.box
    unfold Bk at this
    rw [e, hx'] at this
    injection this with this
    injection this with _ h3
    exact absurd h3 (by decide)
  · obtain ⟨a, c, ho⟩ := h.live.obj
    rw [e, hx'] at ho
    cases ho
  · obtain ⟨a, c, ho⟩ := h.way.obj
    rw [e, hx'] at ho
    cases ho
  · have := (h.pip e he).bk
    unfold Bk at this
    rw [e2, hx'] at this
    injection this with this
    injection this with _ h3
    exact absurd h3 (by decide)
  · obtain ⟨s, r, hc⟩ := (h.pip e he).ch
    rw [e2, hx'] at hc
    cases hc
theorem MeshA.item {w w1 : World} {M B N : Nat} {lv : List Int} {it : Ways} {X : Nat} {cs : Array Value} (h : MeshA w M B N lv it) (hx : Bk w X 57 cs) (ht : Tch (· = X) w w1) : MeshA w1 M B N lv it := by
  obtain ⟨bl, bp, es, h1, h2, h3⟩ := h
  exact ⟨bl, bp, es, h1.item hx ht, h2, h3⟩
/-- A step on a channel that is no way's. -/
theorem MeshI.other {w w1 : World} {M bl bp B N : Nat} {lv : List Int} {es : List ((Int × Int) × PA)} {c : Nat} {l : List ItA} (h : MeshI w M bl bp B N lv es) (hc : ChIs w c l) (hn : ∀ e ∈ es, e.2.c ≠ c) (ht : Tch (· = c) w w1) : MeshI w1 M bl bp B N lv es := by
  obtain ⟨s, r, hx⟩ := hc
  refine ⟨h.box.tch ht (fun e => ?_), h.live.tch ht (fun e => ?_), h.way.tch ht (fun e => ?_), fun e he => (h.pip e he).tch ht (fun e2 => ?_) (hn e he), h.base, h.le, h.ne, h.apart⟩
  · have := h.box
    unfold Bk at this
    rw [e, hx] at this
    cases this
  · obtain ⟨a, c2, ho⟩ := h.live.obj
    rw [e, hx] at ho
    cases ho
  · obtain ⟨a, c2, ho⟩ := h.way.obj
    rw [e, hx] at ho
    cases ho
  · have := (h.pip e he).bk
    unfold Bk at this
    rw [e2, hx] at this
    cases this
set_option maxHeartbeats 1000000 in
theorem mtake_none (M B N : Nat) (lv : List Int) (it : Ways) (a b : Int) (w : World) (h : MeshA w M B N lv it) (ha : I64 a) (hb : I64 b) (he : it (a, b) = []) :
    Calls Try.prog 35 #[.pointer (some ⟨M, 0, none⟩), .int .i64 a, .int .i64 b] w fun e w' => e = .returned (.tuple #[itV zeroI, .bool false]) ∧ New w w' := by
  have h1 : MeshA (w.alloc (.cells #[.bool false, .string ⟨#[]⟩] 57)) M B N lv it := h.new ((New.refl w).alloc _)
  have HLE := Lib.hid (lenA M B N lv it a b _ h1 ha hb)
  rw [he] at HLE
  clear h h1 he
  go_enter Try.func35, Try.ntmps35
  go_wp2_with fail
  refine HLE.out.mono ?_
  rintro e w1 ⟨rfl, rfl⟩
  clear HLE
  go_wp2_with fail
  refine bodyPost_ret (v := .tuple #[itV zeroI, .bool false]) (by simp [results, Try.results35, go_sem, itV, zeroI]) rfl ⟨rfl, ?_⟩
  exact (New.refl w).alloc _
set_option maxHeartbeats 2000000 in
theorem mtake_more (M B N : Nat) (lv : List Int) (it : Ways) (a b : Int) (x : ItA) (l : List ItA) (w : World) (h : MeshA w M B N lv it) (ha : I64 a) (hb : I64 b) (he : it (a, b) = x :: l) (hl : l ≠ []) :
    Calls Try.prog 35 #[.pointer (some ⟨M, 0, none⟩), .int .i64 a, .int .i64 b] w fun e w' => e = .returned (.tuple #[itV x, .bool true]) ∧ MeshA w' M B N lv (setI it (a, b) l) ∧ MT B w w' := by
  obtain ⟨w1, hw1⟩ : ∃ w1, w1 = w.alloc (.cells #[.bool false, .string ⟨#[]⟩] 57) := ⟨_, rfl⟩
  have hn1 : New w w1 := by rw [hw1]; exact (New.refl w).alloc _
  have HLE := Lib.hid (lenA M B N lv it a b w1 (h.new hn1) ha hb)
  have hlp : 0 < l.length := List.length_pos_iff.2 hl
  obtain ⟨n, hn⟩ : ∃ n, n = (x :: l).length := ⟨_, rfl⟩
  have hn2 : (2 : Int) ≤ (n : Int) := by rw [hn]; simp; omega
  have hlz : ((n : Int) == 0) = false := bne_ (by omega)
  have hl1 : ((n : Int) == 1) = false := bne_ (by omega)
  rw [he, ← hn] at HLE
  have HNN := Lib.hid hn
  obtain ⟨bl, bp, es, g1, g2, g3⟩ := h
  obtain ⟨p, hp⟩ : ∃ p, getE es (a, b) = some p := by
    have := g2 (a, b)
    rw [he] at this
    unfold itemsAt at this
    cases hg : getE es (a, b) with
    | none => rw [hg] at this; cases this
    | some p => exact ⟨p, rfl⟩
  have hpl : p.l = x :: l := by have := g2 (a, b); rw [he] at this; unfold itemsAt at this; rw [hp] at this; exact this
  have G1 := Lib.hid (g1.new hn1)
  have G2 := Lib.hid g2
  have G3 := Lib.hid g3
  have HP := Lib.hid hp
  have HPL := Lib.hid hpl
  have HB1 := Lib.hid (show Bk w1 w.heap.size 57 #[.bool false, .string ⟨#[]⟩] by rw [hw1]; exact Bk.made _ _ _)
  have HN1 := Lib.hid hn1
  have HW1 := Lib.hid hw1
  have HL := Lib.hid hl
  have HIT := Lib.hid he
  clear g1 g2 g3 hp hpl hn1 hw1 he hlp hl hn
  go_enter Try.func35, Try.ntmps35
  go_wp2_with fail
  rw [← HW1.out]
  clear HW1
  refine HLE.out.mono ?_
  rintro e w2 ⟨rfl, rfl⟩
  clear HLE
  have c1 : w2.cell? ⟨M, 1, none⟩ = some (.map (some bp)) := by rw [G1.out.box.cell]; rfl
  have hM := G1.out.box.lt
  have hlk : ∀ nn, (Instr.lookup 117 (.map (some bp)) (.agg #[.int .i64 a, .int .i64 b]) false).run Try.prog ((w2.alloc (.cells #[.int .i64 a, .int .i64 b] 122)).drewN nn) = .ok (.pointer (some ⟨p.P, 0, none⟩)) ((w2.alloc (.cells #[.int .i64 a, .int .i64 b] 122)).drewN nn) := fun nn => by
    have := (G1.out.look (a, b) ⟨ha, hb⟩ (w1 := (w2.alloc (.cells #[.int .i64 a, .int .i64 b] 122)).drewN nn) (Below.heap_alloc w2 _ _ G1.out.way.lt)).1
    rw [HP.out] at this
    exact this
  go_upto_region 4 with fail
  go_quiet ((rintro ⟨nn, rfl⟩; simp [go_sem, hlk nn, Result.andThen]))
  obtain ⟨w3, hw3⟩ : ∃ w3, w3 = (w2.alloc (.cells #[.int .i64 a, .int .i64 b] 122)).drewN nq := ⟨_, rfl⟩
  rw [← hw3]
  have hn3 : New w2 w3 := by rw [hw3]; exact ((New.refl _).alloc _).drewN _
  have HG3 := Lib.hid (G1.out.new hn3)
  have HN3 := Lib.hid (HN1.out.then hn3)
  have HB3 := Lib.hid (hn3.bk HB1.out)
  have hpi := HG3.out.pip _ (getE_mem HP.out)
  have HLE := Lib.hid (plen_ok p.P p.c p.l w3 hpi)
  have HTK := Lib.hid (show Calls Try.prog 24 #[.pointer (some ⟨p.P, 0, none⟩)] w3 _ from take_some p.P p.c x l w3 (by have := hpi; simp only at this; rw [HPL.out] at this; exact this))
  rw [HPL.out, ← HNN.out] at HLE
  clear hw3 hn3 hpi hlk c1
  go_wp2_with fail
  refine HLE.out.mono ?_
  rintro e w4 ⟨rfl, rfl⟩
  clear HLE
  go_wp2_with fail
  refine HTK.out.mono ?_
  rintro e w5 ⟨rfl, hp5, ht5⟩
  obtain ⟨h5, t5⟩ := Held.turn (k := (a, b)) (p := p) (it := it) ⟨bl, bp, es, HG3.out, HP.out, by rw [HPL.out, HIT.out], fun q _ => G2.out q, fun e he _ => G3.out e he⟩ hp5 ht5 HL.out
  have hb5 := t5.bk HB3.out
  have q0 := hb5.cell 0
  have q1 := hb5.cell 1
  have f0 := hb5.frozen 0
  have f1 := hb5.frozen 1
  have hlt := hb5.lt
  simp at q0 q1
  have H5 := Lib.hid h5
  have HB5 := Lib.hid hb5
  have T5 := Lib.hid ((MT.of_new (B := B) HN3.out).then t5)
  clear h5 t5 hb5 hp5 ht5 HTK
  simp only [itV]
  go_wp2_with fail
  have bz : Bk ((w5.setCell ⟨w.heap.size, 0, none⟩ (.bool x.broken)).setCell ⟨w.heap.size, 1, none⟩ (.string x.text)) w.heap.size 57 #[.bool x.broken, .string x.text] := by simpa using (HB5.out.store 0 (.bool x.broken)).store 1 (.string x.text)
  have z0 := bz.cell 0
  have z1 := bz.cell 1
  simp at z0 z1
  have tz : Tch (· = w.heap.size) w5 ((w5.setCell ⟨w.heap.size, 0, none⟩ (.bool x.broken)).setCell ⟨w.heap.size, 1, none⟩ (.string x.text)) := ((Tch.refl (· = w.heap.size) w5).setCell (fun _ => rfl) _).setCell (fun _ => rfl) _
  refine bodyPost_ret (v := .tuple #[itV x, .bool true]) (by simp [results, Try.results35, go_sem, itV, z0, z1]) rfl ⟨rfl, H5.out.item HB5.out tz, ?_⟩
  exact Tch.trans T5.out tz (fun k hk e => by omega)
set_option maxHeartbeats 2000000 in
theorem mtake_last (M B N : Nat) (lv : List Int) (it : Ways) (a b : Int) (x : ItA) (w : World) (h : MeshA w M B N lv it) (ha : I64 a) (hb : I64 b) (he : it (a, b) = [x]) :
    Calls Try.prog 35 #[.pointer (some ⟨M, 0, none⟩), .int .i64 a, .int .i64 b] w fun e w' => e = .returned (.tuple #[itV x, .bool true]) ∧ MeshA w' M B N lv (setI it (a, b) []) ∧ MT B w w' := by
  obtain ⟨w1, hw1⟩ : ∃ w1, w1 = w.alloc (.cells #[.bool false, .string ⟨#[]⟩] 57) := ⟨_, rfl⟩
  have hn1 : New w w1 := by rw [hw1]; exact (New.refl w).alloc _
  have HLE := Lib.hid (lenA M B N lv it a b w1 (h.new hn1) ha hb)
  rw [he] at HLE
  obtain ⟨bl, bp, es, g1, g2, g3⟩ := h
  obtain ⟨p, hp⟩ : ∃ p, getE es (a, b) = some p := by
    have := g2 (a, b)
    rw [he] at this
    unfold itemsAt at this
    cases hg : getE es (a, b) with
    | none => rw [hg] at this; cases this
    | some p => exact ⟨p, rfl⟩
  have hpl : p.l = [x] := by have := g2 (a, b); rw [he] at this; unfold itemsAt at this; rw [hp] at this; exact this
  have G1 := Lib.hid (g1.new hn1)
  have G2 := Lib.hid g2
  have G3 := Lib.hid g3
  have HP := Lib.hid hp
  have HPL := Lib.hid hpl
  have HB1 := Lib.hid (show Bk w1 w.heap.size 57 #[.bool false, .string ⟨#[]⟩] by rw [hw1]; exact Bk.made _ _ _)
  have HN1 := Lib.hid hn1
  have HW1 := Lib.hid hw1
  have HIT := Lib.hid he
  clear g1 g2 g3 hp hpl hn1 hw1 he
  go_enter Try.func35, Try.ntmps35
  go_wp2_with fail
  rw [← HW1.out]
  clear HW1
  refine HLE.out.mono ?_
  rintro e w2 ⟨rfl, rfl⟩
  clear HLE
  have c1 : w2.cell? ⟨M, 1, none⟩ = some (.map (some bp)) := by rw [G1.out.box.cell]; rfl
  have hM := G1.out.box.lt
  have hlk : ∀ nn, (Instr.lookup 117 (.map (some bp)) (.agg #[.int .i64 a, .int .i64 b]) false).run Try.prog ((w2.alloc (.cells #[.int .i64 a, .int .i64 b] 122)).drewN nn) = .ok (.pointer (some ⟨p.P, 0, none⟩)) ((w2.alloc (.cells #[.int .i64 a, .int .i64 b] 122)).drewN nn) := fun nn => by
    have := (G1.out.look (a, b) ⟨ha, hb⟩ (w1 := (w2.alloc (.cells #[.int .i64 a, .int .i64 b] 122)).drewN nn) (Below.heap_alloc w2 _ _ G1.out.way.lt)).1
    rw [HP.out] at this
    exact this
  go_upto_region 4 with fail
  go_quiet ((rintro ⟨nn, rfl⟩; simp [go_sem, hlk nn, Result.andThen]))
  obtain ⟨w3, hw3⟩ : ∃ w3, w3 = (w2.alloc (.cells #[.int .i64 a, .int .i64 b] 122)).drewN nq := ⟨_, rfl⟩
  rw [← hw3]
  have hn3 : New w2 w3 := by rw [hw3]; exact ((New.refl _).alloc _).drewN _
  have hbw : Bk w3 w2.heap.size 122 #[.int .i64 a, .int .i64 b] := by rw [hw3]; exact Bk.made _ _ _
  have HG3 := Lib.hid (G1.out.new hn3)
  have HN3 := Lib.hid (HN1.out.then hn3)
  have HB3 := Lib.hid (hn3.bk HB1.out)
  have hpi := HG3.out.pip _ (getE_mem HP.out)
  have HPI := Lib.hid (show PipIs w3 p.P p.c [x] by rw [← HPL.out]; exact hpi)
  have HLE := Lib.hid (plen_ok p.P p.c [x] w3 HPI.out)
  have d0 := hbw.cell 0
  have d1 := hbw.cell 1
  simp at d0 d1
  clear hw3 hn3 hpi hlk c1 hbw
  go_wp2_with fail
  refine HLE.out.mono ?_
  rintro e w4 ⟨rfl, rfl⟩
  clear HLE
  have c2 : w4.cell? ⟨M, 1, none⟩ = some (.map (some bp)) := by rw [HG3.out.box.cell]; rfl
  have hM4 := HG3.out.box.lt
  obtain ⟨D, ho, hD⟩ := HG3.out.way
  obtain ⟨w5, hrun, ho5, ht5⟩ := World.ownsMap.drop (w := w4.drew) (t := 117) (e := 53) ho wayG.keyed Try.underlying117 (key := wayV (a, b)) (key_way ⟨ha, hb⟩) 0
  have hdel := hD.del wayG (ho.tidy wayG.keyed) (s := (a, b)) ⟨ha, hb⟩
  have htc : Tch (· = bp) w4 w5 := (((Tch.refl (· = bp) w4).drew).then (tch_map ht5))
  obtain ⟨es2, hes2⟩ : ∃ es2, es2 = es.filter (fun e => decide (e.1 ≠ (a, b))) := ⟨_, rfl⟩
  have hdm : dropG (es.map fun e => (e.1, some e.2.P)) (a, b) = es2.map fun e => (e.1, some e.2.P) := by
    rw [hes2]
    unfold dropG
    rw [List.filter_map]
    rfl
  rw [hdm] at hdel
  have hsub : ∀ e ∈ es2, e ∈ es ∧ e.1 ≠ (a, b) := fun e he => by rw [hes2] at he; simpa using he
  obtain ⟨ao, cc, hob⟩ := HG3.out.way.obj
  have hmt : MT B w4 w5 := MT.one htc HG3.out.le.2.2 (fun cs t z e => by rw [hob] at e; cases e)
  have hPb : ∀ (Q c : Nat) (l : List ItA), PipIs w4 Q c l → ¬ Q = bp ∧ ¬ c = bp := fun Q c l hq => by
    refine ⟨fun e2 => ?_, fun e2 => ?_⟩
    · have := hq.bk
      unfold Bk at this
      rw [e2, hob] at this
      cases this
    · obtain ⟨s, r, hc⟩ := hq.ch
      rw [e2, hob] at hc
      cases hc
  have HM5 := Lib.hid (show MeshI w5 M bl bp B N lv es2 from by
    refine ⟨hmt.bk HG3.out.box, HG3.out.live.tch htc HG3.out.ne, ⟨_, ho5, hdel⟩, fun e he => ?_, fun e he => HG3.out.base e (hsub e he).1, HG3.out.le, HG3.out.ne, ?_⟩
    · have hq := HG3.out.pip e (hsub e he).1
      exact hq.tch htc (hPb _ _ _ hq).1 (hPb _ _ _ hq).2
    · rw [hes2]; exact HG3.out.apart.filter _)
  have HP5 := Lib.hid (show PipIs w5 p.P p.c [x] from HPI.out.tch htc (hPb _ _ _ HPI.out).1 (hPb _ _ _ HPI.out).2)
  have HT5 := Lib.hid ((MT.of_new (B := B) HN3.out).then hmt)
  have HB5 := Lib.hid (hmt.bk HB3.out)
  have HCN := Lib.hid (show ∀ e ∈ es2, e.2.c ≠ p.c from fun e he => by
    obtain ⟨h1, h2⟩ := hsub e he
    exact pairwise_two (R := fun x y : (Int × Int) × PA => x.2.c ≠ y.2.c) (fun x y h => h.symm) HG3.out.apart e h1 ((a, b), p) (getE_mem HP.out) (fun e2 => h2 (by rw [e2])))
  have HBC := Lib.hid ((HG3.out.base _ (getE_mem HP.out)).2)
  have HE2 := Lib.hid hes2
  simp only [wayV] at hrun
  clear ho hD ho5 ht5 hdel htc hdm hsub hob hmt hPb hes2
  go_upto_region 6 with fail
  go_region
  have HTK := Lib.hid (take_some p.P p.c x [] w5 HP5.out)
  go_wp2_with fail
  refine HTK.out.mono ?_
  rintro e w6 ⟨rfl, hp6, ht6⟩
  have hm6 := HM5.out.other HP5.out.ch HCN.out ht6
  obtain ⟨s0, r0, hc0⟩ := HP5.out.ch
  have t6 : MT B w5 w6 := MT.one ht6 HBC.out (fun cs t z e => by rw [hc0] at e; cases e)
  have hb6 := t6.bk HB5.out
  have q0 := hb6.cell 0
  have q1 := hb6.cell 1
  have f0 := hb6.frozen 0
  have f1 := hb6.frozen 1
  have hlt := hb6.lt
  simp at q0 q1
  have HA6 := Lib.hid (show MeshA w6 M B N lv (setI it (a, b) []) from by
    refine ⟨bl, bp, es2, hm6, fun q => ?_, fun e he => ?_⟩
    · rw [HE2.out]
      unfold itemsAt getE setI
      by_cases hq : q = (a, b)
      · rw [if_pos hq, hq]
        have : (es.filter fun e => decide (e.1 ≠ (a, b))).find? (fun e => decide (e.1 = (a, b))) = none := by
          rw [List.find?_eq_none]
          intro e he
          simp at he
          simp [he.2]
        rw [this]
        rfl
      · rw [if_neg hq, ← G2.out q]
        unfold itemsAt getE
        have : (es.filter fun e => decide (e.1 ≠ (a, b))).find? (fun e => decide (e.1 = q)) = es.find? (fun e => decide (e.1 = q)) := by
          rw [List.find?_filter]
          congr 1
          funext e
          by_cases h2 : e.1 = q
          · simp [h2, hq]
          · simp [h2]
        rw [this]
    · rw [HE2.out] at he
      exact G3.out e (List.mem_filter.1 he).1)
  have HB6 := Lib.hid hb6
  have T6 := Lib.hid (HT5.out.then t6)
  clear hp6 ht6 hm6 hc0 t6 hb6 HTK
  simp only [itV]
  go_wp2_with fail
  have bz : Bk ((w6.setCell ⟨w.heap.size, 0, none⟩ (.bool x.broken)).setCell ⟨w.heap.size, 1, none⟩ (.string x.text)) w.heap.size 57 #[.bool x.broken, .string x.text] := by simpa using (HB6.out.store 0 (.bool x.broken)).store 1 (.string x.text)
  have z0 := bz.cell 0
  have z1 := bz.cell 1
  simp at z0 z1
  have tz : Tch (· = w.heap.size) w6 ((w6.setCell ⟨w.heap.size, 0, none⟩ (.bool x.broken)).setCell ⟨w.heap.size, 1, none⟩ (.string x.text)) := ((Tch.refl (· = w.heap.size) w6).setCell (fun _ => rfl) _).setCell (fun _ => rfl) _
  refine bodyPost_ret (v := .tuple #[itV x, .bool true]) (by simp [results, Try.results35, go_sem, itV, z0, z1]) rfl ⟨rfl, HA6.out.item HB6.out tz, ?_⟩
  exact Tch.trans T6.out tz (fun k hk e => by omega)
end Go.Proofs.Ythobffgkggfooaa
