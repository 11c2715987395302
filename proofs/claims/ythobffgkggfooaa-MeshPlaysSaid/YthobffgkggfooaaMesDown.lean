/-
  Package mesh: Down.
-/
import Derived.Test.YthobffgkggfooaaMesDel
set_option linter.unusedVariables false
set_option linter.unusedSimpArgs false
set_option maxRecDepth 100000
namespace Go.Proofs.Ythobffgkggfooaa
open Go.RowKit Go.Maps

set_option maxHeartbeats 1000000 in
theorem link_new2 (M bl bp B N : Nat) (lv : List Int) (es : List ((Int × Int) × PA)) (k : Int × Int) (w : World) (h : MeshI w M bl bp B N lv es) (hk : I64 k.1 ∧ I64 k.2) (hg : getE es k = none) (hN : N < 1000000) :
    Calls Try.prog 62 #[.pointer (some ⟨M, 0, none⟩), .int .i64 k.1, .int .i64 k.2] w fun e w' => ∃ p : PA, e = .returned (.pointer (some ⟨p.P, 0, none⟩)) ∧ p.l = [] ∧ w.heap.size ≤ p.c ∧ MeshI w' M bl bp B (N + 1) lv (es ++ [(k, p)]) ∧ Tch (· = bp) w w' := by
  have c1 : w.cell? ⟨M, 1, none⟩ = some (.map (some bp)) := by rw [h.box.cell]; rfl
  have hM := h.box.lt
  have hlk : ∀ nn, (Instr.lookup 117 (.map (some bp)) (.agg #[.int .i64 k.1, .int .i64 k.2]) true).run Try.prog ((w.alloc (.cells #[.int .i64 k.1, .int .i64 k.2] 122)).drewN nn) = .ok (.tuple #[.pointer none, .bool false]) ((w.alloc (.cells #[.int .i64 k.1, .int .i64 k.2] 122)).drewN nn) := fun nn => by
    have := (h.look k hk (w1 := (w.alloc (.cells #[.int .i64 k.1, .int .i64 k.2] 122)).drewN nn) (Below.heap_alloc w _ _ h.way.lt)).2
    rw [hg] at this
    exact this
  have H := Lib.hid h
  have HG := Lib.hid hg
  clear h hg
  go_enter Try.func62, Try.ntmps62
  go_upto_region 2 with fail
  go_quiet ((rintro ⟨nn, rfl⟩; simp [go_sem, hlk nn, Result.andThen]))
  obtain ⟨w2, hw2⟩ : ∃ w2, w2 = (w.alloc (.cells #[.int .i64 k.1, .int .i64 k.2] 122)).drewN nq := ⟨_, rfl⟩
  rw [← hw2]
  have HN2 := Lib.hid (show New w w2 by rw [hw2]; exact ((New.refl w).alloc _).drewN _)
  have HB2 := Lib.hid (show Bk w2 w.heap.size 122 #[.int .i64 k.1, .int .i64 k.2] by rw [hw2]; exact Bk.made w _ _)
  clear hw2 hlk
  go_wp2_with fail
  refine (newp_ok w2).mono ?_
  rintro e w3 ⟨rfl, hp, hn⟩
  have HP3 := Lib.hid hp
  have HN3 := Lib.hid (HN2.out.then hn)
  have HM3 := Lib.hid (H.out.new HN3.out)
  have hb3 := hn.bk HB2.out
  have d0 := hb3.cell 0
  have d1 := hb3.cell 1
  simp at d0 d1
  have e1 : w3.cell? ⟨M, 1, none⟩ = some (.map (some bp)) := by rw [HM3.out.box.cell]; rfl
  have HZ := Lib.hid (show w.heap.size ≤ w2.heap.size from HN2.out.size)
  obtain ⟨D, ho, hD⟩ := HM3.out.way
  obtain ⟨w4, hrun, ho4, ht4⟩ := World.ownsMap.store (w := w3.drew) (t := 117) (e := 53) ho wayG.keyed Try.underlying117 (Nat.lt_of_lt_of_le hN (by decide)) (key := wayV k) (val := ptrV (some (w2.heap.size + 1))) (key_way hk) (wayG.read (some (w2.heap.size + 1)))
  have hput := hD.put wayG (ho.tidy wayG.keyed) (s := k) hk (some (w2.heap.size + 1))
  have hdn : dropG (es.map fun e => (e.1, some e.2.P)) k = es.map fun e => (e.1, some e.2.P) := dropG_none (by
    rintro ⟨t, ht, e⟩
    obtain ⟨e0, he0, rfl⟩ := List.mem_map.1 ht
    exact getE_none HG.out e0 he0 e)
  rw [hdn] at hput
  have htc : Tch (· = bp) w3 w4 := (((Tch.refl (· = bp) w3).drew).then (tch_map ht4))
  have HY := Lib.hid (show Tch (· = bp) w w4 from Tch.then (HN3.out.tch _) htc)
  have HX := Lib.hid (show MeshI w4 M bl bp B (N + 1) lv (es ++ [(k, ⟨w2.heap.size + 1, w2.heap.size, []⟩)]) ∧ MT B w w4 from by
    obtain ⟨a, cc, hob⟩ := HM3.out.way.obj
    have hmt3 : MT B w3 w4 := MT.one htc H.out.le.2.2 (fun cs t z e => by rw [hob] at e; cases e)
    have hPb : ∀ (Q c : Nat) (l : List ItA), PipIs w3 Q c l → ¬ Q = bp ∧ ¬ c = bp := fun Q c l hq => by
      refine ⟨fun e2 => ?_, fun e2 => ?_⟩
      · have := hq.bk
        unfold Bk at this
        rw [e2, hob] at this
        cases this
      · obtain ⟨s, r, hc⟩ := hq.ch
        rw [e2, hob] at hc
        cases hc
    have hBs : B ≤ w.heap.size := Nat.le_trans H.out.le.1 (Nat.le_of_lt H.out.box.lt)
    refine ⟨⟨hmt3.bk HM3.out.box, (HM3.out.live.tch htc H.out.ne).more (by omega), ⟨_, ho4, by rw [List.map_append]; exact hput⟩, fun e he => ?_, fun e he => ?_, H.out.le, H.out.ne, ?_⟩, (MT.of_new HN3.out).then hmt3⟩
    · rcases List.mem_append.1 he with he | he
      · have hq := HM3.out.pip e he
        exact hq.tch htc (hPb _ _ _ hq).1 (hPb _ _ _ hq).2
      · obtain rfl := List.mem_singleton.1 he
        exact HP3.out.tch htc (hPb _ _ _ HP3.out).1 (hPb _ _ _ HP3.out).2
    · rcases List.mem_append.1 he with he | he
      · exact H.out.base e he
      · obtain rfl := List.mem_singleton.1 he
        have := HZ.out
        exact ⟨by simp only; omega, by simp only; omega⟩
    · refine List.pairwise_append.2 ⟨H.out.apart, by simp, fun a ha b hb => ?_⟩
      rw [List.mem_singleton] at hb
      subst hb
      have := (H.out.pip a ha).ch.lt
      have := HZ.out
      simp only
      omega)
  simp only [wayV, ptrV, Option.map_some] at hrun
  have hM3 := HM3.out.box.lt
  clear hp hn hb3 ho hD ho4 ht4 hput htc hdn
  go_upto_region 5 with fail
  go_region
  go_wp2_with fail
  go_ret
  exact ⟨⟨w2.heap.size + 1, w2.heap.size, []⟩, rfl, rfl, HZ.out, HX.out.1, HY.out⟩

/-- A mesh at M with its maps. -/
def MeshX (w : World) (M bl bp B N : Nat) (lv : List Int) (it : Ways) : Prop := ∃ es, MeshI w M bl bp B N lv es ∧ (∀ k, itemsAt es k = it k) ∧ ∀ e ∈ es, e.2.l ≠ []
theorem MeshX.mesh {w : World} {M bl bp B N : Nat} {lv : List Int} {it : Ways} (h : MeshX w M bl bp B N lv it) : MeshA w M B N lv it := by
  obtain ⟨es, h1, h2, h3⟩ := h
  exact ⟨bl, bp, es, h1, h2, h3⟩
theorem MeshX.new {w w1 : World} {M bl bp B N : Nat} {lv : List Int} {it : Ways} (h : MeshX w M bl bp B N lv it) (k : New w w1) : MeshX w1 M bl bp B N lv it := by
  obtain ⟨es, h1, h2, h3⟩ := h
  exact ⟨es, h1.new k, h2, h3⟩
theorem MeshX.box {w : World} {M bl bp B N : Nat} {lv : List Int} {it : Ways} (h : MeshX w M bl bp B N lv it) : Bk w M 119 #[.map (some bl), .map (some bp)] := by
  obtain ⟨es, h1, h2, h3⟩ := h
  exact h1.box
def HeldX (w : World) (M bl bp B N : Nat) (lv : List Int) (it : Ways) (k : Int × Int) (p : PA) : Prop :=
  ∃ es, MeshI w M bl bp B N lv es ∧ getE es k = some p ∧ p.l = it k ∧ (∀ q, q ≠ k → itemsAt es q = it q) ∧ ∀ e ∈ es, e.1 ≠ k → e.2.l ≠ []
theorem linkX (M bl bp B N : Nat) (lv : List Int) (it : Ways) (a b : Int) (w : World) (h : MeshX w M bl bp B N lv it) (ha : I64 a) (hb : I64 b) (hN : N < 1000000) :
    Calls Try.prog 62 #[.pointer (some ⟨M, 0, none⟩), .int .i64 a, .int .i64 b] w fun e w' => ∃ p : PA, e = .returned (.pointer (some ⟨p.P, 0, none⟩)) ∧ HeldX w' M bl bp B (N + 1) lv it (a, b) p ∧ Tch (· = bp) w w' := by
  obtain ⟨es, h1, h2, h3⟩ := h
  cases hg : getE es (a, b) with
  | some p =>
    refine (link_old M bl bp B N lv es (a, b) p w h1 ⟨ha, hb⟩ hg).mono ?_
    rintro e w' ⟨rfl, hn⟩
    refine ⟨p, rfl, ⟨es, (h1.new hn).more (by omega), hg, ?_, fun q _ => h2 q, fun e he _ => h3 e he⟩, hn.tch _⟩
    rw [← h2]
    simp [itemsAt, hg]
  | none =>
    refine (link_new2 M bl bp B N lv es (a, b) w h1 ⟨ha, hb⟩ hg hN).mono ?_
    rintro e w' ⟨p, rfl, hl, hc, hm, ht⟩
    refine ⟨p, rfl, ⟨es ++ [((a, b), p)], hm, ?_, ?_, fun q hq => ?_, fun e he hk => ?_⟩, ht⟩
    · rw [getE_app, hg]; simp
    · rw [hl, ← h2]; simp [itemsAt, hg]
    · rw [← h2]
      unfold itemsAt
      rw [getE_app]
      cases getE es q with
      | some x => rfl
      | none => simp [Ne.symm hq]
    · rcases List.mem_append.1 he with he | he
      · exact h3 e he
      · obtain rfl := List.mem_singleton.1 he
        exact absurd rfl hk
theorem HeldX.turn {w w1 : World} {M bl bp B N : Nat} {lv : List Int} {it : Ways} {k : Int × Int} {p : PA} {l : List ItA} (h : HeldX w M bl bp B N lv it k p) (hp : PipIs w1 p.P p.c l) (ht : Tch (· = p.c) w w1) (hl : l ≠ []) :
    MeshX w1 M bl bp B N lv (setI it k l) := by
  obtain ⟨es, h1, hg, h2, h3, h4⟩ := h
  obtain ⟨hm, hmt⟩ := h1.turn hg hp ht
  refine ⟨setE es k l, hm, fun q => ?_, fun e he => ?_⟩
  · unfold itemsAt
    rw [getE_set]
    by_cases hq : q = k
    · rw [if_pos hq, hq, hg]
      simp [setI]
    · rw [if_neg hq]
      have := h3 q hq
      unfold itemsAt at this
      rw [this]
      simp [setI, hq]
  · obtain ⟨e0, he0, rfl⟩ := List.mem_map.1 he
    by_cases hk : e0.1 = k
    · rw [if_pos hk]; exact hl
    · rw [if_neg hk]; exact h4 e0 he0 hk
theorem HeldX.pip {w : World} {M bl bp B N : Nat} {lv : List Int} {it : Ways} {k : Int × Int} {p : PA} (h : HeldX w M bl bp B N lv it k p) : PipIs w p.P p.c (it k) := by
  obtain ⟨es, h1, hg, h2, h3, h4⟩ := h
  rw [← h2]
  exact h1.pip _ (getE_mem hg)
theorem HeldX.base {w : World} {M bl bp B N : Nat} {lv : List Int} {it : Ways} {k : Int × Int} {p : PA} (h : HeldX w M bl bp B N lv it k p) : B ≤ p.c ∧ B ≤ bp := by
  obtain ⟨es, h1, hg, h2, h3, h4⟩ := h
  exact ⟨(h1.base _ (getE_mem hg)).2, h1.le.2.2⟩

theorem ranges_tch {H : Type} {P : Program} {k : TypeId} {R : Value → Option (DataW H × List MemPlace)} {b r n : Nat} {D : DataW H} {left : Lit → Bool} {cnt : Nat} {S : Nat → Prop} {w w' : World}
    (h : w.ranges P k R b r n D left cnt) (ht : Tch S w w') (hb : ¬ S b) (hr : ¬ S r) : w'.ranges P k R b r n D left cnt := by
  have h1 := h.owns.lt
  have h2 := h.lt
  obtain ⟨es, clock, since, seen, c0, hb', F, hs, hD, hr', rest⟩ := h
  exact ⟨es, clock, since, seen, c0, (ht.block b h1 hb).trans hb', F, hs, hD, (ht.block r h2 hr).trans hr', rest⟩
theorem ranges_iter {H : Type} {P : Program} {k : TypeId} {R : Value → Option (DataW H × List MemPlace)} {b r n : Nat} {D : DataW H} {left : Lit → Bool} {cnt : Nat} {w : World}
    (h : w.ranges P k R b r n D left cnt) : ∃ s e c, w.heap[r]? = some (.mapIter (some b) s e c) := by
  obtain ⟨es, clock, since, seen, c0, hb', F, hs, hD, hr', rest⟩ := h
  exact ⟨_, _, _, hr'⟩
/-- Some ways go. -/
theorem MeshI.cut {w w1 : World} {M bl bp B N : Nat} {lv : List Int} {es : List ((Int × Int) × PA)} (f : (Int × Int) × PA → Bool) (h : MeshI w M bl bp B N lv es)
    (hm : MapG wayS Try.prog 122 w1 bp N ((es.filter f).map fun e => (e.1, some e.2.P))) (htc : Tch (· = bp) w w1) : MeshI w1 M bl bp B N lv (es.filter f) ∧ MT B w w1 := by
  obtain ⟨ao, cc, hob⟩ := h.way.obj
  have hmt : MT B w w1 := MT.one htc h.le.2.2 (fun cs t z e => by rw [hob] at e; cases e)
  have hPb : ∀ (Q c : Nat) (l : List ItA), PipIs w Q c l → ¬ Q = bp ∧ ¬ c = bp := fun Q c l hq => by
    refine ⟨fun e2 => ?_, fun e2 => ?_⟩
    · have := hq.bk
      unfold Bk at this
      rw [e2, hob] at this
      cases this
    · obtain ⟨s, r, hc⟩ := hq.ch
      rw [e2, hob] at hc
      cases hc
  refine ⟨⟨hmt.bk h.box, h.live.tch htc h.ne, hm, fun e he => ?_, fun e he => h.base e (List.mem_filter.1 he).1, h.le, h.ne, h.apart.filter _⟩, hmt⟩
  have hq := h.pip e (List.mem_filter.1 he).1
  exact hq.tch htc (hPb _ _ _ hq).1 (hPb _ _ _ hq).2
/-- The live nodes turn. -/
theorem MeshI.turnLive {w w1 : World} {M bl bp B N : Nat} {lv lv2 : List Int} {es : List ((Int × Int) × PA)} (h : MeshI w M bl bp B N lv es)
    (hm : MapG liveS Try.prog 3 w1 bl N (lv2.map fun n => (n, ()))) (htc : Tch (· = bl) w w1) : MeshI w1 M bl bp B N lv2 es ∧ MT B w w1 := by
  obtain ⟨ao, cc, hob⟩ := h.live.obj
  have hmt : MT B w w1 := MT.one htc h.le.2.1 (fun cs t z e => by rw [hob] at e; cases e)
  have hPb : ∀ (Q c : Nat) (l : List ItA), PipIs w Q c l → ¬ Q = bl ∧ ¬ c = bl := fun Q c l hq => by
    refine ⟨fun e2 => ?_, fun e2 => ?_⟩
    · have := hq.bk
      unfold Bk at this
      rw [e2, hob] at this
      cases this
    · obtain ⟨s, r, hc⟩ := hq.ch
      rw [e2, hob] at hc
      cases hc
  refine ⟨⟨hmt.bk h.box, hm, h.way.tch htc (fun e => h.ne e.symm), fun e he => ?_, h.base, h.le, h.ne, h.apart⟩, hmt⟩
  have hq := h.pip e he
  exact hq.tch htc (hPb _ _ _ hq).1 (hPb _ _ _ hq).2
def downL (lv : List Int) (n : Int) : List Int := lv.filter fun m => decide (m ≠ n)
theorem downL_mem {lv : List Int} {n k : Int} : k ∈ downL lv n ↔ k ∈ lv ∧ k ≠ n := by simp [downL]
theorem downL_map (lv : List Int) (n : Int) : (downL lv n).map (fun n => (n, ())) = dropG (lv.map fun n => (n, ())) n := by
  unfold downL dropG
  rw [List.filter_map]
  rfl
/-- What is on the ways behind Down by definition. -/
def downI (lv : List Int) (it : Ways) (n : Int) : Ways := fun q => if q.2 = n then [] else if q.1 = n ∧ q.2 ∈ lv then [brk] else it q
/-- The same on the way. -/
def downW (lv : List Int) (it : Ways) (n : Int) (left : Lit → Bool) : Ways := fun q => if q.2 = n then [] else if q.1 = n ∧ q.2 ∈ lv ∧ left (.int .i64 q.2) = false then [brk] else it q
theorem downW_end {lv : List Int} {it : Ways} {n : Int} {left : Lit → Bool} (h : ∀ kl, left kl = false) : downW (downL lv n) it n left = downI lv it n := by
  funext q
  unfold downW downI
  by_cases h2 : q.2 = n
  · simp [h2]
  · simp [h2, h, downL_mem]
theorem downW_step {lv : List Int} {it : Ways} {n k : Int} {left : Lit → Bool} (hk : I64 k) (hm : k ∈ lv) (hn : k ≠ n) :
    setI (downW lv it n left) (n, k) [brk] = downW lv it n (fun z => left z && !z.sameKey (.int .i64 k)) := by
  funext q
  obtain ⟨a, b⟩ := q
  have hs : (Lit.int .i64 k).sameKey (.int .i64 k) = true := Go.WideAt.sameKey_self (liveG.lit (k := k) hk)
  unfold setI downW
  by_cases hb : b = k
  · subst hb
    by_cases ha : a = n
    · subst ha; simp [hn, hm, hs]
    · simp [hn, ha]
  · have hs2 : (Lit.int .i64 b).sameKey (.int .i64 k) = false := by
      cases e : (Lit.int .i64 b).sameKey (.int .i64 k) with
      | false => rfl
      | true => exact absurd (by simpa using WideAt.sameKey_eq e) hb
    simp [hb, hs2]
end Go.Proofs.Ythobffgkggfooaa
