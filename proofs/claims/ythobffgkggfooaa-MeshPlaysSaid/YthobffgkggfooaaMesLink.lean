/-
  Package mesh: link; what a pipe's step does to a mesh.
-/
import Derived.Test.YthobffgkggfooaaMesOps
import Derived.BigQuiet
import Derived.BigRegion
set_option linter.unusedVariables false
set_option linter.unusedSimpArgs false
set_option maxRecDepth 100000
namespace Go.Proofs.Ythobffgkggfooaa
open Go.RowKit Go.Maps

set_option maxHeartbeats 1000000 in
theorem link_old (M bl bp B N : Nat) (lv : List Int) (es : List ((Int × Int) × PA)) (k : Int × Int) (p : PA) (w : World) (h : MeshI w M bl bp B N lv es) (hk : I64 k.1 ∧ I64 k.2) (hg : getE es k = some p) :
    Calls Try.prog 62 #[.pointer (some ⟨M, 0, none⟩), .int .i64 k.1, .int .i64 k.2] w fun e w' => e = .returned (.pointer (some ⟨p.P, 0, none⟩)) ∧ New w w' := by
  have c1 : w.cell? ⟨M, 1, none⟩ = some (.map (some bp)) := by rw [h.box.cell]; rfl
  have hM := h.box.lt
  have hlk : ∀ nn, (Instr.lookup 117 (.map (some bp)) (.agg #[.int .i64 k.1, .int .i64 k.2]) true).run Try.prog ((w.alloc (.cells #[.int .i64 k.1, .int .i64 k.2] 122)).drewN nn) = .ok (.tuple #[.pointer (some ⟨p.P, 0, none⟩), .bool true]) ((w.alloc (.cells #[.int .i64 k.1, .int .i64 k.2] 122)).drewN nn) := fun nn => by
    have := (h.look k hk (w1 := (w.alloc (.cells #[.int .i64 k.1, .int .i64 k.2] 122)).drewN nn) (Below.heap_alloc w _ _ h.way.lt)).2
    rw [hg] at this
    exact this
  clear h hg
  go_enter Try.func62, Try.ntmps62
  go_upto_region 2 with fail
  go_quiet ((rintro ⟨nn, rfl⟩; simp [go_sem, hlk nn, Result.andThen]))
  go_wp2_with fail
  go_ret
  exact ⟨rfl, ((New.refl w).alloc _).drewN _⟩
set_option maxHeartbeats 1000000 in
theorem link_new (M bl bp B N : Nat) (lv : List Int) (es : List ((Int × Int) × PA)) (k : Int × Int) (w : World) (h : MeshI w M bl bp B N lv es) (hk : I64 k.1 ∧ I64 k.2) (hg : getE es k = none) (hN : N < 1000000) :
    Calls Try.prog 62 #[.pointer (some ⟨M, 0, none⟩), .int .i64 k.1, .int .i64 k.2] w fun e w' => ∃ p : PA, e = .returned (.pointer (some ⟨p.P, 0, none⟩)) ∧ p.l = [] ∧ w.heap.size ≤ p.c ∧ MeshI w' M bl bp B (N + 1) lv (es ++ [(k, p)]) ∧ MT B w w' := by
  have c1 : w.cell? ⟨M, 1, none⟩ = some (.map (some bp)) := by rw [h.box.cell]; rfl
  have hM := h.box.lt
  have hlk : ∀ nn, (Instr.lookup 117 (.map (some bp)) (.agg #[.int .i64 k.1, .int .i64 k.2]) true).run Try.prog ((w.alloc (.cells #[.int .i64 k.1, .int .i64 k.2] 122)).drewN nn) = .ok (.tuple #[.pointer none, .bool false]) ((w.alloc (.cells #[.int .i64 k.1, .int .i64 k.2] 122)).drewN nn) := fun nn => by
    have := (h.look k hk (w1 := (w.alloc (.cells #[.int .i64 k.1, .int .i64 k.2] 122)).drewN nn) (Below.heap_alloc w _ _ h.way.lt)).2
    rw [hg] at this
    exact this
  have H := Lib.hid h
  have HG := Lib.hid hg
  clear h hg
  go_enter Try.func62, Try.ntmps62
  go_upto_region 2 with fail
  go_quiet ((rintro ⟨nn, rfl⟩; simp [go_sem, hlk nn, Result.andThen]))
  obtain ⟨w2, hw2⟩ : ∃ w2, w2 = (w.alloc (.cells #[.int .i64 k.1, .int .i64 k.2] 122)).drewN nq := ⟨_, rfl⟩
  rw [← hw2]
  have HN2 := Lib.hid (show New w w2 by rw [hw2]; exact ((New.refl w).alloc _).drewN _)
  have HB2 := Lib.hid (show Bk w2 w.heap.size 122 #[.int .i64 k.1, .int .i64 k.2] by rw [hw2]; exact Bk.made w _ _)
  clear hw2 hlk
  go_wp2_with fail
  refine (newp_ok w2).mono ?_
  rintro e w3 ⟨rfl, hp, hn⟩
  have HP3 := Lib.hid hp
  have HN3 := Lib.hid (HN2.out.then hn)
  have HM3 := Lib.hid (H.out.new HN3.out)
  have hb3 := hn.bk HB2.out
  have d0 := hb3.cell 0
  have d1 := hb3.cell 1
  simp at d0 d1
  have e1 : w3.cell? ⟨M, 1, none⟩ = some (.map (some bp)) := by rw [HM3.out.box.cell]; rfl
  have HZ := Lib.hid (show w.heap.size ≤ w2.heap.size from HN2.out.size)
  obtain ⟨D, ho, hD⟩ := HM3.out.way
  obtain ⟨w4, hrun, ho4, ht4⟩ := World.ownsMap.store (w := w3.drew) (t := 117) (e := 53) ho wayG.keyed Try.underlying117 (Nat.lt_of_lt_of_le hN (by decide)) (key := wayV k) (val := ptrV (some (w2.heap.size + 1))) (key_way hk) (wayG.read (some (w2.heap.size + 1)))
  have hput := hD.put wayG (ho.tidy wayG.keyed) (s := k) hk (some (w2.heap.size + 1))
  have hdn : dropG (es.map fun e => (e.1, some e.2.P)) k = es.map fun e => (e.1, some e.2.P) := dropG_none (by
    rintro ⟨t, ht, e⟩
    obtain ⟨e0, he0, rfl⟩ := List.mem_map.1 ht
    exact getE_none HG.out e0 he0 e)
  rw [hdn] at hput
  have htc : Tch (· = bp) w3 w4 := (((Tch.refl (· = bp) w3).drew).then (tch_map ht4))
  have HX := Lib.hid (show MeshI w4 M bl bp B (N + 1) lv (es ++ [(k, ⟨w2.heap.size + 1, w2.heap.size, []⟩)]) ∧ MT B w w4 from by
    obtain ⟨a, cc, hob⟩ := HM3.out.way.obj
    have hmt3 : MT B w3 w4 := MT.one htc H.out.le.2.2 (fun cs t z e => by rw [hob] at e; cases e)
    have hPb : ∀ (Q c : Nat) (l : List ItA), PipIs w3 Q c l → ¬ Q = bp ∧ ¬ c = bp := fun Q c l hq => by
      refine ⟨fun e2 => ?_, fun e2 => ?_⟩
      · have := hq.bk
        unfold Bk at this
        rw [e2, hob] at this
        cases this
      · obtain ⟨s, r, hc⟩ := hq.ch
        rw [e2, hob] at hc
        cases hc
    have hBs : B ≤ w.heap.size := Nat.le_trans H.out.le.1 (Nat.le_of_lt H.out.box.lt)
    refine ⟨⟨hmt3.bk HM3.out.box, (HM3.out.live.tch htc H.out.ne).more (by omega), ⟨_, ho4, by rw [List.map_append]; exact hput⟩, fun e he => ?_, fun e he => ?_, H.out.le, H.out.ne, ?_⟩, (MT.of_new HN3.out).then hmt3⟩
    · rcases List.mem_append.1 he with he | he
      · have hq := HM3.out.pip e he
        exact hq.tch htc (hPb _ _ _ hq).1 (hPb _ _ _ hq).2
      · obtain rfl := List.mem_singleton.1 he
        exact HP3.out.tch htc (hPb _ _ _ HP3.out).1 (hPb _ _ _ HP3.out).2
    · rcases List.mem_append.1 he with he | he
      · exact H.out.base e he
      · obtain rfl := List.mem_singleton.1 he
        have := HZ.out
        exact ⟨by simp only; omega, by simp only; omega⟩
    · refine List.pairwise_append.2 ⟨H.out.apart, by simp, fun a ha b hb => ?_⟩
      rw [List.mem_singleton] at hb
      subst hb
      have := (H.out.pip a ha).ch.lt
      have := HZ.out
      simp only
      omega)
  simp only [wayV, ptrV, Option.map_some] at hrun
  have hM3 := HM3.out.box.lt
  clear hp hn hb3 ho hD ho4 ht4 hput htc hdn
  go_upto_region 5 with fail
  go_region
  go_wp2_with fail
  go_ret
  exact ⟨⟨w2.heap.size + 1, w2.heap.size, []⟩, rfl, rfl, HZ.out, HX.out.1, HX.out.2⟩
theorem pairwise_two {α : Type} {R : α → α → Prop} (hs : ∀ x y, R x y → R y x) : ∀ {l : List α}, l.Pairwise R → ∀ a ∈ l, ∀ b ∈ l, a ≠ b → R a b
  | [], _, a, ha, _, _, _ => by simp at ha
  | x :: l, h, a, ha, b, hb, hne => by
    obtain ⟨h1, h2⟩ := List.pairwise_cons.1 h
    rcases List.mem_cons.1 ha with ea | ha2
    · rcases List.mem_cons.1 hb with eb | hb2
      · exact absurd (ea.trans eb.symm) hne
      · rw [ea]; exact h1 b hb2
    · rcases List.mem_cons.1 hb with eb | hb2
      · rw [eb]; exact hs _ _ (h1 a ha2)
      · exact pairwise_two hs h2 a ha2 b hb2 hne
/-- The ways with other items on one of them. -/
def setE (es : List ((Int × Int) × PA)) (k : Int × Int) (l : List ItA) : List ((Int × Int) × PA) := es.map fun e => if e.1 = k then (e.1, { e.2 with l := l }) else e
/-- A pipe's step. -/
theorem MeshI.turn {w w1 : World} {M bl bp B N : Nat} {lv : List Int} {es : List ((Int × Int) × PA)} {k : Int × Int} {p : PA} {l : List ItA} (h : MeshI w M bl bp B N lv es) (hg : getE es k = some p) (hp : PipIs w1 p.P p.c l) (ht : Tch (· = p.c) w w1) :
    MeshI w1 M bl bp B N lv (setE es k l) ∧ MT B w w1 := by
  have hm := getE_mem hg
  have hpw := h.pip _ hm
  obtain ⟨s, r, hc⟩ := hpw.ch
  have hmt : MT B w w1 := MT.one ht (h.base _ hm).2 (fun cs t z e => by rw [hc] at e; cases e)
  have hkeys := h.keys
  have huniq : ∀ e ∈ es, e.1 = k → e.2 = p := by
    intro e he hk
    by_cases hne : e = (k, p)
    · rw [hne]
    · exfalso
      exact pairwise_two (R := fun x y : (Int × Int) × PA => x.1 ≠ y.1) (fun x y h => h.symm) hkeys e he (k, p) hm hne hk
  refine ⟨⟨hmt.bk h.box, ?_, ?_, ?_, ?_, h.le, h.ne, ?_⟩, hmt⟩
  · obtain ⟨a, cc, hob⟩ := h.live.obj
    exact h.live.tch ht (fun e => by rw [e, hc] at hob; cases hob)
  · obtain ⟨a, cc, hob⟩ := h.way.obj
    have := h.way.tch ht (fun e => by rw [e, hc] at hob; cases hob)
    have e : (setE es k l).map (fun e => (e.1, some e.2.P)) = es.map fun e => (e.1, some e.2.P) := by
      unfold setE
      rw [List.map_map]
      apply List.map_congr_left
      intro e _
      simp only [Function.comp]
      split <;> rfl
    rw [e]
    exact this
  · intro e he
    obtain ⟨e0, he0, rfl⟩ := List.mem_map.1 he
    by_cases hk : e0.1 = k
    · rw [if_pos hk]
      have := huniq e0 he0 hk
      simp only [this]
      exact hp
    · rw [if_neg hk]
      have hq := h.pip e0 he0
      refine hq.tch ht ?_ ?_
      · intro e2
        have := hq.bk
        unfold Bk at this
        rw [e2, hc] at this
        cases this
      · exact pairwise_two (R := fun x y : (Int × Int) × PA => x.2.c ≠ y.2.c) (fun x y h => h.symm) h.apart e0 he0 (k, p) hm (fun e2 => hk (by rw [e2]))
  · intro e he
    obtain ⟨e0, he0, rfl⟩ := List.mem_map.1 he
    have := h.base e0 he0
    split <;> exact this
  · unfold setE
    rw [List.pairwise_map]
    refine h.apart.imp (fun {a b} hab => ?_)
    split <;> split <;> exact hab
end Go.Proofs.Ythobffgkggfooaa
