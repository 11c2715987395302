/-
  Package mesh: Live, Up, Len, link as contracts.
-/
import Derived.Test.YthobffgkggfooaaMesCon
import Derived.Laws.Cover3
set_option linter.unusedVariables false
set_option linter.unusedSimpArgs false
set_option maxRecDepth 100000
namespace Go.Proofs.Ythobffgkggfooaa
open Go.RowKit Go.Maps

theorem live_has (lv : List Int) (n : Int) : decide (∃ t ∈ lv.map (fun n => (n, ())), t.1 = n) = decide (n ∈ lv) := by
  congr 1
  apply propext
  constructor
  · rintro ⟨t, ht, rfl⟩
    obtain ⟨m, hm, rfl⟩ := List.mem_map.1 ht
    exact hm
  · exact fun h => ⟨(n, ()), List.mem_map.2 ⟨n, h, rfl⟩, rfl⟩
set_option maxHeartbeats 400000 in
theorem live_ok (M bl bp B N : Nat) (lv : List Int) (es : List ((Int × Int) × PA)) (n : Int) (w : World) (h : MeshI w M bl bp B N lv es) (hn : I64 n) :
    Calls Try.prog 47 #[.pointer (some ⟨M, 0, none⟩), .int .i64 n] w fun e w' => e = .returned (.bool (decide (n ∈ lv))) ∧ New w w' := by
  have c0 : w.cell? ⟨M, 0, none⟩ = some (.map (some bl)) := by rw [h.box.cell]; rfl
  obtain ⟨D, ho, hD⟩ := h.live
  obtain ⟨v, ps, hlk, hv⟩ := ho.look_ok (t := 116) (e := 120) liveG.keyed Try.underlying116 (zero_unit _) (liveG.read ()) (key := .int .i64 n) (kl := .int .i64 n) (key_int hn)
  obtain ⟨x, rfl, hx⟩ := liveG.inv _ _ _ hv
  have hh : Maps.has D (.int .i64 n) = decide (n ∈ lv) := (hD.has n hn).trans (live_has lv n)
  rw [hh] at hlk
  simp only [liveS] at hlk
  obtain ⟨b, hb⟩ : ∃ b, b = decide (n ∈ lv) := ⟨_, rfl⟩
  rw [← hb] at hlk ⊢
  clear ho hD hv hx hh hb h
  go_enter Try.func47, Try.ntmps47
  go_wp2_with fail
  go_ret
  exact ⟨rfl, (New.refl w).alloc _⟩
/-- The live nodes with one more. -/
def upL (lv : List Int) (n : Int) : List Int := lv.filter (fun m => decide (m ≠ n)) ++ [n]
theorem upL_map (lv : List Int) (n : Int) : (upL lv n).map (fun n => (n, ())) = dropG (lv.map fun n => (n, ())) n ++ [(n, ())] := by
  unfold upL dropG
  rw [List.map_append, List.filter_map]
  rfl
set_option maxHeartbeats 400000 in
theorem up_ok (M bl bp B N : Nat) (lv : List Int) (es : List ((Int × Int) × PA)) (n : Int) (w : World) (h : MeshI w M bl bp B N lv es) (hn : 1 ≤ n ∧ n ≤ 65535) (hN : N < 1000000) :
    Calls Try.prog 33 #[.pointer (some ⟨M, 0, none⟩), .int .i64 n] w fun e w' => e = .returned (.tuple #[]) ∧ MeshI w' M bl bp B (N + 1) (upL lv n) es ∧ MT B w w' := by
  have c0 : w.cell? ⟨M, 0, none⟩ = some (.map (some bl)) := by rw [h.box.cell]; rfl
  have hn2 : I64 n := ⟨by omega, by omega⟩
  obtain ⟨D, ho, hD⟩ := h.live
  obtain ⟨w1, hrun, ho1, ht1⟩ := ho.store (t := 116) (e := 120) liveG.keyed Try.underlying116 (Nat.lt_of_lt_of_le hN (by decide)) (key := .int .i64 n) (val := .agg #[]) (kl := .int .i64 n) (key_int hn2) (liveG.read ())
  have hput := hD.put liveG (ho.tidy liveG.keyed) (s := n) hn2 ()
  have htc := tch_map ht1
  have H := Lib.hid h
  have HX := Lib.hid (show MeshI w1 M bl bp B (N + 1) (upL lv n) es ∧ MT B w w1 from by
    have hob := h.live.obj
    obtain ⟨a, cc, hob⟩ := hob
    have hne : M ≠ bl := fun e => by have := h.box; unfold Bk at this; rw [e, hob] at this; cases this
    have hmt : MT B w w1 := MT.one htc h.le.2.1 (fun cs t z e => by rw [hob] at e; cases e)
    refine ⟨⟨hmt.bk h.box, ⟨_, ho1, by rw [upL_map]; exact hput⟩, ?_, fun e he => (h.pip e he).tch htc ?_ ?_, h.base, h.le, h.ne, h.apart⟩, hmt⟩
    · refine (h.way.tch htc ?_).more (by omega)
      exact fun e => h.ne e.symm
    · intro e2
      have := (h.pip e he).bk
      unfold Bk at this
      rw [e2, hob] at this
      cases this
    · intro e2
      obtain ⟨s, r, hc⟩ := (h.pip e he).ch
      rw [e2, hob] at hc
      cases hc)
  clear ho hD ho1 ht1 hput htc h
  have hmn : ∀ w : World, (binOp .eql 116 (.map (some bl)) (.map none)).run Try.prog w = .ok (.bool false) w := fun w => run_eql_map_nil w _ _ _ (some bl) Try.underlying116
  go_enter Try.func33, Try.ntmps33
  go_wp2_with fail
  go_end0
  exact ⟨rfl, HX.out⟩
/-- The pipe on a way. -/
def getE (es : List ((Int × Int) × PA)) (k : Int × Int) : Option PA := (es.find? fun e => decide (e.1 = k)).map (·.2)
def itemsAt (es : List ((Int × Int) × PA)) (k : Int × Int) : List ItA := match getE es k with | none => [] | some p => p.l
theorem lookG_way (es : List ((Int × Int) × PA)) (k : Int × Int) : lookG (es.map fun e => (e.1, some e.2.P)) k none = (getE es k).map PA.P := by
  unfold lookG getE
  rw [List.find?_map]
  have : ((fun t : (Int × Int) × Option Nat => decide (t.1 = k)) ∘ fun e : (Int × Int) × PA => (e.1, some e.2.P)) = fun e => decide (e.1 = k) := rfl
  rw [this]
  cases es.find? (fun e => decide (e.1 = k)) <;> rfl
theorem getE_mem {es : List ((Int × Int) × PA)} {k : Int × Int} {p : PA} (h : getE es k = some p) : (k, p) ∈ es := by
  unfold getE at h
  cases e : es.find? (fun e => decide (e.1 = k)) with
  | none => rw [e] at h; cases h
  | some t =>
    rw [e] at h
    have h1 := List.mem_of_find?_eq_some e
    have h2 := List.find?_some e
    simp only [decide_eq_true_eq] at h2
    simp only [Option.map_some, Option.some.injEq] at h
    rw [← h2, ← h]
    exact h1
theorem getE_none {es : List ((Int × Int) × PA)} {k : Int × Int} (h : getE es k = none) : ∀ e ∈ es, e.1 ≠ k := by
  unfold getE at h
  intro e he hk
  have h2 : es.find? (fun e => decide (e.1 = k)) = none := by
    cases e2 : es.find? (fun e => decide (e.1 = k)) with
    | none => rfl
    | some t => rw [e2] at h; cases h
  have := List.find?_eq_none.1 h2 e he
  simp [hk] at this
theorem MeshI.keys {w : World} {M bl bp B N : Nat} {lv : List Int} {es : List ((Int × Int) × PA)} (h : MeshI w M bl bp B N lv es) : es.Pairwise fun x y => x.1 ≠ y.1 := by
  obtain ⟨D, _, hD⟩ := h.way
  have := hD.apart
  rw [List.pairwise_map] at this
  exact this
/-- What the look-up of a way finds. -/
theorem MeshI.look {w w1 : World} {M bl bp B N : Nat} {lv : List Int} {es : List ((Int × Int) × PA)} (h : MeshI w M bl bp B N lv es) (k : Int × Int) (hk : I64 k.1 ∧ I64 k.2) (hw : w1.heap[bp]? = w.heap[bp]?) :
    (Instr.lookup 117 (.map (some bp)) (.agg #[.int .i64 k.1, .int .i64 k.2]) false).run Try.prog w1 = .ok (ptrV ((getE es k).map PA.P)) w1 ∧
    (Instr.lookup 117 (.map (some bp)) (.agg #[.int .i64 k.1, .int .i64 k.2]) true).run Try.prog w1 = .ok (.tuple #[ptrV ((getE es k).map PA.P), .bool (getE es k).isSome]) w1 := by
  obtain ⟨D, ho, hD⟩ := h.way.same hw
  obtain ⟨v, ps, hlk, hv⟩ := ho.lookup (t := 117) (e := 53) wayG.keyed Try.underlying117 (zero_ptr _) (wayG.read none) (key := wayV k) (key_way hk)
  obtain ⟨x, rfl, hx⟩ := wayG.inv _ _ _ hv
  have hat := hD.look wayG (s := k) hk none
  have hxe : x = (getE es k).map PA.P := by
    apply wayG.dinj
    rw [← hx, ← lookG_way]
    exact hat
  obtain ⟨v2, ps2, hlk2, hv2⟩ := ho.look_ok (t := 117) (e := 53) wayG.keyed Try.underlying117 (zero_ptr _) (wayG.read none) (key := wayV k) (key_way hk)
  obtain ⟨x2, rfl, hx2⟩ := wayG.inv _ _ _ hv2
  have hxe2 : x2 = (getE es k).map PA.P := by
    apply wayG.dinj
    rw [← hx2, ← lookG_way]
    exact hat
  have hhas : Maps.has D (.string (keyBytes [.int .i64 k.1, .int .i64 k.2])) = (getE es k).isSome := by
    refine (hD.has k hk).trans ?_
    cases hg : getE es k with
    | none =>
      rw [Option.isSome_none, decide_eq_false_iff_not]
      rintro ⟨t, ht, e⟩
      obtain ⟨e0, he0, rfl⟩ := List.mem_map.1 ht
      exact getE_none hg e0 he0 e
    | some p =>
      rw [Option.isSome_some, decide_eq_true_eq]
      exact ⟨_, List.mem_map.2 ⟨_, getE_mem hg, rfl⟩, rfl⟩
  rw [hxe] at hlk
  rw [hxe2, hhas] at hlk2
  exact ⟨hlk, hlk2⟩
set_option maxHeartbeats 400000 in
theorem mlen_ok (M bl bp B N : Nat) (lv : List Int) (es : List ((Int × Int) × PA)) (k : Int × Int) (w : World) (h : MeshI w M bl bp B N lv es) (hk : I64 k.1 ∧ I64 k.2) :
    Calls Try.prog 45 #[.pointer (some ⟨M, 0, none⟩), .int .i64 k.1, .int .i64 k.2] w fun e w' => e = .returned (.int .i64 (itemsAt es k).length) ∧ w' = w := by
  have c1 : w.cell? ⟨M, 1, none⟩ = some (.map (some bp)) := by rw [h.box.cell]; rfl
  have hlk := (h.look k hk rfl).1
  have H := Lib.hid h
  unfold itemsAt
  obtain ⟨g, hg⟩ : ∃ g, g = getE es k := ⟨_, rfl⟩
  rw [← hg] at hlk ⊢
  rcases g with _ | p
  · simp only [ptrV, Option.map_none] at hlk
    clear h hg
    go_enter Try.func45, Try.ntmps45
    go_wp2_with fail
    refine (nilplen_ok w).mono ?_
    rintro e w1 ⟨rfl, rfl⟩
    go_wp2_with fail
    go_ret
    exact ⟨rfl, rfl⟩
  · have hp := h.pip _ (getE_mem hg.symm)
    simp only [ptrV, Option.map_some] at hlk
    have HLE := Lib.hid (plen_ok p.P p.c p.l w hp)
    clear h hg hp
    go_enter Try.func45, Try.ntmps45
    go_wp2_with fail
    refine HLE.out.mono ?_
    rintro e w1 ⟨rfl, rfl⟩
    go_wp2_with fail
    go_ret
    exact ⟨rfl, rfl⟩
end Go.Proofs.Ythobffgkggfooaa
