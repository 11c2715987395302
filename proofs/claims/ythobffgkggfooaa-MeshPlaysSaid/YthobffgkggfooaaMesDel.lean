/-
  Package mesh: the ways to a node go: maps.DeleteFunc with Down's closure.
-/
import Derived.Test.YthobffgkggfooaaMesSend2
import Derived.Lib.SlMapFilter
set_option linter.unusedVariables false
set_option linter.unusedSimpArgs false
set_option maxRecDepth 100000
namespace Go.Proofs.Ythobffgkggfooaa
open Go.RowKit Go.Maps

theorem way_inv {key : Value} {kl : Lit} (h : keyOf Try.prog 122 key = some kl) : ∃ k : Int × Int, key = wayV k ∧ kl = wayS.kl k ∧ wayS.Ok k := by
  have hc : Try.prog.cellsOf 3 = 1 := by kernel_rfl
  have hcw : Try.prog.cellsOf 122 = 2 := by kernel_rfl
  have hd : 0 < Try.prog.types.size := of_decide_eq_true (by kernel_rfl)
  obtain ⟨d, hd2⟩ : ∃ d, Try.prog.types.size = d + 1 := ⟨Try.prog.types.size - 1, by omega⟩
  unfold keyOf at h
  rw [Try.underlying122] at h
  simp only [] at h
  split at h
  · rename_i hx
    have hf := (Bool.and_eq_true _ _ ▸ hx).2
    obtain ⟨ls, hls, rfl⟩ := Option.map_eq_some_iff.1 h
    rw [hd2] at hls
    cases key with
    | agg cs =>
      have hsz : cs.size = 2 := by simpa [Value.formed, Try.underlying122, hcw] using hf
      obtain ⟨l⟩ := cs
      match l, hsz with
      | [v0, v1], _ =>
        cases v0 <;> cases v1 <;> simp [Program.keyLits, Try.underlying122, Try.underlying3, hcw, hc, Value.cells] at hls
        rename_i k0 n0 k1 n1 _hh
        by_cases c0 : k0 = IntKind.i64 ∧ (Lit.int IntKind.i64 n0).wf = true
        case neg => simp [c0] at hls
        by_cases c1 : k1 = IntKind.i64 ∧ (Lit.int IntKind.i64 n1).wf = true
        case neg => simp [c0, c1] at hls
        simp [c0, c1] at hls
        obtain ⟨rfl, h0⟩ := c0
        obtain ⟨rfl, h1⟩ := c1
        subst hls
        refine ⟨(n0, n1), rfl, rfl, ?_, ?_⟩
        · simpa [I64, Lit.wf, IntKind.min, IntKind.max, IntKind.signed, IntKind.bits] using h0
        · simpa [I64, Lit.wf, IntKind.min, IntKind.max, IntKind.signed, IntKind.bits] using h1
    | _ => simp [Value.formed, Try.underlying122] at hf
  · cases h
set_option maxHeartbeats 400000 in
theorem dfn_ok (k : Int × Int) (pv : Value) (n : Int) (g : Nat) (w : World) (hg : w.cell? ⟨g, 0, none⟩ = some (.int .i64 n)) :
    Calls Try.prog 64 #[wayV k, pv, .pointer (some ⟨g, 0, none⟩)] w fun e w' => e = .returned (.bool (k.2 == n)) ∧ New w w' := by
  have hgl : g < w.heap.size := World.block_lt_of_cell? w _ hg
  simp only [wayV]
  go_enter Try.func64, Try.ntmps64
  go_wp2_with fail
  go_ret
  exact ⟨rfl, (New.refl w).alloc _⟩

theorem New.grownBy {w w1 : World} (h : New w w1) : w.grownBy w1 none := ⟨h.os, h.tape, h.output, h.size, fun k hk _ => h.block k hk (by omega)⟩
theorem keys_differ {k q : Int × Int} (hk : wayS.Ok k) (hq : wayS.Ok q) : (wayS.kl q).sameKey (wayS.kl k) = decide (q = k) := by
  by_cases h : q = k
  · subst h; simp [Go.WideAt.sameKey_self (wayG.lit hq)]
  · rw [decn_ h]
    cases hs : (wayS.kl q).sameKey (wayS.kl k) with
    | false => rfl
    | true => exact absurd ((wayG.kl_inj hq hk).1 (WideAt.sameKey_eq hs)) h
def keepN (n : Int) (left : Lit → Bool) (es : List ((Int × Int) × Option Nat)) : List ((Int × Int) × Option Nat) := es.filter fun e => decide (e.1.2 ≠ n) || left (wayS.kl e.1)
theorem keep_no {n : Int} {left : Lit → Bool} {es : List ((Int × Int) × Option Nat)} {k : Int × Int} (hok : ∀ e ∈ es, wayS.Ok e.1) (hk : wayS.Ok k) (h : k.2 ≠ n) : keepN n left es = keepN n (fun z => left z && !z.sameKey (wayS.kl k)) es := by
  unfold keepN
  refine List.filter_congr fun e he => ?_
  have hkd := keys_differ hk (hok e he)
  simp only [hkd]
  by_cases hek : e.1 = k
  · rw [hek]; simp [h]
  · simp [hek]
theorem keep_yes {n : Int} {left : Lit → Bool} {es : List ((Int × Int) × Option Nat)} {k : Int × Int} (hok : ∀ e ∈ es, wayS.Ok e.1) (hk : wayS.Ok k) (h : k.2 = n) : dropG (keepN n left es) k = keepN n (fun z => left z && !z.sameKey (wayS.kl k)) es := by
  unfold keepN dropG
  rw [List.filter_filter]
  refine List.filter_congr fun e he => ?_
  have hkd := keys_differ hk (hok e he)
  simp only [hkd]
  by_cases hek : e.1 = k
  · rw [hek]; simp [h]
  · simp [hek]
set_option maxHeartbeats 1000000 in
theorem dfunc_ok (bp N g : Nat) (n : Int) (es : List ((Int × Int) × Option Nat)) (w : World) (h : MapG wayS Try.prog 122 w bp N es) (hg : w.cell? ⟨g, 0, none⟩ = some (.int .i64 n)) :
    Calls Try.prog 63 #[.map (some bp), .func (.func 64) #[] #[.pointer (some ⟨g, 0, none⟩)]] w fun e w' =>
      e = .returned (.tuple #[]) ∧ MapG wayS Try.prog 122 w' bp N (es.filter fun e => decide (e.1.2 ≠ n)) ∧ Tch (· = bp) w w' := by
  have hne : g ≠ bp := fun e => by
    obtain ⟨a, c, hob⟩ := h.obj
    rw [e] at hg
    simp [World.cell?, hob] at hg
  have hgl : g < w.heap.size := World.block_lt_of_cell? w _ hg
  have hbl := h.lt
  obtain ⟨D, ho, hD⟩ := h
  have HO := Lib.hid ho
  have HD := Lib.hid hD
  have HG := Lib.hid hg
  have HNE := Lib.hid hne
  have HGL := Lib.hid hgl
  have HBL := Lib.hid hbl
  clear ho hD hg hne hgl hbl
  go_enter Try.func63, Try.ntmps63
  go_wp2_with (refine wpList_range_own _ rfl _ 117 rfl 122 53 wayG.keyed Try.underlying117 wayS.R bp N D rfl HO.out ?_; intro w1 hr1 hg1 hs1)
  go_frame
  have HR1 := Lib.hid hr1
  have HT1 := Lib.hid (show Tch (· = bp) w w1 from (Tch.of_grown hg1).more (fun b hb e => by cases e))
  clear hr1 hg1 hs1
  go_loopw [8] (fun _ wr => ∃ (left : Lit → Bool) (cnt : Nat) (Dc : DataW Unit), Hid (wr.ranges Try.prog 122 wayS.R bp w.heap.size N Dc left cnt) ∧ Hid (RdG wayS Dc (keepN n left es)) ∧ Hid (Tch (· = bp) w wr))
    (fun _ wr => wr.rangeLeft bp w.heap.size)
  case atStart =>
    refine ⟨_, _, D, HR1, Lib.hid ?_, HT1⟩
    have : keepN n (Maps.has D) es = es := by
      unfold keepN
      refine List.filter_eq_self.2 fun e he => ?_
      rw [HD.out.has e.1 (HD.out.ok e he), dec_ (show ∃ t ∈ es, t.1 = e.1 from ⟨e, he, rfl⟩)]
      simp
    rw [this]
    exact HD.out
  case round =>
    obtain ⟨left, cnt, Dc, HR, HC, HT⟩ := hrel
    clear HR1 HT1
    go_wp2_with (refine wpList_next_ranges _ rfl _ rfl 122 wayG.keyed wayS.R wayV ptrV (fun key kl hk => by obtain ⟨k, e, _⟩ := way_inv hk; exact ⟨k, e⟩) (fun v y hv => by obtain ⟨x, e, _⟩ := wayG.inv v y.1 y.2 hv; exact ⟨x, e⟩) bp w.heap.size N Dc _ _ rfl HR.out ?_ ?_)
    · intro _ hl0
      go_wp2_with fail
      go_end0
      refine ⟨rfl, ⟨Dc, HR.out.owns, ?_⟩, HT.out⟩
      have := HC.out
      have e : keepN n left es = es.filter fun e => decide (e.1.2 ≠ n) := by
        unfold keepN
        exact List.filter_congr fun e _ => by rw [hl0]; simp
      rw [e] at this
      exact this
    · intro k1 k2 c kl yd yp w2 cnt2 hkey hlk hv hat hr2 hlt hg2 hs2 hen
      obtain ⟨k', ek, rfl, hok⟩ := way_inv hkey
      obtain rfl : (k1, k2) = k' := wayG.kinj _ _ ek
      have HR2 := Lib.hid hr2
      have ht2 : Tch (· = bp) w w2 := HT.out.grown hg2 (fun j e hj => by cases e; omega)
      have hgc : w2.cell? ⟨g, 0, none⟩ = some (.int .i64 n) := by rw [ht2.cell HGL.out HNE.out]; exact HG.out
      have HT2 := Lib.hid ht2
      have HKEY := Lib.hid hkey
      have HOK := Lib.hid hok
      have HF := Lib.hid (fun pv wx (hn : New w2 wx) => dfn_ok (k1, k2) pv n g wx (hn.cell hgc))
      have HLT := Lib.hid (show w2.rangeLeft bp w.heap.size < wr.rangeLeft bp w.heap.size by rw [hr2.left_eq, HR.out.left_eq]; exact hlt)
      clear hkey hlk hv hat hr2 hlt hg2 hs2 hok ht2 hgc ek
      simp only [wayV] at hen HF HKEY ⊢
      go_wp2_with fail
      refine (HF.out _ _ (by first | exact (New.refl w2).alloc _ | exact ((New.refl w2).alloc _).drewN _)).mono ?_
      rintro e w3 ⟨rfl, hn3⟩
      have hn23 : New w2 w3 := New.then ((New.refl w2).alloc _) hn3
      have hr3 := HR2.out.kept (New.grownBy hn23) (by simp) (by simp)
      have HT3 := Lib.hid (HT2.out.then (New.tch hn23 (· = bp)))
      have hbw : Bk w3 w2.heap.size 122 #[.int .i64 k1, .int .i64 k2] := New.bk hn3 (Bk.made w2 _ _)
      have d0 := hbw.cell 0
      have d1 := hbw.cell 1
      have hdl := hbw.lt
      simp at d0 d1
      have HR3 := Lib.hid hr3
      clear hn3 hn23 hr3 hbw HF
      by_cases hk : k2 = n
      · have tb : (k2 == n) = true := beq_ hk
        have hrd := HC.out.del wayG (HR.out.owns.tidy wayG.keyed) (s := (k1, k2)) HOK.out
        rw [keep_yes HD.out.ok HOK.out hk] at hrd
        have HRD := Lib.hid hrd
        clear hrd hk
        go_wp2_with (refine wpList_delete_ranges _ rfl _ _ 117 122 rfl 53 wayG.keyed Try.underlying117 wayS.R bp w.heap.size N _ _ _ rfl HR3.out _ _ rfl HKEY.out ?_; intro w4 cnt3 hr4 hle hturn; go_frame)
        rw [strike_twice] at hr4
        go_roundw
        case rel => exact ⟨_, _, _, Lib.hid hr4, HRD, Lib.hid (HT3.out.then (tch_map hturn))⟩
        case measure => rw [hr4.left_eq]; have := HLT.out; rw [HR2.out.left_eq] at this; omega
      · have tb : (k2 == n) = false := bne_ hk
        have hrd := HC.out
        rw [keep_no HD.out.ok HOK.out hk] at hrd
        have HRD := Lib.hid hrd
        clear hrd hk
        go_wp2_with fail
        go_roundw
        case rel => exact ⟨_, _, _, HR3, HRD, HT3⟩
        case measure => rw [HR3.out.left_eq]; have := HLT.out; rw [HR2.out.left_eq] at this; exact this
end Go.Proofs.Ythobffgkggfooaa
