/-
  Package mesh: Ways of any mesh: the ways with items, in order; the sort's contract handed in (paid above).
-/
import Derived.Test.YthobffgkggfooaaMesWayCmp
import Derived.Test.YthobffgkggfooaaMesNil
import Derived.Test.YthobffgkggfooaaRowK
set_option linter.unusedVariables false
set_option linter.unusedSimpArgs false
set_option maxRecDepth 100000
namespace Go.Proofs.Ythobffgkggfooaa
open Go.RowKit Go.Maps

def wC (k : Int × Int) : List Value := [.int .i64 k.1, .int .i64 k.2]
theorem wC_len (k : Int × Int) : (wC k).length = 2 := rfl
theorem wC_one (l : List (Int × Int)) : ∀ u ∈ l.flatMap wC, u.oneCell' = true := by
  intro u hu
  obtain ⟨k, _, h⟩ := List.mem_flatMap.1 hu
  simp only [wC, List.mem_cons, List.not_mem_nil, or_false] at h
  rcases h with rfl | rfl <;> rfl
/-- What is still to come, by the ways. -/
def WCome (left : Lit → Bool) (rem : List (Int × Int)) : Prop := ∀ s, wayS.Ok s → left (wayS.kl s) = decide (s ∈ rem)
theorem wCome_step {left : Lit → Bool} {s q : List (Int × Int)} {k : Int × Int} (h : WCome left (s ++ k :: q)) (ha : (s ++ k :: q).Nodup) (hk : wayS.Ok k) : WCome (fun z => left z && !z.sameKey (wayS.kl k)) (s ++ q) := by
  intro u hu
  show (left (wayS.kl u) && !(wayS.kl u).sameKey (wayS.kl k)) = _
  rw [h u hu, keys_differ hk hu]
  by_cases e : u = k
  · subst e
    simp only [decide_true, Bool.not_true, Bool.and_false]
    symm
    refine decide_eq_false fun hx => ?_
    have h2 := List.nodup_append.1 ha
    rcases List.mem_append.1 hx with hx | hx
    · exact h2.2.2 u hx u (by simp) rfl
    · exact (List.nodup_cons.1 h2.2.1).1 hx
  · simp only [e, decide_false, Bool.not_false, Bool.and_true]
    congr 1
    apply propext
    simp [e]
theorem wCome_none {left : Lit → Bool} {rem : List (Int × Int)} (h : WCome left rem) (hok : ∀ k ∈ rem, wayS.Ok k) (h0 : ∀ kl, left kl = false) : rem = [] := by
  cases rem with
  | nil => rfl
  | cons t l =>
    have h1 := h t (hok t (by simp))
    rw [h0] at h1
    exact absurd (List.mem_cons_self) (decide_eq_false_iff_not.1 h1.symm)
/-- The rows of ways that the sort works on. -/
def WHold (w : World) (blk : Nat) (l : List (Int × Int)) : Prop := ∀ (j : Nat) (u : Value), (l.flatMap wC)[j]? = some u → w.cell? ⟨blk, j, none⟩ = some u ∧ w.frozen? ⟨blk, j, none⟩ = some false
def leW (a b : Int × Int) : Prop := cmp2 a b ≤ 0
/-- The sort's contract. -/
def WaySort : Prop := ∀ (blk cap : Nat) (l : List (Int × Int)) (w : World), WHold w blk l → blk < w.heap.size → l.length ≤ 1000000 →
  Calls Try.prog 67 #[.slice (some ⟨blk, 0, none⟩) l.length cap, .func (.func 68) #[] #[]] w fun e w' =>
    e = .returned (.tuple #[]) ∧ ∃ l', l'.Perm l ∧ l'.Pairwise leW ∧ WHold w' blk l' ∧ Tch (· = blk) w w'
theorem way_info : (Try.prog.info? 90).map (fun i => (i.zero, i.size, i.bytes)) = some (some (.agg #[.int .i64 0, .int .i64 0]), 2, 16) := by kernel_rfl
theorem own_not_iter2 {w : World} {base : Nat} {e : TypeId} {v : Value} {n m sz : Nat} {xs : List Value} {k : TypeId} {R : Value → Option (DataW Unit × List MemPlace)} {b r : Nat} {D : DataW Unit} {left : Lit → Bool} {cnt : Nat} (h : w.ownsRow base e sz v n xs) (hr : w.ranges Try.prog k R b r m D left cnt) : v.ownBlock ≠ some r ∧ v.ownBlock ≠ some b := by
  obtain ⟨es, clock, since, seen, c0, hb1, _, _, _, hr, _⟩ := hr
  rcases h.2 with ⟨rfl, _⟩ | ⟨g, cap, cur, rfl, _, hg, _⟩
  · simp [Value.ownBlock]
  · simp only [Value.ownBlock]
    refine ⟨fun e => ?_, fun e => ?_⟩
    · injection e with e; subst e; rw [hr] at hg; cases hg
    · injection e with e; subst e; rw [hb1] at hg; cases hg
set_option maxHeartbeats 2000000 in
theorem ways_ok (hsort : WaySort) (M bl bp B N : Nat) (lv : List Int) (es : List ((Int × Int) × PA)) (w : World) (h : MeshI w M bl bp B N lv es) (hl : es.length ≤ 1000000) :
    Calls Try.prog 46 #[.pointer (some ⟨M, 0, none⟩)] w fun e w' => ∃ (v : Value) (ws : List (Int × Int)), e = .returned v ∧ ws.Perm (es.map (·.1)) ∧ ws.Pairwise leW ∧
      ((v = .slice none 0 0 ∧ ws = []) ∨ ∃ blk cap, v = .slice (some ⟨blk, 0, none⟩) ws.length cap ∧ w.heap.size ≤ blk ∧ blk < w'.heap.size ∧ WHold w' blk ws) ∧ New w w' := by
  have HSO := Lib.hid hsort
  have c1 : w.cell? ⟨M, 1, none⟩ = some (.map (some bp)) := by rw [h.box.cell]; rfl
  have hM := h.box.lt
  have HKE := Lib.hid (show (es.map (·.1)).Nodup from by rw [List.nodup_iff_pairwise_ne, List.pairwise_map]; exact h.keys)
  obtain ⟨D, ho, hD⟩ := h.way
  have HOKS := Lib.hid (show ∀ k ∈ es.map (·.1), wayS.Ok k from fun k hk => by
    obtain ⟨e, he, rfl⟩ := List.mem_map.1 hk
    exact hD.ok (e.1, some e.2.P) (List.mem_map.2 ⟨e, he, rfl⟩))
  have HHAS := Lib.hid (show WCome (Maps.has D) (es.map (·.1)) from fun s hs => by
    rw [hD.has s hs]
    congr 1
    apply propext
    constructor
    · rintro ⟨t, ht, rfl⟩
      obtain ⟨e, he, rfl⟩ := List.mem_map.1 ht
      exact List.mem_map.2 ⟨e, he, rfl⟩
    · intro hm
      obtain ⟨e, he, rfl⟩ := List.mem_map.1 hm
      exact ⟨(e.1, some e.2.P), List.mem_map.2 ⟨e, he, rfl⟩, rfl⟩)
  have HO := Lib.hid ho
  have HLE := Lib.hid (show (es.map (·.1)).length ≤ 1000000 by rw [List.length_map]; exact hl)
  obtain ⟨ks, hks⟩ : ∃ ks, ks = es.map (·.1) := ⟨_, rfl⟩
  rw [← hks] at HKE HOKS HHAS HLE ⊢
  obtain ⟨i3, hi3, hz30, hz31, hz32⟩ := info_parts way_info
  clear h ho hD hsort hks hl
  go_enter Try.func46, Try.ntmps46
  go_wp2_with (refine wpList_range_own _ rfl _ 117 rfl 122 53 wayG.keyed Try.underlying117 wayS.R bp N D rfl HO.out ?_; intro w1 hr1 hg1 hs1)
  go_frame
  have HR1 := Lib.hid hr1
  have HN1 := Lib.hid (show New w w1 from Tch.of_grown hg1 |>.more (fun b hb e => by cases e))
  clear hr1 hg1 hs1
  go_loopw [3] (fun kv wr => ∃ (dl rem : List (Int × Int)) (left : Lit → Bool) (cnt : Nat), Hid ((dl ++ rem).Perm ks) ∧ Hid (WCome left rem) ∧ Hid (wr.ranges Try.prog 122 wayS.R bp w.heap.size N D left cnt) ∧
      Hid (wr.ownsRow w.heap.size 90 2 kv dl.length (dl.flatMap wC)) ∧ Hid (New w wr)) (fun _ wr => wr.rangeLeft bp w.heap.size)
  case atStart => exact ⟨[], ks, Maps.has D, _, Lib.hid (by simp), HHAS, HR1, Lib.hid (World.ownsRow_nil _ _ _ _), HN1⟩
  case round =>
    clear HR1 HN1
    obtain ⟨dl, rem, left, cnt, HP, HTC, HR, HOW, HN⟩ := hrel
    go_wp2_with (refine wpList_next_ranges _ rfl _ rfl 122 wayG.keyed wayS.R wayV ptrV (fun key kl hk => by obtain ⟨k, e, _⟩ := way_inv hk; exact ⟨k, e⟩) (fun v y hv => by obtain ⟨x, e, _⟩ := wayG.inv v y.1 y.2 hv; exact ⟨x, e⟩) bp w.heap.size N D _ _ rfl HR.out ?_ ?_)
    · intro _ hl0
      have hrem : rem = [] := wCome_none HTC.out (fun k hk => HOKS.out k (HP.out.mem_iff.1 (by simp [hk]))) hl0
      subst hrem
      have hperm : dl.Perm ks := by have h := HP.out; rwa [List.append_nil] at h
      have HPE := Lib.hid hperm
      clear hperm hl0
      rcases HOW.out.2 with ⟨rfl, hz⟩ | ⟨g, cap, cur, rfl, hgb, hg, hnc, hcm, hcs, htk⟩
      · obtain rfl : dl = [] := List.eq_nil_of_length_eq_zero hz
        go_wp2_with fail
        refine (sort_zero _ _).mono ?_
        rintro e w2 ⟨rfl, rfl⟩
        go_wp2_with fail
        go_ret
        exact ⟨_, [], rfl, HPE.out, List.Pairwise.nil, Or.inl ⟨rfl, rfl⟩, HN.out⟩
      · have hbk : Bk wr g 90 cur := hg
        have hho : WHold wr g dl := fun j u hu => by
          have h1 : j < dl.length * 2 := by
            have := (List.getElem?_eq_some_iff.1 hu).1
            rwa [flat_lengthK wC_len] at this
          rw [← htk, List.getElem?_take, if_pos h1, Array.getElem?_toList] at hu
          exact ⟨by rw [hbk.cell]; exact hu, by rw [hbk.frozen]⟩
        have HS := Lib.hid (HSO.out g cap dl wr hho hbk.lt (by have := HLE.out; rw [← HPE.out.length_eq] at this; exact this))
        have HGB := Lib.hid hgb
        have HGL := Lib.hid hbk.lt
        clear hgb hg hnc hcm hcs htk hbk hho
        go_wp2_with fail
        refine HS.out.mono ?_
        rintro e w2 ⟨rfl, l', hp, hpw, hh, ht⟩
        have HF := Lib.hid (show l'.Perm ks ∧ l'.Pairwise leW ∧ WHold w2 g l' ∧ New w w2 ∧ g < w2.heap.size from ⟨hp.trans HPE.out, hpw, hh, Tch.trans HN.out ht (fun b hb e => by have := HGB.out; omega), by have := ht.size; have := HGL.out; omega⟩)
        have hle : dl.length = l'.length := hp.length_eq.symm
        rw [hle]
        clear hp hpw hh ht HS
        go_wp2_with fail
        go_ret
        exact ⟨_, l', rfl, HF.out.1, HF.out.2.1, Or.inr ⟨g, cap, rfl, HGB.out, HF.out.2.2.2.2, HF.out.2.2.1⟩, HF.out.2.2.2.1⟩
    · intro k1 k2 c kl yd yp w2 cnt2 hkey hlk hv hat hr2 hlt hg2 hs2 hen
      obtain ⟨k', ek, rfl, hok⟩ := way_inv hkey
      obtain rfl : (k1, k2) = k' := wayG.kinj _ _ ek
      have hin : (k1, k2) ∈ rem := by
        have h1 := HTC.out (k1, k2) hok
        rw [hlk] at h1
        exact of_decide_eq_true h1.symm
      obtain ⟨s, q, rfl⟩ := List.append_of_mem hin
      have hnd : (s ++ (k1, k2) :: q).Nodup := by
        have := HP.out.nodup_iff.2 HKE.out
        exact (List.nodup_append.1 this).2.1
      have HTC2 := Lib.hid (wCome_step HTC.out hnd hok)
      have HP2 := Lib.hid (show ((dl ++ [(k1, k2)]) ++ (s ++ q)).Perm ks from by
        refine List.Perm.trans ?_ HP.out
        rw [List.perm_iff_count]
        intro a
        simp only [List.count_append, List.count_cons, List.count_nil]
        omega)
      obtain ⟨ni, nb⟩ := own_not_iter2 HOW.out HR.out
      have ht2 : Tch (· = w.heap.size) wr w2 := Tch.of_grown hg2 |>.more (fun b hb e => by injection e)
      have HOW2 := Lib.hid (own_tch HOW.out ht2 (fun b hb e => ni (by rw [hb, e])))
      have HR2 := Lib.hid hr2
      have HN2 := Lib.hid (show New w w2 from HN.out.trans ht2 (fun b hb e => by omega))
      have HLT := Lib.hid (show w2.rangeLeft bp w.heap.size < wr.rangeLeft bp w.heap.size by rw [hr2.left_eq, HR.out.left_eq]; exact hlt)
      have HDL := Lib.hid (show dl.length + 1 ≤ 1000000 by
        have h1 := HP.out.length_eq
        have h2 := HLE.out
        simp at h1
        omega)
      clear hkey hlk hv hat hr2 hlt hg2 hs2 hok hin hnd ek ni nb ht2
      simp only [wayV] at hen ⊢
      go_upto_region 7 with fail
      obtain ⟨w4, hw4⟩ : ∃ w4, w4 = w2.alloc (.cells #[.int .i64 k1, .int .i64 k2] 122) := ⟨_, rfl⟩
      have hn4 : New w2 w4 := by rw [hw4]; exact (New.refl _).alloc _
      have hb4 : Bk w4 w2.heap.size 122 #[.int .i64 k1, .int .i64 k2] := by rw [hw4]; exact Bk.made _ _ _
      rw [← hw4]
      have d0 := hb4.cell 0
      have d1 := hb4.cell 1
      have dl4 := hb4.lt
      simp at d0 d1
      have HOW4 := Lib.hid (own_tch HOW2.out (hn4.tch (fun _ => False)) (fun b hb e => e))
      have HR4 := Lib.hid (ranges_tch HR2.out (hn4.tch (fun _ => False)) (fun e => e) (fun e => e))
      have HN4 := Lib.hid (HN2.out.then hn4)
      clear hw4 hn4 hb4 hen
      go_wp2_with (at_builtin; refine list_appK rfl (.tmp 16) (.tmp 22) 89 rfl w.heap.size 90 i3 (.agg #[.int .i64 0, .int .i64 0]) 2 16 Try.underlying89 hi3 hz30 hz31 hz32 rfl (by omega) _ dl.length _ rfl (HOW4.out.alloc _) (some ⟨w4.heap.size, 0, none⟩) 1 1 (wC (k1, k2)) rfl rfl (by simp) (by simp) (fun _ => ⟨_, rfl, fun jj u hu => by rw [Addr.add_lit, Nat.zero_add, (Bk.made w4 _ _).cell, List.getElem?_toArray]; exact hu⟩) (fun u hu => wC_one [(k1, k2)] u (by simpa using hu)) (Nat.le_trans HDL.out (by decide)) (by have := HDL.out; omega) (by have := HN4.out.size; simp; omega) ?_; intro v' w5 HO5 HG5)
      obtain ⟨ni, nb⟩ := own_not_iter2 HOW4.out HR4.out
      have HR5 := Lib.hid ((HR4.out.alloc (.cells (wC (k1, k2)).toArray 90)).kept HG5.out (fun e => nb e.symm) (fun e => ni e.symm))
      have HN5 := Lib.hid (show New w w5 from (HN4.out.alloc (.cells (wC (k1, k2)).toArray 90)).grown HG5.out (fun g hg _ => (own_base HOW4.out hg).1))
      have HO6 := Lib.hid (show w5.ownsRow w.heap.size 90 2 v' (dl ++ [(k1, k2)]).length ((dl ++ [(k1, k2)]).flatMap wC) from by
        rw [List.length_append, List.flatMap_append]
        have h := HO5.out
        simpa using h)
      clear ni nb HO5 HG5
      go_wp2_with fail
      go_roundw
      case rel => exact ⟨dl ++ [(k1, k2)], s ++ q, _, _, HP2, HTC2, HR5, HO6, HN5⟩
      case measure => rw [HR5.out.left_eq]; have := HLT.out; rw [HR2.out.left_eq] at this; exact this
end Go.Proofs.Ythobffgkggfooaa
