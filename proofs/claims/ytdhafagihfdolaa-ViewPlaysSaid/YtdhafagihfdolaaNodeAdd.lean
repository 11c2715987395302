/-
  Add and Drop of a set of nodes, as contracts; no condition but that the value is a set.
-/
import Derived.Test.YtdhafagihfdolaaNodeSet
set_option linter.unusedVariables false
set_option linter.unusedSimpArgs false
namespace Go.Proofs.Ytdhafagihfdolaa
open Go.RowKit Go.Lib Go.Sort Go.Shelf

/-- What Add hands back. -/
def AddQ (w : World) (most : Nat) (ns : List Int) (b : Bool) (e : Ending) (w' : World) : Prop := ∃ v', e = .returned (.tuple #[v', .bool b]) ∧ SetV w' v' most ns ∧ Below w.heap.size w w'

theorem bk_below {w w' : World} {g B : Nat} {t : TypeId} {cs : Array Value} (h : Bk w g t cs) (hb : Below B w w') (hg : g < B) : Bk w' g t cs := h.keep (hb.block g hg)

theorem slr_slice {w : World} {S : Nat → Prop} {v : Value} {xs : List Value} (h : Sl w S v xs) : ∃ ao len cap, v = .slice ao len cap := by
  obtain ⟨ao, cap, e, _⟩ := h
  exact ⟨ao, _, cap, e⟩

theorem Bk.two {w : World} {g : Nat} {t : TypeId} {a b : Value} (h : Bk w g t #[a, b]) : w.cell? ⟨g, 0, none⟩ = some a ∧ w.cell? ⟨g, 1, none⟩ = some b ∧ w.frozen? ⟨g, 0, none⟩ = false ∧ w.frozen? ⟨g, 1, none⟩ = false :=
  ⟨h.cell 0, h.cell 1, h.frozen 0, h.frozen 1⟩

theorem addQ_mk {w w' : World} {sv : Value} {most : Nat} {ns : List Int} {b : Bool} (hs : Slr w sv (ints ns)) (hg : Good most ns) (hb : Below w.heap.size w w') :
    AddQ w most ns b (.returned (.tuple #[.agg #[.int .i64 most, sv], .bool b])) w' := ⟨_, rfl, ⟨_, rfl, hs.below hb, hg⟩, hb⟩
theorem addQ_mk' {w w' : World} {sv : Value} {most : Nat} {ns : List Int} {b : Bool} (hs : Slr w' sv (ints ns)) (hg : Good most ns) (hb : Below w.heap.size w w') :
    AddQ w most ns b (.returned (.tuple #[.agg #[.int .i64 most, sv], .bool b])) w' := ⟨_, rfl, ⟨_, rfl, hs, hg⟩, hb⟩

set_option maxHeartbeats 1000000 in
theorem add_no (v : Value) (most : Nat) (ns : List Int) (n : Int) (w : World) (h : SetV w v most ns) (hn : n < 1 ∨ 65535 < n) :
    Calls Try.prog 33 #[v, .int .i64 n] w (AddQ w most ns false) := by
  obtain ⟨sv, rfl, hs, hg⟩ := h
  have HS := Lib.hid hs
  obtain ⟨ao, len, cap, rfl⟩ := slr_slice hs
  have HG := Lib.hid hg
  clear hs hg
  rcases hn with hn | hn
  · have hd := dec_ hn
    go_enter Try.func33, Try.ntmps33
    go_wp2_with fail
    exact bodyPost_ret (v := .tuple #[.agg #[.int .i64 most, .slice ao len cap], .bool false]) (by simp [results, Try.results33, go_sem]) rfl ⟨_, rfl, ⟨_, rfl, (HS.out.alloc _).alloc _, HG.out⟩, (below_alloc _ _).alloc (by simp) _⟩
  · have hn' := decn_ (show ¬ n < 1 by omega)
    have hd := dec_ hn
    go_enter Try.func33, Try.ntmps33
    go_wp2_with fail
    exact bodyPost_ret (v := .tuple #[.agg #[.int .i64 most, .slice ao len cap], .bool false]) (by simp [results, Try.results33, go_sem]) rfl ⟨_, rfl, ⟨_, rfl, (HS.out.alloc _).alloc _, HG.out⟩, (below_alloc _ _).alloc (by simp) _⟩

set_option maxHeartbeats 2000000 in
theorem add_in (v : Value) (most : Nat) (ns : List Int) (n : Int) (w : World) (h : SetV w v most ns) (h1 : 1 ≤ n) (h2 : n ≤ 65535) (hin : ns.contains n = true) :
    Calls Try.prog 33 #[v, .int .i64 n] w (AddQ w most ns true) := by
  have h' := h
  obtain ⟨sv, rfl, hs, hg⟩ := h'
  have hcon := fun w' (hb : Below w.heap.size w w') => find_set _ most ns n w' (h.below hb)
  rw [hin] at hcon
  generalize cnt ns n = c at hcon
  have HS := Lib.hid hs
  have HG := Lib.hid hg
  obtain ⟨ao, len, cap, rfl⟩ := slr_slice hs
  clear hs hg h hin
  have hn1 := decn_ (show ¬ n < 1 by omega)
  have hn2 := decn_ (show ¬ 65535 < n by omega)
  go_enter Try.func33, Try.ntmps33
  go_wp2_with fail
  refine (hcon _ ((below_alloc _ _).alloc (by simp) _)).mono ?_
  rintro e wf ⟨rfl, hb⟩
  have k0 : Bk wf w.heap.size 28 #[.int .i64 most, .slice ao len cap] := bk_below ((Bk.made w _ _).alloc _) hb (by simp; omega)
  have k1 : Bk wf (w.heap.size + 1) 28 #[.int .i64 0, .slice none 0 0] := bk_below (by have := Bk.made (w.alloc (.cells #[.int .i64 most, .slice ao len cap] 28)) 28 #[.int .i64 0, .slice none 0 0]; simpa using this) hb (by simp)
  obtain ⟨a1, a2, a3, a4⟩ := k0.two
  obtain ⟨b1, b2, b3, b4⟩ := k1.two
  have HB := Lib.hid hb
  clear hb k0 k1 hcon
  go_wp2_with fail
  exact bodyPost_ret (v := .tuple #[.agg #[.int .i64 most, .slice ao len cap], .bool true]) (by simp [results, Try.results33, go_sem, b1, b2]) rfl (addQ_mk HS.out HG.out ((((((below_alloc _ _).alloc (by simp) _).trans (HB.out.mono (by simp; omega))).setCell (by simp) _).setCell (by simp) _)))

set_option maxHeartbeats 2000000 in
theorem add_full (v : Value) (most : Nat) (ns : List Int) (n : Int) (w : World) (h : SetV w v most ns) (h1 : 1 ≤ n) (h2 : n ≤ 65535) (hin : ns.contains n = false) (hfull : most ≤ ns.length) :
    Calls Try.prog 33 #[v, .int .i64 n] w (AddQ w most ns false) := by
  have h' := h
  obtain ⟨sv, rfl, hs, hg⟩ := h'
  have hcon := fun w' (hb : Below w.heap.size w w') => find_set _ most ns n w' (h.below hb)
  have hcon2 := fun w' (hb : Below w.heap.size w w') => full_set _ most ns w' (h.below hb)
  rw [hin] at hcon
  rw [dec_ hfull] at hcon2
  generalize cnt ns n = c at hcon
  have HS := Lib.hid hs
  have HG := Lib.hid hg
  obtain ⟨ao, len, cap, rfl⟩ := slr_slice hs
  clear hs hg h hin hfull
  have hn1 := decn_ (show ¬ n < 1 by omega)
  have hn2 := decn_ (show ¬ 65535 < n by omega)
  go_enter Try.func33, Try.ntmps33
  go_wp2_with fail
  refine (hcon _ ((below_alloc _ _).alloc (by simp) _)).mono ?_
  rintro e wf ⟨rfl, hb⟩
  have k0 : Bk wf w.heap.size 28 #[.int .i64 most, .slice ao len cap] := bk_below ((Bk.made w _ _).alloc _) hb (by simp; omega)
  have k1 : Bk wf (w.heap.size + 1) 28 #[.int .i64 0, .slice none 0 0] := bk_below (by have := Bk.made (w.alloc (.cells #[.int .i64 most, .slice ao len cap] 28)) 28 #[.int .i64 0, .slice none 0 0]; simpa using this) hb (by simp)
  have hbf := ((below_alloc w (.cells #[.int .i64 most, .slice ao len cap] 28)).alloc (by simp) (.cells #[.int .i64 0, .slice none 0 0] 28)).trans (hb.mono (by simp; omega))
  have hsz := hb.size
  simp only [size_alloc] at hsz
  have hcon3 := hcon2 wf hbf
  have HB := Lib.hid hbf
  have K0 := Lib.hid k0
  have K1 := Lib.hid k1
  obtain ⟨a1, a2, a3, a4⟩ := k0.two
  clear hb hbf k0 k1 hcon hcon2
  go_wp2_with fail
  refine hcon3.mono ?_
  rintro e wg ⟨rfl, hb⟩
  obtain ⟨b1, b2, b3, b4⟩ := (bk_below K0.out hb (by omega)).two
  obtain ⟨c1, c2, c3, c4⟩ := (bk_below K1.out hb (by omega)).two
  have HBB := Lib.hid (HB.out.trans (hb.mono HB.out.size))
  clear hb hcon3 K0 K1 HB a1 a2 a3 a4
  go_wp2_with fail
  exact bodyPost_ret (v := .tuple #[.agg #[.int .i64 most, .slice ao len cap], .bool false]) (by simp [results, Try.results33, go_sem, c1, c2]) rfl (addQ_mk HS.out HG.out ((HBB.out.setCell (by simp) _).setCell (by simp) _))

set_option maxHeartbeats 4000000 in
theorem add_ins (v : Value) (most : Nat) (ns : List Int) (n : Int) (w : World) (h : SetV w v most ns) (h1 : 1 ≤ n) (h2 : n ≤ 65535) (hin : ns.contains n = false) (hroom : ns.length < most) :
    Calls Try.prog 33 #[v, .int .i64 n] w (AddQ w most (insL ns n) true) := by
  have h' := h
  obtain ⟨sv, rfl, hs, hg⟩ := h'
  have hcon := fun w' (hb : Below w.heap.size w w') => find_set _ most ns n w' (h.below hb)
  have hcon2 := fun w' (hb : Below w.heap.size w w') => full_set _ most ns w' (h.below hb)
  have hle := hg.le
  have hcap := hg.cap
  have hnot : n ∉ ns := by simpa using hin
  have HG := Lib.hid (hg.ins ⟨h1, h2⟩ hnot hroom)
  have HC : Hid (cnt ns n ≤ ns.length) := cnt_le ns n
  have HI : Hid (insL ns n = ns.take (cnt ns n) ++ n :: ns.drop (cnt ns n)) := rfl
  rw [hin] at hcon
  rw [decn_ (show ¬ most ≤ ns.length by omega)] at hcon2
  generalize cnt ns n = c at hcon HC HI
  have HS := Lib.hid hs
  obtain ⟨ao, len, cap, rfl⟩ := slr_slice hs
  clear hs hg h hin hnot
  have hn1 := decn_ (show ¬ n < 1 by omega)
  have hn2 := decn_ (show ¬ 65535 < n by omega)
  go_enter Try.func33, Try.ntmps33
  go_wp2_with fail
  refine (hcon _ ((below_alloc _ _).alloc (by simp) _)).mono ?_
  rintro e wf ⟨rfl, hb⟩
  have k0 : Bk wf w.heap.size 28 #[.int .i64 most, .slice ao len cap] := bk_below ((Bk.made w _ _).alloc _) hb (by simp; omega)
  have k1 : Bk wf (w.heap.size + 1) 28 #[.int .i64 0, .slice none 0 0] := bk_below (by have := Bk.made (w.alloc (.cells #[.int .i64 most, .slice ao len cap] 28)) 28 #[.int .i64 0, .slice none 0 0]; simpa using this) hb (by simp)
  have hbf := ((below_alloc w (.cells #[.int .i64 most, .slice ao len cap] 28)).alloc (by simp) (.cells #[.int .i64 0, .slice none 0 0] 28)).trans (hb.mono (by simp; omega))
  have hsz := hb.size
  simp only [size_alloc] at hsz
  have hcon3 := hcon2 wf hbf
  have HB := Lib.hid hbf
  have K0 := Lib.hid k0
  have K1 := Lib.hid k1
  obtain ⟨a1, a2, a3, a4⟩ := k0.two
  clear hb hbf k0 k1 hcon hcon2
  go_wp2_with fail
  refine hcon3.mono ?_
  rintro e wg ⟨rfl, hb⟩
  have K0g := Lib.hid (bk_below K0.out hb (by omega))
  have K1g := Lib.hid (bk_below K1.out hb (by omega))
  obtain ⟨b1, b2, b3, b4⟩ := K0g.out.two
  have hbg := HB.out.trans (hb.mono HB.out.size)
  have hszg := hb.size
  have HBB := Lib.hid hbg
  have hcon4 := clone_is _ ns wg (HS.out.below hbg) (by omega)
  clear hb hcon3 K0 K1 HB a1 a2 a3 a4 hbg
  go_wp2_with fail
  refine hcon4.mono ?_
  rintro e wh ⟨v1, rfl, ho, hb⟩
  have hszh := hb.size
  have hcon5 := insert_is v1 ns c (w.heap.size + 2) wh.heap.size n (wh.alloc (.cells #[.int .i64 n] 3)) (own_less (own_tch ho (Tch.alloc (Tch.refl (fun _ => False) _) _) (by simp)) (by omega)) (Bk.made wh _ _) (fun k hk => by have := (own_base ho hk).2; omega) HC.out (by omega) (by simp; omega)
  have K0h := Lib.hid (bk_below K0g.out hb (by omega))
  have K1h := Lib.hid (bk_below K1g.out hb (by omega))
  have HBH := Lib.hid (HBB.out.trans (hb.mono HBB.out.size))
  clear hb hcon4 K0g K1g HBB b1 b2 b3 b4 ho
  go_wp2_with fail
  refine hcon5.mono ?_
  rintro e wi ⟨v2, rfl, hv, hb⟩
  rw [← HI.out] at hv
  obtain ⟨ao2, len2, cap2, rfl⟩ := slr_slice hv
  have HV := Lib.hid hv
  have hszi := hb.size
  simp only [size_alloc] at hszi
  have hbi : Below w.heap.size w wi := (HBH.out.alloc (by omega) _).trans (hb.mono (by omega))
  obtain ⟨c1, c2, c3, c4⟩ := (bk_below (K0h.out.alloc _) hb (by omega)).two
  obtain ⟨d1, d2, d3, d4⟩ := (bk_below (K1h.out.alloc _) hb (by omega)).two
  have HBI := Lib.hid hbi
  clear hb hcon5 K0h K1h HBH hv hbi
  go_wp2_with fail
  refine bodyPost_ret (v := .tuple #[.agg #[.int .i64 most, .slice ao2 len2 cap2], .bool true]) (by simp [results, Try.results33, go_sem, d1, d2]) rfl (addQ_mk' (HV.out.ints_from (by simp [World.setCell]) fun b hs hb => ?_) HG.out (((HBI.out.setCell (by simp) _).setCell (by simp) _).setCell (by simp) _))
  rw [Below.heap_setCell _ _ _ _ (by show b ≠ w.heap.size + 1; omega), Below.heap_setCell _ _ _ _ (by show b ≠ w.heap.size + 1; omega), Below.heap_setCell _ _ _ _ (by show b ≠ w.heap.size; omega)]

theorem add_set (v : Value) (most : Nat) (ns : List Int) (n : Int) (w : World) (h : SetV w v most ns) :
    Calls Try.prog 33 #[v, .int .i64 n] w (AddQ w most (addL most ns n) (addB most ns n)) := by
  have hg : Good most ns := by obtain ⟨_, _, _, hg⟩ := h; exact hg
  by_cases hn : 1 ≤ n ∧ n ≤ 65535
  · by_cases hin : n ∈ ns
    · have e1 : addL most ns n = ns := if_neg (fun h => h.1 hin)
      have e2 : addB most ns n = true := dec_ (.inl hin)
      rw [e1, e2]
      exact add_in v most ns n w h hn.1 hn.2 (by simpa using hin)
    · by_cases hr : ns.length < most
      · have e1 : addL most ns n = insL ns n := if_pos ⟨hin, hn, hr⟩
        have e2 : addB most ns n = true := dec_ (.inr ⟨hn, hr⟩)
        rw [e1, e2]
        exact add_ins v most ns n w h hn.1 hn.2 (by simpa using hin) hr
      · have e1 : addL most ns n = ns := if_neg (fun h => hr h.2.2)
        have e2 : addB most ns n = false := decn_ (fun h => h.elim hin fun h => hr h.2)
        rw [e1, e2]
        exact add_full v most ns n w h hn.1 hn.2 (by simpa using hin) (by omega)
  · have e1 : addL most ns n = ns := if_neg (fun h => hn h.2.1)
    have e2 : addB most ns n = false := decn_ (fun h => h.elim (fun h => hn (hg.node n h)) fun h => hn h.1)
    rw [e1, e2]
    exact add_no v most ns n w h (by omega)

set_option maxHeartbeats 2000000 in
theorem drop_no (v : Value) (most : Nat) (ns : List Int) (n : Int) (w : World) (h : SetV w v most ns) (hin : ns.contains n = false) :
    Calls Try.prog 69 #[v, .int .i64 n] w (AddQ w most ns false) := by
  have h' := h
  obtain ⟨sv, rfl, hs, hg⟩ := h'
  have hcon := fun w' (hb : Below w.heap.size w w') => find_set _ most ns n w' (h.below hb)
  rw [hin] at hcon
  generalize cnt ns n = c at hcon
  have HS := Lib.hid hs
  have HG := Lib.hid hg
  obtain ⟨ao, len, cap, rfl⟩ := slr_slice hs
  clear hs hg h hin
  go_enter Try.func69, Try.ntmps69
  go_wp2_with fail
  refine (hcon _ ((below_alloc _ _).alloc (by simp) _)).mono ?_
  rintro e wf ⟨rfl, hb⟩
  have k0 : Bk wf w.heap.size 28 #[.int .i64 most, .slice ao len cap] := bk_below ((Bk.made w _ _).alloc _) hb (by simp; omega)
  have k1 : Bk wf (w.heap.size + 1) 28 #[.int .i64 0, .slice none 0 0] := bk_below (by have := Bk.made (w.alloc (.cells #[.int .i64 most, .slice ao len cap] 28)) 28 #[.int .i64 0, .slice none 0 0]; simpa using this) hb (by simp)
  obtain ⟨a1, a2, a3, a4⟩ := k0.two
  obtain ⟨b1, b2, b3, b4⟩ := k1.two
  have HB := Lib.hid hb
  clear hb k0 k1 hcon
  go_wp2_with fail
  exact bodyPost_ret (v := .tuple #[.agg #[.int .i64 most, .slice ao len cap], .bool false]) (by simp [results, Try.results69, go_sem, b1, b2]) rfl (addQ_mk HS.out HG.out ((((((below_alloc _ _).alloc (by simp) _).trans (HB.out.mono (by simp; omega))).setCell (by simp) _).setCell (by simp) _)))

set_option maxHeartbeats 4000000 in
theorem drop_in (v : Value) (most : Nat) (ns : List Int) (n : Int) (w : World) (h : SetV w v most ns) (hin : ns.contains n = true) :
    Calls Try.prog 69 #[v, .int .i64 n] w (AddQ w most (outL ns n) true) := by
  have h' := h
  obtain ⟨sv, rfl, hs, hg⟩ := h'
  have hcon := fun w' (hb : Below w.heap.size w w') => find_set _ most ns n w' (h.below hb)
  have hle := hg.le
  have hcap := hg.cap
  have hyes : n ∈ ns := by simpa using hin
  obtain ⟨o1, o2⟩ := outL_at hg.asc hyes
  have HG := Lib.hid (hg.out n)
  have HI := Lib.hid o1
  have HC := Lib.hid o2
  rw [hin] at hcon
  clear o1
  generalize cnt ns n = c at hcon HC HI o2
  have HS := Lib.hid hs
  obtain ⟨ao, len, cap, rfl⟩ := slr_slice hs
  clear hs hg h hin hyes
  have hw1 : IntKind.i64.wrap ((c : Int) + 1) = (c : Int) + 1 := IntWalk.i64_in _ (by omega)
  go_enter Try.func69, Try.ntmps69
  go_wp2_with fail
  refine (hcon _ ((below_alloc _ _).alloc (by simp) _)).mono ?_
  rintro e wf ⟨rfl, hb⟩
  have k0 : Bk wf w.heap.size 28 #[.int .i64 most, .slice ao len cap] := bk_below ((Bk.made w _ _).alloc _) hb (by simp; omega)
  have k1 : Bk wf (w.heap.size + 1) 28 #[.int .i64 0, .slice none 0 0] := bk_below (by have := Bk.made (w.alloc (.cells #[.int .i64 most, .slice ao len cap] 28)) 28 #[.int .i64 0, .slice none 0 0]; simpa using this) hb (by simp)
  have hbf := ((below_alloc w (.cells #[.int .i64 most, .slice ao len cap] 28)).alloc (by simp) (.cells #[.int .i64 0, .slice none 0 0] 28)).trans (hb.mono (by simp; omega))
  have hsz := hb.size
  simp only [size_alloc] at hsz
  have hcon4 := clone_is _ ns wf (HS.out.below hbf) (by omega)
  have HB := Lib.hid hbf
  have K0 := Lib.hid k0
  have K1 := Lib.hid k1
  obtain ⟨a1, a2, a3, a4⟩ := k0.two
  clear hb hbf k0 k1 hcon
  go_wp2_with fail
  refine hcon4.mono ?_
  rintro e wh ⟨v1, rfl, ho, hb⟩
  have hszh := hb.size
  have hcon5 := delete_is v1 ns c (w.heap.size + 2) wh (own_less ho (by omega)) HC.out (by omega)
  have K0h := Lib.hid (bk_below K0.out hb (by omega))
  have K1h := Lib.hid (bk_below K1.out hb (by omega))
  have HBH := Lib.hid (HB.out.trans (hb.mono HB.out.size))
  clear hb hcon4 K0 K1 HB a1 a2 a3 a4 ho
  go_wp2_with fail
  refine hcon5.mono ?_
  rintro e wi ⟨v2, rfl, hv, hb⟩
  rw [HI.out] at hv
  obtain ⟨ao2, len2, cap2, rfl⟩ := slr_slice hv
  have HV := Lib.hid hv
  have hszi := hb.size
  have hbi : Below w.heap.size w wi := HBH.out.trans (hb.mono (by omega))
  obtain ⟨c1, c2, c3, c4⟩ := (bk_below K0h.out hb (by omega)).two
  obtain ⟨d1, d2, d3, d4⟩ := (bk_below K1h.out hb (by omega)).two
  have HBI := Lib.hid hbi
  clear hb hcon5 K0h K1h HBH hv hbi hw1
  go_wp2_with fail
  refine bodyPost_ret (v := .tuple #[.agg #[.int .i64 most, .slice ao2 len2 cap2], .bool true]) (by simp [results, Try.results69, go_sem, d1, d2]) rfl (addQ_mk' (HV.out.ints_from (by simp [World.setCell]) fun b hs hb => ?_) HG.out (((HBI.out.setCell (by simp) _).setCell (by simp) _).setCell (by simp) _))
  rw [Below.heap_setCell _ _ _ _ (by show b ≠ w.heap.size + 1; omega), Below.heap_setCell _ _ _ _ (by show b ≠ w.heap.size + 1; omega), Below.heap_setCell _ _ _ _ (by show b ≠ w.heap.size; omega)]

theorem drop_set (v : Value) (most : Nat) (ns : List Int) (n : Int) (w : World) (h : SetV w v most ns) :
    Calls Try.prog 69 #[v, .int .i64 n] w (AddQ w most (outL ns n) (ns.contains n)) := by
  by_cases hin : n ∈ ns
  · have e : ns.contains n = true := by simpa using hin
    rw [e]
    exact drop_in v most ns n w h e
  · have e : ns.contains n = false := by simpa using hin
    rw [e, outL_not hin]
    exact drop_no v most ns n w h e

end Go.Proofs.Ytdhafagihfdolaa
