/-
  Due: what is due, in order; the rest stays.
-/
import Derived.Test.YtohpbjbbkpllaaaClkOrd
import Derived.StringKeys
set_option linter.unusedVariables false
set_option linter.unusedSimpArgs false
namespace Go.Proofs.Ytohpbjbbkpllaaa
open Go.RowKit Go.Maps Go.Shelf Go.Sort

theorem inOrder_nil (w : World) : Calls Try.prog 42 #[.slice none 0 0] w fun e w' => e = .returned (.slice none 0 0) ∧ w' = w := by
  go_enter Try.func42, Try.ntmps42
  go_wp2_with fail
  go_at_call 51
  refine (AnyF.slices_SortFunc_none laysSort none 0 _ w).mono ?_
  rintro e w1 ⟨rfl, rfl⟩
  go_wp2_with fail
  go_loopw [10, 3] (fun jv kv wr => jv = .int .i64 0 ∧ kv = .slice none 0 0 ∧ wr = w1) (fun _ _ _ => 0)
  case atStart => exact ⟨rfl, rfl, rfl⟩
  case round =>
    obtain ⟨rfl, rfl, rfl⟩ := hrel
    go_wp2_with fail
    go_ret
    exact ⟨rfl, rfl⟩
theorem due_nil (now : Int) (w : World) : Calls Try.prog 25 #[.pointer none, .int .i64 now] w fun e w' => e = .returned (.slice none 0 0) ∧ w' = w := by
  go_enter Try.func25, Try.ntmps25
  go_wp2_with fail
  go_ret
  exact ⟨rfl, rfl⟩
theorem keyL_same (s t : ByteArray) : (keyL s).sameKey (keyL t) = decide (s = t) := by
  by_cases h : s = t
  · subst h; simp [Go.WideAt.sameKey_self (keyL_key s)]
  · rw [Go.Maps.sameKey_ne (fun e => h (keyL_inj.1 e))]; simp [h]
theorem move_due {dl ll s q es : List Tm} {t : Tm} (h : (dl ++ ll ++ (s ++ t :: q)).Perm es) : ((dl ++ [t]) ++ ll ++ (s ++ q)).Perm es := by
  classical
  refine List.Perm.trans ?_ h
  rw [List.perm_iff_count]
  intro a
  simp only [List.count_append, List.count_cons, List.count_nil]
  omega
theorem move_left {dl ll s q es : List Tm} {t : Tm} (h : (dl ++ ll ++ (s ++ t :: q)).Perm es) : (dl ++ (ll ++ [t]) ++ (s ++ q)).Perm es := by
  classical
  refine List.Perm.trans ?_ h
  rw [List.perm_iff_count]
  intro a
  simp only [List.count_append, List.count_cons, List.count_nil]
  omega
def le2 (x y : Tm) : Prop := x.tick < y.tick ∨ (x.tick = y.tick ∧ x.turn ≤ y.turn)
theorem perm_of {d d' : Array Tm} (h : PermIn 0 d.size d d') : d'.toList.Perm d.toList := by
  have h1 := h.2.2
  have hs := h.1
  have e1 : d.extract 0 d.size = d := by simp
  have e2 : d'.extract 0 d.size = d' := by rw [← hs]; simp
  rw [e1, e2] at h1
  exact h1
theorem sorted_of {d : Array Tm} {n : Nat} (hn : d.size = n) (h : SortedIn (ltOf tmCmp) 0 n d) : d.toList.Pairwise le2 := by
  rw [List.pairwise_iff_getElem]
  intro i j hi hj hij
  have h1 := h i j (Nat.zero_le _) hij (by simp at hj; omega)
  rw [tmLt, decide_eq_false_iff_not] at h1
  simp only [Array.length_toList] at hi hj
  rw [getElem!_pos d i hi, getElem!_pos d j hj] at h1
  simp only [Array.getElem_toList]
  unfold le2
  omega
theorem flat_get : ∀ (l : List Tm) (i c : Nat) (t : Tm), l[i]? = some t → c < 3 → (l.flatMap tmCells)[i * 3 + c]? = (tmCells t)[c]?
  | [], i, c, t, h, _ => by simp at h
  | x :: l, 0, c, t, h, hc => by
    simp at h
    subst h
    rw [List.flatMap_cons, List.getElem?_append_left (by simp [tmCells]; omega), Nat.zero_mul, Nat.zero_add]
  | x :: l, i + 1, c, t, h, hc => by
    rw [List.flatMap_cons, List.getElem?_append_right (by simp [tmCells]; omega)]
    have e : (i + 1) * 3 + c - (tmCells x).length = i * 3 + c := by simp [tmCells]; omega
    rw [e]
    exact flat_get l i c t (by simpa using h) hc
theorem holds_own {w : World} {base g cap : Nat} {e : TypeId} {l : List Tm} (h : w.ownsRow base e 3 (.slice (some ⟨g, 0, none⟩) l.length cap) l.length (l.flatMap tmCells)) : HoldsK tmCells 3 w g 0 l.toArray := by
  rcases h.2 with ⟨h1, _⟩ | ⟨g', cap', cur, e1, _, hg, _, _, _, ht⟩
  · cases h1
  · injection e1 with e1 _ _
    injection e1 with e1
    injection e1 with e1 _ _
    subst e1
    intro j hj
    rw [size_flatK] at hj
    simp only [List.size_toArray] at hj
    have hi : j / 3 < l.length := by omega
    have hg1 := flat_get l (j / 3) (j % 3) l[j / 3] (List.getElem?_eq_getElem hi) (by omega)
    rw [show j / 3 * 3 + j % 3 = j by omega, ← ht, List.getElem?_take, if_pos hj] at hg1
    have hb : Bk w g e cur := hg
    rw [Nat.zero_add, hb.cell, hb.frozen]
    refine ⟨?_, rfl⟩
    rw [Array.getElem?_toList] at hg1
    rw [hg1, get_flatK _ _ _ j (by simpa using hj)]
    rw [getElem!_pos l.toArray (j / 3) (by simpa using hi)]
    simp only [List.getElem_toArray, id]
    rw [getElem!_pos _ _ (by simp [tmCells]; omega)]
    exact List.getElem?_eq_getElem _
/-- What Due leaves. -/
structure DueAt (C most : Nat) (sets : Int) (es : List Tm) (now : Int) (w : World) (e : Ending) (w' : World) : Prop where
  out : ∃ v d' b', e = .returned v ∧ d'.Perm (es.filter fun t => decide (t.tick ≤ now)) ∧ d'.Pairwise le2 ∧ w'.ownsRow w.heap.size 9 1 v d'.length (namesV d') ∧
    ClkAt w' C b' es.length most sets (es.filter fun t => !decide (t.tick ≤ now)) ∧ w.heap.size ≤ b' ∧ Tch (· = C) w w'
theorem filter_all {l : List Tm} {p : Tm → Bool} (h : ∀ t ∈ l, p t = true) : l.filter p = l := List.filter_eq_self.2 h
theorem filter_none {l : List Tm} {p : Tm → Bool} (h : ∀ t ∈ l, p t = false) : l.filter p = [] := List.filter_eq_nil_iff.2 (fun t ht => by simp [h t ht])
theorem parted {dl ll es : List Tm} {p : Tm → Bool} (h : (dl ++ ll).Perm es) (h1 : ∀ t ∈ dl, p t = true) (h2 : ∀ t ∈ ll, p t = false) : dl.Perm (es.filter p) ∧ ll.Perm (es.filter fun t => !p t) := by
  have e1 := h.filter p
  have e2 := h.filter (fun t => !p t)
  rw [List.filter_append, filter_all h1, filter_none h2, List.append_nil] at e1
  rw [List.filter_append, filter_none (fun t ht => by simp [h1 t ht]), filter_all (fun t ht => by simp [h2 t ht]), List.nil_append] at e2
  exact ⟨e1, e2⟩
theorem own3_shape {w : World} {base : Nat} {e : TypeId} {v : Value} {n : Nat} {xs : List Value} (h : w.ownsRow base e 3 v n xs) :
    (v = .slice none 0 0 ∧ n = 0) ∨ ∃ g cap, v = .slice (some ⟨g, 0, none⟩) n cap ∧ base ≤ g ∧ g < w.heap.size ∧ n ≤ cap ∧ cap ≤ maxLen := by
  rcases h.2 with h1 | ⟨g, cap, cur, e1, hb, hg, hc, hm, _⟩
  · exact .inl h1
  · exact .inr ⟨g, cap, e1, hb, (Array.getElem?_eq_some_iff.1 hg).1, hc, hm⟩
theorem own_not_iter {w : World} {base : Nat} {e : TypeId} {v : Value} {n m sz : Nat} {xs : List Value} {b r : Nat} {D : DataW Unit} {left : Lit → Bool} {cnt : Nat} (h : w.ownsRow base e sz v n xs) (hr : w.ranges Try.prog 9 timerR b r m D left cnt) : v.ownBlock ≠ some r := by
  intro hb
  obtain ⟨es, clock, since, seen, c0, _, _, _, _, hr, _⟩ := hr
  rcases h.2 with ⟨rfl, _⟩ | ⟨g, cap, cur, rfl, _, hg, _⟩
  · simp [Value.ownBlock] at hb
  · simp [Value.ownBlock] at hb
    subst hb
    rw [hr] at hg
    cases hg
theorem own_not_map {w : World} {base : Nat} {e : TypeId} {v : Value} {n m sz : Nat} {xs : List Value} {b : Nat} {es : List Tm} (h : w.ownsRow base e sz v n xs) (hm : MapAt w b m es) : v.ownBlock ≠ some b := by
  intro hb
  obtain ⟨D, ⟨es', clock, hr, _⟩, _⟩ := hm
  rcases h.2 with ⟨rfl, _⟩ | ⟨g, cap, cur, rfl, _, hg, _⟩
  · simp [Value.ownBlock] at hb
  · simp [Value.ownBlock] at hb
    subst hb
    rw [hr] at hg
    cases hg
theorem ranges_same {w w' : World} {b r n : Nat} {D : DataW Unit} {left : Lit → Bool} {cnt : Nat} (h : w.ranges Try.prog 9 timerR b r n D left cnt) (hb : w'.heap[b]? = w.heap[b]?) (hr : w'.heap[r]? = w.heap[r]?) : w'.ranges Try.prog 9 timerR b r n D left cnt := by
  obtain ⟨es, clock, since, seen, c0, h1, F, hs, hD, h2, rest⟩ := h
  exact ⟨es, clock, since, seen, c0, hb.trans h1, F, hs, hD, hr.trans h2, rest⟩
theorem left_same {w w' : World} {b r : Nat} (hb : w'.heap[b]? = w.heap[b]?) (hr : w'.heap[r]? = w.heap[r]?) : w'.rangeLeft b r = w.rangeLeft b r := by simp only [World.rangeLeft, hb, hr]

/-- What is still to come, by the names. -/
def ToCome (left : Lit → Bool) (rem : List Tm) : Prop := ∀ s : ByteArray, left (keyL s) = decide (∃ t ∈ rem, t.name = s)
theorem toCome_step {left : Lit → Bool} {s q : List Tm} {t : Tm} (h : ToCome left (s ++ t :: q)) (ha : Apart (s ++ t :: q)) : ToCome (fun z => left z && !z.sameKey (keyL t.name)) (s ++ q) := by
  intro u
  show (left (keyL u) && !(keyL u).sameKey (keyL t.name)) = _
  rw [h u, keyL_same]
  by_cases e : u = t.name
  · subst e
    simp only [decide_true, Bool.not_true, Bool.and_false]
    symm
    refine decide_eq_false ?_
    rintro ⟨x, hx, e⟩
    have h2 := List.pairwise_append.1 ha
    rcases List.mem_append.1 hx with hx | hx
    · exact h2.2.2 x hx t (by simp) e
    · exact (List.pairwise_cons.1 h2.2.1).1 x hx e.symm
  · simp only [e, decide_false, Bool.not_false, Bool.and_true]
    congr 1
    apply propext
    constructor
    · rintro ⟨x, hx, rfl⟩
      rcases List.mem_append.1 hx with hx | hx
      · exact ⟨x, by simp [hx], rfl⟩
      · rcases List.mem_cons.1 hx with rfl | hx
        · exact absurd rfl e
        · exact ⟨x, by simp [hx], rfl⟩
    · rintro ⟨x, hx, rfl⟩
      rcases List.mem_append.1 hx with hx | hx
      · exact ⟨x, by simp [hx], rfl⟩
      · exact ⟨x, by simp [hx], rfl⟩
theorem toCome_none {left : Lit → Bool} {rem : List Tm} (h : ToCome left rem) (h0 : ∀ kl, left kl = false) : rem = [] := by
  cases rem with
  | nil => rfl
  | cons t l =>
    have h1 := h t.name
    rw [h0] at h1
    exact absurd ⟨t, by simp, rfl⟩ (decide_eq_false_iff_not.1 h1.symm)
theorem toCome_mem {left : Lit → Bool} {rem : List Tm} {s : ByteArray} (h : ToCome left rem) (h0 : left (keyL s) = true) : ∃ t ∈ rem, t.name = s := by
  rw [h s] at h0
  exact of_decide_eq_true h0
theorem apart_perm {l es : List Tm} (h : l.Perm es) (ha : Apart es) : Apart l := h.symm.pairwise ha (fun h e => h e.symm)
theorem rd_perm {D : DataW Unit} {l es : List Tm} (h : Rd D es) (hp : l.Perm es) : Rd D l :=
  ⟨apart_perm hp h.apart, fun s => by rw [h.has s]; congr 1; exact propext ⟨fun ⟨t, ht, e⟩ => ⟨t, hp.mem_iff.2 ht, e⟩, fun ⟨t, ht, e⟩ => ⟨t, hp.mem_iff.1 ht, e⟩⟩,
    fun t ht z => h.at_ t (hp.mem_iff.1 ht) z, fun s hs z => h.none_ s (fun ⟨t, ht, e⟩ => hs ⟨t, hp.mem_iff.2 ht, e⟩) z, by rw [h.size, hp.length_eq]⟩
theorem cells3 (t : Tm) : tmCells t = [.string t.name, .int .i64 t.tick, .int .i64 t.turn] := rfl
theorem flat_len (l : List Tm) : (l.flatMap tmCells).length = l.length * 3 := by
  induction l with
  | nil => rfl
  | cons t l ih => simp only [List.flatMap_cons, List.length_append, ih, cells3, List.length_cons, List.length_nil]; omega
theorem tm_info3 : (Try.prog.info? 74).map (fun i => (i.zero, i.size, i.bytes)) = some (some (Tm.val ⟨ByteArray.empty, 0, 0⟩), 3, 32) := by kernel_rfl
theorem due_ok (C b n most : Nat) (sets : Int) (es : List Tm) (now : Int) (w : World) (h : ClkAt w C b n most sets es) (hl : es.length ≤ 64) :
    Calls Try.prog 25 #[.pointer (some ⟨C, 0, none⟩), .int .i64 now] w (DueAt C most sets es now w) := by
  obtain ⟨⟨c0, c1, c2⟩, f0, f1, f2⟩ := h.box.three
  obtain ⟨D, ho, hD⟩ := h.map
  have hC := h.box.lt
  have hbl := ho.lt
  have HO := Lib.hid ho
  have HD := Lib.hid hD
  have H := Lib.hid h
  clear ho hD h
  have hmm : ∀ w : World, (Instr.makeMap 70 none).run Try.prog w = .ok (.map (some w.heap.size)) (w.alloc (.map #[] 0)) := fun _ => rfl
  have e1 : (w.alloc (.map #[] 0)).heap.size = w.heap.size + 1 := by simp
  obtain ⟨i3, hi3, hz30, hz31, hz32⟩ := info_parts tm_info3
  go_enter Try.func25, Try.ntmps25
  go_wp2_with (refine wpList_range_own _ rfl _ 70 rfl 9 74 strKey Try.underlying70 timerR b n D rfl (ownsMap_same HO.out (Below.heap_alloc _ _ _ HO.out.lt)) ?_; intro w1 hr1 hg1 hs1)
  go_frame
  rw [e1] at hr1 hs1 ⊢
  have HR1 := Lib.hid hr1
  have HG1 := Lib.hid hg1
  clear hr1 hg1
  go_loopw [5] (fun kv wr => ∃ (dl ll rem : List Tm) (left : Lit → Bool) (cnt : Nat), Hid ((dl ++ ll ++ rem).Perm es) ∧ Hid (∀ t ∈ dl, t.tick ≤ now) ∧ Hid (∀ t ∈ ll, now < t.tick) ∧ Hid (ToCome left rem) ∧
      Hid (wr.ranges Try.prog 9 timerR b (w.heap.size + 1) n D left cnt) ∧ Hid (wr.ownsRow w.heap.size 74 3 kv dl.length (dl.flatMap tmCells)) ∧ Hid (dl = [] → kv = .slice none 0 0) ∧ Hid (MapAt wr w.heap.size ll.length ll) ∧ Hid (Below w.heap.size w wr))
    (fun _ wr => wr.rangeLeft b (w.heap.size + 1))
  case atStart =>
    refine ⟨[], [], es, Maps.has D, Maps.size D, Lib.hid (by simp), Lib.hid (by simp), Lib.hid (by simp), Lib.hid (fun s => HD.out.has s), HR1, Lib.hid (World.ownsRow_nil _ _ _ _), Lib.hid (fun _ => rfl), ?_, ?_⟩
    · exact Lib.hid ((MapAt.made w).same (HG1.out.block _ (by simp) (by simp)))
    · exact Lib.hid (((Below.refl _ _).alloc (Nat.le_refl _) _).grown HG1.out (by simp) (fun j hj => by cases hj))
  case round =>
    clear HR1 HG1
    obtain ⟨dl, ll, rem, left, cnt, HP, HDL, HLL, HTC, HR, HOW, HNIL, HM, HB⟩ := hrel
    go_wp2_with (refine wpList_next_ranges _ rfl _ rfl 9 strKey timerR Value.string Tm.val (fun key kl hk => by obtain ⟨s, e, _⟩ := Go.WideMaps.string_of_keyOf Try.underlying9 hk; exact ⟨s, e⟩) (fun v y hv => by obtain ⟨t, e, _⟩ := timerR_inv (d := y.1) (ps := y.2) hv; exact ⟨t, e⟩) b (w.heap.size + 1) n _ _ _ rfl HR.out ?_ ?_)
    · intro hc0 hl0
      have hrem : rem = [] := toCome_none HTC.out hl0
      subst hrem
      have hperm : (dl ++ ll).Perm es := by have h := HP.out; rwa [List.append_nil] at h
      have hpt := parted (p := fun t => decide (t.tick ≤ now)) hperm (fun t ht => decide_eq_true (HDL.out t ht)) (fun t ht => decide_eq_false (by have := HLL.out t ht; omega))
      have hlen := hperm.length_eq
      rw [List.length_append] at hlen
      have HPT := Lib.hid hpt
      have bC : Bk wr C 72 #[.int .i64 most, .int .i64 sets, .map (some b)] := H.out.box.keep (HB.out.block C hC)
      have hCr : C < wr.heap.size := bC.lt
      obtain ⟨⟨d0, d1, d2⟩, g0, g1, g2⟩ := bC.three
      have hCm : C ≠ w.heap.size := by omega
      have BC := Lib.hid bC
      have HL := Lib.hid hlen
      have hwr := HB.out.size
      clear c0 c1 c2 f0 f1 f2 hperm hpt bC hlen hl0 hc0 HTC HR HO HP
      have hsh := own3_shape HOW.out
      have K : ∀ (w3 : World) (e : Ending) (v : Value) (d' : List Tm), Hid (Tch (· = C) w w3 ∧ e = .returned v ∧ d'.Perm dl ∧ d'.Pairwise le2 ∧ w3.ownsRow w.heap.size 9 1 v d'.length (namesV d') ∧ Bk w3 C 72 #[.int .i64 most, .int .i64 sets, .map (some w.heap.size)] ∧ MapAt w3 w.heap.size ll.length ll) → DueAt C most sets es now w e w3 := by
        rintro w3 e v d' ⟨ht, he, hp, hs, how, hbk, hm⟩
        refine ⟨v, d', w.heap.size, he, hp.trans HPT.out.1, hs, how, ⟨hbk, ?_⟩, Nat.le_refl _, ht⟩
        obtain ⟨D', hD1, hD2⟩ := hm
        exact ⟨D', hD1.mono (by have := HL.out; omega), rd_perm hD2 HPT.out.2.symm⟩
      have hst : Tch (· = C) wr (wr.setCell ⟨C, 2, none⟩ (.map (some w.heap.size))) := (Tch.refl (· = C) wr).setCell (p := ⟨C, 2, none⟩) (fun _ => rfl) _
      have hbk2 : Bk (wr.setCell ⟨C, 2, none⟩ (.map (some w.heap.size))) C 72 #[.int .i64 most, .int .i64 sets, .map (some w.heap.size)] := BC.out.store 2 _
      have HST := Lib.hid hst
      have HBK := Lib.hid hbk2
      clear hst hbk2
      have TW : Hid (Tch (· = C) w (wr.setCell ⟨C, 2, none⟩ (.map (some w.heap.size)))) := ((Tch.of_below HB.out).more (T := (· = C)) (fun x hx h => by omega)).then HST.out
      rcases hsh with ⟨hv, hn⟩ | ⟨g, cap, hv, hbg, hgl, hnc, hcm⟩
      · subst hv
        go_wp2_with fail
        go_at_call 42
        refine (inOrder_nil _).mono ?_
        rintro e w3 ⟨rfl, rfl⟩
        go_wp2_with fail
        go_ret
        obtain rfl : dl = [] := List.eq_nil_of_length_eq_zero hn
        exact K _ _ _ [] (Lib.hid ⟨TW.out, rfl, .refl _, .nil, World.ownsRow_nil _ _ _ _, HBK.out, HM.out.same (HST.out.block _ HM.out.lt (fun e => hCm e.symm))⟩)
      · have hg1 : g ≠ C := by omega
        subst hv
        go_wp2_with fail
        go_at_call 42
        have hdn : dl.length ≤ 64 := by have := HL.out; omega
        have h0n : 0 < dl.length := by
          rcases Nat.eq_zero_or_pos dl.length with h0 | h0
          · have h1 := HNIL.out (List.eq_nil_of_length_eq_zero h0)
            cases h1
          · exact h0
        refine (inOrder_ok g 0 cap dl.toArray _ (by exact holdsK_keep (holds_own HOW.out) (HST.out.block g hgl hg1)) (by simpa using hgl) h0n hdn).mono ?_
        rintro e w3 ⟨v, d', hp, hs, rfl, how, ht⟩
        have hg2 : g ≠ w.heap.size := by
          rintro rfl
          obtain ⟨D', ⟨es', clock, h2, _⟩, _⟩ := HM.out
          rcases HOW.out.2 with ⟨h1, _⟩ | ⟨g', cap', cur, e1, _, hh, _⟩
          · cases h1
          · injection e1 with e1 _ _
            injection e1 with e1
            injection e1 with e1 _ _
            subst e1
            rw [h2] at hh
            cases hh
        have hgl2 : w.heap.size ≤ (wr.setCell ⟨C, 2, none⟩ (.map (some w.heap.size))).heap.size := by simpa using hwr
        have hK := K w3 (.returned v) v d'.toList (Lib.hid ⟨TW.out.trans ht (fun x hx h => by subst h; omega), rfl, (perm_of hp), sorted_of (hp.1) hs, by
            have e : d'.toList.length = dl.length := by rw [Array.length_toList]; exact hp.1
            rw [e]
            exact own_less how hgl2, HBK.out.tch ht (fun e => hg1 e.symm), (HM.out.same (HST.out.block _ HM.out.lt (fun e => hCm e.symm))).same (ht.block _ (by simpa using HM.out.lt) (fun e => hg2 e.symm))⟩)
        have HK := Lib.hid hK
        clear hK hp hs how ht
        go_wp2_with fail
        go_ret
        exact HK.out
    · intro x c kl y yp w1 cnt1 hk hlx hy hat hrg1 hlt hg1 hs1 hen
      obtain ⟨s0, hs0, rfl, hsz⟩ := Go.WideMaps.string_of_keyOf Try.underlying9 hk
      injection hs0 with hs0
      subst hs0
      obtain ⟨t, htr, htn⟩ := toCome_mem HTC.out hlx
      rw [timerR_val] at hy
      injection hy with hy
      injection hy with hy hyp
      subst hyp
      have hct : c = t := by
        have h1 := hat (.map [])
        have h2 := HD.out.at_ t (HP.out.mem_iff.1 (List.mem_append.2 (.inr htr))) (.map [])
        rw [htn] at h2
        rw [← hy] at h1
        exact dat_inj (h1.symm.trans h2)
      subst hct
      subst htn
      obtain ⟨s, q, rfl⟩ := List.append_of_mem htr
      have hap : Apart (s ++ c :: q) := (List.pairwise_append.1 (apart_perm HP.out HD.out.apart)).2.1
      have HTC2 := Lib.hid (toCome_step HTC.out hap)
      have HR1 := Lib.hid hrg1
      have HG1 := Lib.hid hg1
      have HSZ := Lib.hid hsz
      have HLN : Hid (dl.length + 1 ≤ 65 ∧ ll.length ≤ 65) := by
        have h := HP.out.length_eq
        simp only [List.length_append, List.length_cons] at h
        exact ⟨by omega, by omega⟩
      clear hsz
      have HCNT : Hid (w1.rangeLeft b (w.heap.size + 1) < wr.rangeLeft b (w.heap.size + 1)) := by rw [hrg1.left_eq, HR.out.left_eq]; exact hlt
      have hsz1 : w.heap.size + 1 < wr.heap.size := HR.out.lt
      have how1 := HOW.out.kept HG1.out (by
        have h := own_not_iter HOW.out HR.out
        by_cases e : u5.ownBlock = none
        · exact .inl e
        · exact .inr h)
      have hm1 : MapAt w1 w.heap.size ll.length ll := HM.out.same (HG1.out.block _ HM.out.lt (by simp))
      have hb1 : Below w.heap.size w w1 := HB.out.grown HG1.out HB.out.size (fun j hj => by cases hj; omega)
      have HOW1 := Lib.hid how1
      have HM1 := Lib.hid hm1
      have HB1 := Lib.hid hb1
      have hwz : w.heap.size + 1 < w1.heap.size := by omega
      clear how1 hm1 hb1 HOW HM HB HR HTC hg1 hrg1 hlt hap hs1 htr hlx hat hy hk
      unfold Tm.val at hen ⊢
      by_cases hd : c.tick ≤ now
      · have hdb := dec_ hd
        have HDD := Lib.hid hd
        clear hd
        go_upto_region 9 with (fail)
        obtain ⟨wa, hwa⟩ : ∃ wa, wa = w1.alloc (.cells #[.string c.name, .int .i64 c.tick, .int .i64 c.turn] 74) := ⟨_, rfl⟩
        have ka : Bk wa w1.heap.size 74 #[.string c.name, .int .i64 c.tick, .int .i64 c.turn] := by rw [hwa]; exact Bk.made w1 _ _
        have hsa : wa.heap.size = w1.heap.size + 1 := by rw [hwa]; simp
        have ta : Tch (fun x => w1.heap.size ≤ x) w1 wa := by rw [hwa]; exact (Tch.refl _ _).alloc _
        rw [← hwa]
        clear hwa
        obtain ⟨⟨a0, a1, a2⟩, b0, b1, b2⟩ := ka.three
        have HOW2 := Lib.hid (own_tch HOW1.out ta (fun x hx h => by have := (own_base HOW1.out hx).2; omega))
        have TA := Lib.hid ta
        have KA := Lib.hid ka
        have HSA := Lib.hid hsa
        have hbz : w.heap.size ≤ wa.heap.size := by omega
        clear ta ka hsa
        go_wp2_with (at_builtin; refine wpList_append_own _ rfl (.tmp 26) (.tmp 28) 76 rfl w.heap.size 74 i3 (Tm.val ⟨ByteArray.empty, 0, 0⟩) 3 32 Try.underlying76 hi3 hz30 hz31 hz32 rfl (by omega) _ dl.length (dl.flatMap tmCells) rfl (HOW2.out.alloc _) ⟨wa.heap.size, 0, none⟩ 1 1 (tmCells c) rfl rfl (fun j u hu => by rw [Addr.add_lit, Nat.zero_add, (Bk.made wa _ _).cell, List.getElem?_toArray]; exact hu) (fun u hu => by simp only [tmCells, List.mem_cons, List.not_mem_nil, or_false] at hu; rcases hu with rfl | rfl | rfl <;> rfl) (Nat.le_trans HLN.out.1 (by decide : 65 ≤ maxLen)) (by have := HLN.out.1; omega) (by simp; omega) ?_; intro v3 w3 hO3 hG3 hN3)
        have HO3 := Lib.hid hO3
        have HG3 := Lib.hid hG3
        clear hO3 hG3 hN3
        go_wp2_with fail
        have t3 : Tch (fun x => w1.heap.size ≤ x ∨ u5.ownBlock = some x) w1 w3 :=
          ((TA.out.more (fun x _ h => .inl h)).alloc _).grown HG3.out (fun x hx _ => .inr hx)
        have hsame : ∀ x, x < w1.heap.size → u5.ownBlock ≠ some x → w3.heap[x]? = w1.heap[x]? := fun x hx hn => t3.block x hx (fun h => h.elim (fun h => by omega) hn)
        have hbS := hsame b (by omega) (fun e => by have := (own_base HOW1.out e).1; omega)
        have hrS := hsame (w.heap.size + 1) hwz (own_not_iter HOW1.out HR1.out)
        go_roundw
        case rel =>
          refine ⟨dl ++ [c], ll, s ++ q, _, cnt1, Lib.hid (move_due HP.out), Lib.hid (fun t ht => ?_), HLL, HTC2, Lib.hid (ranges_same HR1.out hbS hrS), Lib.hid ?_, Lib.hid (fun e => by simp at e), Lib.hid (HM1.out.same (hsame _ (by omega) (own_not_map HOW1.out HM1.out))), Lib.hid ?_⟩
          · rcases List.mem_append.1 ht with h | h
            · exact HDL.out t h
            · rw [List.mem_singleton] at h; subst h; exact HDD.out
          · have h := HO3.out
            rw [List.length_append, List.flatMap_append]
            simpa using h
          · exact ((Tch.of_below HB1.out).then (t3.more (fun x _ h => h.elim (fun h => by have := HB1.out.size; omega) (fun e => (own_base HOW1.out e).1)))).below (fun x hx => by omega)
        case measure =>
          rw [left_same hbS hrS]
          exact HCNT.out
      · have hdb := decn_ hd
        have HDD := Lib.hid hd
        clear hd
        go_upto_region 10 with (fail)
        obtain ⟨wa, hwa⟩ : ∃ wa, wa = w1.alloc (.cells #[.string c.name, .int .i64 c.tick, .int .i64 c.turn] 74) := ⟨_, rfl⟩
        have ka : Bk wa w1.heap.size 74 #[.string c.name, .int .i64 c.tick, .int .i64 c.turn] := by rw [hwa]; exact Bk.made w1 _ _
        have ta : Tch (fun x => w1.heap.size ≤ x) w1 wa := by rw [hwa]; exact (Tch.refl _ _).alloc _
        rw [← hwa]
        clear hwa
        obtain ⟨⟨a0, a1, a2⟩, b0, b1, b2⟩ := ka.three
        obtain ⟨D2, hD2, hR2⟩ := HM1.out.same (ta.block _ (by omega) (by omega))
        have HD2 := Lib.hid hD2
        have HR2 := Lib.hid hR2
        have TA := Lib.hid ta
        clear ta ka hD2 hR2
        go_wp2_with (at_mapUpdate; refine wpList_mapUpdate_in _ rfl _ _ _ 70 rfl 9 74 strKey Try.underlying70 timerR w.heap.size _ D2 rfl HD2.out (Nat.lt_of_le_of_lt HLN.out.2 (by decide : 65 < maxLen)) _ _ (keyL c.name) rfl rfl (key_str c.name HSZ.out) c.dat [] (timerR_val c) ?_; intro w3 hO3 hG3)
        have t3 : Tch (fun x => x = w.heap.size ∨ w1.heap.size ≤ x) w1 w3 := (TA.out.more (fun x _ h => .inr h)).then ((tch_turned hG3).more (fun x _ h => .inl h))
        have hbS : w3.heap[b]? = w1.heap[b]? := t3.block b (by omega) (by omega)
        have hrS : w3.heap[w.heap.size + 1]? = w1.heap[w.heap.size + 1]? := t3.block _ hwz (by omega)
        have hap2 : Apart (dl ++ ll ++ (s ++ c :: q)) := apart_perm HP.out HD.out.apart
        have hno : ¬ ∃ t ∈ ll, t.name = c.name := by
          rintro ⟨t, ht, e⟩
          exact (List.pairwise_append.1 hap2).2.2 t (by simp [ht]) c (by simp) e
        have hput := HR2.out.put (tidy_of HD2.out) c
        rw [dropK_none hno] at hput
        refine ⟨⟨dl, ll ++ [c], s ++ q, Lib.hid (by have h := move_left HP.out; simpa [List.append_assoc] using h), HDL, Lib.hid (fun t ht => ?_), _, HTC2, ⟨cnt1, Lib.hid (ranges_same HR1.out hbS hrS)⟩, Lib.hid (own_tch HOW1.out t3 (fun x hx h => ?_)), HNIL, Lib.hid ⟨_, ?_, hput⟩, Lib.hid ?_⟩, ?_⟩
        · rcases List.mem_append.1 ht with h | h
          · exact HLL.out t h
          · rw [List.mem_singleton] at h; subst h; exact HDD.out
        · have h1 := (own_base HOW1.out hx).2
          rcases h with h | h
          · subst h; exact own_not_map HOW1.out HM1.out hx
          · omega
        · rw [List.length_append]; exact hO3
        · exact ((Tch.of_below HB1.out).then (t3.more (fun x _ h => by have := HB1.out.size; omega))).below (fun x hx => by omega)
        · rw [left_same hbS hrS]; exact HCNT.out
end Go.Proofs.Ytohpbjbbkpllaaa
