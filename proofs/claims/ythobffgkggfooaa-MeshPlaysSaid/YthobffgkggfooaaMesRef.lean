/-
  The reference of meshes: Get, Set, Broken.
-/
import Derived.Test.YthobffgkggfooaaPipRef
import Derived.Test.YthobffgkggfooaaMesSend
set_option linter.unusedVariables false
set_option linter.unusedSimpArgs false
set_option maxRecDepth 100000
namespace Go.Proofs.Ythobffgkggfooaa
open Go.RowKit

/-- A way as the reference keeps it. -/
structure RW where
  key : Int × Int
  v : Value
  it : List ItA
def rwC (e : RW) : List Value := [.int .i64 e.key.1, .int .i64 e.key.2, e.v]
theorem rwC_len (e : RW) : (rwC e).length = 3 := rfl
/-- The slice v reads as the ways l, each with its items. -/
def WRef (w : World) (S : Nat → Prop) (v : Value) (l : List RW) : Prop := Slk rwC 3 w S v l ∧ ∀ e ∈ l, Slk itC 2 w S e.v e.it
theorem WRef.since {w w' : World} {S : Nat → Prop} {v : Value} {l : List RW} (h : WRef w S v l) (hb : Below w.heap.size w w') : WRef w' S v l := ⟨h.1.since hb, fun e he => (h.2 e he).since hb⟩
theorem WRef.more {w : World} {S T : Nat → Prop} {v : Value} {l : List RW} (h : WRef w S v l) (hS : ∀ b, b < w.heap.size → S b → T b) : WRef w T v l := ⟨h.1.more hS, fun e he => (h.2 e he).more hS⟩
theorem rw_one {w : World} {S : Nat → Prop} {l : List RW} (h : ∀ e ∈ l, Slk itC 2 w S e.v e.it) : ∀ u ∈ l.flatMap rwC, u.oneCell' = true := by
  intro u hu
  obtain ⟨e, he, hx⟩ := List.mem_flatMap.1 hu
  simp only [rwC, List.mem_cons, List.not_mem_nil, or_false] at hx
  rcases hx with rfl | rfl | rfl
  · rfl
  · rfl
  · obtain ⟨ao, cap, e2, _⟩ := (h e he).shape
    rw [e2]; rfl
/-- What a mesh's step leaves of a row. -/
theorem MT.slk {α : Type} {enc : α → List Value} {k B : Nat} {S : Nat → Prop} {w w' : World} {v : Value} {l : List α} (hk : ∀ x, 0 < (enc x).length) (h : MT B w w') (hs : Slk enc k w S v l) : Slk enc k w' S v l := by
  obtain ⟨ao, cap, h1, h2, h3, h0, h4⟩ := hs
  refine ⟨ao, cap, h1, h2, h3, h0, fun hp => ?_⟩
  obtain ⟨b, off, e, hs, hb, hc⟩ := h4 hp
  have hcell : ∃ cs t z, w.heap[b]? = some (.cells cs t z) := by
    obtain ⟨u, hu⟩ : ∃ u, (enc l[0])[0]? = some u := ⟨_, List.getElem?_eq_getElem (hk _)⟩
    have := hc 0 hp 0 u hu
    unfold World.cell? at this
    simp only at this
    cases ho : w.heap[b]? with
    | none => rw [ho] at this; simp at this
    | some o =>
      rw [ho] at this
      cases o with
      | cells cs t z => exact ⟨cs, t, z, rfl⟩
      | _ => simp at this
  obtain ⟨cs, t, z, ho⟩ := hcell
  have hkeep := Tch.block h b hb (fun hn => hn.2 cs t z ho)
  exact ⟨b, off, e, hs, by have := h.size; omega, fun j hj c u hu => (World.cell?_of_block hkeep).trans (hc j hj c u hu)⟩
theorem MT.wref {B : Nat} {S : Nat → Prop} {w w' : World} {v : Value} {l : List RW} (h : MT B w w') (hs : WRef w S v l) : WRef w' S v l :=
  ⟨MT.slk (fun _ => by simp [rwC]) h hs.1, fun e he => MT.slk (fun _ => by simp [itC]) h (hs.2 e he)⟩
def getW (l : List RW) (k : Int × Int) : Option RW := l.find? fun e => decide (e.key = k)
def getV (l : List RW) (k : Int × Int) : Value := match getW l k with | some e => e.v | none => .slice none 0 0
def getI (l : List RW) (k : Int × Int) : List ItA := match getW l k with | some e => e.it | none => []
theorem WRef.get {w : World} {S : Nat → Prop} {v : Value} {l : List RW} (h : WRef w S v l) (k : Int × Int) : Slk itC 2 w S (getV l k) (getI l k) := by
  unfold getV getI
  cases e : getW l k with
  | none => exact Slk.nil
  | some x => exact h.2 x (List.mem_of_find?_eq_some e)
theorem getW_drop {l : List RW} {k : Int × Int} {j : Nat} (hj : j < l.length) : getW (l.drop j) k = if l[j].key = k then some l[j] else getW (l.drop (j + 1)) k := by
  unfold getW
  rw [List.drop_eq_getElem_cons hj, List.find?_cons]
  by_cases h : l[j].key = k <;> simp [h]
set_option maxHeartbeats 1000000 in
theorem rget_ok (S : Nat → Prop) (v : Value) (l : List RW) (a b : Int) (w : World) (h : WRef w S v l) (hl : l.length ≤ 1000000) :
    Calls Try.prog 36 #[v, .int .i64 a, .int .i64 b] w fun e w' => e = .returned (getV l (a, b)) ∧ w' = w := by
  obtain ⟨ao, cap, rfl, _, _⟩ := h.1.shape
  have H := Lib.hid h
  clear h
  go_enter Try.func36, Try.ntmps36
  go_wp2_with fail
  go_loopw [7] (fun jv wr => ∃ j : Nat, jv = .int .i64 j ∧ wr = w ∧ Hid (j ≤ l.length) ∧ Hid (getW (l.drop j) (a, b) = getW l (a, b))) (fun jv _ => l.length - (intOf jv).toNat)
  case atStart => exact ⟨0, rfl, rfl, Lib.hid (by omega), Lib.hid rfl⟩
  case round =>
    obtain ⟨j, rfl, rfl, HJ, HG⟩ := hrel
    have hjb := HJ.out
    by_cases hj : j < l.length
    · have hji : (j : Int) < l.length := by omega
      obtain ⟨bo, off, rfl, _, hbo, hc⟩ := H.out.1.at_ (by omega)
      have c0 := hc j hj 0 _ rfl
      have c1 := hc j hj 1 _ rfl
      have c2 := hc j hj 2 _ rfl
      simp only [Nat.add_zero] at c0
      have hs := getW_drop (k := (a, b)) hj
      obtain ⟨t, ht⟩ : ∃ t, t = l[j] := ⟨_, rfl⟩
      rw [← ht] at c0 c1 c2 hs
      have HSS := Lib.hid hs
      clear ht hc hs
      by_cases ha : t.key.1 = a
      · have ta := beq_ ha
        by_cases hb : t.key.2 = b
        · have tb := beq_ hb
          have HK := Lib.hid (show t.key = (a, b) from Prod.ext ha hb)
          clear ha hb
          go_wp2_with fail
          go_ret
          refine ⟨?_, rfl⟩
          have h2 := HSS.out
          rw [if_pos HK.out, HG.out] at h2
          unfold getV
          rw [h2]
          rfl
        · have tb := bne_ hb
          have HK := Lib.hid (show ¬ t.key = (a, b) from fun e => hb (by rw [e]))
          clear ha hb
          go_wp2_with fail
          go_roundw
          case rel => exact ⟨j + 1, by go_num, by trivial, Lib.hid (by omega), Lib.hid (by rw [← HG.out, HSS.out, if_neg HK.out])⟩
          case measure => simp [intOf]; omega
      · have ta := bne_ ha
        have HK := Lib.hid (show ¬ t.key = (a, b) from fun e => ha (by rw [e]))
        clear ha
        go_wp2_with fail
        go_roundw
        case rel => exact ⟨j + 1, by go_num, by trivial, Lib.hid (by omega), Lib.hid (by rw [← HG.out, HSS.out, if_neg HK.out])⟩
        case measure => simp [intOf]; omega
    · obtain rfl : j = l.length := by omega
      go_wp2_with fail
      go_ret
      refine ⟨?_, rfl⟩
      have h2 := HG.out
      rw [List.drop_length] at h2
      unfold getV
      rw [← h2]
      rfl
set_option maxHeartbeats 400000 in
theorem rbroken_ok (w : World) : Calls Try.prog 39 #[] w fun e w' => ∃ v, e = .returned v ∧ Slk itC 2 w' (w.heap.size ≤ ·) v [brk] ∧ New w w' := by
  go_enter Try.func39, Try.ntmps39
  go_wp2_with fail
  go_ret
  refine ⟨_, rfl, ?_, (New.refl w).alloc _⟩
  have hb : Bk (w.alloc (.cells #[.bool true, .string ⟨#[]⟩] 60)) w.heap.size 60 #[.bool true, .string ⟨#[]⟩] := Bk.made _ _ _
  refine ⟨_, 1, rfl, by simp, by decide, by simp, fun _ => ⟨w.heap.size, 0, rfl, Nat.le_refl _, hb.lt, fun j hj c u hu => ?_⟩⟩
  have hj0 : j = 0 := by simp at hj; omega
  subst hj0
  rw [hb.cell]
  simpa [itC, brk] using hu
/-- Set by definition. -/
def setR (l : List RW) (e : RW) : List RW := (l.filter fun x => decide (x.key ≠ e.key)) ++ [e]
def dropR (l : List RW) (k : Int × Int) : List RW := l.filter fun x => decide (x.key ≠ k)
theorem dropR_step (l : List RW) (k : Int × Int) (j : Nat) (hj : j < l.length) : dropR (l.take (j + 1)) k = dropR (l.take j) k ++ (if l[j].key ≠ k then [l[j]] else []) := by
  unfold dropR
  rw [List.take_succ_eq_append_getElem hj, List.filter_append]
  congr 1
  by_cases h : l[j].key = k <;> simp [h]
theorem dropR_len (l : List RW) (k : Int × Int) : (dropR l k).length ≤ l.length := List.length_filter_le _ _
theorem rway_info : (Try.prog.info? 124).map (fun i => (i.zero, i.size, i.bytes)) = some (some (.agg #[.int .i64 0, .int .i64 0, .slice none 0 0]), 3, 40) := by kernel_rfl
set_option maxHeartbeats 2000000 in
theorem rset_ok (S : Nat → Prop) (v : Value) (l : List RW) (x : RW) (w : World) (h : WRef w S v l) (hx : Slk itC 2 w S x.v x.it) (hl : l.length ≤ 1000000) :
    Calls Try.prog 37 #[v, .int .i64 x.key.1, .int .i64 x.key.2, x.v] w fun e w' => ∃ v', e = .returned v' ∧ WRef w' (fun b => S b ∨ w.heap.size ≤ b) v' (setR l x) ∧ New w w' := by
  obtain ⟨i0, hi, hz0, hz1, hz2⟩ := info_parts rway_info
  obtain ⟨ao, cap, rfl, _, _⟩ := h.1.shape
  have H := Lib.hid h
  have HX := Lib.hid hx
  have HONE := Lib.hid (show ∀ (y : RW), y ∈ l ∨ y = x → ∀ u ∈ rwC y, u.oneCell' = true from fun y hy u hu => rw_one (w := w) (S := S) (l := [y]) (fun e he => by rw [List.mem_singleton.1 he]; rcases hy with hy | rfl; exact h.2 y hy; exact hx) u (by simpa using hu))
  obtain ⟨a3, p3, e3, _, _⟩ := hx.shape
  obtain ⟨n3, hn3⟩ : ∃ n3, n3 = x.it.length := ⟨_, rfl⟩
  rw [← hn3] at e3
  obtain ⟨⟨ka, kb⟩, xv, xi⟩ := x
  simp only at e3 ⊢
  subst e3
  clear h hx hn3
  go_enter Try.func37, Try.ntmps37
  go_wp2_with fail
  go_loopw [9, 10] (fun kv jv wr => ∃ j : Nat, j ≤ l.length ∧ jv = .int .i64 j ∧ Hid (wr.ownsRow w.heap.size 124 3 kv (dropR (l.take j) (ka, kb)).length ((dropR (l.take j) (ka, kb)).flatMap rwC)) ∧ Hid (New w wr)) (fun _ jv _ => l.length - (intOf jv).toNat)
  case atStart => exact ⟨0, Nat.zero_le _, rfl, Lib.hid (World.ownsRow_nil _ _ _ _), Lib.hid (New.refl _)⟩
  case round =>
    obtain ⟨j, hj, rfl, HO, HN⟩ := hrel
    have HLL := Lib.hid (show (dropR (l.take j) (ka, kb)).length ≤ l.length from Nat.le_trans (dropR_len _ _) (by rw [List.length_take]; omega))
    by_cases hlt : j < l.length
    · have hji : (j : Int) < l.length := by omega
      obtain ⟨bo, off, rfl, _, hbo, hc⟩ := (H.out.1.since HN.out.below).at_ (by omega)
      have c0 := hc j hlt 0 _ rfl
      have c1 := hc j hlt 1 _ rfl
      have c2 := hc j hlt 2 _ rfl
      simp only [Nat.add_zero] at c0
      have hs := dropR_step l (ka, kb) j hlt
      have ho1 := HONE.out l[j] (Or.inl (List.getElem_mem _))
      obtain ⟨a2, p2, e2, _, _⟩ := (H.out.2 l[j] (List.getElem_mem _)).shape
      obtain ⟨n2, hn2⟩ : ∃ n2, n2 = l[j].it.length := ⟨_, rfl⟩
      rw [← hn2] at e2
      obtain ⟨t, ht⟩ : ∃ t, t = l[j] := ⟨_, rfl⟩
      rw [← ht] at c0 c1 c2 hs ho1 e2
      obtain ⟨⟨ta, tb⟩, tv, ti⟩ := t
      simp only at c0 c1 c2 hs e2
      subst e2
      clear ht hc hn2
      by_cases ha : ta = ka ∧ tb = kb
      · have t1 := bne_eq_false_iff_eq.2 ha.1
        have t2 := bne_eq_false_iff_eq.2 ha.2
        rw [if_neg (by simp [ha.1, ha.2]), List.append_nil] at hs
        have HSS := Lib.hid hs
        clear ha hs
        go_wp2_with fail
        go_roundw
        case rel => exact ⟨j + 1, hlt, by go_num, by rw [HSS.out]; exact HO, HN⟩
        case measure => simp [intOf]; omega
      · rw [if_pos (by simpa using ha)] at hs
        have HSS := Lib.hid hs
        clear hs
        have HO1 := Lib.hid ho1
        clear ho1
        by_cases hta : ta = ka
        · have htb : ¬ tb = kb := fun e => ha ⟨hta, e⟩
          have t1 : (ta != ka) = false := bne_eq_false_iff_eq.2 hta
          have t2 : (tb != kb) = true := bne_iff_ne.2 htb
          clear ha hta htb
          go_wp2_with (at_builtin; refine list_appK rfl (.tmp 33) (.tmp 38) 74 rfl w.heap.size 124 i0 (.agg #[.int .i64 0, .int .i64 0, .slice none 0 0]) 3 40 Try.underlying74 hi hz0 hz1 hz2 rfl (by omega) _ (dropR (l.take j) (ka, kb)).length _ rfl (HO.out.alloc _) (some ⟨wr.heap.size, 0, none⟩) 1 1 (rwC ⟨(ta, tb), .slice a2 n2 p2, ti⟩) rfl rfl (by simp) (by simp) (fun _ => ⟨_, rfl, fun jj u hu => by rw [Addr.add_lit, Nat.zero_add, (Bk.made wr _ _).cell, List.getElem?_toArray]; exact hu⟩) (HO1.out) (Nat.le_trans (show (dropR (l.take j) (ka, kb)).length + 1 ≤ 1000001 from by have := HLL.out; omega) (by decide)) (by have := HLL.out; omega) (by have := HN.out.size; simp; omega) ?_; intro v' w3 HO3 HG3)
          go_wp2_with fail
          have t3 : New w w3 := (HN.out.alloc (.cells (rwC ⟨(ta, tb), .slice a2 n2 p2, ti⟩).toArray 124)).grown HG3.out (fun g hg _ => (own_base HO.out hg).1)
          go_roundw
          case rel =>
            refine ⟨j + 1, hlt, by go_num, ?_, Lib.hid t3⟩
            rw [HSS.out, List.length_append, List.flatMap_append]
            have h := HO3.out
            exact Lib.hid (by simpa using h)
          case measure => simp [intOf]; omega
        · have t1 : (ta != ka) = true := bne_iff_ne.2 hta
          clear ha hta
          go_wp2_with (at_builtin; refine list_appK rfl (.tmp 33) (.tmp 38) 74 rfl w.heap.size 124 i0 (.agg #[.int .i64 0, .int .i64 0, .slice none 0 0]) 3 40 Try.underlying74 hi hz0 hz1 hz2 rfl (by omega) _ (dropR (l.take j) (ka, kb)).length _ rfl (HO.out.alloc _) (some ⟨wr.heap.size, 0, none⟩) 1 1 (rwC ⟨(ta, tb), .slice a2 n2 p2, ti⟩) rfl rfl (by simp) (by simp) (fun _ => ⟨_, rfl, fun jj u hu => by rw [Addr.add_lit, Nat.zero_add, (Bk.made wr _ _).cell, List.getElem?_toArray]; exact hu⟩) (HO1.out) (Nat.le_trans (show (dropR (l.take j) (ka, kb)).length + 1 ≤ 1000001 from by have := HLL.out; omega) (by decide)) (by have := HLL.out; omega) (by have := HN.out.size; simp; omega) ?_; intro v' w3 HO3 HG3)
          go_wp2_with fail
          have t3 : New w w3 := (HN.out.alloc (.cells (rwC ⟨(ta, tb), .slice a2 n2 p2, ti⟩).toArray 124)).grown HG3.out (fun g hg _ => (own_base HO.out hg).1)
          go_roundw
          case rel =>
            refine ⟨j + 1, hlt, by go_num, ?_, Lib.hid t3⟩
            rw [HSS.out, List.length_append, List.flatMap_append]
            have h := HO3.out
            exact Lib.hid (by simpa using h)
          case measure => simp [intOf]; omega
    · obtain rfl : j = l.length := by omega
      rw [List.take_length] at HO HLL
      have HXO := Lib.hid (HONE.out ⟨(ka, kb), .slice a3 n3 p3, xi⟩ (Or.inr rfl))
      go_wp2_with (at_builtin; refine list_appK rfl (.tmp 40) (.tmp 45) 74 rfl w.heap.size 124 i0 (.agg #[.int .i64 0, .int .i64 0, .slice none 0 0]) 3 40 Try.underlying74 hi hz0 hz1 hz2 rfl (by omega) _ (dropR l (ka, kb)).length _ rfl (HO.out.alloc _) (some ⟨wr.heap.size, 0, none⟩) 1 1 (rwC ⟨(ka, kb), .slice a3 n3 p3, xi⟩) rfl rfl (by simp) (by simp) (fun _ => ⟨_, rfl, fun jj u hu => by rw [Addr.add_lit, Nat.zero_add, (Bk.made wr _ _).cell, List.getElem?_toArray]; exact hu⟩) (HXO.out) (Nat.le_trans (show (dropR l (ka, kb)).length + 1 ≤ 1000001 from by have := HLL.out; omega) (by decide)) (by have := HLL.out; omega) (by have := HN.out.size; simp; omega) ?_; intro v' w3 HO3 HG3)
      go_wp2_with fail
      have t3 : New w w3 := (HN.out.alloc (.cells (rwC ⟨(ka, kb), .slice a3 n3 p3, xi⟩).toArray 124)).grown HG3.out (fun g hg _ => (own_base HO.out hg).1)
      go_ret
      have ho : w3.ownsRow w.heap.size 124 3 v' (dropR l (ka, kb) ++ [(⟨(ka, kb), .slice a3 n3 p3, xi⟩ : RW)]).length ((dropR l (ka, kb) ++ [(⟨(ka, kb), .slice a3 n3 p3, xi⟩ : RW)]).flatMap rwC) := by
        rw [List.length_append, List.flatMap_append]
        have h := HO3.out
        simpa using h
      refine ⟨v', rfl, ⟨(own_slk rwC_len ho).more (fun b _ h => Or.inr h), fun e he => ?_⟩, t3⟩
      rcases List.mem_append.1 he with he | he
      · exact ((H.out.2 e (List.mem_filter.1 he).1).since t3.below).more (fun b _ h => Or.inl h)
      · rw [List.mem_singleton.1 he]
        exact (HX.out.since t3.below).more (fun b _ h => Or.inl h)
end Go.Proofs.Ythobffgkggfooaa
