/-
  Some (package draw): what is drawn, without repetition.
-/
import Derived.Test.YtgnpnlelkkkmeaaDraw
set_option linter.unusedVariables false
namespace Go.Proofs.Ytgnpnlelkkkmeaa
open Go.RowKit

/-- Some as a recursion: r rounds, the numbers left, the elements left. -/
def someL {α : Type} : Nat → List Int → List α → List α × List Int
  | 0, ns, _ => ([], ns)
  | r + 1, ns, xs => if h : 0 < xs.length then
      (xs[(belowV ns xs.length).toNat]'(by have := belowV_lt ns xs.length h; omega) :: (someL r (belowT ns xs.length) (xs.eraseIdx (belowV ns xs.length).toNat)).1, (someL r (belowT ns xs.length) (xs.eraseIdx (belowV ns xs.length).toNat)).2)
    else ([], ns)
theorem someL_nil {α : Type} (r : Nat) (ns : List Int) : someL r ns ([] : List α) = ([], ns) := by cases r <;> simp [someL]
theorem someL_step {α : Type} (r : Nat) (ns : List Int) (xs : List α) (k : Nat) (hk : k < xs.length) (hv : belowV ns xs.length = k) :
    someL (r + 1) ns xs = (xs[k] :: (someL r (belowT ns xs.length) (xs.eraseIdx k)).1, (someL r (belowT ns xs.length) (xs.eraseIdx k)).2) := by
  rw [someL, dif_pos (by omega)]
  simp only [hv, Int.toNat_natCast]
theorem belowT_pos {ns : List Int} {n : Int} (h : 0 < (belowT ns n).length) : 0 < ns.length := by
  unfold belowT at h
  split at h
  · simp at h; omega
  · exact h

theorem info_Int : (Try.prog.info? 3).map (fun i => (i.zero, i.size, i.bytes)) = some (some (.int .i64 0), 1, 8) := by kernel_rfl
def CloneInt (xs : List Value) (w : World) (e : Ending) (w' : World) : Prop := ∃ v', e = .returned v' ∧ w'.ownsRow w.heap.size 3 1 v' xs.length xs ∧ Below w.heap.size w w'
theorem clone_Int (v : Value) (xs : List Value) (S : Nat → Prop) (w : World) (hs : Sl w S v xs) (h1 : ∀ u ∈ xs, u.oneCell' = true) (hb : xs.length * 8 ≤ 140737488355328) :
    Calls Try.prog 52 #[v] w (CloneInt xs w) := by
  have hs' := hs
  obtain ⟨ao, cap, rfl, hlc, hcm, hn, hc⟩ := hs
  rcases ao with _ | ad
  · have hc0 := hn rfl
    have hl0 : xs = [] := List.eq_nil_of_length_eq_zero (by omega)
    subst hl0; subst hc0
    clear hc hn hlc h1 hb hs'
    go_enter Try.func52, Try.ntmps52
    go_wp2
    go_ret
    exact ⟨_, rfl, World.ownsRow_nil _ _ _ _, Below.refl _ _⟩
  · obtain ⟨i0, hi, hz0, hz1, hz2⟩ := info_parts info_Int
    obtain ⟨_, hcell⟩ := hs'.at_
    have hcell' : ∀ j u, xs[j]? = some u → (w.alloc (.cells #[] 3)).cell? (ad.add j) = some u := by
      intro j u hu
      obtain ⟨e, hbl⟩ := hcell j u hu
      rw [World.cell?_alloc_lt _ _ _ (by rw [add_block]; omega), e]
    clear hn hc hs' hcell
    go_enter Try.func52, Try.ntmps52
    go_wp2_with (at_builtin; refine wpList_append_own _ rfl (.tmp 5) (.tmp 6) 44 rfl w.heap.size 3 i0 (.int .i64 0) 1 8 Try.underlying44 hi hz0 hz1 hz2 rfl (by decide) _ 0 [] rfl (World.ownsRow_made w #[] 0 (Nat.le_refl _) (by simp) rfl) ad xs.length cap xs rfl (by simp) hcell' h1 ?c1 ?c2 ?c3 ?_)
    case c1 => exact Nat.le_trans (by omega) (by decide : 9223372036854775807 ≤ maxLen)
    intro v' w1 hown hg _
    try simp only [Nat.zero_add, List.nil_append] at hown
    have hbel : Below w.heap.size w w1 := ((Below.refl _ _).alloc (Nat.le_refl _) _).grown hg (by simp) (by simp [Value.ownBlock])
    clear hcell' h1 hlc hcm hb
    go_wp2
    go_ret
    exact ⟨_, rfl, hown, hbel⟩

theorem info_Str : (Try.prog.info? 9).map (fun i => (i.zero, i.size, i.bytes)) = some (some (.string ⟨#[]⟩), 1, 16) := by kernel_rfl
def CloneStr (xs : List Value) (w : World) (e : Ending) (w' : World) : Prop := ∃ v', e = .returned v' ∧ w'.ownsRow w.heap.size 9 1 v' xs.length xs ∧ Below w.heap.size w w'
theorem clone_Str (v : Value) (xs : List Value) (S : Nat → Prop) (w : World) (hs : Sl w S v xs) (h1 : ∀ u ∈ xs, u.oneCell' = true) (hb : xs.length * 16 ≤ 140737488355328) :
    Calls Try.prog 51 #[v] w (CloneStr xs w) := by
  have hs' := hs
  obtain ⟨ao, cap, rfl, hlc, hcm, hn, hc⟩ := hs
  rcases ao with _ | ad
  · have hc0 := hn rfl
    have hl0 : xs = [] := List.eq_nil_of_length_eq_zero (by omega)
    subst hl0; subst hc0
    clear hc hn hlc h1 hb hs'
    go_enter Try.func51, Try.ntmps51
    go_wp2
    go_ret
    exact ⟨_, rfl, World.ownsRow_nil _ _ _ _, Below.refl _ _⟩
  · obtain ⟨i0, hi, hz0, hz1, hz2⟩ := info_parts info_Str
    obtain ⟨_, hcell⟩ := hs'.at_
    have hcell' : ∀ j u, xs[j]? = some u → (w.alloc (.cells #[] 9)).cell? (ad.add j) = some u := by
      intro j u hu
      obtain ⟨e, hbl⟩ := hcell j u hu
      rw [World.cell?_alloc_lt _ _ _ (by rw [add_block]; omega), e]
    clear hn hc hs' hcell
    go_enter Try.func51, Try.ntmps51
    go_wp2_with (at_builtin; refine wpList_append_own _ rfl (.tmp 5) (.tmp 6) 45 rfl w.heap.size 9 i0 (.string ⟨#[]⟩) 1 16 Try.underlying45 hi hz0 hz1 hz2 rfl (by decide) _ 0 [] rfl (World.ownsRow_made w #[] 0 (Nat.le_refl _) (by simp) rfl) ad xs.length cap xs rfl (by simp) hcell' h1 ?c1 ?c2 ?c3 ?_)
    case c1 => exact Nat.le_trans (by omega) (by decide : 9223372036854775807 ≤ maxLen)
    intro v' w1 hown hg _
    try simp only [Nat.zero_add, List.nil_append] at hown
    have hbel : Below w.heap.size w w1 := ((Below.refl _ _).alloc (Nat.le_refl _) _).grown hg (by simp) (by simp [Value.ownBlock])
    clear hcell' h1 hlc hcm hb
    go_wp2
    go_ret
    exact ⟨_, rfl, hown, hbel⟩

/-- What holds at the head of each round: r rounds are done. -/
def SomeIInt (w : World) (D g n : Nat) (ns : List Int) (xs : List Int) (r : Nat) (vr vo : Value) (wr : World) : Prop :=
  ∃ (xs' outs : List Int) (ns' : List Int) (gr off cap : Nat) (ao : Option Addr), vr = .slice ao xs'.length cap ∧ xs'.length ≤ cap ∧ cap ≤ maxLen ∧ w.heap.size ≤ gr ∧
    (0 < xs'.length → ao = some ⟨gr, off, none⟩ ∧ ∃ cur, Bk wr gr 3 cur ∧ cur.size = off + cap ∧ ∀ j (h : j < xs'.length), cur[off + j]? = some ((Value.int .i64) xs'[j])) ∧
    wr.ownsRow (gr + 1) 3 1 vo outs.length (outs.map (Value.int .i64)) ∧ DrawIs wr D g ns' ∧ Tch (· = D) w wr ∧ outs.length + xs'.length ≤ xs.length ∧ (0 < ns'.length → g < w.heap.size) ∧
    someL n ns xs = (outs ++ (someL (n - r) ns' xs').1, (someL (n - r) ns' xs').2)

def SomeRInt (ns : List Int) (xs : List Int) (n : Int) (D g : Nat) (w : World) (e : Ending) (w' : World) : Prop :=
  ∃ v, e = .returned v ∧ w'.ownsRow w.heap.size 3 1 v (someL n.toNat ns xs).1.length ((someL n.toNat ns xs).1.map (Value.int .i64)) ∧ DrawIs w' D g (someL n.toNat ns xs).2 ∧ Tch (· = D) w w'

theorem someI_step_Int (w wr w2 w3 w4 : World) (D g n : Nat) (ns ns' : List Int) (xs xs' outs : List Int) (r gr off cap k : Nat) (cur : Array Value) (vo vo' : Value)
    (hlc : xs'.length ≤ cap) (hcm : cap ≤ maxLen) (hgr : w.heap.size ≤ gr) (hD : D < w.heap.size) (hgD : 0 < ns'.length → g < w.heap.size)
    (hbk : Bk wr gr 3 cur) (hcs : cur.size = off + cap) (hcur : ∀ j (h : j < xs'.length), cur[off + j]? = some ((Value.int .i64) xs'[j]))
    (hown : wr.ownsRow (gr + 1) 3 1 vo outs.length (outs.map (Value.int .i64))) (ht : Tch (· = D) w wr) (hle : outs.length + xs'.length ≤ xs.length)
    (hk : k < xs'.length) (hkv : belowV ns' xs'.length = k) (hrn : r < n) (hL : someL n ns xs = (outs ++ (someL (n - r) ns' xs').1, (someL (n - r) ns' xs').2))
    (hd2 : DrawIs w2 D g (belowT ns' xs'.length)) (ht2 : Tch (· = D) wr w2)
    (hown3 : w3.ownsRow (gr + 1) 3 1 vo' (outs.length + 1) (outs.map (Value.int .i64) ++ [(Value.int .i64) (xs'[k])])) (hg3 : (w2.alloc (.cells #[(Value.int .i64) (xs'[k])] 3)).grownBy w3 vo.ownBlock)
    (hb4 : Bk w4 gr 3 (lay cur (off + 1) ((xs'.take k).map (Value.int .i64)))) (ht4 : Tch (· = gr) w3 w4) :
    SomeIInt w D g n ns xs (r + 1) (.slice (some ⟨gr, if 1 = cap then off else off + 1, none⟩) (xs'.length - 1) (cap - 1)) vo' w4 := by
  have hgrD : ∀ b, vo.ownBlock = some b → gr + 1 ≤ b ∧ b < wr.heap.size := fun b hb => own_base hown hb
  have hlenk : ((xs'.take k).map (Value.int .i64)).length = k := by simp; omega
  have ht2a : Tch (· = D) wr (w2.alloc (.cells #[(Value.int .i64) (xs'[k])] 3)) := ht2.alloc _
  have hd2a := hd2.alloc (.cells #[(Value.int .i64) (xs'[k])] 3)
  have t3 := Tch.of_grown hg3
  have hown4 : w4.ownsRow (gr + 1) 3 1 vo' (outs.length + 1) (outs.map (Value.int .i64) ++ [(Value.int .i64) (xs'[k])]) := own_tch hown3 ht4 (fun b hb e => by have := (own_base hown3 hb).1; omega)
  have hd3 : DrawIs w3 D g (belowT ns' xs'.length) := hd2a.tch t3 (fun e => by have := hgrD _ e.symm; omega) (fun hp e => by have := hgrD _ e.symm; have := hgD (belowT_pos hp); omega)
  have hd4 : DrawIs w4 D g (belowT ns' xs'.length) := hd3.tch ht4 (by omega) (fun hp => by have := hgD (belowT_pos hp); omega)
  have T4 : Tch (· = D) w w4 := ((ht.then ht2a).trans t3 (fun b hb e => by have := hgrD _ e.symm; omega)).trans ht4 (fun b hb e => by omega)
  have hel : (xs'.eraseIdx k).length = xs'.length - 1 := List.length_eraseIdx_of_lt hk
  refine ⟨xs'.eraseIdx k, outs ++ [xs'[k]], belowT ns' xs'.length, gr, (if 1 = cap then off else off + 1), cap - 1, _, by rw [hel], by omega, by omega, hgr, fun hp => ⟨rfl, _, hb4, ?_, fun j hj => ?_⟩, ?_, hd4, T4, ?_, (fun hp => hgD (belowT_pos hp)), ?_⟩
  · rw [size_lay _ _ _ (by omega), hcs]; split <;> omega
  · have hc1 : ¬ 1 = cap := by omega
    rw [if_neg hc1, get_lay _ _ _ (by omega), if_neg (by omega), hlenk]
    rw [hel] at hj
    simp only [List.getElem_eraseIdx]
    by_cases hjk : j < k
    · rw [if_pos (by omega), dif_pos hjk, show off + 1 + j - (off + 1) = j from by omega]
      rw [List.getElem?_eq_getElem (by omega)]
      simp
    · rw [if_neg (by omega), dif_neg hjk, show off + 1 + j = off + (j + 1) from by omega]
      exact hcur (j + 1) (by omega)
  · simpa using hown4
  · rw [hel]; simp; omega
  · rw [hL, show n - r = (n - (r + 1)) + 1 from by omega, someL_step _ _ _ k hk hkv]
    simp

set_option maxHeartbeats 4000000 in
theorem some_Int (D g : Nat) (ns : List Int) (v : Value) (xs : List Int) (n : Int) (S : Nat → Prop) (w : World) (hD : DrawIs w D g ns) (hs : Sl w S v (xs.map (Value.int .i64)))
    (hb : xs.length * 8 ≤ 70368744177664) (hn : n ≤ 9223372036854775807) :
    Calls Try.prog 36 #[.pointer (some ⟨D, 0, none⟩), v, .int .i64 n] w (SomeRInt ns xs n D g w) := by
  obtain ⟨i0, hi, hz0, hz1, hz2⟩ := info_parts info_Int
  have hsz1 : (Try.prog.info? 3).map (·.size) = some 1 := by rw [hi]; simp [hz1]
  have hDl := hD.lt
  have HI := Lib.hid hD
  go_enter Try.func36, Try.ntmps36
  go_wp2_with fail
  refine (clone_Int v _ S w hs (by intro u hu; obtain ⟨x, _, rfl⟩ := List.mem_map.1 hu; rfl) (by simp; omega)).mono ?_
  rintro e w1 ⟨v1, rfl, hown, hbel⟩
  have hgl := hD.glt
  have hd1 : DrawIs w1 D g ns := hD.tch (Tch.of_below hbel) (by omega) (fun hp => by have := hgl hp; omega)
  obtain ⟨ao, cap, rfl, hlc, hcm, hn0, hrow⟩ := own_shape hown
  have hI0 : SomeIInt w D g n.toNat ns xs 0 (.slice ao (xs.map (Value.int .i64)).length cap) (.slice none 0 0) w1 := by
    rw [List.length_map] at hlc ⊢
    by_cases h0 : ao = none
    · exact ⟨xs, [], ns, w.heap.size, 0, cap, ao, rfl, hlc, hcm, Nat.le_refl _, fun hp => absurd (hn0 h0) (by omega), World.ownsRow_nil _ _ _ _, hd1, (Tch.of_below hbel).more (fun b hb hbb => by omega), by simp, hgl, by simp⟩
    · obtain ⟨g0, cur, rfl, hg0, hbk, hcs, hcur⟩ := hrow h0
      refine ⟨xs, [], ns, g0, 0, cap, _, rfl, hlc, hcm, hg0, fun hp => ⟨rfl, cur, hbk, by omega, fun j hj => ?_⟩, World.ownsRow_nil _ _ _ _, hd1, (Tch.of_below hbel).more (fun b hb hbb => by omega), by simp, hgl, by simp⟩
      rw [Nat.zero_add]
      exact hcur j _ (by simp [hj])
  have hlm : (xs.map (Value.int .i64)).length = xs.length := List.length_map _
  rw [hlm] at hI0 ⊢
  have H0 := Lib.hid hI0
  clear hI0 hown hbel hd1 hrow hlc hcm hs hlm hD hn0 hgl
  go_wp2_with fail
  go_loopw [7, 8, 13] (fun vr vo vi wr => ∃ r : Nat, vi = .int .i64 r ∧ r ≤ n.toNat ∧ Hid (SomeIInt w D g n.toNat ns xs r vr vo wr)) (fun _ _ vi _ => n.toNat - (intOf vi).toNat)
  case atStart => exact ⟨0, rfl, Nat.zero_le _, H0⟩
  case round =>
    obtain ⟨r, rfl, hrn, HI⟩ := hrel
    obtain ⟨xs', outs, ns', gr, off, cap, ao, rfl, hlc, hcm, hgr, hrow, hown, hd, ht, hle, hgl, hL⟩ := HI.out
    by_cases hr : r < n.toNat
    · by_cases hx : 0 < xs'.length
      · have hv := belowV_lt ns' xs'.length hx
        obtain ⟨k, hkv⟩ : ∃ k : Nat, belowV ns' xs'.length = k := ⟨_, (Int.toNat_of_nonneg hv.1).symm⟩
        have hk : k < xs'.length := by omega
        obtain ⟨rfl, cur, hbk, hcs, hcur⟩ := hrow hx
        have htest : ((xs'.length : Int) == 0) = false := bne_ (by omega)
        have hrn' : (r : Int) < n := by omega
        obtain ⟨x, hxk⟩ : ∃ x, x = xs'[k] := ⟨_, rfl⟩
        have hck := hcur k hk
        rw [← hxk] at hck
        have HBK := Lib.hid hbk
        have HCUR := Lib.hid hcur
        have HOWN := Lib.hid hown
        have HD := Lib.hid hd
        have HT := Lib.hid ht
        have HL := Lib.hid hL
        have HKV := Lib.hid hkv
        have HXK := Lib.hid hxk
        have HCS := Lib.hid hcs
        have HCK := Lib.hid hck
        have HCM := Lib.hid hcm
        have HGL := Lib.hid hgl
        unfold maxLen at hcm
        clear hrow hv hkv hbk hcs hcur hxk hown hd ht hL hck hgl
        go_wp2_with fail
        refine (below_is D g ns' _ wr HD.out).mono ?_
        rintro e w2 ⟨rfl, hd2, ht2⟩
        rw [HKV.out]
        have hbk2 := HBK.out.tch ht2 (by omega)
        have hc2 : w2.cell? ⟨gr, off + k, none⟩ = some ((Value.int .i64) x) := by rw [hbk2.cell]; exact HCK.out
        have hown2 := own_tch HOWN.out ht2 (fun b hb e => by have := (own_base HOWN.out hb).1; omega)
        have HD2 := Lib.hid hd2
        have HT2 := Lib.hid ht2
        have HOWN2 := Lib.hid hown2
        have hgs2 : gr < w2.heap.size := hbk2.lt
        have HBK2 := Lib.hid hbk2
        clear hd2 ht2 hown2 hbk2
        go_wp2_with (at_builtin; refine wpList_append_own _ rfl (.tmp 22) (.tmp 27) 44 rfl (gr + 1) 3 i0 (.int .i64 0) 1 8 Try.underlying44 hi hz0 hz1 hz2 rfl (by decide) _ outs.length (outs.map (Value.int .i64)) rfl (HOWN2.out.alloc _) ⟨w2.heap.size, 0, none⟩ 1 1 [(Value.int .i64) x] rfl rfl ?c1 ?c2 ?c3 ?c4 ?c5 ?_)
        case c1 => exact cells_one _ _ _
        case c2 => intro u hu; simp at hu; subst hu; rfl
        case c3 => exact Nat.le_trans (by omega) (by decide : 9223372036854775807 ≤ maxLen)
        case c4 => omega
        case c5 => simp; omega
        intro v' w3 hown3 hgrow _
        have hbk3 : Bk w3 gr 3 cur := (HBK2.out.alloc _).tch (Tch.of_grown hgrow) (fun e => by have := (own_base HOWN.out e.symm).1; omega)
        have hlay : off + 1 + ((xs'.take k).map (Value.int .i64)).length ≤ cur.size := by rw [HCS.out]; simp; omega
        obtain ⟨cs, hcs⟩ : ∃ cs, cs = (xs'.take k).map (Value.int .i64) := ⟨_, rfl⟩
        have hcl : cs.length = k := by rw [hcs]; simp; omega
        rw [← hcs] at hlay
        have hsrc : ∀ (j : Nat) (u : Value), cs[j]? = some u → w3.cell? ((⟨gr, off, none⟩ : Addr).add j) = some u := by
          intro j u hu
          have hj : j < k := by rw [← hcl]; exact (List.getElem?_eq_some_iff.1 hu).1
          rw [Addr.add_lit, hbk3.cell, HCUR.out j (by omega)]
          rw [hcs] at hu
          simpa [List.getElem?_map, List.getElem?_take, hj, show j < xs'.length by omega] using hu
        have h1c : ∀ u ∈ cs, u.oneCell' = true := by rw [hcs]; intro u hu; obtain ⟨x, _, rfl⟩ := List.mem_map.1 hu; rfl
        have HOWN3 := Lib.hid hown3
        have HG3 := Lib.hid hgrow
        have HB3 := Lib.hid hbk3
        have HS := Lib.hid hsrc
        have H1 := Lib.hid h1c
        have HCL := Lib.hid hcl
        have HCC := Lib.hid hcs
        have HLA := Lib.hid hlay
        clear hown3 hgrow hbk3 hsrc h1c hcl hcs hlay
        go_wp2_with fail
        have i1 : (1 : Int) ≤ (xs'.length : Int) := by omega
        rcases (show cap = 1 ∨ 1 < cap by omega) with hc1 | hc1
        · obtain rfl : k = 0 := by omega
          subst hc1
          go_region_law (refine step_copy rfl (.tmp 30) (.tmp 33) 44 44 rfl 3 Try.underlying44 hsz1 (some ⟨gr, off, none⟩) (some ⟨gr, off, none⟩) 0 0 0 1 (by simp [Act.eval, Act.put]) (by simp [Act.eval, Act.put]) gr (off + 1) cur 3 HB3.out cs (by rw [HCL.out]; omega) (fun h => absurd HCL.out (by omega)) HLA.out H1.out ?_; intro w4 HB4 HT4)
          have hst := someI_step_Int w wr w2 w3 w4 D g n.toNat ns ns' xs xs' outs r gr off 1 0 cur u8 v' hlc HCM.out hgr hDl HGL.out HBK.out HCS.out HCUR.out HOWN.out HT.out hle hk HKV.out hr HL.out HD2.out HT2.out (by rw [← HXK.out]; exact HOWN3.out) (by rw [← HXK.out]; exact HG3.out) (by rw [← HCC.out]; exact HB4.out) (((Tch.refl _ w3).drew).then HT4.out)
          rw [if_pos rfl, show xs'.length - 1 = 0 from by omega] at hst
          have HST := Lib.hid hst
          clear hst
          go_wp2_with fail
          go_roundw
          case rel => exact ⟨r + 1, by go_num, by omega, HST⟩
          case measure => simp [intOf]; omega
        · have i2 : (k : Int) ≤ (cap : Int) := by omega
          have i3 : ¬ cap = 1 := by omega
          go_region_law (refine step_copy rfl (.tmp 30) (.tmp 33) 44 44 rfl 3 Try.underlying44 hsz1 (some ⟨gr, off + 1, none⟩) (some ⟨gr, off, none⟩) (xs'.length - 1) (cap - 1) k cap (by simp [Act.eval, Act.put]) (by simp [Act.eval, Act.put]) gr (off + 1) cur 3 HB3.out cs (by rw [HCL.out]; omega) (fun _ => ⟨rfl, _, rfl, HS.out⟩) HLA.out H1.out ?_; intro w4 HB4 HT4)
          have hst := someI_step_Int w wr w2 w3 w4 D g n.toNat ns ns' xs xs' outs r gr off cap k cur u8 v' hlc HCM.out hgr hDl HGL.out HBK.out HCS.out HCUR.out HOWN.out HT.out hle hk HKV.out hr HL.out HD2.out HT2.out (by rw [← HXK.out]; exact HOWN3.out) (by rw [← HXK.out]; exact HG3.out) (by rw [← HCC.out]; exact HB4.out) (((Tch.refl _ w3).drew).then HT4.out)
          rw [if_neg (by omega)] at hst
          have HST := Lib.hid hst
          clear hst
          go_wp2_with fail
          go_roundw
          case rel => exact ⟨r + 1, by go_num, by omega, HST⟩
          case measure => simp [intOf]; omega
      · obtain rfl : xs' = [] := List.eq_nil_of_length_eq_zero (by omega)
        have hfin : SomeRInt ns xs n D g w (.returned u8) wr := by
          rw [someL_nil] at hL
          refine ⟨u8, rfl, ?_, by rw [hL]; exact hd, ht⟩
          rw [hL]
          simpa using own_less hown (by omega)
        have HF := Lib.hid hfin
        clear hrow hown hd ht hL hfin hlc hle hgl
        have hrn' : (r : Int) < n := by omega
        go_wp2_with fail
        go_ret
        exact HF.out
    · have hfin : SomeRInt ns xs n D g w (.returned u8) wr := by
        rw [show n.toNat - r = 0 from by omega] at hL
        simp only [someL, List.append_nil] at hL
        refine ⟨u8, rfl, ?_, by rw [hL]; exact hd, ht⟩
        rw [hL]
        simpa using own_less hown (by omega)
      have HF := Lib.hid hfin
      clear hrow hown hd ht hL hfin hlc hle hgl
      have hrn' : n ≤ (r : Int) := by omega
      go_wp2_with fail
      go_ret
      exact HF.out

/-- What holds at the head of each round: r rounds are done. -/
def SomeIStr (w : World) (D g n : Nat) (ns : List Int) (xs : List ByteArray) (r : Nat) (vr vo : Value) (wr : World) : Prop :=
  ∃ (xs' outs : List ByteArray) (ns' : List Int) (gr off cap : Nat) (ao : Option Addr), vr = .slice ao xs'.length cap ∧ xs'.length ≤ cap ∧ cap ≤ maxLen ∧ w.heap.size ≤ gr ∧
    (0 < xs'.length → ao = some ⟨gr, off, none⟩ ∧ ∃ cur, Bk wr gr 9 cur ∧ cur.size = off + cap ∧ ∀ j (h : j < xs'.length), cur[off + j]? = some (Value.string xs'[j])) ∧
    wr.ownsRow (gr + 1) 9 1 vo outs.length (outs.map Value.string) ∧ DrawIs wr D g ns' ∧ Tch (· = D) w wr ∧ outs.length + xs'.length ≤ xs.length ∧ (0 < ns'.length → g < w.heap.size) ∧
    someL n ns xs = (outs ++ (someL (n - r) ns' xs').1, (someL (n - r) ns' xs').2)

def SomeRStr (ns : List Int) (xs : List ByteArray) (n : Int) (D g : Nat) (w : World) (e : Ending) (w' : World) : Prop :=
  ∃ v, e = .returned v ∧ w'.ownsRow w.heap.size 9 1 v (someL n.toNat ns xs).1.length ((someL n.toNat ns xs).1.map Value.string) ∧ DrawIs w' D g (someL n.toNat ns xs).2 ∧ Tch (· = D) w w'

theorem someI_step_Str (w wr w2 w3 w4 : World) (D g n : Nat) (ns ns' : List Int) (xs xs' outs : List ByteArray) (r gr off cap k : Nat) (cur : Array Value) (vo vo' : Value)
    (hlc : xs'.length ≤ cap) (hcm : cap ≤ maxLen) (hgr : w.heap.size ≤ gr) (hD : D < w.heap.size) (hgD : 0 < ns'.length → g < w.heap.size)
    (hbk : Bk wr gr 9 cur) (hcs : cur.size = off + cap) (hcur : ∀ j (h : j < xs'.length), cur[off + j]? = some (Value.string xs'[j]))
    (hown : wr.ownsRow (gr + 1) 9 1 vo outs.length (outs.map Value.string)) (ht : Tch (· = D) w wr) (hle : outs.length + xs'.length ≤ xs.length)
    (hk : k < xs'.length) (hkv : belowV ns' xs'.length = k) (hrn : r < n) (hL : someL n ns xs = (outs ++ (someL (n - r) ns' xs').1, (someL (n - r) ns' xs').2))
    (hd2 : DrawIs w2 D g (belowT ns' xs'.length)) (ht2 : Tch (· = D) wr w2)
    (hown3 : w3.ownsRow (gr + 1) 9 1 vo' (outs.length + 1) (outs.map Value.string ++ [Value.string (xs'[k])])) (hg3 : (w2.alloc (.cells #[Value.string (xs'[k])] 9)).grownBy w3 vo.ownBlock)
    (hb4 : Bk w4 gr 9 (lay cur (off + 1) ((xs'.take k).map Value.string))) (ht4 : Tch (· = gr) w3 w4) :
    SomeIStr w D g n ns xs (r + 1) (.slice (some ⟨gr, if 1 = cap then off else off + 1, none⟩) (xs'.length - 1) (cap - 1)) vo' w4 := by
  have hgrD : ∀ b, vo.ownBlock = some b → gr + 1 ≤ b ∧ b < wr.heap.size := fun b hb => own_base hown hb
  have hlenk : ((xs'.take k).map Value.string).length = k := by simp; omega
  have ht2a : Tch (· = D) wr (w2.alloc (.cells #[Value.string (xs'[k])] 9)) := ht2.alloc _
  have hd2a := hd2.alloc (.cells #[Value.string (xs'[k])] 9)
  have t3 := Tch.of_grown hg3
  have hown4 : w4.ownsRow (gr + 1) 9 1 vo' (outs.length + 1) (outs.map Value.string ++ [Value.string (xs'[k])]) := own_tch hown3 ht4 (fun b hb e => by have := (own_base hown3 hb).1; omega)
  have hd3 : DrawIs w3 D g (belowT ns' xs'.length) := hd2a.tch t3 (fun e => by have := hgrD _ e.symm; omega) (fun hp e => by have := hgrD _ e.symm; have := hgD (belowT_pos hp); omega)
  have hd4 : DrawIs w4 D g (belowT ns' xs'.length) := hd3.tch ht4 (by omega) (fun hp => by have := hgD (belowT_pos hp); omega)
  have T4 : Tch (· = D) w w4 := ((ht.then ht2a).trans t3 (fun b hb e => by have := hgrD _ e.symm; omega)).trans ht4 (fun b hb e => by omega)
  have hel : (xs'.eraseIdx k).length = xs'.length - 1 := List.length_eraseIdx_of_lt hk
  refine ⟨xs'.eraseIdx k, outs ++ [xs'[k]], belowT ns' xs'.length, gr, (if 1 = cap then off else off + 1), cap - 1, _, by rw [hel], by omega, by omega, hgr, fun hp => ⟨rfl, _, hb4, ?_, fun j hj => ?_⟩, ?_, hd4, T4, ?_, (fun hp => hgD (belowT_pos hp)), ?_⟩
  · rw [size_lay _ _ _ (by omega), hcs]; split <;> omega
  · have hc1 : ¬ 1 = cap := by omega
    rw [if_neg hc1, get_lay _ _ _ (by omega), if_neg (by omega), hlenk]
    rw [hel] at hj
    simp only [List.getElem_eraseIdx]
    by_cases hjk : j < k
    · rw [if_pos (by omega), dif_pos hjk, show off + 1 + j - (off + 1) = j from by omega]
      rw [List.getElem?_eq_getElem (by omega)]
      simp
    · rw [if_neg (by omega), dif_neg hjk, show off + 1 + j = off + (j + 1) from by omega]
      exact hcur (j + 1) (by omega)
  · simpa using hown4
  · rw [hel]; simp; omega
  · rw [hL, show n - r = (n - (r + 1)) + 1 from by omega, someL_step _ _ _ k hk hkv]
    simp

set_option maxHeartbeats 4000000 in
theorem some_Str (D g : Nat) (ns : List Int) (v : Value) (xs : List ByteArray) (n : Int) (S : Nat → Prop) (w : World) (hD : DrawIs w D g ns) (hs : Sl w S v (xs.map Value.string))
    (hb : xs.length * 16 ≤ 70368744177664) (hn : n ≤ 9223372036854775807) :
    Calls Try.prog 33 #[.pointer (some ⟨D, 0, none⟩), v, .int .i64 n] w (SomeRStr ns xs n D g w) := by
  obtain ⟨i0, hi, hz0, hz1, hz2⟩ := info_parts info_Str
  have hsz1 : (Try.prog.info? 9).map (·.size) = some 1 := by rw [hi]; simp [hz1]
  have hDl := hD.lt
  have HI := Lib.hid hD
  go_enter Try.func33, Try.ntmps33
  go_wp2_with fail
  refine (clone_Str v _ S w hs (by intro u hu; obtain ⟨x, _, rfl⟩ := List.mem_map.1 hu; rfl) (by simp; omega)).mono ?_
  rintro e w1 ⟨v1, rfl, hown, hbel⟩
  have hgl := hD.glt
  have hd1 : DrawIs w1 D g ns := hD.tch (Tch.of_below hbel) (by omega) (fun hp => by have := hgl hp; omega)
  obtain ⟨ao, cap, rfl, hlc, hcm, hn0, hrow⟩ := own_shape hown
  have hI0 : SomeIStr w D g n.toNat ns xs 0 (.slice ao (xs.map Value.string).length cap) (.slice none 0 0) w1 := by
    rw [List.length_map] at hlc ⊢
    by_cases h0 : ao = none
    · exact ⟨xs, [], ns, w.heap.size, 0, cap, ao, rfl, hlc, hcm, Nat.le_refl _, fun hp => absurd (hn0 h0) (by omega), World.ownsRow_nil _ _ _ _, hd1, (Tch.of_below hbel).more (fun b hb hbb => by omega), by simp, hgl, by simp⟩
    · obtain ⟨g0, cur, rfl, hg0, hbk, hcs, hcur⟩ := hrow h0
      refine ⟨xs, [], ns, g0, 0, cap, _, rfl, hlc, hcm, hg0, fun hp => ⟨rfl, cur, hbk, by omega, fun j hj => ?_⟩, World.ownsRow_nil _ _ _ _, hd1, (Tch.of_below hbel).more (fun b hb hbb => by omega), by simp, hgl, by simp⟩
      rw [Nat.zero_add]
      exact hcur j _ (by simp [hj])
  have hlm : (xs.map Value.string).length = xs.length := List.length_map _
  rw [hlm] at hI0 ⊢
  have H0 := Lib.hid hI0
  clear hI0 hown hbel hd1 hrow hlc hcm hs hlm hD hn0 hgl
  go_wp2_with fail
  go_loopw [7, 8, 13] (fun vr vo vi wr => ∃ r : Nat, vi = .int .i64 r ∧ r ≤ n.toNat ∧ Hid (SomeIStr w D g n.toNat ns xs r vr vo wr)) (fun _ _ vi _ => n.toNat - (intOf vi).toNat)
  case atStart => exact ⟨0, rfl, Nat.zero_le _, H0⟩
  case round =>
    obtain ⟨r, rfl, hrn, HI⟩ := hrel
    obtain ⟨xs', outs, ns', gr, off, cap, ao, rfl, hlc, hcm, hgr, hrow, hown, hd, ht, hle, hgl, hL⟩ := HI.out
    by_cases hr : r < n.toNat
    · by_cases hx : 0 < xs'.length
      · have hv := belowV_lt ns' xs'.length hx
        obtain ⟨k, hkv⟩ : ∃ k : Nat, belowV ns' xs'.length = k := ⟨_, (Int.toNat_of_nonneg hv.1).symm⟩
        have hk : k < xs'.length := by omega
        obtain ⟨rfl, cur, hbk, hcs, hcur⟩ := hrow hx
        have htest : ((xs'.length : Int) == 0) = false := bne_ (by omega)
        have hrn' : (r : Int) < n := by omega
        obtain ⟨x, hxk⟩ : ∃ x, x = xs'[k] := ⟨_, rfl⟩
        have hck := hcur k hk
        rw [← hxk] at hck
        have HBK := Lib.hid hbk
        have HCUR := Lib.hid hcur
        have HOWN := Lib.hid hown
        have HD := Lib.hid hd
        have HT := Lib.hid ht
        have HL := Lib.hid hL
        have HKV := Lib.hid hkv
        have HXK := Lib.hid hxk
        have HCS := Lib.hid hcs
        have HCK := Lib.hid hck
        have HCM := Lib.hid hcm
        have HGL := Lib.hid hgl
        unfold maxLen at hcm
        clear hrow hv hkv hbk hcs hcur hxk hown hd ht hL hck hgl
        go_wp2_with fail
        refine (below_is D g ns' _ wr HD.out).mono ?_
        rintro e w2 ⟨rfl, hd2, ht2⟩
        rw [HKV.out]
        have hbk2 := HBK.out.tch ht2 (by omega)
        have hc2 : w2.cell? ⟨gr, off + k, none⟩ = some (Value.string x) := by rw [hbk2.cell]; exact HCK.out
        have hown2 := own_tch HOWN.out ht2 (fun b hb e => by have := (own_base HOWN.out hb).1; omega)
        have HD2 := Lib.hid hd2
        have HT2 := Lib.hid ht2
        have HOWN2 := Lib.hid hown2
        have hgs2 : gr < w2.heap.size := hbk2.lt
        have HBK2 := Lib.hid hbk2
        clear hd2 ht2 hown2 hbk2
        go_wp2_with (at_builtin; refine wpList_append_own _ rfl (.tmp 22) (.tmp 27) 45 rfl (gr + 1) 9 i0 (.string ⟨#[]⟩) 1 16 Try.underlying45 hi hz0 hz1 hz2 rfl (by decide) _ outs.length (outs.map Value.string) rfl (HOWN2.out.alloc _) ⟨w2.heap.size, 0, none⟩ 1 1 [Value.string x] rfl rfl ?c1 ?c2 ?c3 ?c4 ?c5 ?_)
        case c1 => exact cells_one _ _ _
        case c2 => intro u hu; simp at hu; subst hu; rfl
        case c3 => exact Nat.le_trans (by omega) (by decide : 9223372036854775807 ≤ maxLen)
        case c4 => omega
        case c5 => simp; omega
        intro v' w3 hown3 hgrow _
        have hbk3 : Bk w3 gr 9 cur := (HBK2.out.alloc _).tch (Tch.of_grown hgrow) (fun e => by have := (own_base HOWN.out e.symm).1; omega)
        have hlay : off + 1 + ((xs'.take k).map Value.string).length ≤ cur.size := by rw [HCS.out]; simp; omega
        obtain ⟨cs, hcs⟩ : ∃ cs, cs = (xs'.take k).map Value.string := ⟨_, rfl⟩
        have hcl : cs.length = k := by rw [hcs]; simp; omega
        rw [← hcs] at hlay
        have hsrc : ∀ (j : Nat) (u : Value), cs[j]? = some u → w3.cell? ((⟨gr, off, none⟩ : Addr).add j) = some u := by
          intro j u hu
          have hj : j < k := by rw [← hcl]; exact (List.getElem?_eq_some_iff.1 hu).1
          rw [Addr.add_lit, hbk3.cell, HCUR.out j (by omega)]
          rw [hcs] at hu
          simpa [List.getElem?_map, List.getElem?_take, hj, show j < xs'.length by omega] using hu
        have h1c : ∀ u ∈ cs, u.oneCell' = true := by rw [hcs]; intro u hu; obtain ⟨x, _, rfl⟩ := List.mem_map.1 hu; rfl
        have HOWN3 := Lib.hid hown3
        have HG3 := Lib.hid hgrow
        have HB3 := Lib.hid hbk3
        have HS := Lib.hid hsrc
        have H1 := Lib.hid h1c
        have HCL := Lib.hid hcl
        have HCC := Lib.hid hcs
        have HLA := Lib.hid hlay
        clear hown3 hgrow hbk3 hsrc h1c hcl hcs hlay
        go_wp2_with fail
        have i1 : (1 : Int) ≤ (xs'.length : Int) := by omega
        rcases (show cap = 1 ∨ 1 < cap by omega) with hc1 | hc1
        · obtain rfl : k = 0 := by omega
          subst hc1
          go_region_law (refine step_copy rfl (.tmp 30) (.tmp 33) 45 45 rfl 9 Try.underlying45 hsz1 (some ⟨gr, off, none⟩) (some ⟨gr, off, none⟩) 0 0 0 1 (by simp [Act.eval, Act.put]) (by simp [Act.eval, Act.put]) gr (off + 1) cur 9 HB3.out cs (by rw [HCL.out]; omega) (fun h => absurd HCL.out (by omega)) HLA.out H1.out ?_; intro w4 HB4 HT4)
          have hst := someI_step_Str w wr w2 w3 w4 D g n.toNat ns ns' xs xs' outs r gr off 1 0 cur u8 v' hlc HCM.out hgr hDl HGL.out HBK.out HCS.out HCUR.out HOWN.out HT.out hle hk HKV.out hr HL.out HD2.out HT2.out (by rw [← HXK.out]; exact HOWN3.out) (by rw [← HXK.out]; exact HG3.out) (by rw [← HCC.out]; exact HB4.out) (((Tch.refl _ w3).drew).then HT4.out)
          rw [if_pos rfl, show xs'.length - 1 = 0 from by omega] at hst
          have HST := Lib.hid hst
          clear hst
          go_wp2_with fail
          go_roundw
          case rel => exact ⟨r + 1, by go_num, by omega, HST⟩
          case measure => simp [intOf]; omega
        · have i2 : (k : Int) ≤ (cap : Int) := by omega
          have i3 : ¬ cap = 1 := by omega
          go_region_law (refine step_copy rfl (.tmp 30) (.tmp 33) 45 45 rfl 9 Try.underlying45 hsz1 (some ⟨gr, off + 1, none⟩) (some ⟨gr, off, none⟩) (xs'.length - 1) (cap - 1) k cap (by simp [Act.eval, Act.put]) (by simp [Act.eval, Act.put]) gr (off + 1) cur 9 HB3.out cs (by rw [HCL.out]; omega) (fun _ => ⟨rfl, _, rfl, HS.out⟩) HLA.out H1.out ?_; intro w4 HB4 HT4)
          have hst := someI_step_Str w wr w2 w3 w4 D g n.toNat ns ns' xs xs' outs r gr off cap k cur u8 v' hlc HCM.out hgr hDl HGL.out HBK.out HCS.out HCUR.out HOWN.out HT.out hle hk HKV.out hr HL.out HD2.out HT2.out (by rw [← HXK.out]; exact HOWN3.out) (by rw [← HXK.out]; exact HG3.out) (by rw [← HCC.out]; exact HB4.out) (((Tch.refl _ w3).drew).then HT4.out)
          rw [if_neg (by omega)] at hst
          have HST := Lib.hid hst
          clear hst
          go_wp2_with fail
          go_roundw
          case rel => exact ⟨r + 1, by go_num, by omega, HST⟩
          case measure => simp [intOf]; omega
      · obtain rfl : xs' = [] := List.eq_nil_of_length_eq_zero (by omega)
        have hfin : SomeRStr ns xs n D g w (.returned u8) wr := by
          rw [someL_nil] at hL
          refine ⟨u8, rfl, ?_, by rw [hL]; exact hd, ht⟩
          rw [hL]
          simpa using own_less hown (by omega)
        have HF := Lib.hid hfin
        clear hrow hown hd ht hL hfin hlc hle hgl
        have hrn' : (r : Int) < n := by omega
        go_wp2_with fail
        go_ret
        exact HF.out
    · have hfin : SomeRStr ns xs n D g w (.returned u8) wr := by
        rw [show n.toNat - r = 0 from by omega] at hL
        simp only [someL, List.append_nil] at hL
        refine ⟨u8, rfl, ?_, by rw [hL]; exact hd, ht⟩
        rw [hL]
        simpa using own_less hown (by omega)
      have HF := Lib.hid hfin
      clear hrow hown hd ht hL hfin hlc hle hgl
      have hrn' : n ≤ (r : Int) := by omega
      go_wp2_with fail
      go_ret
      exact HF.out

end Go.Proofs.Ytgnpnlelkkkmeaa
