/-
  The reference's Due as a contract.
-/
import Derived.Test.YtohpbjbbkpllaaaClkRef
set_option linter.unusedVariables false
set_option linter.unusedSimpArgs false
namespace Go.Proofs.Ytohpbjbbkpllaaa
open Go.RowKit Go.Maps Go.Shelf Go.Sort

theorem below_then2 {w a b : World} (h : Below w.heap.size w a) (k : Below a.heap.size a b) : Below w.heap.size w b := h.trans (k.mono h.size)
def DueRefAt (l : List Tm) (now : Int) (w : World) (e : Ending) (w' : World) : Prop :=
  ∃ v r d, e = .returned (.tuple #[v, r]) ∧ DueL l now d ∧ w'.ownsRow w.heap.size 9 1 v d.length (namesV d) ∧
    w'.ownsRow w.heap.size 49 2 r (restL l now).length ((restL l now).flatMap thC) ∧ Below w.heap.size w w'
def OutIs (w : World) (l : List Tm) (now : Int) (ov rv : Value) (wr : World) (dl r : List Tm) : Prop :=
  RefIs l now dl r ∧ wr.ownsRow w.heap.size 9 1 ov dl.length (namesV dl) ∧ wr.ownsRow w.heap.size 49 2 rv r.length (r.flatMap thC) ∧ Below w.heap.size w wr
set_option maxHeartbeats 1000000 in
theorem due_ref (v : Value) (l : List Tm) (now : Int) (w : World) (S : Nat → Prop) (h : Slk thC 2 w S v l) (hl : l.length ≤ 1000) (hrise : l.Pairwise (fun x y => x.turn < y.turn)) :
    Calls Try.prog 26 #[v, .int .i64 now] w (DueRefAt l now w) := by
  obtain ⟨i0, hi, hz0, hz1, hz2⟩ := info_parts thing_info
  obtain ⟨i1, hi1, hz10, hz11, hz12⟩ := info_parts string_info
  obtain ⟨ao, cap, rfl, hlc, hcm⟩ := h.shape
  have H := Lib.hid h
  have HR := Lib.hid hrise
  have hA0 : ao = none → cap = 0 := by
    obtain ⟨ao', cap', e, _, _, h0, _⟩ := h
    injection e with e1 e2 e3
    subst e1; subst e3
    exact h0
  clear h hrise
  have hsrc : Hid (0 < l.length → ∃ ad, ao = some ad ∧ ∀ (j : Nat) (u : Value), (l.flatMap thC)[j]? = some u → (w.alloc (.cells #[] 49)).cell? (ad.add j) = some u) := by
    intro h0
    obtain ⟨b, off, rfl, _⟩ := H.out.at_ h0
    exact ⟨_, rfl, (H.out.since ((Below.refl _ _).alloc (Nat.le_refl _) _)).flat thC_len⟩
  go_enter Try.func26, Try.ntmps26
  go_wp2_with (at_builtin; refine list_appK rfl (.tmp 10) (.tmp 11) 45 rfl w.heap.size 49 i0 (.agg #[.string ⟨#[]⟩, .int .i64 0]) 2 24 Try.underlying45 hi hz0 hz1 hz2 rfl (by omega) _ 0 [] rfl (World.ownsRow_made w #[] 0 (Nat.le_refl _) (Nat.zero_le _) rfl) ao l.length cap (l.flatMap thC) rfl (flat_lengthK thC_len l) hA0 (fun e => by have := hA0 e; omega) hsrc.out (thC_one l) (by omega) (by omega) (by simp) ?_; intro v1 w1 HO1 HG1)
  have HB1 : Hid (Below w.heap.size w w1) := ((Below.refl _ _).alloc (Nat.le_refl _) _).grown HG1.out (by simp) (fun j hj => by cases hj; exact Nat.le_refl _)
  have HO : Hid (w1.ownsRow w.heap.size 49 2 v1 l.length (l.flatMap thC)) := by have h := HO1.out; exact Lib.hid (by simpa using h)
  clear hsrc HO1 HG1 hA0
  go_loopw [6, 7] (fun ov rv wr => ∃ dl r, Hid (OutIs w l now ov rv wr dl r)) (fun _ rv _ => lenOf rv)
  case atStart => exact ⟨[], l, RefIs.start l now, World.ownsRow_nil _ _ _ _, HO.out, HB1.out⟩
  case round =>
    clear HO HB1
    obtain ⟨dl, r, HI⟩ := hrel
    obtain ⟨hri, hov, hrv, hbb⟩ := HI.out
    have hlr : r.length ≤ 1000 := Nat.le_trans hri.sub.length_le hl
    have hlen : dl.length + r.length = l.length := by have := hri.perm.length_eq; rwa [List.length_append] at this
    obtain ⟨aor, capr, e2, hrc, hrm⟩ := (own_slk thC_len hrv).shape
    subst e2
    obtain ⟨aoo, capo, e1, hoc, hom, _⟩ := own_shape hov
    subst e1
    have HSL := Lib.hid (own_slk thC_len hrv)
    have HOC := Lib.hid hoc
    have HOM := Lib.hid hom
    have HLEN := Lib.hid hlen
    clear hri hov hrv hbb hoc hom hlen
    obtain ⟨wo, rfl⟩ : ∃ x, x = wr := ⟨_, rfl⟩
    go_wp2_with fail
    go_loopw [8, 9] (fun kv iv wx => ∃ (i : Nat) (k : Int), iv = .int .i64 i ∧ kv = .int .i64 k ∧ i ≤ r.length ∧ Hid (Best r now i k) ∧ Hid (∃ q, wx = wo.drewN q)) (fun _ iv _ => r.length - (intOf iv).toNat)
    case atStart => exact ⟨0, -1, rfl, rfl, Nat.zero_le _, Best.start r now, 0, rfl⟩
    case round =>
      obtain ⟨i, k, rfl, rfl, hir, HBE, HX⟩ := hrel
      have HSX : Hid (Slk thC 2 wr (fun b => w.heap.size ≤ b) (.slice aor r.length capr) r) := by
        obtain ⟨q, rfl⟩ := HX.out
        exact HSL.out
      by_cases hi2 : i < r.length
      · obtain ⟨bo, off, rfl, hs, hbo, c0, c1⟩ := th_at HSX.out i hi2
        obtain ⟨ti, hti⟩ : ∃ x, x = r[i].tick := ⟨_, rfl⟩
        rw [← hti] at c1
        by_cases hd : ti ≤ now
        · have hdd := dec_ hd
          rcases HBE.out with ⟨hk, _⟩ | ⟨m, hm, hk, hmi, _⟩
          · subst hk
            have HN := Lib.hid (HBE.out.first hi2 (by rw [← hti]; exact hd))
            clear hti HBE
            go_upto_region 7 with (fail)
            go_quiet (fail)
            go_wp2_with fail
            go_roundw
            case rel =>
              refine ⟨i + 1, (i : Int), by go_num, rfl, hi2, HN, ?_⟩
              obtain ⟨q, hq⟩ := HX.out
              exact ⟨q + nq, by rw [hq]; simp [World.drewN, Nat.add_assoc]⟩
            case measure => simp [intOf]; omega
          · subst hk
            obtain ⟨bo', off', e, _, _, d0, d1⟩ := th_at HSX.out m hm
            injection e with e
            injection e with e1 e2 _
            subst e1; subst e2
            obtain ⟨tm, htm⟩ : ∃ x, x = r[m].tick := ⟨_, rfl⟩
            rw [← htm] at d1
            by_cases hlt : ti < tm
            · have HN := Lib.hid (HBE.out.less hi2 hm (by rw [← hti]; exact hd) (by rw [← hti, ← htm]; exact hlt))
              have hll := dec_ hlt
              clear hti htm HBE hlt
              go_upto_region 7 with (fail)
              go_quiet (fail)
              go_wp2_with fail
              go_roundw
              case rel =>
                refine ⟨i + 1, (i : Int), by go_num, rfl, hi2, HN, ?_⟩
                obtain ⟨q, hq⟩ := HX.out
                exact ⟨q + nq, by rw [hq]; simp [World.drewN, Nat.add_assoc]⟩
              case measure => simp [intOf]; omega
            · have HN := Lib.hid (HBE.out.more hi2 hm (by rw [← hti, ← htm]; exact hlt))
              have hll := decn_ hlt
              have hm0 := decn_ (show ¬ ((m : Int) < 0) by omega)
              clear hti htm HBE hlt hd
              go_upto_region 7 with (fail)
              go_quiet (fail)
              go_wp2_with fail
              go_roundw
              case rel =>
                refine ⟨i + 1, (m : Int), by go_num, rfl, hi2, HN, ?_⟩
                obtain ⟨q, hq⟩ := HX.out
                exact ⟨q + nq, by rw [hq]; simp [World.drewN, Nat.add_assoc]⟩
              case measure => simp [intOf]; omega
        · have hdd := decn_ hd
          have HN := Lib.hid (HBE.out.skip hi2 (by rw [← hti]; exact hd))
          clear hti HBE
          go_upto_region 7 with (fail)
          go_quiet (fail)
          go_wp2_with fail
          go_roundw
          case rel =>
            refine ⟨i + 1, k, by go_num, rfl, hi2, HN, ?_⟩
            obtain ⟨q, hq⟩ := HX.out
            exact ⟨q + nq, by rw [hq]; simp [World.drewN, Nat.add_assoc]⟩
          case measure => simp [intOf]; omega
      · obtain rfl : i = r.length := by omega
        clear hi2 hir
        have HX2 : Hid (RefIs l now dl r ∧ wr.ownsRow w.heap.size 9 1 (.slice aoo dl.length capo) dl.length (namesV dl) ∧ wr.ownsRow w.heap.size 49 2 (.slice aor r.length capr) r.length (r.flatMap thC) ∧ Below w.heap.size w wr) := by
          obtain ⟨q, rfl⟩ := HX.out
          exact ⟨HI.out.1, HI.out.2.1, HI.out.2.2.1, bdN HI.out.2.2.2 q⟩
        rcases HBE.out with ⟨hk, hno⟩ | ⟨m, hm, hk, _, hd, hb⟩
        · subst hk
          have HF := Lib.hid (rest_same HX2.out.1 HR.out (fun y hy => by obtain ⟨j, hj, rfl⟩ := List.getElem_of_mem hy; exact hno j hj hj))
          clear hno HBE
          go_wp2_with fail
          go_ret2
          obtain ⟨_, h2, h3, h4⟩ := HX2.out
          refine ⟨_, _, dl, rfl, HF.out.1, h2, ?_, h4⟩
          rw [← HF.out.2]
          exact h3
        · subst hk
          have HF := Lib.hid (HX2.out.1.step HR.out hm hd (fun j hj hjd => hb j hj hj hjd))
          obtain ⟨bo, off, e, _, _, c0, c1⟩ := th_at HSX.out m hm
          subst e
          have hm0 := decn_ (show ¬ ((m : Int) < 0) by omega)
          have hmr := hm
          obtain ⟨t, ht⟩ : ∃ t, t = r[m] := ⟨_, rfl⟩
          rw [← ht] at c0 c1 HF
          clear hb HBE hd ht
          have HDN : Hid (dl.length + 1 ≤ 1001) := by have := HLEN.out; exact (by omega : dl.length + 1 ≤ 1001)
          have HZ0 := Lib.hid HX2.out.2.2.2.size
          go_upto_region 12 with (at_builtin; refine list_app rfl (.tmp 48) (.tmp 54) 54 rfl w.heap.size 9 i1 (.string ⟨#[]⟩) 16 Try.underlying54 hi1 hz10 hz11 hz12 rfl _ dl.length (namesV dl) rfl (HX2.out.2.1.alloc _) (some ⟨wr.heap.size, 0, none⟩) 1 1 [.string t.name] rfl rfl (by simp) (by simp) (fun _ => ⟨_, rfl, fun jj u hu => cells_one wr _ _ jj u hu⟩) (by intro u hu; simp at hu; subst hu; rfl) (Nat.le_trans HDN.out (by decide : 1001 ≤ maxLen)) (by have := HDN.out; omega) (by have := HZ0.out; simp; omega) ?_; intro v3 w3 HO3 HG3)
          have t3 : Tch (fun b => w.heap.size ≤ b ∧ some b = Value.ownBlock (.slice aoo dl.length capo) ∨ wr.heap.size ≤ b) wr w3 :=
            ((Tch.refl _ wr).alloc _).grown HG3.out (fun g hg _ => .inl ⟨(own_base HX2.out.2.1 hg).1, hg.symm⟩)
          have hrow : w3.ownsRow w.heap.size 49 2 (.slice (some ⟨bo, off, none⟩) r.length capr) r.length (r.flatMap thC) := own_tch HX2.out.2.2.1 t3 (fun x hx h => by
            rcases h with ⟨_, h⟩ | h
            · exact own_sep HX2.out.2.2.1 HX2.out.2.1 (by decide) x hx h.symm
            · have := (own_base HX2.out.2.2.1 hx).2; omega)
          have HRr := Lib.hid (own_slk thC_len hrow)
          have HB3 : Hid (Below w.heap.size w w3) := ((Tch.of_below HX2.out.2.2.2).then (t3.more (T := (w.heap.size ≤ ·)) (fun x _ h => h.elim (fun h => h.1) (fun h => by have := HZ0.out; omega)))).below (fun x hx => by omega)
          have HO3' : Hid (w3.ownsRow w.heap.size 9 1 v3 (dl ++ [t]).length (namesV (dl ++ [t]))) := by
            have h := HO3.out
            unfold namesV at h ⊢
            rw [List.length_append, List.map_append]
            exact h
          have HZ3 := Lib.hid t3.size
          clear t3 hrow HO3 HG3 HX2 HI HSL HSX HX
          have BC := Lib.hid (Below.refl w3.heap.size w3)
          obtain ⟨m1, HM1⟩ : ∃ m1, Hid (m1 = m + 1) := ⟨_, rfl⟩
          have hw1 : IntKind.i64.wrap ((m : Int) + 1) = (m1 : Int) := by rw [HM1.out, IntWalk.i64_in _ (by omega)]; omega
          have hb1 : (0 : Int) ≤ (m1 : Int) := by omega
          have hb2 : (m1 : Int) ≤ (r.length : Int) := by have := HM1.out; omega
          have hb3 : (r.length : Int) ≤ (capr : Int) := by omega
          have hb4 : (m : Int) ≤ (capr : Int) := by omega
          have tok1 : True := trivial
          clear hm0 c0 c1
          go_region_held3 (fun x => Below w3.heap.size w3 x)
            ((first | exact BC.out | exact BC.out.drew | exact BC.out.drew.alloc (Nat.le_refl _) _ | exact BC.out.alloc (Nat.le_refl _) _))
            (first
             | (have _t := tok1; refine step_appK rfl (.tmp 56) (.tmp 59) 45 rfl w3.heap.size 49 i0 (.agg #[.string ⟨#[]⟩, .int .i64 0]) 2 24 Try.underlying45 hi hz0 hz1 hz2 rfl (by omega) _ 0 [] rfl (by exact World.ownsRow_made (size := 2) _ #[] 0 (Nat.le_refl _) (Nat.zero_le _) (by simp)) (some ⟨bo, off, none⟩) m capr ((r.take m).flatMap thC) rfl (by rw [flat_lengthK thC_len, List.length_take]; omega) (by simp) (by simp) (fun _ => ⟨_, rfl, ((HRr.out.since (by assumption)).head (n := m) (c2 := capr) (by omega) (by omega) (by omega)).flat thC_len⟩) (thC_one _) (by omega) (by omega) (by simp) ?_; intro v4 w4 HO4 HG4; replace BC : Hid (Below w3.heap.size w3 w4) := (by assumption : Below w3.heap.size w3 _).grown HG4.out (by simp) (fun j hj => by cases hj; exact Nat.le_refl _); clear tok1; have tok2 : True := trivial)
             | (have _t := tok2; refine step_appK rfl (.tmp 60) (.tmp 64) 45 rfl w3.heap.size 49 i0 (.agg #[.string ⟨#[]⟩, .int .i64 0]) 2 24 Try.underlying45 hi hz0 hz1 hz2 rfl (by omega) _ (0 + m) ([] ++ (r.take m).flatMap thC) rfl (by exact HO4.out) (if capr = m1 then some ⟨bo, off, none⟩ else some ⟨bo, off + m1 * 2, none⟩) (r.length - m1) (capr - m1) ((r.drop m1).flatMap thC) rfl (by rw [flat_lengthK thC_len, List.length_drop]) (by split <;> simp) (by split <;> simp) (fun h0 => ⟨⟨bo, off + m1 * 2, none⟩, if_neg (by omega), ((HRr.out.since (by assumption)).tail (n := m1) (m2 := r.length - m1) (c2 := capr - m1) (by omega) rfl (by omega) (by omega)).flat thC_len⟩) (thC_one _) (Nat.le_trans (by omega) (by decide : 2001 ≤ maxLen)) (by omega) (by exact BC.out.size) ?_; intro v5 w5 HO5 HG5; replace BC : Hid (Below w3.heap.size w3 w5) := (by assumption : Below w3.heap.size w3 _).grown HG5.out BC.out.size (fun j hj => (own_base HO4.out hj).1); clear tok2))
          have hm1 := HM1.out
          have hlen5 : (r.take m ++ r.drop m1).length = 0 + m + (r.length - m1) := by rw [List.length_append, List.length_take, List.length_drop]; omega
          have HO5' : Hid (w5.ownsRow w.heap.size 49 2 v5 (r.take m ++ r.drop m1).length ((r.take m ++ r.drop m1).flatMap thC)) := by
            have h := own_less HO5.out HB3.out.size
            rw [hlen5, List.flatMap_append]
            exact h
          have hsh := own_slk thC_len HO5'.out
          obtain ⟨ao5, cap5, e5, _, _⟩ := hsh.shape
          rw [hlen5] at e5
          have HF2 : Hid (RefIs l now (dl ++ [t]) (r.take m ++ r.drop m1)) := by rw [hm1]; exact HF.out
          have HS5 : Hid (w5.ownsRow w.heap.size 9 1 v3 (dl ++ [t]).length (namesV (dl ++ [t]))) := own_tch HO3'.out (tch_of_below BC.out (S := fun _ => False)) (by simp)
          have HB5 : Hid (Below w.heap.size w w5) := below_then2 HB3.out BC.out
          have hlt5 : 0 + m + (r.length - m1) < r.length := by omega
          clear hlen5 hsh HO5 HO4 HG4 HG5 HO3' HB3 hw1 hb1 hb2 hb3 hb4
          go_wp2_with fail
          go_roundw
          case rel => exact ⟨dl ++ [t], r.take m ++ r.drop m1, HF2.out, HS5.out, HO5'.out, HB5.out⟩
          case measure => subst e5; exact hlt5
end Go.Proofs.Ytohpbjbbkpllaaa
