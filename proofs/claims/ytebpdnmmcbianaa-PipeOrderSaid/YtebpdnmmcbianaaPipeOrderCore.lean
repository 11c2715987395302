/-
  PipeOrder: the core.
-/
import Derived.Test.YtebpdnmmcbianaaPipSpk
import Derived.BigRegion
import Derived.Deep.CutBlock
import Derived.Deep.DeepCutAuto
set_option linter.unusedVariables false
set_option linter.unusedSimpArgs false
set_option maxRecDepth 100000
namespace Go.Proofs.Ytebpdnmmcbianaa
open Go.RowKit

theorem sl_get {w : World} {S : Nat → Prop} {ao : Option Addr} {n cap : Nat} {xs : List Value} (h : Sl w S (.slice ao n cap) xs) (j : Nat) (hj : j < xs.length) :
    ∃ b off, ao = some ⟨b, off, none⟩ ∧ w.cell? ⟨b, off + j, none⟩ = some xs[j] := by
  obtain ⟨ao', cap', e, _, _, _, h4⟩ := h
  injection e with e1 _ _
  subst e1
  obtain ⟨b, off, e, _, _, hc⟩ := h4 (by omega)
  exact ⟨b, off, e, hc j hj⟩
/-- Two rows of texts of one's own. -/
def TwoS (w : World) (base : Nat) (vs vg : Value) (sent got : List ByteArray) : Prop := Two w base 9 1 vs sent.length (strsV sent) 9 1 vg got.length (strsV got)
theorem TwoS.swap {w : World} {base : Nat} {vs vg : Value} {sent got : List ByteArray} (h : TwoS w base vs vg sent got) : TwoS w base vg vs got sent := Two.swap h
theorem TwoS.keep {w w' : World} {base : Nat} {vs vg : Value} {sent got : List ByteArray} (h : TwoS w base vs vg sent got) {c : Nat} (ht : Tch (· = c) w w') (hc : c < base) : TwoS w' base vs vg sent got := Two.tch h ht (fun b hb _ e => by omega)
theorem TwoS.shape {w : World} {base : Nat} {vs vg : Value} {sent got : List ByteArray} (h : TwoS w base vs vg sent got) : ∃ ao cap, vs = .slice ao sent.length cap ∧ sent.length ≤ cap := by
  obtain ⟨ao, cap, h1, h2, _⟩ := own_shape (show w.ownsRow base 9 1 vs sent.length (strsV sent) from h.a)
  exact ⟨ao, cap, h1, h2⟩
/-- The pipe and the two rows. -/
structure OrdI (w wr : World) (P c B : Nat) (vs vg : Value) (sent got : List ByteArray) (l : List ItA) : Prop where
  two : TwoS wr B vs vg sent got
  pip : PipIs wr P c l
  eq : sent = got ++ l.map ItA.text
  ok : ∀ x ∈ l, x.broken = false
  new : New w wr
set_option maxHeartbeats 2000000 in
theorem pipeOrder_core (v : Value) (txs : List ByteArray) (tv : Value) (tk : List Int) (W : World) (hv : Sl W (· < W.heap.size) v (txs.map Value.string)) (htv : Sl W (· < W.heap.size) tv (tk.map (Value.int .u8))) :
    Calls Try.prog 8 #[v, tv] W fun e W' => e = .returned (.bool true) ∧ Below W.heap.size W W' := by
  have HV := Lib.hid hv
  have HTV := Lib.hid htv
  obtain ⟨aov, capv, rfl, _, _, _, _⟩ := hv
  obtain ⟨aot, capt, rfl, _, _, _, _⟩ := htv
  rw [List.length_map] at HV HTV
  simp only [List.length_map]
  obtain ⟨i0, hi0, hz0, hz1, hz2⟩ := info_parts info_str
  go_enter Try.func8, Try.ntmps8
  go_wp2_with fail
  refine (speaks7 W).mono ?_
  rintro e w1 ⟨rfl, hn⟩
  have HN1 := Lib.hid hn
  clear hn
  go_wp2_with fail
  refine (newp_ok w1).mono ?_
  rintro e w2 ⟨rfl, hp, hn⟩
  obtain ⟨c, hc⟩ : ∃ c, c = w1.heap.size := ⟨_, rfl⟩
  obtain ⟨P, hP⟩ : ∃ P, P = w1.heap.size + 1 := ⟨_, rfl⟩
  rw [← hP] at hp ⊢
  rw [← hc] at hp
  obtain ⟨B, hB⟩ : ∃ B, B = w2.heap.size := ⟨_, rfl⟩
  have HCW := Lib.hid (show W.heap.size ≤ c by rw [hc]; exact HN1.out.size)
  have HCB := Lib.hid (show c < B ∧ P < B by rw [hB]; exact ⟨hp.ch.lt, hp.bk.lt⟩)
  have HO := Lib.hid (show OrdI W w2 P c B (.slice none 0 0) (.slice none 0 0) [] [] [] from ⟨Two.start w2 B (by omega) _ _ _ _, hp, rfl, by simp, HN1.out.then hn⟩)
  have HBW := Lib.hid (show W.heap.size ≤ B by have := HN1.out.size; have := hn.size; omega)
  clear hc hP hp hn hB HN1
  go_upto_block 0 with fail
  go_cut [6, 7] (fun vs vg wr => ∃ sent got l, Hid (OrdI W wr P c B vs vg sent got l) ∧ Hid (sent.length ≤ 200))
  case first =>
    go_wp2_with fail
    go_loopw [6, 7, 8] (fun vs vg vi wr => ∃ (i : Nat) (sent got : List ByteArray) (l : List ItA), vi = .int .i64 i ∧ Hid (i ≤ txs.length ∧ i ≤ 200 ∧ sent.length ≤ i) ∧ Hid (OrdI W wr P c B vs vg sent got l)) (fun _ _ vi _ => txs.length - (intOf vi).toNat)
    case atStart => exact ⟨0, [], [], [], rfl, Lib.hid ⟨by omega, by omega, by simp⟩, HO⟩
    case round =>
      clear HO
      obtain ⟨i, sent, got, l, rfl, HI, HO⟩ := hrel
      by_cases hi : i < txs.length ∧ i < 200
      · obtain ⟨hi1, hi2⟩ := hi
        obtain ⟨b, off, rfl, c0⟩ := sl_get (HV.out.below HO.out.new.below) i (by simpa using hi1)
        simp only [List.getElem_map] at c0
        obtain ⟨tx, htx⟩ : ∃ tx, tx = txs[i] := ⟨_, rfl⟩
        rw [← htx] at c0
        clear htx
        go_upto_region 8 with fail
        go_region
        obtain ⟨mm, hmm⟩ : ∃ mm, mm = (if 8 < (tx.size : Int) then 8 else (tx.size : Int)) := ⟨_, rfl⟩
        rw [← hmm]
        obtain ⟨s, hs⟩ : ∃ s, s = tx.extract 0 mm.toNat := ⟨_, rfl⟩
        rw [← hs]
        clear hmm hs c0
        obtain ⟨w3, hw3⟩ : ∃ w3, w3 = wr.drew := ⟨_, rfl⟩
        rw [← hw3]
        have HO3 := Lib.hid (show OrdI W w3 P c B u6 u7 sent got l by
          rw [hw3]; exact ⟨Two.drew HO.out.two, HO.out.pip.new (New.refl _).drew, HO.out.eq, HO.out.ok, HO.out.new.drew⟩)
        clear hw3 HO
        have HLE := Lib.hid (plen_ok P c l w3 HO3.out.pip)
        go_wp2_with fail
        refine HLE.out.mono ?_
        rintro e w4 ⟨rfl, rfl⟩
        have HSE := Lib.hid (psend_ok P c s l w4 HO3.out.pip)
        clear HLE
        by_cases hr : l.length < 64
        · have hri : (l.length : Int) < 64 := by omega
          rw [dec_ hr, putL, if_pos hr] at HSE
          go_wp2_with fail
          refine HSE.out.mono ?_
          rintro e w5 ⟨rfl, hp, ht⟩
          have hsl : sent.length ≤ 100000 := by have := HI.out; omega
          have HE5 := Lib.hid (show sent ++ [s] = got ++ (l ++ [(⟨false, s⟩ : ItA)]).map ItA.text by rw [HO3.out.eq]; simp)
          have HOK := Lib.hid (show ∀ y ∈ l ++ [(⟨false, s⟩ : ItA)], y.broken = false from fun y hy => by
            rcases List.mem_append.1 hy with h | h
            · exact HO3.out.ok y h
            · rw [List.mem_singleton.1 h])
          have HSL := Lib.hid hsl
          have HP5 := Lib.hid (show PipIs (w5.alloc (.cells #[.string s] 9)) P c (l ++ [⟨false, s⟩]) from hp.new ((New.refl _).alloc _))
          have HT5 := Lib.hid (show TwoS (w5.alloc (.cells #[.string s] 9)) B u6 u7 sent got from Two.alloc (HO3.out.two.keep ht HCB.out.1) _)
          have HN5 := Lib.hid (show New W (w5.alloc (.cells #[.string s] 9)) from (new_of_ch HO3.out.new ht HCW.out).alloc _)
          have HB5 := Lib.hid (Bk.made w5 9 #[.string s])
          clear hp ht HSE hsl HO3
          go_wp2_with (at_builtin; go_loud (refine list_two rfl (.tmp 50) (.tmp 52) 52 rfl B 9 9 i0 (.string ⟨#[]⟩) 1 1 16 Try.underlying52 hi0 hz0 hz1 hz2 rfl (by omega) _ _ sent.length _ _ _ [.string s] w5.heap.size rfl (by simp [Act.eval, Act.put]) (by exact HT5.out) HB5.out rfl (by intro u hu; simp at hu; subst hu; rfl) (Nat.le_trans (show sent.length + 1 ≤ 100001 by have := HSL.out; omega) (by decide)) (by have := HSL.out; omega) ?_); intro bn cn w8 HT8 HG8)
          have HO5 := Lib.hid (show OrdI W w8 P c B (.slice (some ⟨bn, 0, none⟩) (sent.length + 1) cn) u7 (sent ++ [s]) got (l ++ [⟨false, s⟩]) from
            ⟨by have h := HT8.out; rw [strsV_app] at h; simpa [TwoS] using h, HP5.out.tch HG8.out.tch (fun e => by have := (own_base HT5.out.a e.symm).1; have := HCB.out; omega) (fun e => by have := (own_base HT5.out.a e.symm).1; have := HCB.out; omega), HE5.out, HOK.out, (HN5.out : Tch _ _ _).trans HG8.out.tch (fun b hb e => by have := (own_base HT5.out.a e.symm).1; have := HBW.out; omega)⟩)
          clear HT8 HG8 HE5 HOK HP5 HT5 HN5 HB5
          go_loopw [7, 11] (fun vg vk wx => ∃ (k : Nat) (got2 : List ByteArray) (l2 : List ItA), vk = .int .i64 k ∧ Hid (k ≤ 3) ∧ Hid (OrdI W wx P c B (.slice (some ⟨bn, 0, none⟩) (sent.length + 1) cn) vg (sent ++ [s]) got2 l2)) (fun _ vk _ => 4 - (intOf vk).toNat)
          case atStart => exact ⟨0, got, _, rfl, Lib.hid (by omega), HO5⟩
          case round =>
            clear HO5
            obtain ⟨k, got2, l2, rfl, HKB, HK⟩ := hrel
            have hkb := HKB.out
            by_cases hti : i < tk.length
            · obtain ⟨bt, ot, rfl, ct⟩ := sl_get (HTV.out.below HK.out.new.below) i (by simpa using hti)
              simp only [List.getElem_map] at ct
              obtain ⟨tc, htc⟩ : ∃ tc, tc = tk[i] := ⟨_, rfl⟩
              rw [← htc] at ct
              clear htc
              obtain ⟨m, hm, hm3⟩ := and3 tc
              by_cases hkm : k < m
              · rcases l2 with _ | ⟨x, l2⟩
                · have HTK := Lib.hid (take_none P c _ HK.out.pip)
                  go_wp2_with fail
                  refine HTK.out.mono ?_
                  rintro e w6 ⟨rfl, hp, ht⟩
                  have hk6 : OrdI W (w6.alloc (.cells #[.bool false, .string ⟨#[]⟩] 57)) P c B (.slice (some ⟨bn, 0, none⟩) (sent.length + 1) cn) u7 (sent ++ [s]) got2 [] :=
                    ⟨Two.alloc (HK.out.two.keep ht HCB.out.1) _, hp.new ((New.refl _).alloc _), HK.out.eq, by simp, (new_of_ch HK.out.new ht HCW.out).alloc _⟩
                  have HK6 := Lib.hid hk6
                  clear hp ht hk6 HTK
                  simp only [itV, zeroI]
                  go_wp2_with fail
                  go_roundw
                  case rel => exact ⟨k + 1, got2, [], rfl, Lib.hid (by omega), HK6⟩
                  case measure => simp [intOf]; omega
                · have HTK := Lib.hid (take_some P c x l2 _ HK.out.pip)
                  go_wp2_with fail
                  refine HTK.out.mono ?_
                  rintro e w6 ⟨rfl, hp, ht⟩
                  obtain ⟨w7, hw7⟩ : ∃ w7, w7 = w6.alloc (.cells #[.bool x.broken, .string x.text] 57) := ⟨_, rfl⟩
                  have HW7 := Lib.hid hw7
                  have HZ7 := Lib.hid (show w6.heap.size + 1 = w7.heap.size by rw [hw7]; simp)
                  have HE7 := Lib.hid (show (sent ++ [s]) = (got2 ++ [x.text]) ++ l2.map ItA.text by rw [HK.out.eq]; simp)
                  have HOK := Lib.hid (fun y hy => HK.out.ok y (List.mem_cons_of_mem _ hy))
                  have hgl : got2.length ≤ 100000 := by have h1 := congrArg List.length HK.out.eq; have h2 := HI.out; simp at h1; omega
                  have HGL := Lib.hid hgl
                  have HP7 := Lib.hid (show PipIs (w7.alloc (.cells #[.string x.text] 9)) P c l2 by rw [hw7]; exact hp.new (((New.refl _).alloc _).alloc _))
                  have HT7 := Lib.hid (show TwoS (w7.alloc (.cells #[.string x.text] 9)) B (.slice (some ⟨bn, 0, none⟩) (sent.length + 1) cn) u7 (sent ++ [s]) got2 by rw [hw7]; exact Two.alloc (Two.alloc (HK.out.two.keep ht HCB.out.1) _) _)
                  have HN7 := Lib.hid (show New W (w7.alloc (.cells #[.string x.text] 9)) by rw [hw7]; exact ((new_of_ch HK.out.new ht HCW.out).alloc _).alloc _)
                  have HB7 := Lib.hid (Bk.made w7 9 #[.string x.text])
                  clear hp ht HTK hw7 hgl
                  simp only [itV]
                  rw [show w7 = w7 from rfl] at HW7
                  go_wp2_with (at_builtin; go_loud ((try rw [← HW7.out]); refine list_two rfl (.tmp 76) (.tmp 79) 52 rfl B 9 9 i0 (.string ⟨#[]⟩) 1 1 16 Try.underlying52 hi0 hz0 hz1 hz2 rfl (by omega) _ _ got2.length _ _ _ [.string x.text] w7.heap.size rfl (by simp [Act.eval, Act.put]; exact HZ7.out) (by exact HT7.out.swap) HB7.out rfl (by intro u hu; simp at hu; subst hu; rfl) (Nat.le_trans (show got2.length + 1 ≤ 100001 by have := HGL.out; omega) (by decide)) (by have := HGL.out; omega) ?_); intro bn cn w8 HT8 HG8)
                  go_roundw
                  case rel => exact ⟨k + 1, got2 ++ [x.text], l2, rfl, Lib.hid (by omega), Lib.hid ⟨TwoS.swap (by have h := HT8.out; rw [strsV_app] at h; simpa [TwoS] using h), HP7.out.tch HG8.out.tch (fun e => by have := (own_base HT7.out.b e.symm).1; have := HCB.out; omega) (fun e => by have := (own_base HT7.out.b e.symm).1; have := HCB.out; omega), HE7.out, HOK.out, (HN7.out : Tch _ _ _).trans HG8.out.tch (fun b hb e => by have := (own_base HT7.out.b e.symm).1; have := HBW.out; omega)⟩⟩
                  case measure => simp [intOf]; omega
              · go_wp2_with fail
                go_roundw
                case rel => exact ⟨i + 1, sent ++ [s], got2, l2, rfl, Lib.hid (by have := HI.out; simp; omega), HK⟩
                case measure => simp [intOf]; omega
            · go_wp2_with fail
              go_roundw
              case rel => exact ⟨i + 1, sent ++ [s], got2, l2, rfl, Lib.hid (by have := HI.out; simp; omega), HK⟩
              case measure => simp [intOf]; omega
        · have hri : ¬ (l.length : Int) < 64 := by omega
          rw [decn_ hr, putL, if_neg hr] at HSE
          go_wp2_with fail
          refine HSE.out.mono ?_
          rintro e w5 ⟨rfl, hp, ht⟩
          have HO5 := Lib.hid (show OrdI W w5 P c B u6 u7 sent got l from ⟨HO3.out.two.keep ht HCB.out.1, hp, HO3.out.eq, HO3.out.ok, new_of_ch HO3.out.new ht HCW.out⟩)
          clear hp ht HSE HO3
          go_wp2_with fail
          go_loopw [7, 11] (fun vg vk wx => ∃ (k : Nat) (got2 : List ByteArray) (l2 : List ItA), vk = .int .i64 k ∧ Hid (k ≤ 3) ∧ Hid (OrdI W wx P c B (u6) vg (sent) got2 l2)) (fun _ vk _ => 4 - (intOf vk).toNat)
          case atStart => exact ⟨0, got, _, rfl, Lib.hid (by omega), HO5⟩
          case round =>
            clear HO5
            obtain ⟨k, got2, l2, rfl, HKB, HK⟩ := hrel
            have hkb := HKB.out
            by_cases hti : i < tk.length
            · obtain ⟨bt, ot, rfl, ct⟩ := sl_get (HTV.out.below HK.out.new.below) i (by simpa using hti)
              simp only [List.getElem_map] at ct
              obtain ⟨tc, htc⟩ : ∃ tc, tc = tk[i] := ⟨_, rfl⟩
              rw [← htc] at ct
              clear htc
              obtain ⟨m, hm, hm3⟩ := and3 tc
              by_cases hkm : k < m
              · rcases l2 with _ | ⟨x, l2⟩
                · have HTK := Lib.hid (take_none P c _ HK.out.pip)
                  go_wp2_with fail
                  refine HTK.out.mono ?_
                  rintro e w6 ⟨rfl, hp, ht⟩
                  have hk6 : OrdI W (w6.alloc (.cells #[.bool false, .string ⟨#[]⟩] 57)) P c B (u6) u7 (sent) got2 [] :=
                    ⟨Two.alloc (HK.out.two.keep ht HCB.out.1) _, hp.new ((New.refl _).alloc _), HK.out.eq, by simp, (new_of_ch HK.out.new ht HCW.out).alloc _⟩
                  have HK6 := Lib.hid hk6
                  clear hp ht hk6 HTK
                  simp only [itV, zeroI]
                  go_wp2_with fail
                  go_roundw
                  case rel => exact ⟨k + 1, got2, [], rfl, Lib.hid (by omega), HK6⟩
                  case measure => simp [intOf]; omega
                · have HTK := Lib.hid (take_some P c x l2 _ HK.out.pip)
                  go_wp2_with fail
                  refine HTK.out.mono ?_
                  rintro e w6 ⟨rfl, hp, ht⟩
                  obtain ⟨w7, hw7⟩ : ∃ w7, w7 = w6.alloc (.cells #[.bool x.broken, .string x.text] 57) := ⟨_, rfl⟩
                  have HW7 := Lib.hid hw7
                  have HZ7 := Lib.hid (show w6.heap.size + 1 = w7.heap.size by rw [hw7]; simp)
                  have HE7 := Lib.hid (show (sent) = (got2 ++ [x.text]) ++ l2.map ItA.text by rw [HK.out.eq]; simp)
                  have HOK := Lib.hid (fun y hy => HK.out.ok y (List.mem_cons_of_mem _ hy))
                  have hgl : got2.length ≤ 100000 := by have h1 := congrArg List.length HK.out.eq; have h2 := HI.out; simp at h1; omega
                  have HGL := Lib.hid hgl
                  have HP7 := Lib.hid (show PipIs (w7.alloc (.cells #[.string x.text] 9)) P c l2 by rw [hw7]; exact hp.new (((New.refl _).alloc _).alloc _))
                  have HT7 := Lib.hid (show TwoS (w7.alloc (.cells #[.string x.text] 9)) B (u6) u7 (sent) got2 by rw [hw7]; exact Two.alloc (Two.alloc (HK.out.two.keep ht HCB.out.1) _) _)
                  have HN7 := Lib.hid (show New W (w7.alloc (.cells #[.string x.text] 9)) by rw [hw7]; exact ((new_of_ch HK.out.new ht HCW.out).alloc _).alloc _)
                  have HB7 := Lib.hid (Bk.made w7 9 #[.string x.text])
                  clear hp ht HTK hw7 hgl
                  simp only [itV]
                  rw [show w7 = w7 from rfl] at HW7
                  go_wp2_with (at_builtin; go_loud ((try rw [← HW7.out]); refine list_two rfl (.tmp 76) (.tmp 79) 52 rfl B 9 9 i0 (.string ⟨#[]⟩) 1 1 16 Try.underlying52 hi0 hz0 hz1 hz2 rfl (by omega) _ _ got2.length _ _ _ [.string x.text] w7.heap.size rfl (by simp [Act.eval, Act.put]; exact HZ7.out) (by exact HT7.out.swap) HB7.out rfl (by intro u hu; simp at hu; subst hu; rfl) (Nat.le_trans (show got2.length + 1 ≤ 100001 by have := HGL.out; omega) (by decide)) (by have := HGL.out; omega) ?_); intro bn cn w8 HT8 HG8)
                  go_roundw
                  case rel => exact ⟨k + 1, got2 ++ [x.text], l2, rfl, Lib.hid (by omega), Lib.hid ⟨TwoS.swap (by have h := HT8.out; rw [strsV_app] at h; simpa [TwoS] using h), HP7.out.tch HG8.out.tch (fun e => by have := (own_base HT7.out.b e.symm).1; have := HCB.out; omega) (fun e => by have := (own_base HT7.out.b e.symm).1; have := HCB.out; omega), HE7.out, HOK.out, (HN7.out : Tch _ _ _).trans HG8.out.tch (fun b hb e => by have := (own_base HT7.out.b e.symm).1; have := HBW.out; omega)⟩⟩
                  case measure => simp [intOf]; omega
              · go_wp2_with fail
                go_roundw
                case rel => exact ⟨i + 1, sent, got2, l2, rfl, Lib.hid (by have := HI.out; simp; omega), HK⟩
                case measure => simp [intOf]; omega
            · go_wp2_with fail
              go_roundw
              case rel => exact ⟨i + 1, sent, got2, l2, rfl, Lib.hid (by have := HI.out; simp; omega), HK⟩
              case measure => simp [intOf]; omega
      · have HOUT : Hid (∃ sent got l, Hid (OrdI W wr P c B u6 u7 sent got l) ∧ Hid (sent.length ≤ 200)) := Lib.hid ⟨sent, got, l, HO, Lib.hid (by have := HI.out; omega)⟩
        by_cases hi1 : i < txs.length
        · have hi2 : ¬ i < 200 := by omega
          go_wp2_with fail
          go_meet
          exact HOUT.out
        · go_wp2_with fail
          go_meet
          exact HOUT.out
  case rest =>
    clear HO
    obtain ⟨sent, got, l, HO, HS⟩ := hcut
    go_wp2_with fail
    go_loopw [7] (fun vg wx => ∃ (got2 : List ByteArray) (l2 : List ItA), Hid (OrdI W wx P c B u6 vg sent got2 l2)) (fun vg _ => 1000 - lenOf vg)
    case atStart => exact ⟨got, l, HO⟩
    case round =>
      clear HO
      obtain ⟨got2, l2, HK⟩ := hrel
      obtain ⟨aog, capg, hvg, hgc⟩ := HK.out.two.swap.shape
      subst hvg
      have HLE := Lib.hid (plen_ok P c l2 _ HK.out.pip)
      rcases l2 with _ | ⟨⟨br, tx⟩, l2⟩
      · have hge : sent = got2 := by have := HK.out.eq; simpa using this
        subst hge
        obtain ⟨aos, caps, hvs, hsc⟩ := HK.out.two.shape
        subst hvs
        go_wp2_with fail
        refine HLE.out.mono ?_
        rintro e w5 ⟨rfl, rfl⟩
        clear HLE
        go_wp2_with fail
        go_loopw [16] (fun v wx => ∃ j : Nat, v = .int .i64 j ∧ Hid (j ≤ sent.length) ∧ Hid (New w5 wx)) (fun v _ => sent.length - (intOf v).toNat)
        case atStart => exact ⟨0, rfl, Lib.hid (by omega), Lib.hid (New.refl _)⟩
        case round =>
          obtain ⟨j, rfl, HJ, HNj⟩ := hrel
          have hjb : j ≤ 200 := by have := HJ.out; have := HS.out; omega
          by_cases hj : j < sent.length
          · have H1 := own_sl (show _ from (Two.new HK.out.two HNj.out).a)
            have H2 := own_sl (show _ from (Two.new HK.out.two HNj.out).b)
            obtain ⟨bs, os, rfl, cs⟩ := sl_get H1 j (by simpa [strsV] using hj)
            obtain ⟨bg, og, rfl, cg⟩ := sl_get H2 j (by simpa [strsV] using hj)
            simp only [strsV, List.getElem_map] at cs cg
            obtain ⟨x, hx⟩ : ∃ x, x = sent[j] := ⟨_, rfl⟩
            rw [← hx] at cs cg
            have hne : (x.toList != x.toList) = false := str_nne rfl
            clear hx H1 H2
            go_upto_region 30 with fail
            go_region
            go_wp2_with fail
            go_roundw
            case rel => exact ⟨j + 1, rfl, Lib.hid (by omega), Lib.hid (by first | exact HNj.out.drew | exact HNj.out)⟩
            case measure => simp [intOf]; omega
          · go_wp2_with fail
            go_ret
            exact ⟨rfl, (HK.out.new.then HNj.out).below⟩
      · obtain rfl : br = false := HK.out.ok ⟨br, tx⟩ (by simp)
        have hgl : got2.length < sent.length := by have := congrArg List.length HK.out.eq; simp at this; omega
        have hlp : (0 : Int) < (((⟨false, tx⟩ : ItA) :: l2).length : Int) := by simp
        have HGS := Lib.hid hgl
        go_wp2_with fail
        refine HLE.out.mono ?_
        rintro e w5 ⟨rfl, rfl⟩
        have HTK := Lib.hid (take_some P c ⟨false, tx⟩ l2 _ HK.out.pip)
        clear HLE hgl
        go_wp2_with fail
        refine HTK.out.mono ?_
        rintro e w6 ⟨rfl, hp, ht⟩
        obtain ⟨w7, hw7⟩ : ∃ w7, w7 = w6.alloc (.cells #[.bool false, .string tx] 57) := ⟨_, rfl⟩
        have HW7 := Lib.hid hw7
        have HZ7 := Lib.hid (show w6.heap.size + 1 = w7.heap.size by rw [hw7]; simp)
        have HE7 := Lib.hid (show sent = (got2 ++ [tx]) ++ l2.map ItA.text by rw [HK.out.eq]; simp)
        have HOK := Lib.hid (fun y hy => HK.out.ok y (List.mem_cons_of_mem _ hy))
        have HP7 := Lib.hid (show PipIs (w7.alloc (.cells #[.string tx] 9)) P c l2 by rw [hw7]; exact hp.new (((New.refl _).alloc _).alloc _))
        have HT7 := Lib.hid (show TwoS (w7.alloc (.cells #[.string tx] 9)) B u6 (.slice aog got2.length capg) sent got2 by rw [hw7]; exact Two.alloc (Two.alloc (HK.out.two.keep ht HCB.out.1) _) _)
        have HN7 := Lib.hid (show New W (w7.alloc (.cells #[.string tx] 9)) by rw [hw7]; exact ((new_of_ch HK.out.new ht HCW.out).alloc _).alloc _)
        have HB7 := Lib.hid (Bk.made w7 9 #[.string tx])
        clear hp ht HTK hw7
        simp only [itV]
        go_wp2_with (at_builtin; go_loud ((try rw [← HW7.out]); refine list_two rfl (.tmp 95) (.tmp 98) 52 rfl B 9 9 i0 (.string ⟨#[]⟩) 1 1 16 Try.underlying52 hi0 hz0 hz1 hz2 rfl (by omega) _ _ got2.length _ _ _ [.string tx] w7.heap.size rfl (by simp [Act.eval, Act.put]; exact HZ7.out) (by exact HT7.out.swap) HB7.out rfl (by intro u hu; simp at hu; subst hu; rfl) (Nat.le_trans (show got2.length + 1 ≤ 100001 by have := HGS.out; have := HS.out; omega) (by decide)) (by have := HGS.out; have := HS.out; omega) ?_); intro bn cn w8 HT8 HG8)
        go_roundw
        case rel => exact ⟨got2 ++ [tx], l2, Lib.hid ⟨TwoS.swap (by have h := HT8.out; rw [strsV_app] at h; simpa [TwoS] using h), HP7.out.tch HG8.out.tch (fun e => by have := (own_base HT7.out.b e.symm).1; have := HCB.out; omega) (fun e => by have := (own_base HT7.out.b e.symm).1; have := HCB.out; omega), HE7.out, HOK.out, (HN7.out : Tch _ _ _).trans HG8.out.tch (fun b hb e => by have := (own_base HT7.out.b e.symm).1; have := HBW.out; omega)⟩⟩
        case measure => simp only [lenOf]; have := HGS.out; have := HS.out; omega
end Go.Proofs.Ytebpdnmmcbianaa
