/-
  Package stream: Feed.
-/
import Derived.Test.YtebpdnmmcbianaaStrFeed
import Derived.Test.YtebpdnmmcbianaaCopyStr
import Derived.Test.YtebpdnmmcbianaaAppAt
import Derived.Deep.RegionWith
import Derived.Deep.RegionHeld3
set_option linter.unusedVariables false
set_option linter.unusedSimpArgs false
set_option maxRecDepth 100000
namespace Go.Proofs.Ytebpdnmmcbianaa
open Go.RowKit

/-- The messages that Feed has told: the row of their cells, each reads as its message, apart from the row. -/
def Told (w : World) (base : Nat) (v : Value) (ms : List (MsgA × MsgV)) : Prop :=
  w.ownsRow base 30 7 v ms.length (ms.flatMap fun x => (msgC x.1 x.2).toList) ∧ ∀ x ∈ ms, MsgIs w (fun b => base ≤ b ∧ v.ownBlock ≠ some b) x.1 x.2

theorem lay_at {cs : Array Value} {o i : Nat} {xs : List Value} (ho : o + xs.length ≤ cs.size) (hi : o + xs.length ≤ i) : (lay cs o xs)[i]? = cs[i]? := by
  have h1 : (cs.toList.take o).length = o := by rw [List.length_take, Array.length_toList]; omega
  unfold lay
  rw [List.getElem?_toArray, List.getElem?_append_right (by omega), h1, List.getElem?_append_right (by omega), List.getElem?_drop, Array.getElem?_toList]
  congr 1
  omega
theorem msg_info : (Try.prog.info? 30).map (fun i => (i.zero, i.size, i.bytes)) = some (some (.agg zeroC), 7, 104) := by kernel_rfl
theorem msgC_one (m : MsgA) (a c : Option Addr) (e : Option Addr) (n1 n2 n3 c1 c2 c3 : Nat) : ∀ u ∈ (msgC m ⟨.slice a n1 c1, .slice c n2 c2, .slice e n3 c3⟩).toList, u.oneCell' = true := by
  intro u hu
  simp [msgC] at hu
  rcases hu with rfl | rfl | rfl | rfl | rfl | rfl | rfl <;> rfl
theorem Told.tch {w w' : World} {base : Nat} {v : Value} {ms : List (MsgA × MsgV)} {S : Nat → Prop} (h : Told w base v ms) (ht : Tch S w w') (hS : ∀ b, base ≤ b → ¬ S b) : Told w' base v ms :=
  ⟨own_tch h.1 ht (fun b hb => hS b (own_base h.1 hb).1), fun x hx => (h.2 x hx).tch ht (fun b hb => hS b hb.1)⟩
set_option maxHeartbeats 2000000 in
theorem feed_ok (P : Nat) (l : List UInt8) (st : St) (w : World) (hsp : SpIs w P st) (hc : Calm st) (hl : l.length ≤ 1000000) :
    Calls Try.prog 17 #[.pointer (some ⟨P, 0, none⟩), .string (str l)] w
      (fun e w' => ∃ v ms, e = .returned v ∧ Told w' w.heap.size v ms ∧ SpIs w' P (runS st l).1 ∧ ms.map (·.1) = (runS st l).2 ∧ Tch (· = P) w w') := by
  have HSP := Lib.hid hsp
  have HC := Lib.hid hc
  have HLP := Lib.hid hsp.lt
  clear hsp hc
  go_enter Try.func17, Try.ntmps17
  go_wp2_with fail
  go_loopw [1, 5] (fun vs vl wr => ∃ (l1 : List UInt8) (s1 : St) (ms : List (MsgA × MsgV)), vs = .string (str l1) ∧ ms.length + l1.length ≤ l.length ∧ Hid (Told wr w.heap.size vl ms) ∧ Hid (SpIs wr P s1) ∧ Hid (Calm s1) ∧ Hid (Tch (· = P) w wr) ∧ Hid (runS st l = ((runS s1 l1).1, ms.map (·.1) ++ (runS s1 l1).2))) (fun vs _ _ => match vs with | .string s => s.size | _ => 0)
  case atStart => exact ⟨l, st, [], rfl, by simp, Lib.hid ⟨World.ownsRow_nil _ _ _ _, by simp⟩, HSP, HC, Lib.hid (Tch.refl _ _), Lib.hid (by simp)⟩
  case round =>
    obtain ⟨l1, s1, ms, rfl, hl1, HTO, HSP1, HC1, HT1, HR1⟩ := hrel
    obtain ⟨cs, hbs, hcs⟩ := HSP1.out
    have p1 := hbs.cell 4098
    have p2 := hbs.cell 4099
    rw [hcs.have_] at p1
    rw [hcs.bad] at p2
    have HBS := Lib.hid hbs
    have HCS := Lib.hid hcs
    clear hbs hcs
    by_cases hn : l1 = []
    · subst hn
      have hse : (str []).toList.isEmpty = true := by decide +kernel
      go_wp2_with fail
      go_ret
      have hr := HR1.out
      simp only [runS, List.append_nil] at hr
      exact ⟨_, ms, rfl, HTO.out, by rw [hr]; exact HSP1.out, by rw [hr], HT1.out⟩
    · have hse : (str l1).toList.isEmpty = false := by
        rw [List.isEmpty_eq_false_iff]
        intro e
        exact hn (str_inj (toList_inj (e.trans (show ([] : List UInt8) = (str []).toList from by decide +kernel))))
      by_cases hb : s1.bad = 0
      · have hbi : ((s1.bad : Int) == 0) = true := beq_ (by omega)
        obtain ⟨fr, bd⟩ := s1
        obtain rfl : bd = 0 := hb
        obtain ⟨k1, k2⟩ := HC1.out rfl
        simp only at k1 k2 p1 p2
        obtain ⟨en, hen⟩ : ∃ en, en = endOf fr := ⟨_, rfl⟩
        rw [← hen] at k1 k2
        have HEN := Lib.hid hen
        have hlp : 0 < l1.length := List.length_pos_iff.2 hn
        obtain ⟨k, hk⟩ : ∃ k, k = min (en - fr.length) l1.length := ⟨_, rfl⟩
        have HN := Lib.hid hn
        have hsz := str_size l1
        have hkk : k = min (str l1).size (en - fr.length) := by rw [hsz, hk, Nat.min_comm]
        have HKK := Lib.hid hkk
        have HK := Lib.hid hk
        have hz : cs.size = 4100 := HCS.out.size
        have HZ := Lib.hid (show fr.length + k ≤ cs.size by omega)
        have hsz1 : (Try.prog.info? 5).map (·.size) = some 1 := by kernel_rfl
        have g1 : (fr.length : Int) ≤ (en : Int) := by omega
        have g2 : (en : Int) ≤ 4098 := by omega
        have BC := Lib.hid (New.refl wr)
        have BL : Hid True := Lib.hid trivial
        have KEEP : Hid (∀ z, New wr z → z.cell? ⟨P, 4098, none⟩ = some (.int .i64 fr.length)) := Lib.hid fun z hz => hz.cell p1
        have KEEP2 : Hid (∀ z, Bk z P 40 (lay cs fr.length (((str l1).data.toList.take k).map fun b => Value.int .u8 b.toNat)) → z.cell? ⟨P, 4098, none⟩ = some (.int .i64 fr.length)) := Lib.hid (fun z hz => by rw [hz.cell, lay_at (by rw [List.length_map, List.length_take]; have := HZ.out; omega) (by rw [List.length_map, List.length_take]; have := HK.out; omega)]; exact HCS.out.have_)
        clear hn hk hsz hkk hen hz
        go_upto_region 5 with fail
        go_region_held3 (fun z => z.cell? ⟨P, 4098, none⟩ = some (.int .i64 fr.length))
          ((first | (refine KEEP.out _ ?_; first | exact BC.out.drew | exact BC.out) | exact KEEP2.out _ BL.out))
          (first
            | (go_at_call 54; refine (spend_ok P ⟨fr, 0⟩ _ (by exact HSP1.out.new (by first | exact BC.out.drew | exact BC.out))).mono ?_; rintro e y1 ⟨rfl, hn1⟩; simp only; rw [← HEN.out]; replace BC : Hid (New wr y1) := Lib.hid ((by first | exact BC.out.drew | exact BC.out : New wr _).then hn1); clear hn1)
            | (refine step_copy_str rfl (.tmp 29) (.tmp 30) 23 9 rfl 5 Try.underlying23 hsz1 P fr.length (en - fr.length) (4098 - fr.length) k (str l1) (by simp [Act.eval, Act.put]; intro e; omega) (by simp [Act.eval, Act.put]) cs 40 (by first | exact BC.out.drew.bk HBS.out | exact BC.out.bk HBS.out) HKK.out HZ.out ?_; intro w4 HB4 HT4; replace BL := HB4))
        all_goals
          have q1 := KEEP2.out _ HB4.out
          have fz := HB4.out.frozen 4098
          have kl : (k : Int) ≤ ((str l1).size : Int) := by have := HKK.out; omega
          have HT5 := Lib.hid (HT1.out.then ((BC.out.since P).then HT4.out))
          have HB5 := HB4
          clear p1 p2 KEEP
          go_wp2_with fail
          obtain ⟨p, hp⟩ : ∃ p, p = l1.take k := ⟨_, rfl⟩
          have hkl : k ≤ l1.length := by have := HK.out; omega
          have hpl : p.length = k := by rw [hp, List.length_take]; omega
          have h64 : wrap64 ((fr.length : Int) + (k : Int)) = (((fr ++ p).length : Nat) : Int) := by
            rw [List.length_append, hpl]
            have hb64 : (fr.length : Int) + (k : Int) ≤ 4098 := by have := HK.out; omega
            have h2 : wrap64 ((fr.length : Int) + (k : Int)) = (fr.length : Int) + (k : Int) := by first | (unfold wrap64; omega) | (simp [wrap64]; omega)
            omega
          rw [h64]
          obtain ⟨w5, hw5⟩ : ∃ w5, w5 = w4.setCell ⟨P, 4098, none⟩ (.int .i64 ((fr ++ p).length : Nat)) := ⟨_, rfl⟩
          rw [← hw5]
          have hsp5 : SpIs w5 P ⟨fr ++ p, 0⟩ := by
            have hbk := HB5.out.store 4098 (.int .i64 ((fr ++ p).length : Nat))
            rw [str_data, ← hp, ← hw5] at hbk
            exact ⟨_, hbk, HCS.out.laid (by have := HK.out; omega)⟩
          have hstep := feed_step fr l1 k HC1.out HN.out (by rw [HK.out, HEN.out])
          rw [← hp] at hstep
          have HT6 := Lib.hid (show Tch (· = P) w w5 by rw [hw5]; exact HT5.out.setCell (fun _ => rfl) _)
          have HT7 := Lib.hid (show Tch (· = P) wr w5 by rw [hw5]; exact ((BC.out.since P).then HT4.out).setCell (fun _ => rfl) _)
          have HST := Lib.hid hstep
          have hx : (str l1).extract k (str l1).size = str (l1.drop k) := str_tail l1 k
          have hkp : 0 < k := by have := HK.out; omega
          rw [hx]
          clear hp hstep q1 fz KEEP2 HB4 HB5 HT4 HT5 h64 hx hw5
          refine (spnext_ok P _ w5 hsp5).mono ?_
          rintro e w6 ⟨ht6, hsp6, ⟨rfl, h0⟩ | ⟨m, v, rfl, h1, hm⟩⟩
          · have HT8 := Lib.hid (HT6.out.then ht6)
            have HT9 := Lib.hid (HT7.out.then ht6)
            have HS6 := Lib.hid hsp6
            have H0 := Lib.hid h0
            clear ht6 hsp6 h0 hsp5
            simp only [zeroC]
            go_wp2_with fail
            go_roundw
            case rel => exact ⟨l1.drop k, (settle (fr ++ p)).1, ms, rfl, by rw [List.length_drop]; omega, Lib.hid (HTO.out.tch (HT9.out.alloc _) (fun b hb e => by have := HLP.out; omega)), Lib.hid (HS6.out.new ((New.refl _).alloc _)), Lib.hid (settle_calm _), Lib.hid (HT8.out.alloc _), Lib.hid (by rw [HR1.out, HST.out, H0.out]; simp)⟩
            case measure => simp [str_size]; omega
          · obtain ⟨i0, hi0, hz0, hz1, hz2⟩ := info_parts msg_info
            obtain ⟨vn, vi, vr⟩ := v
            obtain ⟨an, cn, e1, _, _⟩ := hm.n.shape
            obtain ⟨ai, ci, e2, _, _⟩ := hm.i.shape
            obtain ⟨ar, cr, e3, _, _⟩ := hm.r.shape
            simp only at e1 e2 e3
            subst e1 e2 e3
            have HT8 := Lib.hid (HT6.out.then ht6)
            have HT9 := Lib.hid (HT7.out.then ht6)
            have HS6 := Lib.hid hsp6
            have H1 := Lib.hid h1
            have hto6 := HTO.out.tch HT9.out (fun b hb e => by have := HLP.out; omega)
            have HTO6 := Lib.hid hto6
            have HM := Lib.hid hm
            have hw6 := HT8.out.size
            clear ht6 hsp6 h1 hsp5 hto6 hm
            simp only [msgC]
            have hbk7 : Bk ((w6.alloc (.cells (msgC m ⟨.slice an m.nodes.length cn, .slice ai m.ids.length ci, .slice ar m.recs.length cr⟩) 30)).alloc (.cells (msgC m ⟨.slice an m.nodes.length cn, .slice ai m.ids.length ci, .slice ar m.recs.length cr⟩) 30)) (w6.heap.size + 1) 30 (msgC m ⟨.slice an m.nodes.length cn, .slice ai m.ids.length ci, .slice ar m.recs.length cr⟩) := by
              have hbk := Bk.made (w6.alloc (.cells (msgC m ⟨.slice an m.nodes.length cn, .slice ai m.ids.length ci, .slice ar m.recs.length cr⟩) 30)) 30 (msgC m ⟨.slice an m.nodes.length cn, .slice ai m.ids.length ci, .slice ar m.recs.length cr⟩)
              rw [show (w6.alloc (.cells (msgC m ⟨.slice an m.nodes.length cn, .slice ai m.ids.length ci, .slice ar m.recs.length cr⟩) 30)).heap.size = w6.heap.size + 1 by simp] at hbk
              exact hbk
            have HBK7 := Lib.hid hbk7
            clear hbk7
            have h63 : ms.length + 1 ≤ maxLen := Nat.le_trans (show ms.length + 1 ≤ 1000001 by omega) (by decide)
            go_wp2_with (at_builtin; go_loud (refine list_app_at rfl (.tmp 49) (.tmp 51) 25 rfl w.heap.size 30 i0 (.agg zeroC) 7 104 Try.underlying25 hi0 hz0 hz1 hz2 rfl (by omega) _ ms.length _ rfl (by exact (own_tch HTO6.out.1 (((Tch.refl (fun _ => False) w6).alloc _).alloc _) (fun _ _ h => h))) ⟨w6.heap.size + 1, 0, none⟩ 1 1 (msgC m ⟨.slice an m.nodes.length cn, .slice ai m.ids.length ci, .slice ar m.recs.length cr⟩).toList (by simp [Act.eval, Act.put]) rfl (by omega) (fun jj u hu => by rw [Addr.add_lit, Nat.zero_add]; exact (HBK7.out.cell jj).trans (by rw [← Array.getElem?_toList]; exact hu)) (msgC_one m _ _ _ _ _ _ _ _ _) h63 (by omega) (by simp; omega) ?_); intro v' w8 HO8 HG8 HV8)
            have t8 : Tch (fun b => some b = u5.ownBlock) w6 w8 := Tch.grown (((Tch.refl _ w6).alloc _).alloc _) HG8.out (fun g hg _ => hg.symm)
            have T8 := Lib.hid t8
            have HV := Lib.hid (show ∀ b, v'.ownBlock = some b → u5.ownBlock = some b ∨ w6.heap.size ≤ b from fun b hb => by
              rcases HV8.out with h | h
              · exact .inl ((show v'.ownBlock = u5.ownBlock from h).symm.trans hb)
              · rw [h] at hb
                have := Option.some.inj hb
                simp at this
                exact .inr (by omega))
            have TS := Lib.hid (show Tch (· = P) w w8 from HT8.out.trans t8 (fun b hb hs => by have := (own_base HTO6.out.1 hs.symm).1; omega))
            have TP := Lib.hid (show ¬ (some P = u5.ownBlock) from fun hs => by have := (own_base HTO6.out.1 hs.symm).1; have := HLP.out; omega)
            clear t8
            go_roundw
            case rel =>
              refine ⟨l1.drop k, (settle (fr ++ p)).1, ms ++ [(m, ⟨.slice an m.nodes.length cn, .slice ai m.ids.length ci, .slice ar m.recs.length cr⟩)], rfl, by rw [List.length_append, List.length_drop]; simp; omega, Lib.hid ⟨?_, ?_⟩, Lib.hid (HS6.out.tch T8.out TP.out), Lib.hid (settle_calm _), TS, Lib.hid (by rw [HR1.out, HST.out, H1.out]; simp)⟩
              · have h := HO8.out
                rw [List.length_append, List.flatMap_append]
                simpa using h
              · intro x hx
                rcases List.mem_append.1 hx with hx | hx
                · refine (((HTO6.out.2 x hx).more (T := fun b => w.heap.size ≤ b ∧ u5.ownBlock ≠ some b ∧ b < w6.heap.size) (fun b hb h => ⟨h.1, h.2, hb⟩)).tch T8.out (fun b h e => h.2.1 e.symm)).more (fun b _ h => ⟨h.1, fun hv => ?_⟩)
                  rcases HV.out b hv with h2 | h2
                  · exact h.2.1 h2
                  · exact absurd h.2.2 (by omega)
                · obtain rfl := List.mem_singleton.1 hx
                  refine ((HM.out.more (T := fun b => w5.heap.size ≤ b ∧ b < w6.heap.size) (fun b hb h => ⟨h, hb⟩)).tch T8.out (fun b h e => by have := (own_base HTO.out.1 e.symm).2; have := HT7.out.size; omega)).more (fun b _ h => ⟨by have := HT6.out.size; omega, fun hv => ?_⟩)
                  rcases HV.out b hv with h2 | h2
                  · have := (own_base HTO.out.1 h2).2
                    have := HT7.out.size
                    omega
                  · exact absurd h.2 (by omega)
            case measure => simp [str_size]; omega
      · have hbi : ((s1.bad : Int) == 0) = false := bne_ (by omega)
        go_wp2_with fail
        go_ret
        have hr := HR1.out
        rw [runS_bad _ _ hb] at hr
        simp only [List.append_nil] at hr
        exact ⟨_, ms, rfl, HTO.out, by rw [hr]; exact HSP1.out, by rw [hr], HT1.out⟩
end Go.Proofs.Ytebpdnmmcbianaa
