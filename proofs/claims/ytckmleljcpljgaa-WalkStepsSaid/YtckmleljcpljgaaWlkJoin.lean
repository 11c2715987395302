/-
  Package walk: Join; the reference's next node; speaks.
-/
import Derived.Test.YtckmleljcpljgaaWlkCon
import Derived.Test.YtckmleljcpljgaaNodeSort
set_option linter.unusedVariables false
set_option linter.unusedSimpArgs false
set_option maxRecDepth 100000
namespace Go.Proofs.Ytckmleljcpljgaa
open Go.RowKit Go.Lib Go.Sort Go.Shelf

theorem joinA_gl {x : VA} {a b left know : Int} {ds : List Int} (h : 0 < (joinA x a b left know ds).2.length) : 0 < ds.length := by
  unfold joinA at h
  split at h
  · exact h
  · exact stepA_gl h
set_option maxHeartbeats 1000000 in
theorem wjoin_ok (x : VA) (sa sp : Value) (a b left know : Int) (dv : Value) (D : Option Nat) (g : Nat) (ds : List Int) (w : World) (h : ViwS w x sa sp) (hd : DrawP w dv D g ds) :
    Calls Try.prog 31 #[viwV x sa sp, .int .i64 a, .int .i64 b, .int .i64 left, .int .i64 know, dv] w (StR (joinA x a b left know ds).1 (joinA x a b left know ds).2 dv D g w) := by
  obtain ⟨⟨ao, al, ac, rfl⟩, po, pl, pc, rfl⟩ := h.slices
  have H := Lib.hid h
  have HD := Lib.hid hd
  obtain ⟨w0, hw0⟩ : ∃ w0, w0 = (w.alloc (.cells (viwC x (.slice ao al ac) (.slice po pl pc)) 30)).alloc (.cells zS 67) := ⟨_, rfl⟩
  obtain ⟨k0, k1, hn0⟩ := start3 w (viwC x (.slice ao al ac) (.slice po pl pc)) w0 (by rw [hw0]; exact New.refl _)
  have HK0 := Lib.hid k0
  have HK1 := Lib.hid k1
  have HN0 := Lib.hid hn0
  have HLE := Lib.hid (len_lay x.A (.slice ao al ac) x.act w0 (h.new hn0).seta)
  have HST := Lib.hid (fun (wy : World) (k : New w0 wy) => step_ok x _ _ a b left dv D g ds wy ((h.new hn0).new k) ((hd.new hn0).new k))
  have HGL := Lib.hid (fun e => hd.gl (stepA_gl (x := x) (a := a) (b := b) (left := left) (ds := ds) e))
  have HJ1 := Lib.hid (show x.act.length < 2 → joinA x a b left know ds = (⟨true, 0, false⟩, ds) from fun e => by unfold joinA; rw [if_pos e])
  have HJ2 := Lib.hid (show ¬ x.act.length < 2 → joinA x a b left know ds = ({ (stepA x a b left ds).1 with k := !(stepA x a b left ds).1.e && decide (left = know) }, (stepA x a b left ds).2) from fun e => by unfold joinA; rw [if_neg e])
  obtain ⟨⟨s, d2⟩, hs⟩ : ∃ q, q = stepA x a b left ds := ⟨_, rfl⟩
  rw [← hs] at HST HGL HJ2
  simp only at HST HGL HJ2
  obtain ⟨nn, hnn⟩ : ∃ nn, nn = x.act.length := ⟨_, rfl⟩
  rw [← hnn] at HLE HJ1 HJ2
  clear h hd k0 k1 hn0 hs hnn
  obtain ⟨self, A, P, act, pas⟩ := x
  unfold viwV at HST ⊢
  unfold viwC at hw0
  simp only at HST HLE hw0 ⊢
  go_enter Try.func31, Try.ntmps31
  go_upto_region 1 with fail
  have hw0' : w0 = (w.alloc (.cells #[.int .i64 self, .int .i64 A, .slice ao al ac, .int .i64 P, .slice po pl pc] 30)).alloc (.cells #[.bool false, .int .i64 0, .bool false] 67) := hw0
  rw [← hw0']
  clear hw0 hw0'
  obtain ⟨⟨a0, a1, a2, a3, a4⟩, a5, a6, a7, a8, a9⟩ := (show Bk w0 w.heap.size 30 #[.int .i64 self, .int .i64 A, .slice ao al ac, .int .i64 P, .slice po pl pc] from HK0.out).five
  go_wp2_with fail
  refine HLE.out.mono ?_
  rintro e w1 ⟨rfl, hn1⟩
  have HN1 := hn1
  have HK01 := Lib.hid (hn1.out.bk HK0.out)
  have HK11 := Lib.hid (hn1.out.bk HK1.out)
  clear hn1 HLE a0 a1 a2 a3 a4 a5 a6 a7 a8 a9
  by_cases h2 : nn < 2
  · have h2i : (nn : Int) < 2 := by omega
    have HE := Lib.hid (HJ1.out h2)
    obtain ⟨⟨b0, b1, b2⟩, b3, b4, b5⟩ := (show Bk w1 (w.heap.size + 1) 67 #[.bool false, .int .i64 0, .bool false] from HK11.out).three
    clear h2
    go_wp2_with fail
    rw [HE.out]
    refine bodyPost_ret (v := stV ⟨true, 0, false⟩) (by simp [results, Try.results31, go_sem, b0, b1, b2, stV]) rfl ⟨rfl, ?_⟩
    refine st_fin (HD.out.new (HN0.out.then HN1.out)) HD.out (VT.of (HN0.out.then HN1.out)) HD.out.gl ?_
    repeat (refine Tch.setCell ?_ (fun _ => by show w.heap.size ≤ w.heap.size + 1; omega) _)
    exact Tch.refl _ _
  · have h2i : ¬ (nn : Int) < 2 := by omega
    have HE := Lib.hid (HJ2.out h2)
    obtain ⟨⟨a0, a1, a2, a3, a4⟩, a5, a6, a7, a8, a9⟩ := (show Bk w1 w.heap.size 30 #[.int .i64 self, .int .i64 A, .slice ao al ac, .int .i64 P, .slice po pl pc] from HK01.out).five
    have hst := HST.out w1 HN1.out
    clear h2
    go_wp2_with fail
    refine hst.mono ?_
    rintro e w4 ⟨rfl, hd4, hv4⟩
    have k14 := hv4.out.bk HK11.out (((HD.out.new HN0.out).new HN1.out).ne HK11.out step_ne_draw)
    have HV4 := Lib.hid ((VT.of (HN0.out.then HN1.out)).then hv4.out)
    obtain ⟨se, sn, sk⟩ := s
    obtain ⟨w5, hw5⟩ : ∃ w5, w5 = w4.alloc (.cells #[.bool se, .int .i64 sn, .bool sk] 67) := ⟨_, rfl⟩
    have hn5 : New w4 w5 := by rw [hw5]; exact (New.refl _).alloc _
    have k15 := hn5.bk k14
    have k5 : Bk w5 w4.heap.size 67 #[.bool se, .int .i64 sn, .bool sk] := by rw [hw5]; exact Bk.made _ _ _
    obtain ⟨⟨b0, b1, b2⟩, b3, b4, b5⟩ := (show Bk w5 (w.heap.size + 1) 67 #[.bool false, .int .i64 0, .bool false] from k15).three
    obtain ⟨⟨c0, c1, c2⟩, c3, c4, c5⟩ := k5.three
    have HD5 := Lib.hid (hd4.out.new hn5)
    have HV5 := Lib.hid (HV4.out.then (VT.of hn5))
    have hz4 : w.heap.size + 1 < w4.heap.size := k14.lt
    have HZ4 := Lib.hid hz4
    clear hst k14 k15 k5 hn5 hd4 hv4 a0 a1 a2 a3 a4 a5 a6 a7 a8 a9
    unfold stV
    simp only
    go_upto_region 4 with fail
    rw [← hw5]
    clear hw5
    simp only at HE
    cases se with
    | true =>
      go_wp2_with fail
      rw [HE.out]
      refine bodyPost_ret (v := stV ⟨true, sn, false⟩) (by simp [results, Try.results31, go_sem, b0, b1, b2, stV]) rfl ⟨rfl, ?_⟩
      refine st_fin HD5.out HD.out HV5.out HGL.out ?_
      repeat (refine Tch.setCell ?_ (fun _ => by first | (show w.heap.size ≤ w.heap.size + 1; omega) | (show w.heap.size ≤ w4.heap.size; have := HZ4.out; omega)) _)
      exact Tch.refl _ _
    | false =>
      by_cases hlk : left = know
      · have t1 : (left == know) = true := by simp [hlk]
        have HT := Lib.hid (dec_ hlk)
        clear hlk
        go_wp2_with fail
        rw [HE.out, HT.out]
        refine bodyPost_ret (v := stV ⟨false, sn, true⟩) (by simp [results, Try.results31, go_sem, b0, b1, b2, stV]) rfl ⟨rfl, ?_⟩
        refine st_fin HD5.out HD.out HV5.out HGL.out ?_
        repeat (refine Tch.setCell ?_ (fun _ => by first | (show w.heap.size ≤ w.heap.size + 1; omega) | (show w.heap.size ≤ w4.heap.size; have := HZ4.out; omega)) _)
        exact Tch.refl _ _
      · have t1 : (left == know) = false := by simp [hlk]
        have HT := Lib.hid (decn_ hlk)
        clear hlk
        go_wp2_with fail
        rw [HE.out, HT.out]
        refine bodyPost_ret (v := stV ⟨false, sn, false⟩) (by simp [results, Try.results31, go_sem, b0, b1, b2, stV]) rfl ⟨rfl, ?_⟩
        refine st_fin HD5.out HD.out HV5.out HGL.out ?_
        repeat (refine Tch.setCell ?_ (fun _ => by first | (show w.heap.size ≤ w.heap.size + 1; omega) | (show w.heap.size ≤ w4.heap.size; have := HZ4.out; omega)) _)
        exact Tch.refl _ _
end Go.Proofs.Ytckmleljcpljgaa
