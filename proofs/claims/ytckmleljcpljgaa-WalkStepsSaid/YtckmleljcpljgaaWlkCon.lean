/-
  Package walk: step, Mix, Join.
-/
import Derived.Test.YtckmleljcpljgaaViwSpk
set_option linter.unusedVariables false
set_option linter.unusedSimpArgs false
set_option maxRecDepth 100000
namespace Go.Proofs.Ytckmleljcpljgaa
open Go.RowKit Go.Lib Go.Sort Go.Shelf

/-- A step: whether it ends, the next node, whether the node is known. -/
structure StA where
  e : Bool
  n : Int
  k : Bool
def stV (s : StA) : Value := .agg #[.bool s.e, .int .i64 s.n, .bool s.k]
def offL (x : VA) (a b : Int) : List Int := x.act.filter fun y => !([a, b] : List Int).contains y
def stepA (x : VA) (a b left : Int) (ds : List Int) : StA × List Int :=
  if left < 1 then (⟨true, 0, false⟩, ds) else if offL x a b = [] then (⟨true, 0, false⟩, ds) else (⟨false, pick (offL x a b) ds, false⟩, belowT ds (offL x a b).length)
def joinA (x : VA) (a b left know : Int) (ds : List Int) : StA × List Int :=
  if x.act.length < 2 then (⟨true, 0, false⟩, ds) else ({ (stepA x a b left ds).1 with k := !(stepA x a b left ds).1.e && decide (left = know) }, (stepA x a b left ds).2)
theorem stepA_gl {x : VA} {a b left : Int} {ds : List Int} (h : 0 < (stepA x a b left ds).2.length) : 0 < ds.length := by
  unfold stepA at h
  split at h
  · exact h
  · split at h
    · exact h
    · exact belowT_le ds _ h
theorem DrawP.own {w w1 w2 : World} {dv : Value} {D : Option Nat} {g : Nat} {ds ds0 : List Int} (h : DrawP w1 dv D g ds) (h0 : DrawP w dv D g ds0) (k : Tch (fun b => w.heap.size ≤ b) w1 w2) (hg : 0 < ds.length → g < w.heap.size) : DrawP w2 dv D g ds := by
  rcases h with h | ⟨d, h1, h2, h3⟩
  · exact .inl h
  · refine .inr ⟨d, h1, h2, h3.tch k (fun e => ?_) (fun p e => by have := hg p; omega)⟩
    rcases h0 with ⟨_, e2, _⟩ | ⟨d', _, e2, h4⟩
    · rw [h2] at e2; cases e2
    · rw [h2] at e2; injection e2 with e2; subst e2
      have := h4.lt
      omega
def StR (s : StA) (ds : List Int) (dv : Value) (D : Option Nat) (g : Nat) (w : World) (e : Ending) (w' : World) : Prop := e = .returned (stV s) ∧ Hid (DrawP w' dv D g ds) ∧ Hid (VT D w w')
theorem st_fin {w w1 w2 : World} {dv : Value} {D : Option Nat} {g : Nat} {ds ds0 : List Int} (hd : DrawP w1 dv D g ds) (h0 : DrawP w dv D g ds0) (hn : VT D w w1) (hg : 0 < ds.length → g < w.heap.size) (ht : Tch (fun b => w.heap.size ≤ b) w1 w2) : Hid (DrawP w2 dv D g ds) ∧ Hid (VT D w w2) :=
  ⟨hd.own h0 ht hg, Tch.trans hn ht fun b hb hs => .inr hs⟩
theorem Bk.three {w : World} {g : Nat} {t : TypeId} {a b c : Value} (h : Bk w g t #[a, b, c]) :
    (w.cell? ⟨g, 0, none⟩ = some a ∧ w.cell? ⟨g, 1, none⟩ = some b ∧ w.cell? ⟨g, 2, none⟩ = some c) ∧ w.frozen? ⟨g, 0, none⟩ = false ∧ w.frozen? ⟨g, 1, none⟩ = false ∧ w.frozen? ⟨g, 2, none⟩ = false :=
  ⟨⟨h.cell 0, h.cell 1, h.cell 2⟩, h.frozen _, h.frozen _, h.frozen _⟩
def zS : Array Value := #[.bool false, .int .i64 0, .bool false]
theorem start3 (w : World) (cs : Array Value) (w1 : World) (h : New ((w.alloc (.cells cs 30)).alloc (.cells zS 67)) w1) :
    Bk w1 w.heap.size 30 cs ∧ Bk w1 (w.heap.size + 1) 67 zS ∧ New w w1 :=
  ⟨h.bk ((Bk.made w _ _).alloc _), h.bk (by simpa using Bk.made (w.alloc (.cells cs 30)) 67 zS), (((New.refl w).alloc _).alloc _).then h⟩
theorem step_ne_draw : (67 : TypeId) ≠ 78 := by decide
set_option maxHeartbeats 1000000 in
theorem step_ok (x : VA) (sa sp : Value) (a b left : Int) (dv : Value) (D : Option Nat) (g : Nat) (ds : List Int) (w : World) (h : ViwS w x sa sp) (hd : DrawP w dv D g ds) :
    Calls Try.prog 45 #[viwV x sa sp, .int .i64 a, .int .i64 b, .int .i64 left, dv] w (StR (stepA x a b left ds).1 (stepA x a b left ds).2 dv D g w) := by
  obtain ⟨⟨ao, al, ac, rfl⟩, po, pl, pc, rfl⟩ := h.slices
  obtain ⟨self, A, P, act, pas⟩ := x
  have H := Lib.hid h
  have HD := Lib.hid hd
  obtain ⟨w0, hw0⟩ : ∃ w0, w0 = (w.alloc (.cells #[.int .i64 self, .int .i64 A, .slice ao al ac, .int .i64 P, .slice po pl pc] 30)).alloc (.cells zS 67) := ⟨_, rfl⟩
  obtain ⟨k0, k1, hn0⟩ := start3 w #[.int .i64 self, .int .i64 A, .slice ao al ac, .int .i64 P, .slice po pl pc] w0 (by rw [hw0]; exact New.refl _)
  have HK0 := Lib.hid k0
  have HK1 := Lib.hid k1
  have HN0 := Lib.hid hn0
  clear h hd k0 k1 hn0
  unfold viwV
  simp only
  go_enter Try.func45, Try.ntmps45
  go_upto_region 1 with fail
  have hw0' : w0 = (w.alloc (.cells #[.int .i64 self, .int .i64 A, .slice ao al ac, .int .i64 P, .slice po pl pc] 30)).alloc (.cells #[.bool false, .int .i64 0, .bool false] 67) := hw0
  rw [← hw0']
  clear hw0 hw0'
  obtain ⟨⟨b0, b1, b2⟩, b3, b4, b5⟩ := (show Bk w0 (w.heap.size + 1) 67 #[.bool false, .int .i64 0, .bool false] from HK1.out).three
  by_cases hl : left < 1
  · have HE := Lib.hid (show stepA ⟨self, A, P, act, pas⟩ a b left ds = (⟨true, 0, false⟩, ds) by unfold stepA; rw [if_pos hl])
    go_wp2_with fail
    rw [HE.out]
    refine bodyPost_ret (v := stV ⟨true, 0, false⟩) (by simp [results, Try.results45, go_sem, b0, b1, b2, stV]) rfl ⟨rfl, ?_⟩
    refine st_fin (HD.out.new HN0.out) HD.out (VT.of HN0.out) HD.out.gl ?_
    repeat (refine Tch.setCell ?_ (fun _ => by show w.heap.size ≤ w.heap.size + 1; omega) _)
    exact Tch.refl _ _
  · obtain ⟨⟨a0, a1, a2, a3, a4⟩, a5, a6, a7, a8, a9⟩ := HK0.out.five
    obtain ⟨w1, hw1⟩ : ∃ w1, w1 = w0.alloc (.cells #[.int .i64 a, .int .i64 b] 3) := ⟨_, rfl⟩
    have hn1 : New w0 w1 := by rw [hw1]; exact (New.refl _).alloc _
    have hsl : Sl w1 (· = w0.heap.size) (.slice (some ⟨w0.heap.size, 0, none⟩) 2 2) (ints [a, b]) := by rw [hw1]; exact sl_made w0 3 (ints [a, b]) (by rw [ints_length]; exact (by decide : 2 ≤ maxLen))
    have HBT := Lib.hid (but_set (.agg #[.int .i64 A, .slice ao al ac]) A act [a, b] (.slice (some ⟨w0.heap.size, 0, none⟩) 2 2) w1 (H.out.new (HN0.out.then hn1)).seta hsl (by simp))
    obtain ⟨L, hL⟩ : ∃ L, L = offL ⟨self, A, P, act, pas⟩ a b := ⟨_, rfl⟩
    have hL2 : (act.filter fun y => !([a, b] : List Int).contains y) = L := hL.symm
    rw [hL2] at HBT
    have HN1 := Lib.hid (HN0.out.then hn1)
    have HK11 := Lib.hid (hn1.bk HK1.out)
    have HE1 := Lib.hid (show L = [] → stepA ⟨self, A, P, act, pas⟩ a b left ds = (⟨true, 0, false⟩, ds) by intro e; unfold stepA; rw [if_neg hl, ← hL, if_pos e])
    have HE2 := Lib.hid (show L ≠ [] → stepA ⟨self, A, P, act, pas⟩ a b left ds = (⟨false, pick L ds, false⟩, belowT ds L.length) by intro e; unfold stepA; rw [if_neg hl, ← hL, if_neg e])
    have HLL := Lib.hid (show L.length ≤ 64 by
      have h1 := H.out.good.act.le
      have h2 := H.out.good.act.cap
      rw [← hL2]
      have := List.length_filter_le (fun y => !([a, b] : List Int).contains y) act
      simp only at h1 h2
      omega)
    clear hn1 hsl hL hL2 b0 b1 b2 b3 b4 b5
    go_wp2_with fail
    rw [← hw1]
    clear hw1
    refine HBT.out.mono ?_
    rintro e w2 ⟨vl, rfl, hs2, hb2⟩
    obtain ⟨lo, lc, hvl, _, _, _, _⟩ := slr_ints hs2
    subst hvl
    have hn2 := New.of hb2
    have HN2 := Lib.hid (HN1.out.then hn2)
    have HK12 := Lib.hid (hn2.bk HK11.out)
    have HS2 := Lib.hid hs2
    clear HBT hs2 hb2 hn2 HK11 HN1 a0 a1 a2 a3 a4 a5 a6 a7 a8 a9
    by_cases hemp : L = []
    · obtain ⟨⟨b0, b1, b2⟩, b3, b4, b5⟩ := (show Bk w2 (w.heap.size + 1) 67 #[.bool false, .int .i64 0, .bool false] from HK12.out).three
      have HE := Lib.hid (HE1.out hemp)
      have hno := none_lay dv lo lc w2
      have hl0 : L.length = 0 := by rw [hemp]; rfl
      clear hemp
      rw [hl0]
      clear hl0
      go_wp2_with fail
      refine hno.mono ?_
      rintro e w3 ⟨rfl, rfl⟩
      go_wp2_with fail
      rw [HE.out]
      refine bodyPost_ret (v := stV ⟨true, 0, false⟩) (by simp [results, Try.results45, go_sem, b0, b1, b2, stV]) rfl ⟨rfl, ?_⟩
      refine st_fin (HD.out.new HN2.out) HD.out (VT.of HN2.out) HD.out.gl ?_
      repeat (refine Tch.setCell ?_ (fun _ => by show w.heap.size ≤ w.heap.size + 1; omega) _)
      exact Tch.refl _ _
    · have hone := one_lay dv D g ds (.slice lo L.length lc) L w2 (HD.out.new HN2.out) HS2.out hemp
      have HE := Lib.hid (HE2.out hemp)
      obtain ⟨y, hy⟩ : ∃ y, y = pick L ds := ⟨_, rfl⟩
      obtain ⟨d2, hd2⟩ : ∃ d2, d2 = belowT ds L.length := ⟨_, rfl⟩
      have HGL := Lib.hid (show 0 < d2.length → g < w.heap.size from fun e => HD.out.gl (belowT_le ds _ (by rw [← hd2]; exact e)))
      rw [← hy, ← hd2] at hone HE
      clear hemp hy hd2
      go_wp2_with fail
      refine hone.mono ?_
      rintro e w4 ⟨rfl, hd4, hv4⟩
      have k14 := hv4.out.bk HK12.out ((HD.out.new HN2.out).ne HK12.out step_ne_draw)
      obtain ⟨⟨b0, b1, b2⟩, b3, b4, b5⟩ := (show Bk w4 (w.heap.size + 1) 67 #[.bool false, .int .i64 0, .bool false] from k14).three
      have HV4 := Lib.hid ((VT.of HN2.out).then hv4.out)
      clear hone k14
      go_wp2_with fail
      rw [HE.out]
      refine bodyPost_ret (v := stV ⟨false, y, false⟩) (by simp [results, Try.results45, go_sem, b0, b1, b2, stV]) rfl ⟨rfl, ?_⟩
      refine st_fin hd4.out HD.out HV4.out HGL.out ?_
      repeat (refine Tch.setCell ?_ (fun _ => by show w.heap.size ≤ w.heap.size + 1; omega) _)
      exact Tch.refl _ _
set_option maxHeartbeats 1000000 in
theorem mix_ok (x : VA) (sa sp : Value) (a b left : Int) (dv : Value) (D : Option Nat) (g : Nat) (ds : List Int) (w : World) (h : ViwS w x sa sp) (hd : DrawP w dv D g ds) :
    Calls Try.prog 32 #[viwV x sa sp, .int .i64 a, .int .i64 b, .int .i64 left, dv] w (StR (stepA x a b left ds).1 (stepA x a b left ds).2 dv D g w) := by
  obtain ⟨⟨ao, al, ac, rfl⟩, po, pl, pc, rfl⟩ := h.slices
  have H := Lib.hid h
  have HD := Lib.hid hd
  obtain ⟨w0, hw0⟩ : ∃ w0, w0 = (w.alloc (.cells (viwC x (.slice ao al ac) (.slice po pl pc)) 30)).alloc (.cells zS 67) := ⟨_, rfl⟩
  obtain ⟨k0, k1, hn0⟩ := start3 w (viwC x (.slice ao al ac) (.slice po pl pc)) w0 (by rw [hw0]; exact New.refl _)
  have HK0 := Lib.hid k0
  have HK1 := Lib.hid k1
  have HN0 := Lib.hid hn0
  have HST := Lib.hid (step_ok x _ _ a b left dv D g ds w0 (h.new hn0) (hd.new hn0))
  have HGL := Lib.hid (fun e => hd.gl (stepA_gl (x := x) (a := a) (b := b) (left := left) (ds := ds) e))
  obtain ⟨⟨s, d2⟩, hs⟩ : ∃ q, q = stepA x a b left ds := ⟨_, rfl⟩
  rw [← hs] at HST HGL ⊢
  simp only at HST HGL ⊢
  clear h hd k0 k1 hn0 hs
  obtain ⟨self, A, P, act, pas⟩ := x
  unfold viwV at HST ⊢
  unfold viwC at hw0
  simp only at HST hw0 ⊢
  go_enter Try.func32, Try.ntmps32
  go_upto_region 1 with fail
  have hw0' : w0 = (w.alloc (.cells #[.int .i64 self, .int .i64 A, .slice ao al ac, .int .i64 P, .slice po pl pc] 30)).alloc (.cells #[.bool false, .int .i64 0, .bool false] 67) := hw0
  rw [← hw0']
  clear hw0 hw0'
  obtain ⟨⟨a0, a1, a2, a3, a4⟩, a5, a6, a7, a8, a9⟩ := (show Bk w0 w.heap.size 30 #[.int .i64 self, .int .i64 A, .slice ao al ac, .int .i64 P, .slice po pl pc] from HK0.out).five
  go_wp2_with fail
  refine HST.out.mono ?_
  rintro e w4 ⟨rfl, hd4, hv4⟩
  have k14 := hv4.out.bk HK1.out ((HD.out.new HN0.out).ne HK1.out step_ne_draw)
  obtain ⟨⟨b0, b1, b2⟩, b3, b4, b5⟩ := (show Bk w4 (w.heap.size + 1) 67 #[.bool false, .int .i64 0, .bool false] from k14).three
  have HV4 := Lib.hid ((VT.of HN0.out).then hv4.out)
  obtain ⟨se, sn, sk⟩ := s
  clear HST k14 a0 a1 a2 a3 a4 a5 a6 a7 a8 a9
  unfold stV
  simp only
  go_wp2_with fail
  refine bodyPost_ret (v := stV ⟨se, sn, sk⟩) (by simp [results, Try.results32, go_sem, b0, b1, b2, stV]) rfl ⟨rfl, ?_⟩
  refine st_fin hd4.out HD.out HV4.out HGL.out ?_
  repeat (refine Tch.setCell ?_ (fun _ => by show w.heap.size ≤ w.heap.size + 1; omega) _)
  exact Tch.refl _ _
end Go.Proofs.Ytckmleljcpljgaa
