/-
  Package mesh: a mesh by what is on its ways; Break, Send.
-/
import Derived.Test.YthobffgkggfooaaMesLink
set_option linter.unusedVariables false
set_option linter.unusedSimpArgs false
set_option maxRecDepth 100000
namespace Go.Proofs.Ythobffgkggfooaa
open Go.RowKit Go.Maps

abbrev Ways := Int × Int → List ItA
def setI (it : Ways) (k : Int × Int) (l : List ItA) : Ways := fun q => if q = k then l else it q
def brk : ItA := ⟨true, ⟨#[]⟩⟩
/-- A mesh at M: its live nodes, and what is on each way; no empty pipe is kept. -/
def MeshA (w : World) (M B N : Nat) (lv : List Int) (it : Ways) : Prop := ∃ bl bp es, MeshI w M bl bp B N lv es ∧ (∀ k, itemsAt es k = it k) ∧ ∀ e ∈ es, e.2.l ≠ []
theorem MeshA.new {w w1 : World} {M B N : Nat} {lv : List Int} {it : Ways} (h : MeshA w M B N lv it) (k : New w w1) : MeshA w1 M B N lv it := by
  obtain ⟨bl, bp, es, h1, h2, h3⟩ := h
  exact ⟨bl, bp, es, h1.new k, h2, h3⟩
theorem MeshA.more {w : World} {M B N K : Nat} {lv : List Int} {it : Ways} (h : MeshA w M B N lv it) (k : N ≤ K) : MeshA w M B K lv it := by
  obtain ⟨bl, bp, es, h1, h2, h3⟩ := h
  exact ⟨bl, bp, es, h1.more k, h2, h3⟩
theorem MeshA.base {w : World} {M B N : Nat} {lv : List Int} {it : Ways} (h : MeshA w M B N lv it) : B ≤ w.heap.size := by
  obtain ⟨bl, bp, es, h1, _⟩ := h
  have := h1.le.1
  have := h1.box.lt
  omega
theorem liveA (M B N : Nat) (lv : List Int) (it : Ways) (n : Int) (w : World) (h : MeshA w M B N lv it) (hn : I64 n) :
    Calls Try.prog 47 #[.pointer (some ⟨M, 0, none⟩), .int .i64 n] w fun e w' => e = .returned (.bool (decide (n ∈ lv))) ∧ New w w' := by
  obtain ⟨bl, bp, es, h1, h2, h3⟩ := h
  exact live_ok M bl bp B N lv es n w h1 hn
theorem lenA (M B N : Nat) (lv : List Int) (it : Ways) (a b : Int) (w : World) (h : MeshA w M B N lv it) (ha : I64 a) (hb : I64 b) :
    Calls Try.prog 45 #[.pointer (some ⟨M, 0, none⟩), .int .i64 a, .int .i64 b] w fun e w' => e = .returned (.int .i64 (it (a, b)).length) ∧ w' = w := by
  obtain ⟨bl, bp, es, h1, h2, h3⟩ := h
  have := mlen_ok M bl bp B N lv es (a, b) w h1 ⟨ha, hb⟩
  rw [h2] at this
  exact this
theorem upA (M B N : Nat) (lv : List Int) (it : Ways) (n : Int) (w : World) (h : MeshA w M B N lv it) (hn : 1 ≤ n ∧ n ≤ 65535) (hN : N < 1000000) :
    Calls Try.prog 33 #[.pointer (some ⟨M, 0, none⟩), .int .i64 n] w fun e w' => e = .returned (.tuple #[]) ∧ MeshA w' M B (N + 1) (upL lv n) it ∧ MT B w w' := by
  obtain ⟨bl, bp, es, h1, h2, h3⟩ := h
  refine (up_ok M bl bp B N lv es n w h1 hn hN).mono ?_
  rintro e w' ⟨rfl, hm, ht⟩
  exact ⟨rfl, ⟨bl, bp, es, hm, h2, h3⟩, ht⟩
theorem newA (w : World) : Calls Try.prog 32 #[] w fun e w' => e = .returned (.pointer (some ⟨w.heap.size + 1 + 1, 0, none⟩)) ∧ MeshA w' (w.heap.size + 1 + 1) w.heap.size 0 [] (fun _ => []) ∧ New w w' := by
  refine (newm_ok w).mono ?_
  rintro e w' ⟨rfl, hm, hn⟩
  exact ⟨rfl, ⟨_, _, [], hm, fun k => rfl, by simp⟩, hn⟩
/-- A mesh while link's caller holds the pipe p of the way k. -/
def Held (w : World) (M B N : Nat) (lv : List Int) (it : Ways) (k : Int × Int) (p : PA) : Prop :=
  ∃ bl bp es, MeshI w M bl bp B N lv es ∧ getE es k = some p ∧ p.l = it k ∧ (∀ q, q ≠ k → itemsAt es q = it q) ∧ ∀ e ∈ es, e.1 ≠ k → e.2.l ≠ []
theorem getE_app {es : List ((Int × Int) × PA)} {k q : Int × Int} {p : PA} : getE (es ++ [(k, p)]) q = match getE es q with | some x => some x | none => if k = q then some p else none := by
  unfold getE
  rw [List.find?_append]
  cases es.find? (fun e => decide (e.1 = q)) with
  | some t => rfl
  | none =>
    simp only [Option.none_or, Option.map_none]
    by_cases h : k = q
    · simp [h]
    · simp [h]
theorem linkA (M B N : Nat) (lv : List Int) (it : Ways) (a b : Int) (w : World) (h : MeshA w M B N lv it) (ha : I64 a) (hb : I64 b) (hN : N < 1000000) :
    Calls Try.prog 62 #[.pointer (some ⟨M, 0, none⟩), .int .i64 a, .int .i64 b] w fun e w' => ∃ p : PA, e = .returned (.pointer (some ⟨p.P, 0, none⟩)) ∧ Held w' M B (N + 1) lv it (a, b) p ∧ MT B w w' := by
  obtain ⟨bl, bp, es, h1, h2, h3⟩ := h
  cases hg : getE es (a, b) with
  | some p =>
    refine (link_old M bl bp B N lv es (a, b) p w h1 ⟨ha, hb⟩ hg).mono ?_
    rintro e w' ⟨rfl, hn⟩
    refine ⟨p, rfl, ⟨bl, bp, es, (h1.new hn).more (by omega), hg, ?_, fun q _ => h2 q, fun e he _ => h3 e he⟩, MT.of_new hn⟩
    rw [← h2]
    simp [itemsAt, hg]
  | none =>
    refine (link_new M bl bp B N lv es (a, b) w h1 ⟨ha, hb⟩ hg hN).mono ?_
    rintro e w' ⟨p, rfl, hl, hc, hm, ht⟩
    refine ⟨p, rfl, ⟨bl, bp, es ++ [((a, b), p)], hm, ?_, ?_, fun q hq => ?_, fun e he hk => ?_⟩, ht⟩
    · rw [getE_app, hg]; simp
    · rw [hl, ← h2]; simp [itemsAt, hg]
    · rw [← h2]
      unfold itemsAt
      rw [getE_app]
      cases getE es q with
      | some x => rfl
      | none => simp [Ne.symm hq]
    · rcases List.mem_append.1 he with he | he
      · exact h3 e he
      · obtain rfl := List.mem_singleton.1 he
        exact absurd rfl hk
theorem getE_set (es : List ((Int × Int) × PA)) (k q : Int × Int) (l : List ItA) : getE (setE es k l) q = if q = k then (getE es q).map (fun p => { p with l := l }) else getE es q := by
  unfold getE setE
  rw [List.find?_map]
  have hf : ((fun e : (Int × Int) × PA => decide (e.1 = q)) ∘ fun e => if e.1 = k then (e.1, { e.2 with l := l }) else e) = fun e => decide (e.1 = q) := by
    funext e
    simp only [Function.comp]
    split <;> rfl
  rw [hf]
  cases hfd : es.find? (fun e => decide (e.1 = q)) with
  | none => simp
  | some t =>
    have := List.find?_some hfd
    simp only [decide_eq_true_eq] at this
    by_cases hk : q = k
    · simp [this, hk]
    · have h2 : ¬ t.1 = k := fun e => hk (this.symm.trans e)
      simp [hk, h2]
/-- The caller's step on the pipe that it holds. -/
theorem Held.turn {w w1 : World} {M B N : Nat} {lv : List Int} {it : Ways} {k : Int × Int} {p : PA} {l : List ItA} (h : Held w M B N lv it k p) (hp : PipIs w1 p.P p.c l) (ht : Tch (· = p.c) w w1) (hl : l ≠ []) :
    MeshA w1 M B N lv (setI it k l) ∧ MT B w w1 := by
  obtain ⟨bl, bp, es, h1, hg, h2, h3, h4⟩ := h
  obtain ⟨hm, hmt⟩ := h1.turn hg hp ht
  refine ⟨⟨bl, bp, setE es k l, hm, fun q => ?_, fun e he => ?_⟩, hmt⟩
  · unfold itemsAt
    rw [getE_set]
    by_cases hq : q = k
    · rw [if_pos hq, hq, hg]
      simp [setI]
    · rw [if_neg hq]
      have := h3 q hq
      unfold itemsAt at this
      rw [this]
      simp [setI, hq]
  · obtain ⟨e0, he0, rfl⟩ := List.mem_map.1 he
    by_cases hk : e0.1 = k
    · rw [if_pos hk]; exact hl
    · rw [if_neg hk]; exact h4 e0 he0 hk
theorem Held.pip {w : World} {M B N : Nat} {lv : List Int} {it : Ways} {k : Int × Int} {p : PA} (h : Held w M B N lv it k p) : PipIs w p.P p.c (it k) := by
  obtain ⟨bl, bp, es, h1, hg, h2, h3, h4⟩ := h
  rw [← h2]
  exact h1.pip _ (getE_mem hg)
/-- Break by definition. -/
def breakI (lv : List Int) (it : Ways) (a b : Int) : Ways := if a = b ∨ a ∉ lv ∨ b ∉ lv then it else setI (setI it (a, b) [brk]) (b, a) [brk]
set_option maxHeartbeats 1000000 in
theorem breakA (M B N : Nat) (lv : List Int) (it : Ways) (a b : Int) (w : World) (h : MeshA w M B N lv it) (ha : I64 a) (hb : I64 b) (hN : N < 999000) :
    Calls Try.prog 38 #[.pointer (some ⟨M, 0, none⟩), .int .i64 a, .int .i64 b] w fun e w' => e = .returned (.tuple #[]) ∧ MeshA w' M B (N + 2) lv (breakI lv it a b) ∧ MT B w w' := by
  have H := Lib.hid h
  by_cases hab : a = b
  · have t1 := beq_ hab
    have hx : breakI lv it a b = it := by simp [breakI, hab]
    rw [hx]
    clear h hx
    go_enter Try.func38, Try.ntmps38
    go_wp2_with fail
    refine bodyPost_ret (v := .tuple #[]) (by simp [results, Try.results38, go_sem]) rfl ?_
    exact ⟨rfl, H.out.more (by omega), MT.refl _ _⟩
  · have t1 := bne_ hab
    have HLA := Lib.hid (liveA M B N lv it a w h ha)
    by_cases hla : a ∈ lv
    · rw [dec_ hla] at HLA
      by_cases hlb : b ∈ lv
      · have hx : breakI lv it a b = setI (setI it (a, b) [brk]) (b, a) [brk] := by simp [breakI, hab, hla, hlb]
        rw [hx]
        have HB := Lib.hid hlb
        clear h hx hla hlb
        go_enter Try.func38, Try.ntmps38
        go_wp2_with fail
        refine HLA.out.mono ?_
        rintro e w1 ⟨rfl, hn⟩
        have H1 := Lib.hid (H.out.new hn)
        have T1 := Lib.hid (MT.of_new (B := B) hn)
        have HLB := Lib.hid (liveA M B N lv it b w1 H1.out hb)
        rw [dec_ HB.out] at HLB
        clear hn HLA
        go_wp2_with fail
        refine HLB.out.mono ?_
        rintro e w2 ⟨rfl, hn⟩
        have H2 := Lib.hid (H1.out.new hn)
        have T2 := Lib.hid (T1.out.then (MT.of_new hn))
        have HK := Lib.hid (linkA M B N lv it a b w2 H2.out ha hb (by omega))
        clear hn HLB
        go_wp2_with fail
        refine HK.out.mono ?_
        rintro e w3 ⟨p, rfl, hh, ht⟩
        have HH := Lib.hid hh
        have T3 := Lib.hid (T2.out.then ht)
        have HBR := Lib.hid (pbreak_ok p.P p.c _ w3 hh.pip)
        clear hh ht HK
        go_wp2_with fail
        refine HBR.out.mono ?_
        rintro e w4 ⟨rfl, hp, ht⟩
        obtain ⟨h4, t4⟩ := HH.out.turn hp ht (by simp)
        have T4 := Lib.hid (T3.out.then t4)
        have HK := Lib.hid (linkA M B (N + 1) lv _ b a w4 h4 hb ha (by omega))
        clear hp ht h4 t4 HBR HH
        go_wp2_with fail
        refine HK.out.mono ?_
        rintro e w5 ⟨p2, rfl, hh, ht⟩
        have HH := Lib.hid hh
        have T5 := Lib.hid (T4.out.then ht)
        have HBR := Lib.hid (pbreak_ok p2.P p2.c _ w5 hh.pip)
        clear hh ht HK
        go_wp2_with fail
        refine HBR.out.mono ?_
        rintro e w6 ⟨rfl, hp, ht⟩
        obtain ⟨h6, t6⟩ := HH.out.turn hp ht (by simp)
        have H6 := Lib.hid h6
        have T6 := Lib.hid (T5.out.then t6)
        clear hp ht h6 t6 HBR HH
        go_wp2_with fail
        go_end0
        exact ⟨rfl, H6.out, T6.out⟩
      · have hx : breakI lv it a b = it := by simp [breakI, hlb]
        rw [hx]
        have HB := Lib.hid hlb
        clear h hx hla hlb
        go_enter Try.func38, Try.ntmps38
        go_wp2_with fail
        refine HLA.out.mono ?_
        rintro e w1 ⟨rfl, hn⟩
        have H1 := Lib.hid (H.out.new hn)
        have T1 := Lib.hid (MT.of_new (B := B) hn)
        have HLB := Lib.hid (liveA M B N lv it b w1 H1.out hb)
        rw [decn_ HB.out] at HLB
        clear hn HLA
        go_wp2_with fail
        refine HLB.out.mono ?_
        rintro e w2 ⟨rfl, hn⟩
        have H2 := Lib.hid (H1.out.new hn)
        have T2 := Lib.hid (T1.out.then (MT.of_new hn))
        clear hn HLB
        go_wp2_with fail
        refine bodyPost_ret (v := .tuple #[]) (by simp [results, Try.results38, go_sem]) rfl ?_
        exact ⟨rfl, H2.out.more (by omega), T2.out⟩
    · rw [decn_ hla] at HLA
      have hx : breakI lv it a b = it := by simp [breakI, hla]
      rw [hx]
      clear h hx hla
      go_enter Try.func38, Try.ntmps38
      go_wp2_with fail
      refine HLA.out.mono ?_
      rintro e w1 ⟨rfl, hn⟩
      have H1 := Lib.hid (H.out.new hn)
      have T1 := Lib.hid (MT.of_new (B := B) hn)
      clear hn HLA
      go_wp2_with fail
      refine bodyPost_ret (v := .tuple #[]) (by simp [results, Try.results38, go_sem]) rfl ?_
      exact ⟨rfl, H1.out.more (by omega), T1.out⟩
end Go.Proofs.Ythobffgkggfooaa
