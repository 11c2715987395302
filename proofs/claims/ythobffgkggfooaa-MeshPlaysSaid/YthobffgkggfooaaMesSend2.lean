/-
  Package mesh: Send.
-/
import Derived.Test.YthobffgkggfooaaMesSend
set_option linter.unusedVariables false
set_option linter.unusedSimpArgs false
set_option maxRecDepth 100000
namespace Go.Proofs.Ythobffgkggfooaa
open Go.RowKit Go.Maps

/-- Send by definition. -/
def sendI (lv : List Int) (it : Ways) (a b : Int) (s : ByteArray) : Ways :=
  if a ∉ lv ∨ a = b then it else if b ∉ lv then setI it (b, a) [brk] else if (it (a, b)).length < 64 then setI it (a, b) (it (a, b) ++ [⟨false, s⟩]) else breakI lv it a b
theorem setI_same (it : Ways) (k : Int × Int) : setI it k (it k) = it := by
  funext q
  unfold setI
  split
  · rename_i h; rw [h]
  · rfl
set_option maxHeartbeats 1000000 in
theorem sendA (M B N : Nat) (lv : List Int) (it : Ways) (a b : Int) (s : ByteArray) (w : World) (h : MeshA w M B N lv it) (ha : I64 a) (hb : I64 b) (hN : N < 990000) :
    Calls Try.prog 41 #[.pointer (some ⟨M, 0, none⟩), .int .i64 a, .int .i64 b, .string s] w fun e w' => e = .returned (.tuple #[]) ∧ MeshA w' M B (N + 3) lv (sendI lv it a b s) ∧ MT B w w' := by
  have H := Lib.hid h
  have HLA := Lib.hid (liveA M B N lv it a w h ha)
  by_cases hla : a ∈ lv
  · rw [dec_ hla] at HLA
    by_cases hab : a = b
    · subst hab
      have t1 : (a == a) = true := beq_ rfl
      have hx : sendI lv it a a s = it := by simp [sendI]
      rw [hx]
      clear h hx hla
      go_enter Try.func41, Try.ntmps41
      go_wp2_with fail
      refine HLA.out.mono ?_
      rintro e w1 ⟨rfl, hn⟩
      have H1 := Lib.hid (H.out.new hn)
      have T1 := Lib.hid (MT.of_new (B := B) hn)
      clear hn HLA
      go_wp2_with fail
      refine bodyPost_ret (v := .tuple #[]) (by simp [results, Try.results41, go_sem]) rfl ?_
      exact ⟨rfl, H1.out.more (by omega), T1.out⟩
    · have t1 := bne_ hab
      by_cases hlb : b ∈ lv
      · by_cases hl : (it (a, b)).length < 64
        · have hx : sendI lv it a b s = setI it (a, b) (it (a, b) ++ [⟨false, s⟩]) := by simp [sendI, hab, hla, hlb, hl]
          rw [hx]
          have HB := Lib.hid hlb
          have HL := Lib.hid hl
          clear h hx hla hlb hl hab
          go_enter Try.func41, Try.ntmps41
          go_wp2_with fail
          refine HLA.out.mono ?_
          rintro e w1 ⟨rfl, hn⟩
          have H1 := Lib.hid (H.out.new hn)
          have T1 := Lib.hid (MT.of_new (B := B) hn)
          have HLB := Lib.hid (liveA M B N lv it b w1 H1.out hb)
          rw [dec_ HB.out] at HLB
          clear hn HLA
          go_wp2_with fail
          refine HLB.out.mono ?_
          rintro e w2 ⟨rfl, hn⟩
          have H2 := Lib.hid (H1.out.new hn)
          have T2 := Lib.hid (T1.out.then (MT.of_new hn))
          have HK := Lib.hid (linkA M B N lv it a b w2 H2.out ha hb (by omega))
          clear hn HLB
          go_wp2_with fail
          refine HK.out.mono ?_
          rintro e w3 ⟨p, rfl, hh, ht⟩
          have HH := Lib.hid hh
          have T3 := Lib.hid (T2.out.then ht)
          have HSE := Lib.hid (psend_ok p.P p.c s _ w3 hh.pip)
          rw [dec_ HL.out, putL, if_pos HL.out] at HSE
          clear hh ht HK
          go_wp2_with fail
          refine HSE.out.mono ?_
          rintro e w4 ⟨rfl, hp, ht⟩
          obtain ⟨h4, t4⟩ := HH.out.turn hp ht (by simp)
          have H4 := Lib.hid h4
          have T4 := Lib.hid (T3.out.then t4)
          clear hp ht h4 t4 HSE HH
          go_wp2_with fail
          go_end0
          exact ⟨rfl, H4.out.more (by omega), T4.out⟩
        · have hx : sendI lv it a b s = breakI lv it a b := by simp [sendI, hab, hla, hlb, hl]
          rw [hx]
          have HB := Lib.hid hlb
          have HL := Lib.hid hl
          clear h hx hla hlb hl hab
          go_enter Try.func41, Try.ntmps41
          go_wp2_with fail
          refine HLA.out.mono ?_
          rintro e w1 ⟨rfl, hn⟩
          have H1 := Lib.hid (H.out.new hn)
          have T1 := Lib.hid (MT.of_new (B := B) hn)
          have HLB := Lib.hid (liveA M B N lv it b w1 H1.out hb)
          rw [dec_ HB.out] at HLB
          clear hn HLA
          go_wp2_with fail
          refine HLB.out.mono ?_
          rintro e w2 ⟨rfl, hn⟩
          have H2 := Lib.hid (H1.out.new hn)
          have T2 := Lib.hid (T1.out.then (MT.of_new hn))
          have HK := Lib.hid (linkA M B N lv it a b w2 H2.out ha hb (by omega))
          clear hn HLB
          go_wp2_with fail
          refine HK.out.mono ?_
          rintro e w3 ⟨p, rfl, hh, ht⟩
          have HH := Lib.hid hh
          have T3 := Lib.hid (T2.out.then ht)
          have HSE := Lib.hid (psend_ok p.P p.c s _ w3 hh.pip)
          rw [decn_ HL.out, putL, if_neg HL.out] at HSE
          clear hh ht HK
          go_wp2_with fail
          refine HSE.out.mono ?_
          rintro e w4 ⟨rfl, hp, ht⟩
          obtain ⟨h4, t4⟩ := HH.out.turn hp ht (by intro e; have := HL.out; rw [e] at this; simp at this)
          rw [setI_same] at h4
          have T4 := Lib.hid (T3.out.then t4)
          have HBR := Lib.hid (breakA M B (N + 1) lv it a b w4 h4 ha hb (by omega))
          clear hp ht h4 t4 HSE HH
          go_wp2_with fail
          refine HBR.out.mono ?_
          rintro e w5 ⟨rfl, h5, t5⟩
          have H5 := Lib.hid h5
          have T5 := Lib.hid (T4.out.then t5)
          clear h5 t5 HBR
          go_wp2_with fail
          go_end0
          exact ⟨rfl, H5.out, T5.out⟩
      · have hx : sendI lv it a b s = setI it (b, a) [brk] := by simp [sendI, hab, hla, hlb]
        rw [hx]
        have HB := Lib.hid hlb
        clear h hx hla hlb hab
        go_enter Try.func41, Try.ntmps41
        go_wp2_with fail
        refine HLA.out.mono ?_
        rintro e w1 ⟨rfl, hn⟩
        have H1 := Lib.hid (H.out.new hn)
        have T1 := Lib.hid (MT.of_new (B := B) hn)
        have HLB := Lib.hid (liveA M B N lv it b w1 H1.out hb)
        rw [decn_ HB.out] at HLB
        clear hn HLA
        go_wp2_with fail
        refine HLB.out.mono ?_
        rintro e w2 ⟨rfl, hn⟩
        have H2 := Lib.hid (H1.out.new hn)
        have T2 := Lib.hid (T1.out.then (MT.of_new hn))
        have HK := Lib.hid (linkA M B N lv it b a w2 H2.out hb ha (by omega))
        clear hn HLB
        go_wp2_with fail
        refine HK.out.mono ?_
        rintro e w3 ⟨p, rfl, hh, ht⟩
        have HH := Lib.hid hh
        have T3 := Lib.hid (T2.out.then ht)
        have HBR := Lib.hid (pbreak_ok p.P p.c _ w3 hh.pip)
        clear hh ht HK
        go_wp2_with fail
        refine HBR.out.mono ?_
        rintro e w4 ⟨rfl, hp, ht⟩
        obtain ⟨h4, t4⟩ := HH.out.turn hp ht (by simp)
        have H4 := Lib.hid h4
        have T4 := Lib.hid (T3.out.then t4)
        clear hp ht h4 t4 HBR HH
        go_wp2_with fail
        go_end0
        exact ⟨rfl, H4.out.more (by omega), T4.out⟩
  · rw [decn_ hla] at HLA
    have hx : sendI lv it a b s = it := by simp [sendI, hla]
    rw [hx]
    clear h hx hla
    go_enter Try.func41, Try.ntmps41
    go_wp2_with fail
    refine HLA.out.mono ?_
    rintro e w1 ⟨rfl, hn⟩
    have H1 := Lib.hid (H.out.new hn)
    have T1 := Lib.hid (MT.of_new (B := B) hn)
    clear hn HLA
    go_wp2_with fail
    refine bodyPost_ret (v := .tuple #[]) (by simp [results, Try.results41, go_sem]) rfl ?_
    exact ⟨rfl, H1.out.more (by omega), T1.out⟩
end Go.Proofs.Ythobffgkggfooaa
