/-
  StreamJoins, StreamPieces: what both share.
-/
import Derived.Test.YtebpdnmmcbianaaStrLaw
import Derived.Deep.RegionHeld3
set_option linter.unusedVariables false
set_option linter.unusedSimpArgs false
set_option maxRecDepth 100000
namespace Go.Proofs.Ytebpdnmmcbianaa
open Go.RowKit

theorem sms_shape {w : World} {S : Nat → Prop} {v : Value} {ps : List SM} (h : SMs w S v ps) : ∃ ao cap, v = .slice ao ps.length cap ∧ ps.length ≤ cap ∧ cap ≤ maxLen := by
  obtain ⟨ao, cap, h1, h2, h3, _⟩ := h
  exact ⟨ao, cap, h1, h2, h3⟩
theorem sms_at {w : World} {S : Nat → Prop} {ao : Option Addr} {n cap : Nat} {ps : List SM} (h : SMs w S (.slice ao n cap) ps) (j : Nat) (hj : j < ps.length) :
    ∃ b off, ao = some ⟨b, off, none⟩ ∧ w.cell? ⟨b, off + j * 3, none⟩ = some (.int .i64 ps[j].kind) ∧ w.cell? ⟨b, off + j * 3 + 1, none⟩ = some (.int .i64 ps[j].node) ∧ w.cell? ⟨b, off + j * 3 + 2, none⟩ = some (.string ps[j].key) := by
  obtain ⟨ao', cap', e, _, _, h4⟩ := h
  injection e with e1 _ _
  subst e1
  obtain ⟨b, off, e, hs, hb, hc⟩ := h4 (by omega)
  obtain ⟨c0, c1, c2⟩ := hc j hj
  exact ⟨b, off, e, c0, c1, c2⟩
def framesL (qs : List SM) : List UInt8 := qs.flatMap fun q => frameL q.m
theorem framesL_len (qs : List SM) : (framesL qs).length ≤ 202 * qs.length := by
  induction qs with
  | nil => simp [framesL]
  | cons q qs ih =>
    have := q.flen
    simp only [framesL, List.flatMap_cons, List.length_append, List.length_cons] at ih ⊢
    omega
theorem framesL_more (qs : List SM) (j : Nat) (hj : j < qs.length) : framesL (qs.take (j + 1)) = framesL (qs.take j) ++ frameL qs[j].m := by
  rw [List.take_succ_eq_append_getElem hj]
  simp only [framesL, List.flatMap_append, List.flatMap_cons, List.flatMap_nil, List.append_nil]
theorem framesL_run (qs : List SM) : runS ⟨[], 0⟩ (framesL qs) = (⟨[], 0⟩, qs.map SM.m) := by
  induction qs with
  | nil => rfl
  | cons q qs ih =>
    show runS ⟨[], 0⟩ (frameL q.m ++ framesL qs) = _
    rw [runS_append, q.run]
    simp only
    rw [ih]
    rfl
theorem runS_count (st : St) (l : List UInt8) : (runS st l).2.length ≤ l.length := by
  induction l generalizing st with
  | nil => simp [runS]
  | cons b l ih =>
    have h1 : (stepS st b).2.length ≤ 1 := by
      unfold stepS settle
      split
      · simp
      · split
        · simp
        · split
          · simp
          · split <;> simp
    have := ih (stepS st b).1
    simp only [runS, List.length_append, List.length_cons]
    omega
/-- What is cut off a text. -/
theorem cut_str (s : ByteArray) (k : Nat) (m : Nat) (hm : m = min s.size k) : s.extract 0 m = str (s.data.toList.take k) := by
  have h := str_head s.data.toList m
  rw [str_of] at h
  rw [h]
  congr 1
  have hz : s.data.toList.length = s.size := by rw [Array.length_toList]; rfl
  by_cases hk : k ≤ s.size
  · rw [hm, Nat.min_eq_right hk]
  · rw [hm, Nat.min_eq_left (by omega), ← hz, List.take_of_length_le (by omega), List.take_of_length_le (by omega)]
/-- A message that was told, at its place. -/
theorem Told.get {w : World} {base : Nat} {ao : Option Addr} {n cap : Nat} {ms : List (MsgA × MsgV)} (h : Told w base (.slice ao n cap) ms) (j : Nat) (hj : j < ms.length) :
    ∃ g m an cn ai ci ar cr, ao = some ⟨g, 0, none⟩ ∧ g < w.heap.size ∧ m = ms[j].1 ∧ MsgIs w (fun _ => True) m ⟨.slice an m.nodes.length cn, .slice ai m.ids.length ci, .slice ar m.recs.length cr⟩ ∧
      w.cell? ⟨g, j * 7, none⟩ = some (.int .i64 m.kind) ∧ w.cell? ⟨g, j * 7 + 1, none⟩ = some (.int .i64 m.node) ∧ w.cell? ⟨g, j * 7 + 2, none⟩ = some (.int .i64 m.walk) ∧ w.cell? ⟨g, j * 7 + 3, none⟩ = some (.bool m.high) ∧
      w.cell? ⟨g, j * 7 + 4, none⟩ = some (.slice an m.nodes.length cn) ∧ w.cell? ⟨g, j * 7 + 5, none⟩ = some (.slice ai m.ids.length ci) ∧ w.cell? ⟨g, j * 7 + 6, none⟩ = some (.slice ar m.recs.length cr) := by
  obtain ⟨g, e, hb, hg, hc⟩ := h.at_ (by omega)
  obtain ⟨x, hx⟩ : ∃ x, x = ms[j] := ⟨_, rfl⟩
  have hj' : ms[j]? = some x := by rw [hx]; exact List.getElem?_eq_getElem hj
  have hm := (h.2 x (by rw [hx]; exact List.getElem_mem _)).more (T := fun _ => True) (fun _ _ _ => trivial)
  obtain ⟨m, v⟩ := x
  have hm' : MsgIs w (fun _ => True) m v := hm
  obtain ⟨an, cn, ai, ci, ar, cr, rfl⟩ := hm'.shape
  exact ⟨g, m, an, cn, ai, ci, ar, cr, e, hg, by rw [← hx], hm, hc j _ 0 _ hj' rfl, hc j _ 1 _ hj' rfl, hc j _ 2 _ hj' rfl, hc j _ 3 _ hj' rfl, hc j _ 4 _ hj' rfl, hc j _ 5 _ hj' rfl, hc j _ 6 _ hj' rfl⟩
end Go.Proofs.Ytebpdnmmcbianaa
