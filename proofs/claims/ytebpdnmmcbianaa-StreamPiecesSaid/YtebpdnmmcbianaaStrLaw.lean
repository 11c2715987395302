/-
  The stream laws: their argument opened; what their walks share.
-/
import Derived.Test.YtebpdnmmcbianaaStrSpk
import Derived.Test.YtebpdnmmcbianaaSMsgs
import Derived.Test.YtebpdnmmcbianaaMsgSame
set_option linter.unusedVariables false
set_option linter.unusedSimpArgs false
set_option maxRecDepth 100000
namespace Go.Proofs.Ytebpdnmmcbianaa
open Go.ChangeShapes Go.WideShapes Go.RowKit Go.Deep

section
variable {H : Type} {enc : TypeId × Value → H} {P : Program}
theorem open_smsg {t : TypeId} {f0 f1 f2 : Field} {W : World} {base : Nat} {v : Value} {d : DataW H} {p : List MemPlace} (hu : P.underlying t = some (.struct #[f0, f1, f2])) (hC : P.cellsOf t = 3)
    (o0 : f0.offset = 0) (o1 : f1.offset = 1) (o2 : f2.offset = 2)
    (h0 : P.underlying f0.type = some (.int .i64)) (h1 : P.underlying f1.type = some (.int .i64)) (h2 : P.underlying f2.type = some .string)
    (c0 : P.cellsOf f0.type = 1) (c1 : P.cellsOf f1.type = 1) (c2 : P.cellsOf f2.type = 1)
    (hv : Value.okWide P W .any base t v) (h : DataW.Trod enc P W 0 (fun _ => true) true t v d p) :
    ∃ q : SM, v = .agg #[.int .i64 q.kind, .int .i64 q.node, .string q.key] ∧ SMOk q := by
  obtain ⟨cs, rfl, hcs⟩ := okWide_struct hu hv
  obtain ⟨fuel, hf⟩ := h
  simp only [Value.cells] at hf
  rw [hC] at hcs
  obtain ⟨cl, rfl⟩ : ∃ l : List Value, cs = l.toArray := ⟨cs.toList, by simp⟩
  simp at hcs
  obtain ⟨xs, k, hk, hxy, _, hxl, hg⟩ := DataW.trod_struct hu hf
  match xs, hxl, cl, hcs with
  | [y0, y1, y2], _, [v0, v1, v2], _ =>
    have a0 := hg 0 f0 rfl
    have a1 := hg 1 f1 rfl
    have a2 := hg 2 f2 rfl
    simp [o0, o1, o2, c0, c1, c2] at a0 a1 a2
    obtain ⟨n0, e0, x0, w0⟩ := DataW.trod_int h0 a0
    obtain ⟨n1, e1, x1, w1⟩ := DataW.trod_int h1 a1
    obtain ⟨n2, e2, x2, w2⟩ := DataW.trod_string h2 a2
    simp at e0 e1 e2
    subst e0 e1 e2
    exact ⟨⟨n0, n1, n2⟩, rfl, wf_i64 w0, wf_i64 w1, w2⟩
end

theorem MsgIs.shape {w : World} {S : Nat → Prop} {m : MsgA} {v : MsgV} (h : MsgIs w S m v) : ∃ an cn ai ci ar cr, v = ⟨.slice an m.nodes.length cn, .slice ai m.ids.length ci, .slice ar m.recs.length cr⟩ := by
  obtain ⟨vn, vi, vr⟩ := v
  obtain ⟨an, cn, e1, _, _⟩ := h.n.shape
  obtain ⟨ai, ci, e2, _, _⟩ := h.i.shape
  obtain ⟨ar, cr, e3, _, _⟩ := h.r.shape
  simp only at e1 e2 e3
  subst e1 e2 e3
  exact ⟨an, cn, ai, ci, ar, cr, rfl⟩
theorem str_app (l r : List UInt8) : str l ++ str r = str (l ++ r) := by
  have h : (str l ++ str r).data.toList = l ++ r := by simp [str, ByteArray.data_append]
  rw [← str_of (str l ++ str r), h]
theorem sadd (l r : List UInt8) (h : l.length + r.length ≤ 100000) (w : World) : (Op.stringOp .add (str l) (str r)).run Try.prog w = .ok (.string (str (l ++ r))) w := by
  have h1 := str_size l
  have h2 := str_size r
  rw [← str_app]
  exact run_string_add w _ _ (by omega) (by omega)
/-- The message that an argument tells. -/
def SM.m (q : SM) : MsgA := toldM q.kind q.node q.key.data.toList
theorem SM.may (q : SM) : May q.m := told_may _ _ _
theorem SM.wf (q : SM) : Wf q.m := told_wf _ _ _
theorem SM.len (q : SM) : (encM q.m).length ≤ 200 := told_len _ _ _
theorem SM.flen (q : SM) : (frameL q.m).length ≤ 202 := by rw [frameL_len]; have := q.len; omega
theorem SM.frame (q : SM) : frameE q.m = (frameL q.m, 0) := told_frame _ _ _
theorem SM.run (q : SM) : runS ⟨[], 0⟩ (frameL q.m) = (⟨[], 0⟩, [q.m]) := run_frame q.may q.wf (by have := q.len; omega)
theorem SM.told (q : SM) (h : SMOk q) (w : World) :
    Calls Try.prog 13 #[.agg #[.int .i64 q.kind, .int .i64 q.node, .string q.key]] w (fun e w' => ∃ an cn ai ci ar cr, e = .returned (.agg (msgC q.m ⟨.slice an q.m.nodes.length cn, .slice ai q.m.ids.length ci, .slice ar q.m.recs.length cr⟩)) ∧ MsgIs w' (fun b => w.heap.size ≤ b) q.m ⟨.slice an q.m.nodes.length cn, .slice ai q.m.ids.length ci, .slice ar q.m.recs.length cr⟩ ∧ New w w') := by
  refine (told_ok q.kind q.node q.key h.1 h.2.1 w).mono ?_
  rintro e w' ⟨v, rfl, hm, hn⟩
  obtain ⟨an, cn, ai, ci, ar, cr, rfl⟩ := hm.shape
  exact ⟨an, cn, ai, ci, ar, cr, rfl, hm, hn⟩
/-- A splitter's own steps leave what is not its. -/
theorem new_of_own {w w1 w2 : World} {P : Nat} (h : New w w1) (ht : Tch (· = P) w1 w2) (hP : w.heap.size ≤ P) : New w w2 :=
  (h : Tch _ _ _).trans ht (fun b hb e => by omega)
theorem runS_calm (st : St) (l : List UInt8) (h : Calm st) : Calm (runS st l).1 := by
  induction l generalizing st with
  | nil => exact h
  | cons b l ih =>
    simp only [runS]
    apply ih
    unfold stepS
    by_cases hb : st.bad ≠ 0
    · rw [if_pos hb]; exact h
    · rw [if_neg hb]; exact settle_calm _
theorem bad_long : runS ⟨[], 0⟩ [255, 255] = (⟨[], 3⟩, []) := by kernel_rfl
theorem bad_form : runS ⟨[], 0⟩ [0, 1, 0] = (⟨[], 2⟩, []) := by kernel_rfl
end Go.Proofs.Ytebpdnmmcbianaa
