/-
  ViewPlays: a view, the reference's view and a draw, each in its variable.
-/
import Derived.Test.YtdhafagihfdolaaViwSpk
import Derived.Test.YtdhafagihfdolaaRefJoin
set_option linter.unusedVariables false
set_option linter.unusedSimpArgs false
set_option maxRecDepth 100000
namespace Go.Proofs.Ytdhafagihfdolaa
open Go.RowKit Go.Lib Go.Sort Go.Shelf

def rfC (z : VA) (va vp vd : Value) : Array Value := #[.int .i64 z.self, va, vp, .int .i64 z.A, .int .i64 z.P, vd]
theorem bk_apart {w : World} {X Y : Nat} {t u : TypeId} {cs ds : Array Value} (h : Bk w X t cs) (k : Bk w Y u ds) (ht : t ≠ u) : X ≠ Y := fun e => by
  subst e
  unfold Bk at h k
  rw [h] at k
  injection k with k
  injection k with _ k
  exact ht k
/-- The view x at V, the reference's view z at M, the numbers ds left at D, es left to the reference. -/
structure PlV (W w : World) (V M D g : Nat) (x : VA) (ta tp : Value) (ds : List Int) (z : VA) (va vp vd : Value) (es : List Int) : Prop where
  v : ViwAt w V x ta tp
  mb : Bk w M 35 (rfC z va vp vd)
  ms : RfS w W.heap.size z es va vp vd
  dr : DrawIs w D g ds
  new : New W w
  base : W.heap.size ≤ V ∧ W.heap.size ≤ M ∧ W.heap.size ≤ D ∧ W.heap.size ≤ g
  vg : 0 < ds.length → V ≠ g ∧ M ≠ g
section
variable {W w w' : World} {V M D g : Nat} {x y z : VA} {ta tp sa sp va vp vd ua up ud : Value} {ds ds2 es es2 : List Int}
theorem PlV.later (h : PlV W w V M D g x ta tp ds z va vp vd es) (k : New w w') : PlV W w' V M D g x ta tp ds z va vp vd es :=
  ⟨h.v.new k, k.bk h.mb, h.ms.new k, h.dr.tch k (by have := h.dr.lt; omega) (fun h0 => by have := h.dr.glt h0; omega), h.new.then k, h.base, h.vg⟩
theorem PlV.dp (h : PlV W w V M D g x ta tp ds z va vp vd es) : DrawP w (.pointer (some ⟨D, 0, none⟩)) (some D) g ds := .inr ⟨D, rfl, rfl, h.dr⟩
/-- A call that may turn the draw. -/
theorem PlV.vt (h : PlV W w V M D g x ta tp ds z va vp vd es) (hd : DrawP w' (.pointer (some ⟨D, 0, none⟩)) (some D) g ds2) (k : VT (some D) w w') (hl : 0 < ds2.length → 0 < ds.length) : PlV W w' V M D g x ta tp ds2 z va vp vd es := by
  refine ⟨h.v.vt h.dp k, k.bk h.mb (h.dp.ne h.mb (by decide)), ?_, ?_, VT.new h.new k (fun d e => by injection e with e; rw [← e]; exact h.base.2.2.1), h.base, fun h0 => h.vg (hl h0)⟩
  · refine ⟨h.ms.act.imp fun l q => ⟨h.dp.slr k q.1, q.2⟩, h.ms.pas.imp fun l q => ⟨h.dp.slr k q.1, q.2⟩, h.ms.dr.keep (Tch.size k) fun b hb hs => Tch.block k b hb ?_, h.ms.u⟩
    rintro (e | e)
    · injection e with e
      have := h.base.2.2.1
      omega
    · omega
  · rcases hd with ⟨e, _, _⟩ | ⟨d, e, _, hd⟩
    · cases e
    · injection e with e; injection e with e; injection e with e; subst e; exact hd
/-- Another view stored into its variable. -/
theorem PlV.putv (h : PlV W w V M D g x ta tp ds z va vp vd es) (hs : ViwS w y sa sp) {s a p : Int} (e1 : s = y.self) (e2 : a = y.A) (e3 : p = y.P) : PlV W (put5 w V s a sa p sp) V M D g y sa sp ds z va vp vd es := by
  have ht := tch_put5 w V s a sa p sp
  have hni := not_int h.v.bk view_ne_int
  obtain ⟨cs, hbd⟩ := h.dr.bk
  have hVD := bk_apart h.v.bk hbd (by decide)
  have hVM := bk_apart h.v.bk h.mb (by decide)
  have hslr : ∀ {u : Value} {xs : List Value}, Slr w u xs → Slr (put5 w V s a sa p sp) u xs := fun q => q.held ht.size fun b hb hi => ht.block b hb (fun e => hni (e ▸ hi))
  refine ⟨viw_put h.v.bk hs e1 e2 e3, h.mb.tch ht (fun e => hVM e.symm), ?_, h.dr.tch ht (fun e => hVD e.symm) (fun h0 e => (h.vg h0).1 e.symm), Tch.trans h.new ht (fun b hb e => by rw [e]; exact h.base.1), h.base, h.vg⟩
  exact ⟨h.ms.act.imp fun l q => ⟨hslr q.1, q.2⟩, h.ms.pas.imp fun l q => ⟨hslr q.1, q.2⟩, h.ms.dr.keep ht.size fun b hb hs => ht.block b hb (fun e => by have := h.base.1; omega), h.ms.u⟩
/-- Another view of the reference's stored into its variable. -/
theorem PlV.putm (h : PlV W w V M D g x ta tp ds z va vp vd es) (hs : RfS w W.heap.size y es2 ua up ud) {s a p : Int} (e1 : s = y.self) (e2 : a = y.A) (e3 : p = y.P) : PlV W (put6 w M (.int .i64 s) ua up (.int .i64 a) (.int .i64 p) ud) V M D g x ta tp ds y ua up ud es2 := by
  subst e1 e2 e3
  have ht := tch_put6 w M (.int .i64 y.self) ua up (.int .i64 y.A) (.int .i64 y.P) ud
  have hni := not_int h.mb rview_ne_int
  obtain ⟨cs, hbd⟩ := h.dr.bk
  have hMD := bk_apart h.mb hbd (by decide)
  have hVM := bk_apart h.v.bk h.mb (by decide)
  have hslr : ∀ {u : Value} {xs : List Value}, Slr w u xs → Slr (put6 w M (.int .i64 y.self) ua up (.int .i64 y.A) (.int .i64 y.P) ud) u xs := fun q => q.held ht.size fun b hb hi => ht.block b hb (fun e => hni (e ▸ hi))
  refine ⟨⟨h.v.bk.tch ht hVM, ⟨hslr h.v.s.act, hslr h.v.s.pas, h.v.s.good⟩⟩, bk_put6 h.mb _ _ _ _ _ _, ?_, h.dr.tch ht (fun e => hMD e.symm) (fun h0 e => (h.vg h0).2 e.symm), Tch.trans h.new ht (fun b hb e => by rw [e]; exact h.base.2.1), h.base, h.vg⟩
  exact ⟨hs.act.imp fun l q => ⟨hslr q.1, q.2⟩, hs.pas.imp fun l q => ⟨hslr q.1, q.2⟩, hs.dr.keep ht.size fun b hb hs => ht.block b hb (fun e => by have := h.base.2.1; omega), hs.u⟩
/-- The store of a view leaves a reference's view alone. -/
theorem PlV.keepm (h : PlV W w V M D g x ta tp ds z va vp vd es) (k : RfS w W.heap.size y es2 ua up ud) {s a p : Int} : RfS (put5 w V s a sa p sp) W.heap.size y es2 ua up ud := by
  have ht := tch_put5 w V s a sa p sp
  have hni := not_int h.v.bk view_ne_int
  have hslr : ∀ {u : Value} {xs : List Value}, Slr w u xs → Slr (put5 w V s a sa p sp) u xs := fun q => q.held ht.size fun b hb hi => ht.block b hb (fun e => hni (e ▸ hi))
  exact ⟨k.act.imp fun l q => ⟨hslr q.1, q.2⟩, k.pas.imp fun l q => ⟨hslr q.1, q.2⟩, k.dr.keep ht.size fun b hb hs => ht.block b hb (fun e => by have := h.base.1; omega), k.u⟩
end
end Go.Proofs.Ytdhafagihfdolaa
