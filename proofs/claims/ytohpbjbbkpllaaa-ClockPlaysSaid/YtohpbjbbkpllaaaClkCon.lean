/-
  A clock of texts behind a pointer: what it holds; New, Len, takes as contracts.
-/
import Derived.Test.YtohpbjbbkpllaaaClkMap
import Derived.Lib.Hide
import Derived.StringKeys
import Derived.Deep.Cut
import Derived.Deep.DeepCutAuto
import Derived.Deep.QuietTactic
import Derived.Deep.RegionLaw
import Derived.Recover
import Derived.LaidEqlPtr
import Derived.IntWalk
set_option linter.unusedVariables false
set_option linter.unusedSimpArgs false
namespace Go.Proofs.Ytohpbjbbkpllaaa
open Go.RowKit Go.Maps

theorem strKey : Keyed Try.prog 9 := string_keyed Try.underlying9
/-- Block b is the map of the timers es. -/
def MapAt (w : World) (b n : Nat) (es : List Tm) : Prop := ∃ D, w.ownsMap Try.prog 9 timerR b n D ∧ Rd D es
theorem ownsMap_same {w w' : World} {k : TypeId} {R : Value → Option (DataW Unit × List MemPlace)} {b n : Nat} {D : DataW Unit} (h : w.ownsMap Try.prog k R b n D) (hk : w'.heap[b]? = w.heap[b]?) : w'.ownsMap Try.prog k R b n D := by
  obtain ⟨es, clock, hb, r⟩ := h
  exact ⟨es, clock, hk.trans hb, r⟩
theorem MapAt.lt {w : World} {b n : Nat} {es : List Tm} (h : MapAt w b n es) : b < w.heap.size := by obtain ⟨D, h, _⟩ := h; exact h.lt
theorem MapAt.same {w w' : World} {b n : Nat} {es : List Tm} (h : MapAt w b n es) (hk : w'.heap[b]? = w.heap[b]?) : MapAt w' b n es := by
  obtain ⟨D, h, r⟩ := h
  exact ⟨D, ownsMap_same h hk, r⟩
theorem MapAt.below {w w' : World} {b n B : Nat} {es : List Tm} (h : MapAt w b n es) (hb : Below B w w') (hB : b < B) : MapAt w' b n es := h.same (hb.block b hB)
theorem MapAt.more {w : World} {b n m : Nat} {es : List Tm} (h : MapAt w b n es) (hm : n ≤ m) : MapAt w b m es := by
  obtain ⟨D, h, r⟩ := h
  exact ⟨D, h.mono hm, r⟩
theorem tidy_of {w : World} {b n : Nat} {D : DataW Unit} (h : w.ownsMap Try.prog 9 timerR b n D) : Maps.Tidy D := by
  obtain ⟨es, e, hp, _⟩ := h.entries strKey
  exact ⟨es, e, hp⟩
theorem MapAt.made (w : World) : MapAt (w.alloc (.map #[] 0)) w.heap.size 0 [] := ⟨_, World.ownsMap_made _ _ _ _, Rd.nil⟩

/-- The clock at block C: at most `most` timers, `sets` settings so far, the timers es in the map at block b. -/
structure ClkAt (w : World) (C b n most : Nat) (sets : Int) (es : List Tm) : Prop where
  box : Bk w C 72 #[.int .i64 most, .int .i64 sets, .map (some b)]
  map : MapAt w b n es
theorem ClkAt.ne {w : World} {C b n most : Nat} {sets : Int} {es : List Tm} (h : ClkAt w C b n most sets es) : C ≠ b := by
  intro e
  have h1 := h.box
  obtain ⟨D, ⟨es', clock, h2, _⟩, _⟩ := h.map
  unfold Bk at h1
  rw [e, h2] at h1
  injection h1 with h1
  cases h1
theorem ClkAt.below {w w' : World} {C b n most : Nat} {sets : Int} {es : List Tm} (h : ClkAt w C b n most sets es) (hb : Below w.heap.size w w') : ClkAt w' C b n most sets es :=
  ⟨h.box.keep (hb.block C h.box.lt), h.map.below hb h.map.lt⟩
theorem Bk.three {w : World} {g : Nat} {t : TypeId} {a b c : Value} (h : Bk w g t #[a, b, c]) : (w.cell? ⟨g, 0, none⟩ = some a ∧ w.cell? ⟨g, 1, none⟩ = some b ∧ w.cell? ⟨g, 2, none⟩ = some c) ∧ w.frozen? ⟨g, 0, none⟩ = false ∧ w.frozen? ⟨g, 1, none⟩ = false ∧ w.frozen? ⟨g, 2, none⟩ = false :=
  ⟨⟨h.cell 0, h.cell 1, h.cell 2⟩, h.frozen 0, h.frozen 1, h.frozen 2⟩

theorem caught (B : Nat) (x : Bool) (w : World) (hb : Bk w B 4 #[.bool x]) :
    CallsD Try.prog 50 #[.pointer (some ⟨B, 0, none⟩)] .returning w fun e u' w' =>
      e = .returned (.tuple #[]) ∧ u' = .returning ∧ w' = w.setCell ⟨B, 0, none⟩ (.bool true) := by
  have c0 := hb.cell 0
  have f0 := hb.frozen 0
  simp at c0
  clear hb
  refine callsD_of_wpS Try.func50 rfl fun c₀ cs hu => ?_
  apply wpS_region
  simp only [Try.ntmps50, List.size_toArray, List.length_cons, List.length_nil, Nat.reduceAdd, Nat.reduceSub, Array.replicate_succ, Array.replicate_zero, List.push_toArray, List.append_toArray, List.nil_append, List.cons_append]
  simp [wpOpsS, go_sem, recoverD, hu, Exit.thenS, c0, f0, Result.andThen, Oper.upon, bodyPostS]
  exact ⟨.returning, by cases c₀; simp_all, _, results_none rfl _ _ _, rfl, rfl⟩

theorem tm_info : (Try.prog.info? 74).map (fun i => i.zero) = some (some (Tm.val ⟨ByteArray.empty, 0, 0⟩)) := by kernel_rfl
theorem zero_tm (w : World) : (zeroValue 74).run Try.prog w = .ok (Tm.val ⟨ByteArray.empty, 0, 0⟩) w := by
  obtain ⟨i, hi, hz⟩ := Option.map_eq_some_iff.1 tm_info
  simp [zeroValue, typeInfo, hi, hz]
theorem key_str (s : ByteArray) (hs : s.size ≤ maxLen) : keyOf Try.prog 9 (.string s) = some (keyL s) := Go.WideMaps.keyOf_string_mk Try.underlying9 hs
def TakesAt (w : World) (x : Bool) (e : Ending) (w' : World) : Prop := e = .returned (.bool x) ∧ Below w.heap.size w w'
theorem takes_nil (s : ByteArray) (w : World) : Calls Try.prog 41 #[.pointer none, .string s] w (TakesAt w false) := by
  have hmf : ∀ (fn : Fn) (first cap : Array Value) (w : World), (Instr.makeFunc fn first cap).run Try.prog w = .ok (.func fn first cap) w := fun _ _ _ _ => rfl
  go_enter_defers Try.func41, Try.ntmps41
  go_wp2_with fail
  exact ⟨_, by simp [results, go_sem], rfl, (Below.refl _ _).alloc (Nat.le_refl _) _⟩
theorem takes_ok (C b n most : Nat) (sets : Int) (es : List Tm) (s : ByteArray) (w : World) (h : ClkAt w C b n most sets es) (hs : s.size ≤ maxLen) :
    Calls Try.prog 41 #[.pointer (some ⟨C, 0, none⟩), .string s] w (TakesAt w true) := by
  obtain ⟨⟨c0, c1, c2⟩, f0, f1, f2⟩ := h.box.three
  have hC := h.box.lt
  have hcb := h.ne
  obtain ⟨D, ho, hD⟩ := h.map
  clear h
  have ho1 := ownsMap_same (w' := w.alloc (.cells #[.bool false] 4)) ho (Below.heap_alloc _ _ _ ho.lt)
  obtain ⟨v, ps, hlk, hv⟩ := ho1.lookup (t := 70) (e := 74) strKey Try.underlying70 (z := Tm.val ⟨ByteArray.empty, 0, 0⟩) (zero_tm _) (timerR_val _) (key := .string s) (kl := keyL s) (key_str s hs)
  have hT := timerR_inv hv
  obtain ⟨t, rfl, ht⟩ := hT
  have HD := Lib.hid hD
  have HO := Lib.hid ho
  clear hD ho ho1 hv ht
  have hmf : ∀ (fn : Fn) (first cap : Array Value) (w : World), (Instr.makeFunc fn first cap).run Try.prog w = .ok (.func fn first cap) w := fun _ _ _ _ => rfl
  go_enter_defers Try.func41, Try.ntmps41
  go_wp2_with fail
  clear hmf hlk
  refine leaves_cons (f := 50) (args := #[.pointer (some ⟨w.heap.size, 0, none⟩)]) (by simp) (by simp [go_sem]) ?_
  refine (caught _ true _ (Bk.made w 4 #[.bool true])).mono ?_
  rintro e u' w3 ⟨rfl, rfl, rfl⟩
  exact ⟨.bool true, by simp [results, go_sem], rfl, ((Below.refl _ _).alloc (Nat.le_refl _) _).setCell (Nat.le_refl _) _⟩

def LenAt (w : World) (n : Int) (e : Ending) (w' : World) : Prop := e = .returned (.int .i64 n) ∧ w' = w
theorem len_ok (C b n most : Nat) (sets : Int) (es : List Tm) (w : World) (h : ClkAt w C b n most sets es) :
    Calls Try.prog 28 #[.pointer (some ⟨C, 0, none⟩)] w (LenAt w es.length) := by
  obtain ⟨⟨c0, c1, c2⟩, f0, f1, f2⟩ := h.box.three
  obtain ⟨D, ho, hD⟩ := h.map
  clear h
  have hl := hD.size
  have HO := Lib.hid ho
  clear hD ho
  go_enter Try.func28, Try.ntmps28
  go_wp2_with (at_len; refine wpList_len_own _ rfl _ 70 rfl 9 74 Try.underlying70 _ b n D rfl HO.out ?_)
  go_ret
  exact ⟨rfl, rfl⟩
def WhenAt (w : World) (n : Int) (x : Bool) (e : Ending) (w' : World) : Prop := e = .returned (.tuple #[.int .i64 n, .bool x]) ∧ Below w.heap.size w w'
theorem when_nil (s : ByteArray) (w : World) : Calls Try.prog 24 #[.pointer none, .string s] w (WhenAt w 0 false) := by
  go_enter Try.func24, Try.ntmps24
  go_wp2_with fail
  go_at_call 41
  refine (takes_nil s w).mono ?_
  rintro e w1 ⟨rfl, hb⟩
  go_wp2_with fail
  go_ret2
  exact ⟨rfl, hb⟩
/-- What the list says of a key. -/
structure Look (es : List Tm) (s : ByteArray) (v : Int) (x : Bool) : Prop where
  yes : x = decide (∃ t ∈ es, t.name = s)
  one : ∀ t ∈ es, t.name = s → v = t.tick
  none_ : x = false → v = 0
theorem Rd.look {D : DataW Unit} {es : List Tm} (h : Rd D es) {s : ByteArray} {t : Tm} (ht : D.atKey (keyL s) (Tm.dat ⟨ByteArray.empty, 0, 0⟩) = t.dat) : Look es s t.tick (Maps.has D (keyL s)) := by
  refine ⟨h.has s, fun x hx e => ?_, fun hf => ?_⟩
  · rw [← e, h.at_ x hx] at ht
    rw [dat_inj ht]
  · rw [h.has, decide_eq_false_iff_not] at hf
    rw [h.none_ s hf] at ht
    rw [← dat_inj ht]
theorem when_ok (C b n most : Nat) (sets : Int) (es : List Tm) (s : ByteArray) (w : World) (h : ClkAt w C b n most sets es) (hs : s.size ≤ maxLen) :
    Calls Try.prog 24 #[.pointer (some ⟨C, 0, none⟩), .string s] w fun e w' => ∃ v x, Look es s v x ∧ WhenAt w v x e w' := by
  have H := Lib.hid h
  have hC := h.box.lt
  have hks := key_str s hs
  clear h
  go_enter Try.func24, Try.ntmps24
  go_wp2_with fail
  go_at_call 41
  refine (takes_ok C b n most sets es s w H.out hs).mono ?_
  rintro e w1 ⟨rfl, hb⟩
  have H1 : ClkAt w1 C b n most sets es := H.out.below hb
  obtain ⟨⟨c0, c1, c2⟩, f0, f1, f2⟩ := H1.box.three
  have hC1 := H1.box.lt
  obtain ⟨D, ho, hD⟩ := H1.map
  have HB := Lib.hid hb
  have HO := Lib.hid ho
  have HD := Lib.hid hD
  clear H1 hb ho hD
  go_wp2_with (at_lookup; refine wpList_lookup_own_ok _ rfl _ _ 70 rfl 9 74 strKey Try.underlying70 _ (zero_tm _) _ [] (timerR_val _) b n D rfl HO.out _ _ rfl hks ?_; intro v ps hv; obtain ⟨t, rfl, ht⟩ := timerR_inv hv; unfold Tm.val)
  go_ret2
  exact ⟨_, _, HD.out.look ht, rfl, HB.out.alloc HB.out.size _⟩

def NewAt (w : World) (most : Int) (e : Ending) (w' : World) : Prop :=
  ∃ C b, e = .returned (.pointer (some ⟨C, 0, none⟩)) ∧ w.heap.size ≤ C ∧ w.heap.size ≤ b ∧ ClkAt w' C b 0 (max 0 (min most 64)).toNat 0 [] ∧ Below w.heap.size w w'
theorem made_clk (w : World) (k : Nat) : ClkAt ((w.alloc (.map #[] 0)).alloc (.cells #[.int .i64 k, .int .i64 0, .map (some w.heap.size)] 72)) (w.heap.size + 1) w.heap.size 0 k 0 [] := by
  have h1 := Bk.made (w.alloc (.map #[] 0)) 72 #[.int .i64 k, .int .i64 0, .map (some w.heap.size)]
  have h2 := (MapAt.made w).same (Below.heap_alloc (w.alloc (.map #[] 0)) (.cells #[.int .i64 k, .int .i64 0, .map (some w.heap.size)] 72) w.heap.size (by simp))
  simp only [World.size_alloc] at h1
  exact ⟨h1, h2⟩
theorem new_end (k : Nat) (most : Int) (w : World) (h : (max 0 (min most 64)).toNat = k) :
    NewAt w most (.returned (.pointer (some ⟨w.heap.size + 1, 0, none⟩))) ((w.alloc (.map #[] 0)).alloc (.cells #[.int .i64 k, .int .i64 0, .map (some w.heap.size)] 72)) :=
  ⟨_, _, rfl, by omega, Nat.le_refl _, h ▸ made_clk w k, ((Below.refl _ _).alloc (Nat.le_refl _) _).alloc (by simp) _⟩
theorem new_ok (most : Int) (w : World) : Calls Try.prog 21 #[.int .i64 most] w (NewAt w most) := by
  go_enter Try.func21, Try.ntmps21
  have hmm : ∀ w : World, (Instr.makeMap 70 none).run Try.prog w = .ok (.map (some w.heap.size)) (w.alloc (.map #[] 0)) := fun _ => rfl
  go_wp2_with fail
  · go_ret
    exact new_end 0 most w (by omega)
  · go_ret
    exact new_end 64 most w (by omega)
  · go_ret
    obtain ⟨k, rfl⟩ := Int.eq_ofNat_of_zero_le (a := most) (by assumption)
    exact new_end k k w (by omega)

theorem tch_turned {w w' : World} {b : Nat} (h : w.mapTurned w' b) : Tch (· = b) w w' :=
  (Tch.refl (· = b) w).grown h.grown (fun k e _ => by injection e with e; exact e.symm)
theorem tch_of_below {S : Nat → Prop} {w w1 : World} (h : Below w.heap.size w w1) : Tch S w w1 := ⟨h.os, h.tape, h.output, h.size, fun k hk _ => h.block k hk⟩
theorem dropK_none {es : List Tm} {s : ByteArray} (h : ¬ ∃ t ∈ es, t.name = s) : dropK es s = es :=
  List.filter_eq_self.2 fun t ht => decide_eq_true fun e => h ⟨t, ht, e⟩
def UnsetAt (C b n most : Nat) (sets : Int) (es : List Tm) (s : ByteArray) (w : World) (e : Ending) (w' : World) : Prop :=
  e = .returned (.bool (decide (∃ t ∈ es, t.name = s))) ∧ ClkAt w' C b n most sets (dropK es s) ∧ Tch (· = b) w w'
theorem unset_ok (C b n most : Nat) (sets : Int) (es : List Tm) (s : ByteArray) (w : World) (h : ClkAt w C b n most sets es) (hs : s.size ≤ maxLen) :
    Calls Try.prog 22 #[.pointer (some ⟨C, 0, none⟩), .string s] w (UnsetAt C b n most sets es s w) := by
  have H := Lib.hid h
  have hC := h.box.lt
  have hks := key_str s hs
  clear h
  go_enter Try.func22, Try.ntmps22
  go_wp2_with fail
  go_at_call 24
  refine (when_ok C b n most sets es s w H.out hs).mono ?_
  rintro e w1 ⟨v, x, hl, rfl, hb⟩
  have H1 : ClkAt w1 C b n most sets es := H.out.below hb
  have HL := Lib.hid hl.yes
  obtain ⟨⟨c0, c1, c2⟩, f0, f1, f2⟩ := H1.box.three
  have hC1 := H1.box.lt
  obtain ⟨D, ho, hD⟩ := H1.map
  have HB := Lib.hid hb
  have HO := Lib.hid ho
  have HD := Lib.hid hD
  have HC := Lib.hid H1
  clear H1 hb ho hD hl H
  cases x
  · go_wp2_with fail
    go_ret
    have hn : ¬ ∃ t ∈ es, t.name = s := decide_eq_false_iff_not.1 HL.out.symm
    exact ⟨by rw [← HL.out]; rfl, by rw [dropK_none hn]; exact HC.out, tch_of_below HB.out⟩
  · go_wp2_with (first
      | (at_delete; refine wpList_delete_own _ rfl _ _ 70 9 rfl 74 strKey Try.underlying70 _ b n D rfl HO.out _ _ rfl hks ?_; intro w2 hown1 hturn1)
      | go_in)
    go_ret
    have ht := tch_turned hturn1
    exact ⟨by rw [← HL.out]; rfl, ⟨HC.out.box.keep (ht.block C hC1 HC.out.ne), ⟨_, hown1, HD.out.del (tidy_of HO.out) s⟩⟩, (tch_of_below HB.out).then ht⟩

theorem step_mapput {H : Type} {P : Program} {w : World} {ops : Array Oper} {o : Oper} {a : Act} {K : Act → World → Prop} {Q : Exit → Act → World → Prop} {E : Prop} (hg : o.guard = none) (m x v : Operand) (t : TypeId) (hop : o.op = Op.mapUpdate t m x v)
    (k e : TypeId) (hK : Keyed P k) (ht : P.underlying t = some (.map k e)) (R : Value → Option (DataW H × List MemPlace)) (b n : Nat) (D : DataW H)
    (hm : a.eval m = .map (some b)) (hown : w.ownsMap P k R b n D) (hn : n < maxLen) (key val : Value) (kl : Lit) (hx : a.eval x = key) (hv : a.eval v = val) (hkey : keyOf P k key = some kl)
    (d : DataW H) (ps : List MemPlace) (hval : R val = some (d, ps))
    (h : ∀ w', Hid (w'.ownsMap P k R b (n + 1) (D.put kl d)) → Hid (w.mapTurned w' b) → K (a.put o.dst undef) w') :
    if Region.wanted o (yielded ops a.tmps) = true then Oper.wp P o a w K Q else E := by
  have hw : Region.wanted o (yielded ops a.tmps) = true := by simp [Region.wanted, hg]
  rw [if_pos hw]
  obtain ⟨w', hrun, r1, r2⟩ := hown.store hK ht hn hkey hval
  unfold Oper.wp
  simp [execOp, hop, hm, hx, hv, hrun, Result.andThen]
  exact h _ (Lib.hid r1) (Lib.hid r2)
def SetS (C b : Nat) (k : Nat) : Prop := k = C ∨ k = b
theorem set_full (C b n most : Nat) (sets : Int) (es : List Tm) (s : ByteArray) (at_ : Int) (w : World) (h : ClkAt w C b n most sets es) (hs : s.size ≤ maxLen) (hn : ¬ ∃ t ∈ es, t.name = s) (hf : most ≤ es.length) :
    Calls Try.prog 27 #[.pointer (some ⟨C, 0, none⟩), .string s, .int .i64 at_] w fun e w' => e = .returned (.bool false) ∧ ClkAt w' C b n most sets es ∧ Tch (SetS C b) w w' := by
  have H := Lib.hid h
  have hC := h.box.lt
  have hks := key_str s hs
  clear h
  go_enter Try.func27, Try.ntmps27
  go_wp2_with fail
  go_at_call 41
  refine (takes_ok C b n most sets es s w H.out hs).mono ?_
  rintro e w1 ⟨rfl, hb⟩
  have H1 : ClkAt w1 C b n most sets es := H.out.below hb
  obtain ⟨⟨c0, c1, c2⟩, f0, f1, f2⟩ := H1.box.three
  have hC1 := H1.box.lt
  obtain ⟨D, ho, hD⟩ := H1.map
  have HB := Lib.hid hb
  have HO := Lib.hid ho
  have HD := Lib.hid hD
  have HC := Lib.hid H1
  have hhas : Maps.has D (keyL s) = false := by rw [hD.has]; exact decide_eq_false_iff_not.2 hn
  clear H1 hb ho hD H hn
  have hge : (most : Int) ≤ (es.length : Int) := by omega
  go_upto_region 4 with (first
    | (at_lookup; refine wpList_lookup_own_ok _ rfl _ _ 70 rfl 9 74 strKey Try.underlying70 _ (zero_tm _) _ [] (timerR_val _) b n D rfl HO.out _ _ rfl hks ?_; intro v ps hv; obtain ⟨t, rfl, ht⟩ := timerR_inv hv; unfold Tm.val; rw [hhas])
    | go_in)
  have hrun : ∀ nn ty, (Builtin.len_ #[70] ty #[.map (some b)]).run Try.prog ((w1.alloc (.cells #[.string t.name, .int .i64 t.tick, .int .i64 t.turn] 74)).drewN nn) = .ok (.int .i64 es.length) ((w1.alloc (.cells #[.string t.name, .int .i64 t.tick, .int .i64 t.turn] 74)).drewN nn) := by
    intro nn ty
    have ho2 := ownsMap_same (w' := (w1.alloc (.cells #[.string t.name, .int .i64 t.tick, .int .i64 t.turn] 74)).drewN nn) HO.out (Below.heap_alloc w1 _ _ HO.out.lt)
    have h1 := ho2.len Try.underlying70 ty
    rw [HD.out.size] at h1
    exact h1
  go_quiet ((rintro ⟨nn, rfl⟩; simp [go_sem, hrun nn, Result.andThen]))
  have hbw : Below w1.heap.size w1 ((w1.alloc (.cells #[.string t.name, .int .i64 t.tick, .int .i64 t.turn] 74)).drewN nq) := bdN ((Below.refl _ _).alloc (Nat.le_refl _) _) nq
  go_wp2_with fail
  go_ret
  exact ⟨rfl, HC.out.below hbw, (tch_of_below HB.out).then (tch_of_below hbw)⟩
theorem set_room (C b n most : Nat) (sets : Int) (es : List Tm) (s : ByteArray) (at_ : Int) (w : World) (h : ClkAt w C b n most sets es) (hs : s.size ≤ maxLen) (hn : ¬ ∃ t ∈ es, t.name = s) (hf : es.length < most) (hnn : n < maxLen) (hs0 : 0 ≤ sets) (hs1 : sets < 2 ^ 40) :
    Calls Try.prog 27 #[.pointer (some ⟨C, 0, none⟩), .string s, .int .i64 at_] w fun e w' => e = .returned (.bool true) ∧ ClkAt w' C b (n + 1) most (sets + 1) (dropK es s ++ [⟨s, at_, sets + 1⟩]) ∧ Tch (SetS C b) w w' := by
  have H := Lib.hid h
  have hC := h.box.lt
  have hks := key_str s hs
  clear h
  go_enter Try.func27, Try.ntmps27
  go_wp2_with fail
  go_at_call 41
  refine (takes_ok C b n most sets es s w H.out hs).mono ?_
  rintro e w1 ⟨rfl, hb⟩
  have H1 : ClkAt w1 C b n most sets es := H.out.below hb
  obtain ⟨⟨c0, c1, c2⟩, f0, f1, f2⟩ := H1.box.three
  have hC1 := H1.box.lt
  obtain ⟨D, ho, hD⟩ := H1.map
  have HB := Lib.hid hb
  have HO := Lib.hid ho
  have HD := Lib.hid hD
  have HC := Lib.hid H1
  have hhas : Maps.has D (keyL s) = false := by rw [hD.has]; exact decide_eq_false_iff_not.2 hn
  clear H1 hb ho hD H hn
  have hge : decide (most ≤ es.length) = false := decn_ (by omega)
  have hwr : IntKind.i64.wrap (sets + 1) = sets + 1 := IntWalk.i64_in _ (by omega)
  go_upto_region 4 with (first
    | (at_lookup; refine wpList_lookup_own_ok _ rfl _ _ 70 rfl 9 74 strKey Try.underlying70 _ (zero_tm _) _ [] (timerR_val _) b n D rfl HO.out _ _ rfl hks ?_; intro v ps hv; obtain ⟨t, rfl, ht⟩ := timerR_inv hv; unfold Tm.val; rw [hhas])
    | go_in)
  have hrun : ∀ nn ty, (Builtin.len_ #[70] ty #[.map (some b)]).run Try.prog ((w1.alloc (.cells #[.string t.name, .int .i64 t.tick, .int .i64 t.turn] 74)).drewN nn) = .ok (.int .i64 es.length) ((w1.alloc (.cells #[.string t.name, .int .i64 t.tick, .int .i64 t.turn] 74)).drewN nn) := by
    intro nn ty
    have ho2 := ownsMap_same (w' := (w1.alloc (.cells #[.string t.name, .int .i64 t.tick, .int .i64 t.turn] 74)).drewN nn) HO.out (Below.heap_alloc w1 _ _ HO.out.lt)
    have h1 := ho2.len Try.underlying70 ty
    rw [HD.out.size] at h1
    exact h1
  go_quiet ((rintro ⟨nn, rfl⟩; simp [go_sem, hrun nn, Result.andThen]))
  have hbw : Below w1.heap.size w1 ((w1.alloc (.cells #[.string t.name, .int .i64 t.tick, .int .i64 t.turn] 74)).drewN nq) := bdN ((Below.refl _ _).alloc (Nat.le_refl _) _) nq
  have hrg : ((w1.alloc (.cells #[.string t.name, .int .i64 t.tick, .int .i64 t.turn] 74)).drewN nq).heap.size = w1.heap.size + 1 := by simp
  have H2 := HC.out.below hbw
  clear hrun ht hv
  generalize ((w1.alloc (.cells #[.string t.name, .int .i64 t.tick, .int .i64 t.turn] 74)).drewN nq) = w2 at hbw hrg H2 ⊢
  obtain ⟨⟨d0, d1, d2⟩, g0, g1, g2⟩ := H2.box.three
  have HBW := Lib.hid hbw
  have HN := Lib.hid hnn
  have hC2 := H2.box.lt
  have HC2 := Lib.hid H2
  clear c0 c1 c2 f0 f1 f2 hbw hnn hs0 hs1 hf H2
  go_upto_region 7 with (fail)
  have ht3 : Tch (SetS C b) w2 (w2.setCell ⟨C, 1, none⟩ (.int .i64 (sets + 1))) := (Tch.refl _ _).setCell (fun _ => .inl rfl) _
  have H3 : ClkAt (w2.setCell ⟨C, 1, none⟩ (.int .i64 (sets + 1))) C b n most (sets + 1) es :=
    ⟨by simpa using HC2.out.box.store 1 (.int .i64 (sets + 1)), HC2.out.map.same (Below.heap_setCell _ _ _ _ (fun e => HC2.out.ne e.symm))⟩
  generalize (w2.setCell ⟨C, 1, none⟩ (.int .i64 (sets + 1))) = w3 at ht3 H3 ⊢
  obtain ⟨⟨e0, e1, e2⟩, k0, k1, k2⟩ := H3.box.three
  obtain ⟨D3, ho3, hD3⟩ := H3.map
  have HO3 := Lib.hid ho3
  have HD3 := Lib.hid hD3
  have hC3 := H3.box.lt
  have HC3 := Lib.hid H3
  have HT3 := Lib.hid ht3
  clear d0 d1 d2 g0 g1 g2 ho3 hD3 H3 ht3
  obtain ⟨w4, hrun4, r1, r2⟩ := (ownsMap_same (w' := w3.drew) HO3.out rfl).store (t := 70) (e := 74) strKey Try.underlying70 HN.out (key := .string s) (val := Tm.val ⟨s, at_, sets + 1⟩) (kl := keyL s) hks (timerR_val _)
  simp only [Tm.val] at hrun4
  have R1 := Lib.hid r1
  have R2 := Lib.hid r2
  clear r1 r2
  go_region
  go_wp2_with fail
  go_ret
  have ht4 := tch_turned R2.out
  have hput := HD3.out.put (tidy_of HO3.out) ⟨s, at_, sets + 1⟩
  have hbk : w4.heap[C]? = w3.heap[C]? := ht4.block C hC3 HC3.out.ne
  exact ⟨rfl, ⟨HC3.out.box.keep hbk, ⟨_, R1.out, hput⟩⟩, (tch_of_below HB.out).then ((tch_of_below HBW.out).then (HT3.out.drew.then (ht4.more fun k _ e => .inr e)))⟩

theorem set_has (C b n most : Nat) (sets : Int) (es : List Tm) (s : ByteArray) (at_ : Int) (w : World) (h : ClkAt w C b n most sets es) (hs : s.size ≤ maxLen) (hn : ∃ t ∈ es, t.name = s) (hnn : n < maxLen) (hs0 : 0 ≤ sets) (hs1 : sets < 2 ^ 40) :
    Calls Try.prog 27 #[.pointer (some ⟨C, 0, none⟩), .string s, .int .i64 at_] w fun e w' => e = .returned (.bool true) ∧ ClkAt w' C b (n + 1) most (sets + 1) (dropK es s ++ [⟨s, at_, sets + 1⟩]) ∧ Tch (SetS C b) w w' := by
  have H := Lib.hid h
  have hC := h.box.lt
  have hks := key_str s hs
  clear h
  go_enter Try.func27, Try.ntmps27
  go_wp2_with fail
  go_at_call 41
  refine (takes_ok C b n most sets es s w H.out hs).mono ?_
  rintro e w1 ⟨rfl, hb⟩
  have H1 : ClkAt w1 C b n most sets es := H.out.below hb
  obtain ⟨⟨c0, c1, c2⟩, f0, f1, f2⟩ := H1.box.three
  have hC1 := H1.box.lt
  obtain ⟨D, ho, hD⟩ := H1.map
  have HB := Lib.hid hb
  have HO := Lib.hid ho
  have HD := Lib.hid hD
  have HC := Lib.hid H1
  have hhas : Maps.has D (keyL s) = true := by rw [hD.has]; exact decide_eq_true hn
  clear H1 hb ho hD H hn
  have hwr : IntKind.i64.wrap (sets + 1) = sets + 1 := IntWalk.i64_in _ (by omega)
  go_upto_region 4 with (first
    | (at_lookup; refine wpList_lookup_own_ok _ rfl _ _ 70 rfl 9 74 strKey Try.underlying70 _ (zero_tm _) _ [] (timerR_val _) b n D rfl HO.out _ _ rfl hks ?_; intro v ps hv; obtain ⟨t, rfl, ht⟩ := timerR_inv hv; unfold Tm.val; rw [hhas])
    | go_in)
  have hrun : ∀ nn ty, (Builtin.len_ #[70] ty #[.map (some b)]).run Try.prog ((w1.alloc (.cells #[.string t.name, .int .i64 t.tick, .int .i64 t.turn] 74)).drewN nn) = .ok (.int .i64 es.length) ((w1.alloc (.cells #[.string t.name, .int .i64 t.tick, .int .i64 t.turn] 74)).drewN nn) := by
    intro nn ty
    have ho2 := ownsMap_same (w' := (w1.alloc (.cells #[.string t.name, .int .i64 t.tick, .int .i64 t.turn] 74)).drewN nn) HO.out (Below.heap_alloc w1 _ _ HO.out.lt)
    have h1 := ho2.len Try.underlying70 ty
    rw [HD.out.size] at h1
    exact h1
  go_quiet ((rintro ⟨nn, rfl⟩; simp [go_sem, hrun nn, Result.andThen]))
  have hbw : Below w1.heap.size w1 ((w1.alloc (.cells #[.string t.name, .int .i64 t.tick, .int .i64 t.turn] 74)).drewN nq) := bdN ((Below.refl _ _).alloc (Nat.le_refl _) _) nq
  have hrg : ((w1.alloc (.cells #[.string t.name, .int .i64 t.tick, .int .i64 t.turn] 74)).drewN nq).heap.size = w1.heap.size + 1 := by simp
  have H2 := HC.out.below hbw
  clear hrun ht hv
  generalize ((w1.alloc (.cells #[.string t.name, .int .i64 t.tick, .int .i64 t.turn] 74)).drewN nq) = w2 at hbw hrg H2 ⊢
  obtain ⟨⟨d0, d1, d2⟩, g0, g1, g2⟩ := H2.box.three
  have HBW := Lib.hid hbw
  have HN := Lib.hid hnn
  have hC2 := H2.box.lt
  have HC2 := Lib.hid H2
  clear c0 c1 c2 f0 f1 f2 hbw hnn hs0 hs1 H2
  go_upto_region 7 with (fail)
  have ht3 : Tch (SetS C b) w2 (w2.setCell ⟨C, 1, none⟩ (.int .i64 (sets + 1))) := (Tch.refl _ _).setCell (fun _ => .inl rfl) _
  have H3 : ClkAt (w2.setCell ⟨C, 1, none⟩ (.int .i64 (sets + 1))) C b n most (sets + 1) es :=
    ⟨by simpa using HC2.out.box.store 1 (.int .i64 (sets + 1)), HC2.out.map.same (Below.heap_setCell _ _ _ _ (fun e => HC2.out.ne e.symm))⟩
  generalize (w2.setCell ⟨C, 1, none⟩ (.int .i64 (sets + 1))) = w3 at ht3 H3 ⊢
  obtain ⟨⟨e0, e1, e2⟩, k0, k1, k2⟩ := H3.box.three
  obtain ⟨D3, ho3, hD3⟩ := H3.map
  have HO3 := Lib.hid ho3
  have HD3 := Lib.hid hD3
  have hC3 := H3.box.lt
  have HC3 := Lib.hid H3
  have HT3 := Lib.hid ht3
  clear d0 d1 d2 g0 g1 g2 ho3 hD3 H3 ht3
  obtain ⟨w4, hrun4, r1, r2⟩ := (ownsMap_same (w' := w3.drew) HO3.out rfl).store (t := 70) (e := 74) strKey Try.underlying70 HN.out (key := .string s) (val := Tm.val ⟨s, at_, sets + 1⟩) (kl := keyL s) hks (timerR_val _)
  simp only [Tm.val] at hrun4
  have R1 := Lib.hid r1
  have R2 := Lib.hid r2
  clear r1 r2
  go_region
  go_wp2_with fail
  go_ret
  have ht4 := tch_turned R2.out
  have hput := HD3.out.put (tidy_of HO3.out) ⟨s, at_, sets + 1⟩
  have hbk : w4.heap[C]? = w3.heap[C]? := ht4.block C hC3 HC3.out.ne
  exact ⟨rfl, ⟨HC3.out.box.keep hbk, ⟨_, R1.out, hput⟩⟩, (tch_of_below HB.out).then ((tch_of_below HBW.out).then (HT3.out.drew.then (ht4.more fun k _ e => .inr e)))⟩
end Go.Proofs.Ytohpbjbbkpllaaa
