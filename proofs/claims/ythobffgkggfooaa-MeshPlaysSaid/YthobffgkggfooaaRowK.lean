/-
  Slices of elements of several cells: reading them ('Slk'), appending to a row of the call's own (any size of element). They speak of no program.
-/
import Derived.Test.YthobffgkggfooaaMem
set_option linter.unusedVariables false
set_option linter.unusedSimpArgs false
namespace Go.Proofs.Ythobffgkggfooaa
open Go.RowKit

section
variable {α : Type} {enc : α → List Value} {k : Nat}
/-- The slice v reads as the list l, each element by its cells, in blocks of S. -/
def Slk (enc : α → List Value) (k : Nat) (w : World) (S : Nat → Prop) (v : Value) (l : List α) : Prop :=
  ∃ ao cap, v = .slice ao l.length cap ∧ l.length ≤ cap ∧ cap ≤ maxLen ∧ (ao = none → cap = 0) ∧
    (0 < l.length → ∃ b off, ao = some ⟨b, off, none⟩ ∧ S b ∧ b < w.heap.size ∧ ∀ j (h : j < l.length) c u, (enc l[j])[c]? = some u → w.cell? ⟨b, off + j * k + c, none⟩ = some u)
variable {w w' : World} {S T : Nat → Prop} {v : Value} {l : List α}
theorem Slk.keep (h : Slk enc k w S v l) (hz : w.heap.size ≤ w'.heap.size) (hk : ∀ b, b < w.heap.size → S b → w'.heap[b]? = w.heap[b]?) : Slk enc k w' S v l := by
  obtain ⟨ao, cap, h1, h2, h3, h0, h4⟩ := h
  refine ⟨ao, cap, h1, h2, h3, h0, fun hp => ?_⟩
  obtain ⟨b, off, e, hs, hb, hc⟩ := h4 hp
  exact ⟨b, off, e, hs, by omega, fun j hj c u hu => (World.cell?_of_block (hk b hb hs)).trans (hc j hj c u hu)⟩
theorem Slk.tch (h : Slk enc k w S v l) (hk : Tch T w w') (hd : ∀ b, S b → ¬ T b) : Slk enc k w' S v l := h.keep hk.size fun b hb hs => hk.block b hb (hd b hs)
theorem Slk.below {B : Nat} (h : Slk enc k w (· < B) v l) (hb : Below B w w') : Slk enc k w' (· < B) v l := h.keep hb.size fun b _ hs => hb.block b hs
theorem Slk.since (h : Slk enc k w S v l) (hb : Below w.heap.size w w') : Slk enc k w' S v l := h.keep hb.size fun b hl hs => hb.block b hl
theorem Slk.more (h : Slk enc k w S v l) (hS : ∀ b, b < w.heap.size → S b → T b) : Slk enc k w T v l := by
  obtain ⟨ao, cap, h1, h2, h3, h0, h4⟩ := h
  refine ⟨ao, cap, h1, h2, h3, h0, fun hp => ?_⟩
  obtain ⟨b, off, e, hs, hb, hc⟩ := h4 hp
  exact ⟨b, off, e, hS b hb hs, hb, hc⟩
theorem Slk.shape (h : Slk enc k w S v l) : ∃ ao cap, v = .slice ao l.length cap ∧ l.length ≤ cap ∧ cap ≤ maxLen := by
  obtain ⟨ao, cap, h1, h2, h3, _⟩ := h
  exact ⟨ao, cap, h1, h2, h3⟩
theorem Slk.at_ {ao : Option Addr} {n cap : Nat} (h : Slk enc k w S (.slice ao n cap) l) (h0 : 0 < l.length) :
    ∃ b off, ao = some ⟨b, off, none⟩ ∧ S b ∧ b < w.heap.size ∧ ∀ j (h : j < l.length) c u, (enc l[j])[c]? = some u → w.cell? ⟨b, off + j * k + c, none⟩ = some u := by
  obtain ⟨ao', cap', e, _, _, _, h4⟩ := h
  injection e with e1 _ _
  subst e1
  exact h4 h0
theorem Slk.nil : Slk enc k w S (.slice none 0 0) [] := ⟨none, 0, rfl, Nat.le_refl _, Nat.zero_le _, fun _ => rfl, fun h => absurd h (by simp)⟩
theorem Slk.head {b off m cap : Nat} (h : Slk enc k w S (.slice (some ⟨b, off, none⟩) m cap) l) {n c2 : Nat} (hn : n ≤ m) (hc : n ≤ c2) (hc2 : c2 ≤ maxLen) : Slk enc k w S (.slice (some ⟨b, off, none⟩) n c2) (l.take n) := by
  obtain ⟨ao', cap', e, h2, h3, h0, h4⟩ := h
  injection e with e1 e2 e3
  subst e1; subst e2; subst e3
  have hl : (l.take n).length = n := by rw [List.length_take]; omega
  refine ⟨_, c2, by rw [hl], by omega, hc2, (fun h => by cases h), fun hp => ?_⟩
  obtain ⟨b', off', e, hs, hb, hcc⟩ := h4 (by omega)
  exact ⟨b', off', e, hs, hb, fun j hj c u hu => hcc j (by omega) c u (by rw [List.getElem_take] at hu; exact hu)⟩
theorem Slk.tail {b off m cap : Nat} (h : Slk enc k w S (.slice (some ⟨b, off, none⟩) m cap) l) {n m2 c2 : Nat} (hn : n ≤ m) (hm : m2 = m - n) (hc : m2 ≤ c2) (hc2 : c2 ≤ maxLen) : Slk enc k w S (.slice (some ⟨b, off + n * k, none⟩) m2 c2) (l.drop n) := by
  obtain ⟨ao', cap', e, h2, h3, h0, h4⟩ := h
  injection e with e1 e2 e3
  subst e1; subst e2; subst e3
  have hl : (l.drop n).length = m2 := by rw [List.length_drop]; omega
  refine ⟨_, c2, by rw [hl], by omega, hc2, (fun h => by cases h), fun hp => ?_⟩
  obtain ⟨b', off', e, hs, hb, hcc⟩ := h4 (by omega)
  injection e with e
  injection e with e1 e2 _
  subst e1; subst e2
  refine ⟨_, _, rfl, hs, hb, fun j hj c u hu => ?_⟩
  have := hcc (n + j) (by omega) c u (by rw [List.getElem_drop] at hu; exact hu)
  rw [Nat.add_mul] at this
  rw [← Nat.add_assoc] at this
  exact this

theorem flat_lengthK (hk : ∀ x, (enc x).length = k) (l : List α) : (l.flatMap enc).length = l.length * k := by
  induction l with
  | nil => simp
  | cons t l ih => simp only [List.flatMap_cons, List.length_append, ih, hk, List.length_cons, Nat.add_mul]; omega
theorem flat_getK (hk : ∀ x, (enc x).length = k) : ∀ (l : List α) (i c : Nat) (t : α), l[i]? = some t → c < k → (l.flatMap enc)[i * k + c]? = (enc t)[c]?
  | [], i, c, t, h, _ => by simp at h
  | x :: l, 0, c, t, h, hc => by
    simp at h
    subst h
    rw [List.flatMap_cons, List.getElem?_append_left (by rw [hk]; omega), Nat.zero_mul, Nat.zero_add]
  | x :: l, i + 1, c, t, h, hc => by
    have e0 : (i + 1) * k + c = k + (i * k + c) := by rw [Nat.add_mul]; omega
    rw [List.flatMap_cons, List.getElem?_append_right (by rw [hk]; omega), hk]
    have e : (i + 1) * k + c - k = i * k + c := by omega
    rw [e]
    exact flat_getK hk l i c t (by simpa using h) hc
/-- The cells of a slice, flat: the source of an append. -/
theorem Slk.flat (hk : ∀ x, (enc x).length = k) {b off n cap : Nat} (h : Slk enc k w S (.slice (some ⟨b, off, none⟩) n cap) l) : ∀ (j : Nat) (u : Value), (l.flatMap enc)[j]? = some u → w.cell? ((⟨b, off, none⟩ : Addr).add j) = some u := by
  intro j u hu
  have hj := (List.getElem?_eq_some_iff.1 hu).1
  rw [flat_lengthK hk] at hj
  have hk0 : 0 < k := Nat.pos_of_ne_zero fun e => by subst e; simp at hj
  have hi : j / k < l.length := Nat.div_lt_of_lt_mul (by rw [Nat.mul_comm]; exact hj)
  obtain ⟨b', off', e, _, _, hc⟩ := h.at_ (Nat.lt_of_le_of_lt (Nat.zero_le _) hi)
  injection e with e
  injection e with e1 e2 _
  subst e1; subst e2
  have hd : j / k * k + j % k = j := by have := Nat.div_add_mod j k; rw [Nat.mul_comm] at this; exact this
  have hg := flat_getK hk l (j / k) (j % k) l[j / k] (List.getElem?_eq_getElem hi) (Nat.mod_lt _ hk0)
  rw [hd, hu] at hg
  have := hc (j / k) hi (j % k) u hg.symm
  rw [Nat.add_assoc, hd] at this
  rw [Addr.add_lit]
  exact this
/-- A row of the call's own reads as its list. -/
theorem own_slk (hk : ∀ x, (enc x).length = k) {base : Nat} {e : TypeId} (h : w.ownsRow base e k v l.length (l.flatMap enc)) : Slk enc k w (fun b => base ≤ b) v l := by
  rcases h.2 with ⟨rfl, h0⟩ | ⟨g, cap, cur, rfl, hb, hg, hnc, hm, hcs, ht⟩
  · obtain rfl : l = [] := List.eq_nil_of_length_eq_zero h0
    exact Slk.nil
  · refine ⟨_, cap, rfl, hnc, hm, (fun h => by cases h), fun hp => ⟨g, 0, rfl, hb, (Array.getElem?_eq_some_iff.1 hg).1, fun j hj c u hu => ?_⟩⟩
    have hc : c < k := by have := (List.getElem?_eq_some_iff.1 hu).1; rwa [hk] at this
    have h1 := flat_getK hk l j c l[j] (List.getElem?_eq_getElem hj) hc
    rw [hu, ← ht, List.getElem?_take] at h1
    split at h1
    · have hbk : Bk w g e cur := hg
      rw [Nat.zero_add, hbk.cell]
      simpa using h1
    · cases h1
end

theorem toList_inj {a b : ByteArray} (h : a.toList = b.toList) : a = b := by
  rw [ByteArray.toList_eq, ByteArray.toList_eq] at h
  cases a; cases b
  congr
  exact Array.toList_inj.1 h
/-- The test of two texts, as the walk writes it. -/
theorem str_eq {a b : ByteArray} (h : a = b) : (a.toList == b.toList) = true := by subst h; simp
theorem str_ne {a b : ByteArray} (h : a ≠ b) : (a.toList == b.toList) = false := by
  rw [beq_eq_false_iff_ne]
  exact fun e => h (toList_inj e)
theorem str_neq {a b : ByteArray} (h : a ≠ b) : (a.toList != b.toList) = true := by
  rw [bne_iff_ne]
  exact fun e => h (toList_inj e)
theorem str_nne {a b : ByteArray} (h : a = b) : (a.toList != b.toList) = false := by subst h; simp
/-- append onto a row of the call's own, elements of any size, whatever the source. -/
theorem run_appK {P : Program} (w : World) (base : Nat) (t ty e : TypeId) (i : TypeInfo) (z : Value) (size bytes : Nat) (ht : P.underlying t = some (.slice e)) (hi : P.info? e = some i) (hz : i.zero = some z)
    (hsize : i.size = size) (hby : i.bytes = bytes) (hzs : z.cells.size = size) (hsz : 0 < size) (v : Value) (n : Nat) (xs : List Value) (hown : w.ownsRow base e size v n xs)
    (A : Option Addr) (m c : Nat) (news : List Value) (hl : news.length = m * size) (hA : A = none → c = 0) (hm : A = none → m = 0) (hnews : 0 < m → ∃ ad, A = some ad ∧ ∀ (j : Nat) (u : Value), news[j]? = some u → w.cell? (ad.add j) = some u) (h1 : ∀ u ∈ news, u.oneCell' = true)
    (h63 : n + m ≤ maxLen) (hbytes : (n + m) * bytes ≤ 140737488355328) (hbase : base ≤ w.heap.size) :
    ∃ v' w', (Builtin.append_ #[t, t] ty #[v, .slice A m c]).run P w = .ok v' w' ∧ w'.ownsRow base e size v' (n + m) (xs ++ news) ∧ w.grownBy w' v.ownBlock := by
  rcases A with _ | ad
  · have := hA rfl
    have := hm rfl
    subst c m
    obtain rfl : news = [] := List.eq_nil_of_length_eq_zero (by omega)
    exact ⟨v, w, run_append_owned_none (P := P) w base t ty e i size ht hi v n xs hown, by simpa using hown, World.grownBy.refl w _⟩
  · have hc : ∀ (j : Nat) (u : Value), news[j]? = some u → w.cell? (ad.add j) = some u := by
      intro j u hu
      have hm0 : 0 < m := Nat.pos_of_ne_zero fun e => by subst e; have := (List.getElem?_eq_some_iff.1 hu).1; omega
      obtain ⟨ad', e, hc⟩ := hnews hm0
      obtain rfl := Option.some.inj e
      exact hc j u hu
    obtain ⟨v', w', hr, h2, h3, _⟩ := run_append_own (P := P) w base t ty e i z size bytes ht hi hz hsize hby hzs hsz v n xs hown ad m c news hl hc h1 h63 hbytes hbase
    exact ⟨v', w', hr, h2, h3⟩
theorem wp_appK {P : Program} {w : World} {o : Oper} {a : Act} {K : Act → World → Prop} {Q : Exit → Act → World → Prop} (s x : Operand) (t : TypeId)
    (ho : o.op = .call { callee := .builtin .append, args := #[s, x], argTypes := #[t, t] })
    (base : Nat) (e : TypeId) (i : TypeInfo) (z : Value) (size bytes : Nat) (ht : P.underlying t = some (.slice e)) (hi : P.info? e = some i) (hz : i.zero = some z)
    (hsize : i.size = size) (hby : i.bytes = bytes) (hzs : z.cells.size = size) (hsz : 0 < size) (v : Value) (n : Nat) (xs : List Value) (hs : a.eval s = v) (hown : w.ownsRow base e size v n xs)
    (A : Option Addr) (m c : Nat) (news : List Value) (hx : a.eval x = .slice A m c) (hl : news.length = m * size) (hA : A = none → c = 0) (hm : A = none → m = 0) (hnews : 0 < m → ∃ ad, A = some ad ∧ ∀ (j : Nat) (u : Value), news[j]? = some u → w.cell? (ad.add j) = some u) (h1 : ∀ u ∈ news, u.oneCell' = true)
    (h63 : n + m ≤ maxLen) (hbytes : (n + m) * bytes ≤ 140737488355328) (hbase : base ≤ w.heap.size)
    (h : ∀ v' w', Hid (w'.ownsRow base e size v' (n + m) (xs ++ news)) → Hid (w.grownBy w' v.ownBlock) → K (a.put o.dst v') w') : o.wp P a w K Q := by
  obtain ⟨v', w', hr, h2, h3⟩ := run_appK (P := P) w base t o.type e i z size bytes ht hi hz hsize hby hzs hsz v n xs hown A m c news hl hA hm hnews h1 h63 hbytes hbase
  unfold Oper.wp execOp
  simp only [ho, resolve, invoke, builtin, Sem.run_bind, Sem.run_pure, Result.andThen_ok, List.map_toArray, List.map_cons, List.map_nil, hs, hx, hr]
  exact h v' w' h2 h3
theorem list_appK {P : Program} {w : World} {ops : Array Oper} {rest : List Oper} {o : Oper} {a : Act} {Q : Exit → Act → World → Prop} (hgd : o.guard = none) (s x : Operand) (t : TypeId)
    (ho : o.op = .call { callee := .builtin .append, args := #[s, x], argTypes := #[t, t] })
    (base : Nat) (e : TypeId) (i : TypeInfo) (z : Value) (size bytes : Nat) (ht : P.underlying t = some (.slice e)) (hi : P.info? e = some i) (hz : i.zero = some z)
    (hsize : i.size = size) (hby : i.bytes = bytes) (hzs : z.cells.size = size) (hsz : 0 < size) (v : Value) (n : Nat) (xs : List Value) (hs : a.eval s = v) (hown : w.ownsRow base e size v n xs)
    (A : Option Addr) (m c : Nat) (news : List Value) (hx : a.eval x = .slice A m c) (hl : news.length = m * size) (hA : A = none → c = 0) (hm : A = none → m = 0) (hnews : 0 < m → ∃ ad, A = some ad ∧ ∀ (j : Nat) (u : Value), news[j]? = some u → w.cell? (ad.add j) = some u) (h1 : ∀ u ∈ news, u.oneCell' = true)
    (h63 : n + m ≤ maxLen) (hbytes : (n + m) * bytes ≤ 140737488355328) (hbase : base ≤ w.heap.size)
    (h : ∀ v' w', Hid (w'.ownsRow base e size v' (n + m) (xs ++ news)) → Hid (w.grownBy w' v.ownBlock) → wpList P ops Q rest (a.put o.dst v') w') : wpList P ops Q (o :: rest) a w :=
  wpList_plain hgd fun _ hK => wp_appK s x t ho base e i z size bytes ht hi hz hsize hby hzs hsz v n xs hs hown A m c news hx hl hA hm hnews h1 h63 hbytes hbase fun v' w' h2 h3 => hK _ _ (h v' w' h2 h3)
theorem step_appK {P : Program} {w : World} {ops : Array Oper} {o : Oper} {a : Act} {K : Act → World → Prop} {Q : Exit → Act → World → Prop} {E : Prop} (hgd : o.guard = none) (s x : Operand) (t : TypeId)
    (ho : o.op = .call { callee := .builtin .append, args := #[s, x], argTypes := #[t, t] })
    (base : Nat) (e : TypeId) (i : TypeInfo) (z : Value) (size bytes : Nat) (ht : P.underlying t = some (.slice e)) (hi : P.info? e = some i) (hz : i.zero = some z)
    (hsize : i.size = size) (hby : i.bytes = bytes) (hzs : z.cells.size = size) (hsz : 0 < size) (v : Value) (n : Nat) (xs : List Value) (hs : a.eval s = v) (hown : w.ownsRow base e size v n xs)
    (A : Option Addr) (m c : Nat) (news : List Value) (hx : a.eval x = .slice A m c) (hl : news.length = m * size) (hA : A = none → c = 0) (hm : A = none → m = 0) (hnews : 0 < m → ∃ ad, A = some ad ∧ ∀ (j : Nat) (u : Value), news[j]? = some u → w.cell? (ad.add j) = some u) (h1 : ∀ u ∈ news, u.oneCell' = true)
    (h63 : n + m ≤ maxLen) (hbytes : (n + m) * bytes ≤ 140737488355328) (hbase : base ≤ w.heap.size)
    (h : ∀ v' w', Hid (w'.ownsRow base e size v' (n + m) (xs ++ news)) → Hid (w.grownBy w' v.ownBlock) → K (a.put o.dst v') w') :
    if Region.wanted o (yielded ops a.tmps) = true then Oper.wp P o a w K Q else E := by
  have hw : Region.wanted o (yielded ops a.tmps) = true := by simp [Region.wanted, hgd]
  rw [if_pos hw]
  exact wp_appK s x t ho base e i z size bytes ht hi hz hsize hby hzs hsz v n xs hs hown A m c news hx hl hA hm hnews h1 h63 hbytes hbase h
end Go.Proofs.Ythobffgkggfooaa
