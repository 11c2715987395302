/-
  The draws (package draw): contracts of New, Below, Left.
-/
import Derived.Test.YtdhafagihfdolaaProg
import Derived.Test.YtdhafagihfdolaaMem
import Derived.Lib.Hide
namespace Go.Proofs.Ytdhafagihfdolaa
open Go.RowKit


theorem info_U : (Try.prog.info? 64).map (fun i => (i.zero, i.size, i.bytes)) = some (some (.int .u32 0), 1, 4) := by kernel_rfl
def CloneU (xs : List Value) (w : World) (e : Ending) (w' : World) : Prop := ∃ v', e = .returned v' ∧ w'.ownsRow w.heap.size 64 1 v' xs.length xs ∧ Below w.heap.size w w'
theorem clone_U (v : Value) (xs : List Value) (S : Nat → Prop) (w : World) (hs : Sl w S v xs) (h1 : ∀ u ∈ xs, u.oneCell' = true) (hb : xs.length * 4 ≤ 140737488355328) :
    Calls Try.prog 64 #[v] w (CloneU xs w) := by
  have hs' := hs
  obtain ⟨ao, cap, rfl, hlc, hcm, hn, hc⟩ := hs
  rcases ao with _ | ad
  · have hc0 := hn rfl
    have hl0 : xs = [] := List.eq_nil_of_length_eq_zero (by omega)
    subst hl0; subst hc0
    clear hc hn hlc h1 hb hs'
    go_enter Try.func64, Try.ntmps64
    go_wp2
    go_ret
    exact ⟨_, rfl, World.ownsRow_nil _ _ _ _, Below.refl _ _⟩
  · obtain ⟨i0, hi, hz0, hz1, hz2⟩ := info_parts info_U
    obtain ⟨_, hcell⟩ := hs'.at_
    have hcell' : ∀ j u, xs[j]? = some u → (w.alloc (.cells #[] 64)).cell? (ad.add j) = some u := by
      intro j u hu
      obtain ⟨e, hbl⟩ := hcell j u hu
      rw [World.cell?_alloc_lt _ _ _ (by rw [add_block]; omega), e]
    clear hn hc hs' hcell
    go_enter Try.func64, Try.ntmps64
    go_wp2_with (at_builtin; refine wpList_append_own _ rfl (.tmp 5) (.tmp 6) 24 rfl w.heap.size 64 i0 (.int .u32 0) 1 4 Try.underlying24 hi hz0 hz1 hz2 rfl (by decide) _ 0 [] rfl (World.ownsRow_made w #[] 0 (Nat.le_refl _) (by simp) rfl) ad xs.length cap xs rfl (by simp) hcell' h1 ?c1 ?c2 ?c3 ?_)
    case c1 => exact Nat.le_trans (by omega) (by decide : 9223372036854775807 ≤ maxLen)
    intro v' w1 hown hg _
    try simp only [Nat.zero_add, List.nil_append] at hown
    have hbel : Below w.heap.size w w1 := ((Below.refl _ _).alloc (Nat.le_refl _) _).grown hg (by simp) (by simp [Value.ownBlock])
    clear hcell' h1 hlc hcm hb
    go_wp2
    go_ret
    exact ⟨_, rfl, hown, hbel⟩

theorem left_nil (w : World) : Calls Try.prog 32 #[.pointer none] w fun e w' => e = .returned (.int .i64 0) ∧ w = w' := by
  go_enter Try.func32, Try.ntmps32
  go_wp2
  go_ret
  exact ⟨rfl, rfl⟩

theorem left_some (p : Addr) (ao : Option Addr) (n cap : Nat) (w : World) (hc : w.cell? p = some (.slice ao n cap)) :
    Calls Try.prog 32 #[.pointer (some p)] w fun e w' => e = .returned (.int .i64 n) ∧ w = w' := by
  go_enter Try.func32, Try.ntmps32
  go_wp2
  go_ret
  exact ⟨rfl, rfl⟩

theorem below_nil (n : Int) (w : World) : Calls Try.prog 88 #[.pointer none, .int .i64 n] w fun e w' => e = .returned (.int .i64 0) ∧ w = w' := by
  go_enter Try.func88, Try.ntmps88
  go_wp2
  all_goals go_ret
  all_goals exact ⟨rfl, rfl⟩

/-- n out of range, or no numbers left: 0, nothing consumed. -/
theorem below_out (p : Addr) (ao : Option Addr) (m cap : Nat) (n : Int) (w : World) (hc : w.cell? p = some (.slice ao m cap)) (h : n < 2 ∨ 2147483647 < n ∨ m = 0) :
    Calls Try.prog 88 #[.pointer (some p), .int .i64 n] w fun e w' => e = .returned (.int .i64 0) ∧ w = w' := by
  by_cases h1 : n < 2
  · go_enter Try.func88, Try.ntmps88
    go_wp2
    all_goals go_ret
    all_goals exact ⟨rfl, rfl⟩
  · by_cases h2 : 2147483647 < n
    · go_enter Try.func88, Try.ntmps88
      go_wp2
      all_goals go_ret
      all_goals exact ⟨rfl, rfl⟩
    · obtain rfl : m = 0 := by omega
      clear h
      go_enter Try.func88, Try.ntmps88
      go_wp2
      all_goals go_ret
      all_goals exact ⟨rfl, rfl⟩

/-- The slice value behind 's[1:]'. -/
def tail1 (b off m cap : Nat) : Value := .slice (some ⟨b, if 1 = cap then off else off + 1, none⟩) m (cap - 1)

theorem below_in (p : Addr) (b off m cap : Nat) (x n : Int) (w : World) (hc : w.cell? p = some (.slice (some ⟨b, off, none⟩) (m + 1) cap)) (hz : w.frozen? p = false)
    (_hm : m + 1 ≤ cap) (_hcap : cap ≤ 9223372036854775807) (hx : w.cell? ⟨b, off, none⟩ = some (.int .u32 x)) (hx0 : 0 ≤ x) (hx1 : x ≤ 4294967295) (h1 : 2 ≤ n) (h2 : n ≤ 2147483647) :
    Calls Try.prog 88 #[.pointer (some p), .int .i64 n] w fun e w' => e = .returned (.int .i64 (x % n)) ∧ w' = w.setCell p (tail1 b off m cap) := by
  have d1 : decide (n < 2) = false := by simp; omega
  have d2 : decide (2147483647 < n) = false := by simp; omega
  have d3 : ((m : Int) + 1 == 0) = false := by simp; omega
  have e1 := Int.emod_nonneg x (show n ≠ 0 by omega)
  have e2 := Int.emod_lt_of_pos x (show 0 < n by omega)
  have e3 : wrap64 (x % n) = x % n := IntWalk.wrap64_in _ (by omega)
  have E3 : Hid (wrap64 (x % n) = x % n) := e3
  clear e3
  go_enter Try.func88, Try.ntmps88
  go_wp2
  all_goals go_ret
  all_goals refine ⟨rfl, ?_⟩
  all_goals first | (simp [tail1]; done) | skip
  have h' : ¬ 1 = cap := by omega
  simp [tail1, h']
/-- The numbers as cells. -/
def u32s (xs : List Int) : List Value := xs.map (Value.int .u32)
def U32s (xs : List Int) : Prop := ∀ x ∈ xs, 0 ≤ x ∧ x ≤ 4294967295
theorem u32s_one (xs : List Int) : ∀ u ∈ u32s xs, u.oneCell' = true := ints_oneCell .u32 xs

/-- The block D is a draw that has the numbers xs left; they lie in block g. -/
def DrawIs (w : World) (D g : Nat) (xs : List Int) : Prop :=
  U32s xs ∧ ∃ ao cap, Bk w D 141 #[.slice ao xs.length cap] ∧ xs.length ≤ cap ∧ cap ≤ maxLen ∧
    (0 < xs.length → D ≠ g ∧ ∃ off cs, ao = some ⟨g, off, none⟩ ∧ Bk w g 64 cs ∧ ∀ j (h : j < xs.length), cs[off + j]? = some (.int .u32 xs[j]))

theorem DrawIs.lt {w : World} {D g : Nat} {xs : List Int} (h : DrawIs w D g xs) : D < w.heap.size := by obtain ⟨_, _, _, h, _⟩ := h; exact h.lt
theorem DrawIs.glt {w : World} {D g : Nat} {xs : List Int} (h : DrawIs w D g xs) (h0 : 0 < xs.length) : g < w.heap.size := by
  obtain ⟨_, _, _, _, _, _, h6⟩ := h
  obtain ⟨_, _, _, _, h, _⟩ := h6 h0
  exact h.lt
theorem DrawIs.tch {w w' : World} {S : Nat → Prop} {D g : Nat} {xs : List Int} (h : DrawIs w D g xs) (hk : Tch S w w') (hD : ¬ S D) (hg : 0 < xs.length → ¬ S g) : DrawIs w' D g xs := by
  obtain ⟨h1, ao, cap, h3, h4, h5, h6⟩ := h
  refine ⟨h1, ao, cap, h3.tch hk hD, h4, h5, fun hp => ?_⟩
  obtain ⟨hne, off, cs, e, hb, hc⟩ := h6 hp
  exact ⟨hne, off, cs, e, hb.tch hk (hg hp), hc⟩
theorem DrawIs.alloc {w : World} {D g : Nat} {xs : List Int} (h : DrawIs w D g xs) (o : Obj) : DrawIs (w.alloc o) D g xs :=
  h.tch (S := fun _ => False) ((Tch.refl _ _).alloc o) id (fun _ => id)

theorem DrawIs.drewN {w : World} {D g : Nat} {xs : List Int} (h : DrawIs w D g xs) (n : Nat) : DrawIs (w.drewN n) D g xs :=
  h.tch (S := fun _ => False) ((Tch.refl _ _).drewN n) id (fun _ => id)

/-- What Below answers, and what it leaves. -/
def belowV (xs : List Int) (n : Int) : Int := if 2 ≤ n ∧ n ≤ 2147483647 then xs.headD 0 % n else 0
def belowT (xs : List Int) (n : Int) : List Int := if 2 ≤ n ∧ n ≤ 2147483647 then xs.tail else xs

def BelowR (xs : List Int) (n : Int) (D g : Nat) (w : World) (e : Ending) (w' : World) : Prop :=
  e = .returned (.int .i64 (belowV xs n)) ∧ DrawIs w' D g (belowT xs n) ∧ Tch (· = D) w w'

theorem below_is (D g : Nat) (xs : List Int) (n : Int) (w : World) (h : DrawIs w D g xs) :
    Calls Try.prog 88 #[.pointer (some ⟨D, 0, none⟩), .int .i64 n] w (BelowR xs n D g w) := by
  have h0 := h
  obtain ⟨h1, ao, cap, h3, h4, h5, h6⟩ := h
  have hc := h3.cell 0
  have hz := h3.frozen 0
  by_cases hn : 2 ≤ n ∧ n ≤ 2147483647
  · cases xs with
    | nil =>
      refine (below_out _ ao 0 cap n w hc (by simp)).mono ?_
      rintro e w' ⟨rfl, rfl⟩
      exact ⟨by simp [belowV], by simpa [belowT] using h0, Tch.refl _ _⟩
    | cons x xs =>
      obtain ⟨h2, off, cs, rfl, hb, hx⟩ := h6 (by simp)
      have hx0 := hx 0 (by simp)
      have hr := h1 x (by simp)
      simp only [List.length_cons] at h4
      refine (below_in ⟨D, 0, none⟩ g off xs.length cap x n w hc hz h4 (by unfold maxLen at h5; omega) (by rw [hb.cell]; simpa using hx0) hr.1 hr.2 hn.1 hn.2).mono ?_
      rintro e w' ⟨rfl, rfl⟩
      refine ⟨by simp [belowV, hn], ?_, (Tch.refl (· = D) w).setCell (p := ⟨D, 0, none⟩) (fun _ => rfl) _⟩
      simp only [belowT, hn, and_self, if_true, List.tail_cons]
      refine ⟨fun y hy => h1 y (by simp [hy]), _, cap - 1, h3.store 0 _, by omega, by omega, fun hp => ⟨h2, off + 1, cs, ?_, hb.other (Ne.symm h2) _, fun j hj => ?_⟩⟩
      · simp; omega
      · have := hx (j + 1) (by simp; omega)
        simpa [Nat.add_assoc, Nat.add_comm 1 j] using this
  · refine (below_out _ ao xs.length cap n w hc (by omega)).mono ?_
    rintro e w' ⟨rfl, rfl⟩
    exact ⟨by simp [belowV, hn], by simpa [belowT, hn] using h0, Tch.refl _ _⟩

theorem left_is (D g : Nat) (xs : List Int) (w : World) (h : DrawIs w D g xs) :
    Calls Try.prog 32 #[.pointer (some ⟨D, 0, none⟩)] w fun e w' => e = .returned (.int .i64 xs.length) ∧ w = w' := by
  obtain ⟨h1, ao, cap, h3, h4, h5, h6⟩ := h
  exact left_some _ ao _ cap w (h3.cell 0)

def NewR (xs : List Int) (w : World) (e : Ending) (w' : World) : Prop :=
  ∃ D g, e = .returned (.pointer (some ⟨D, 0, none⟩)) ∧ w.heap.size ≤ D ∧ w.heap.size ≤ g ∧ DrawIs w' D g xs ∧ Below w.heap.size w w'

theorem new_is (v : Value) (xs : List Int) (S : Nat → Prop) (w : World) (hs : Sl w S v (u32s xs)) (hx : U32s xs) (hb : xs.length * 4 ≤ 140737488355328) :
    Calls Try.prog 16 #[v] w (NewR xs w) := by
  go_enter Try.func16, Try.ntmps16
  go_wp2_with fail
  refine (clone_U v (u32s xs) S w hs (u32s_one xs) (by simpa [u32s] using hb)).mono ?_
  rintro e w1 ⟨v', rfl, hown, hbel⟩
  have hlen : (u32s xs).length = xs.length := by simp [u32s]
  rw [hlen] at hown
  obtain ⟨ao, cap, rfl, hnc, hcm, hn, hg⟩ := own_shape hown
  have HB : Hid (Below w.heap.size w w1) := hbel
  have HG := Lib.hid hg
  have HN := Lib.hid hn
  clear hown hg hbel hs hlen hn
  go_wp2_with fail
  go_ret
  have hbel := HB.out
  have hsz := hbel.size
  have hg := HG.out
  by_cases h0 : ao = none
  · subst h0
    refine ⟨_, w1.heap.size + 1, rfl, hsz, by omega, ⟨hx, _, cap, Bk.made _ _ _, hnc, hcm, fun hp => ?_⟩, hbel.alloc hsz _⟩
    have := HN.out rfl
    omega
  · obtain ⟨g, cur, rfl, hbg, hbk, hcs, hcur⟩ := hg h0
    refine ⟨_, g, rfl, hsz, hbg, ⟨hx, _, cap, Bk.made _ _ _, hnc, hcm, fun hp => ⟨?_, 0, cur, rfl, hbk.alloc _, fun j hj => ?_⟩⟩, hbel.alloc hsz _⟩
    · have := hbk.lt; omega
    · rw [Nat.zero_add]; exact hcur j _ (by simp [u32s, hj])
theorem belowV_lt (xs : List Int) (n : Nat) (hn : 0 < n) : 0 ≤ belowV xs n ∧ belowV xs n < n := by
  unfold belowV
  split
  · rename_i h
    exact ⟨Int.emod_nonneg _ (by omega), Int.emod_lt_of_pos _ (by omega)⟩
  · omega


/-- One, of a list that is not empty. -/
def OneRInt (ns : List Int) (xs : List Value) (D g : Nat) (w : World) (e : Ending) (w' : World) : Prop :=
  ∃ v, xs[(belowV ns xs.length).toNat]? = some v ∧ e = .returned (.tuple #[v, .bool true]) ∧ DrawIs w' D g (belowT ns xs.length) ∧ Tch (· = D) w w'
theorem one_Int (D g : Nat) (ns : List Int) (v : Value) (xs : List Value) (S : Nat → Prop) (w : World) (hD : DrawIs w D g ns) (hs : Sl w S v xs) (hS : ¬ S D) (h0 : 0 < xs.length) :
    Calls Try.prog 65 #[.pointer (some ⟨D, 0, none⟩), v] w (OneRInt ns xs D g w) := by
  obtain ⟨ao, cap, rfl, hlc, hcm, hn, hc⟩ := hs
  obtain ⟨b, off, rfl, hb, hbs, hcell⟩ := hc h0
  clear hn hc
  unfold maxLen at hcm
  have ht : ((xs.length : Int) == 0) = false := bne_ (by omega)
  have hv := belowV_lt ns xs.length h0
  have hbD : b ≠ D := fun e => hS (e ▸ hb)
  obtain ⟨k, hk⟩ : ∃ k : Nat, belowV ns xs.length = k := ⟨_, (Int.toNat_of_nonneg hv.1).symm⟩
  have hk' : k < xs.length := by omega
  have HK := Lib.hid hk
  clear hv hk
  go_enter Try.func65, Try.ntmps65
  go_wp2_with fail
  refine (below_is D g ns _ w hD).mono ?_
  rintro e w1 ⟨rfl, hD1, ht1⟩
  have hx : w1.cell? ⟨b, off + k, none⟩ = some xs[k] := by rw [ht1.cell hbs hbD, hcell k hk']
  have HD := Lib.hid hD1
  have HT := Lib.hid ht1
  rw [HK.out]
  clear hD1 ht1 hcell hD hb hbD
  go_wp2_with fail
  go_ret2
  exact ⟨xs[k], by rw [HK.out]; simp [hk'], rfl, HD.out, HT.out⟩

/-- One, of an empty list. -/
theorem one_none_Int (p : Value) (ao : Option Addr) (cap : Nat) (w : World) :
    Calls Try.prog 65 #[p, .slice ao 0 cap] w fun e w' => e = .returned (.tuple #[.int .i64 0, .bool false]) ∧ w = w' := by
  go_enter Try.func65, Try.ntmps65
  go_wp2_with fail
  go_ret2
  exact ⟨rfl, rfl⟩
end Go.Proofs.Ytdhafagihfdolaa
