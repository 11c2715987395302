/-
  Package mesh: Nodes: the live nodes, in order.
-/
import Derived.Test.YthobffgkggfooaaLayNodes
import Derived.Test.YthobffgkggfooaaMesDown2
set_option linter.unusedVariables false
set_option linter.unusedSimpArgs false
set_option maxRecDepth 100000
namespace Go.Proofs.Ythobffgkggfooaa
open Go.RowKit Go.Maps Go.Sort Go.Shelf Go.Proofs

/-- slices.Sort's two contracts at this program, at the fence that asks nothing. -/
theorem sortsN (m : Nat) : AnyZI.SortsIn Try.prog laysSorted_ren Fence.wide m :=
  ⟨fun blk off cap ss W hH hblk hsz => callsIn_wide.2 (AnyM.slices_Sort_int laysSortI blk off cap ss W hH hblk hsz),
   fun p cap W => callsIn_wide.2 (AnyM.slices_Sort_int_none laysSortI p cap W)⟩
theorem keys_ok (mb : Option Nat) (w : World) : Calls Try.prog 66 #[.map mb] w fun e w' => e = .returned (.func (.func 95) #[] #[.pointer (some ⟨w.heap.size, 0, none⟩)]) ∧ w' = w.alloc (.cells #[.map mb] 116) :=
  (callsIn_wide (n := 5)).1 (AnyZI.keys_in laysKeys Fence.wide 5 trivial rfl mb w)
theorem sorted_ok (b nn : Nat) (D : DataW Unit) (g : Nat) (w : World) (hg : w.cell? ⟨g, 0, none⟩ = some (.map (some b))) (hown : w.ownsMap Try.prog 3 liveS.R b nn D) (hmax : Maps.size D ≤ 1000000) :
    Calls Try.prog 65 #[.func (.func 95) #[] #[.pointer (some ⟨g, 0, none⟩)]] w fun e w' => ∃ (v : Value) (ss : List Int), e = .returned v ∧ ss.Perm (intKeys D) ∧
      w'.ownsRow w.heap.size 3 1 v ss.length ((ss.mergeSort (fun x y => decide (x ≤ y))).map encZ) ∧ (v = .slice none 0 0 ↔ ss = []) ∧ New w w' := by
  have hgl : g < w.heap.size := World.block_lt_of_cell? w _ hg
  have hseq : SeqGives Fence.wide 2 Try.prog 95 #[.pointer (some ⟨g, 0, none⟩)] encZ (fun ss => ss.Perm (intKeys D)) (Maps.size D) w :=
    AnyZI.keys_gives (ρ := laysKeys_ren) { laysKeys with } Fence.wide _ trivial rfl (by omega) g b nn D _ hgl hg hown
  have cS := AnyZI.sorted_in laysSorted Fence.wide 5 trivial trivial trivial trivial rfl (by omega) (sortsN _) (enters_of Try.func94 (by kernel_rfl) rfl) 95 #[.pointer (some ⟨g, 0, none⟩)] trivial (enters_of Try.func95 (by kernel_rfl) rfl) _ _ (Nat.le_trans hmax (by decide)) (by omega) _ hseq
  change CallsIn _ _ Try.prog 65 _ _ _ at cS
  refine ((callsIn_wide (n := 5)).1 cS).mono ?_
  rintro e w' ⟨v, ss, rfl, hS, hrow, hnil, hb⟩
  exact ⟨v, ss, rfl, hS, hrow, hnil, (Tch.of_below hb)⟩

theorem perm_live {w : World} {b nn : Nat} {D : DataW Unit} {lv : List Int} (ho : w.ownsMap Try.prog 3 liveS.R b nn D) (hD : RdG liveS D (lv.map fun n => (n, ()))) : lv.Perm (intKeys D) := by
  obtain ⟨es, rfl, hko⟩ := ho.keysOf
  obtain ⟨es2, he2, hpw, _⟩ := ho.entries liveG.keyed
  obtain rfl : es = es2 := by injection he2
  have hks : ∀ p ∈ es, ∃ x, p.1 = .int .i64 x ∧ I64 x := fun p hp => by
    obtain ⟨v, hv⟩ := hko p hp
    obtain ⟨x, _, hx, hwf⟩ := keyOf_int_inv Try.underlying3 hv
    exact ⟨x, hx, by simpa [I64, Lit.wf, IntKind.min, IntKind.max, IntKind.signed, IntKind.bits] using hwf⟩
  have hnd : lv.Nodup := by
    have := hD.apart
    rw [List.pairwise_map] at this
    exact this
  refine perm_intKeys hpw (fun p hp => by obtain ⟨x, hx, _⟩ := hks p hp; exact ⟨x, hx⟩) hnd fun x => ⟨fun hx => ?_, fun hx => ?_⟩
  · have h1 := hD.has x (hD.ok (x, ()) (List.mem_map.2 ⟨x, hx, rfl⟩))
    rw [dec_ (show ∃ t ∈ lv.map (fun n => (n, ())), t.1 = x from ⟨(x, ()), List.mem_map.2 ⟨x, hx, rfl⟩, rfl⟩)] at h1
    exact h1
  · have hin : ∃ p ∈ es, p.1 = .int .i64 x := by
      rw [has_eq, List.any_eq_true] at hx
      obtain ⟨p, hp, hs⟩ := hx
      refine ⟨p, hp, ?_⟩
      first | exact WideAt.sameKey_eq hs | exact (WideAt.sameKey_eq hs).symm | simpa using hs
    obtain ⟨p, hp, e⟩ := hin
    obtain ⟨y, hy, hiy⟩ := hks p hp
    have hxy : x = y := by rw [e] at hy; injection hy
    have h1 := hD.has x (by rw [hxy]; exact hiy)
    have h2 : Maps.has (.map es) (liveS.kl x) = true := hx
    rw [h2] at h1
    obtain ⟨t, ht, rfl⟩ := of_decide_eq_true h1.symm
    obtain ⟨m, hm, rfl⟩ := List.mem_map.1 ht
    exact hm
set_option maxHeartbeats 1000000 in
theorem nodesA (M B N : Nat) (lv : List Int) (it : Ways) (w : World) (h : MeshA w M B N lv it) (hN : lv.length ≤ 1000000) :
    Calls Try.prog 43 #[.pointer (some ⟨M, 0, none⟩)] w fun e w' => ∃ (v : Value) (ss : List Int), e = .returned v ∧ ss.Perm lv ∧
      w'.ownsRow w.heap.size 3 1 v ss.length ((ss.mergeSort (fun x y => decide (x ≤ y))).map encZ) ∧ (v = .slice none 0 0 ↔ ss = []) ∧ New w w' := by
  obtain ⟨bl, bp, es, m1, m2, m3⟩ := h
  have c0 : w.cell? ⟨M, 0, none⟩ = some (.map (some bl)) := by rw [m1.box.cell]; rfl
  have hM := m1.box.lt
  have hn1 : New w (w.alloc (.cells #[.map (some bl)] 116)) := (New.refl w).alloc _
  obtain ⟨D, ho, hD⟩ := (m1.new hn1).live
  have HP := Lib.hid (perm_live ho hD)
  have hbk : Bk (w.alloc (.cells #[.map (some bl)] 116)) w.heap.size 116 #[.map (some bl)] := Bk.made _ _ _
  have HS := Lib.hid (sorted_ok bl N D w.heap.size _ (by simp) ho (by rw [hD.size, List.length_map]; exact hN))
  have HN1 := Lib.hid hn1
  clear m1 m2 m3 ho hD hbk hn1
  go_enter Try.func43, Try.ntmps43
  go_wp2_with fail
  refine (keys_ok (some bl) w).mono ?_
  rintro e w1 ⟨rfl, rfl⟩
  go_wp2_with fail
  refine HS.out.mono ?_
  rintro e w2 ⟨v, ss, rfl, hp, hrow, hnil, hn2⟩
  go_wp2_with fail
  go_ret
  exact ⟨v, ss, rfl, hp.trans HP.out.symm, ownsRow_base_a hrow (by simp), hnil, HN1.out.then hn2⟩
end Go.Proofs.Ythobffgkggfooaa
