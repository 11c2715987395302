/-
  What the laws on sets of nodes share: 'speaks' answers true; new memory apart nothing turns.
-/
import Derived.Test.YtdhafagihfdolaaNodeSort
import Derived.Test.YtdhafagihfdolaaNodeBut
set_option linter.unusedVariables false
set_option linter.unusedSimpArgs false
namespace Go.Proofs.Ytdhafagihfdolaa
open Go.RowKit Go.Lib Go.Sort Go.Shelf

theorem below_then {w a b : World} (h : Below w.heap.size w a) (k : Below a.heap.size a b) : Below w.heap.size w b := h.trans (k.mono h.size)
theorem AddQ.lay {w w' : World} {most : Nat} {ns : List Int} {b : Bool} {e : Ending} (h : AddQ w most ns b e w') :
    ∃ ao len cap, e = .returned (.tuple #[.agg #[.int .i64 most, .slice ao len cap], .bool b]) ∧ Hid (SetV w' (.agg #[.int .i64 most, .slice ao len cap]) most ns) ∧ Hid (Below w.heap.size w w') := by
  obtain ⟨v', rfl, ⟨sv, rfl, hs, hg⟩, hb⟩ := h
  obtain ⟨ao, len, cap, rfl⟩ := slr_slice hs
  exact ⟨ao, len, cap, rfl, ⟨_, rfl, hs, hg⟩, hb⟩
theorem new_lay (m : Int) (w : World) (h1 : -9223372036854775808 ≤ m) (h2 : m ≤ 9223372036854775807) (most : Nat) (hm : (most : Int) = min (max m 0) 64) :
    Calls Try.prog 63 #[.int .i64 m] w fun e w' => ∃ ao len cap, e = .returned (.agg #[.int .i64 most, .slice ao len cap]) ∧ Hid (SetV w' (.agg #[.int .i64 most, .slice ao len cap]) most []) ∧ Hid (Below w.heap.size w w') := by
  refine (new_set m w h1 h2).mono ?_
  rintro e w' ⟨v, most', rfl, hm', ⟨sv, rfl, hs, hg⟩, hb⟩
  obtain rfl : most' = most := by omega
  obtain ⟨ao, len, cap, rfl⟩ := slr_slice hs
  exact ⟨ao, len, cap, rfl, ⟨_, rfl, hs, hg⟩, hb⟩
theorem all_set (v : Value) (most : Nat) (ns : List Int) (w : World) (h : SetV w v most ns) :
    Calls Try.prog 30 #[v] w fun e w' => ∃ ao cap, e = .returned (.slice ao ns.length cap) ∧ Hid (Slr w' (.slice ao ns.length cap) (ints ns)) ∧ Hid (Below w.heap.size w w') := by
  refine (all_own v most ns w h).mono ?_
  rintro e w' ⟨v', rfl, ho, hb⟩
  have hs := own_slr ho
  obtain ⟨ao, cap, e, _⟩ := slr_ints hs
  subst e
  exact ⟨ao, cap, rfl, hs, hb⟩

theorem SetV.apart {w : World} {v : Value} {most : Nat} {ns : List Int} (h : SetV w v most ns) {p : Addr} {t : TypeId} {cs : Array Value} (hp : Bk w p.block t cs) (ht : t ≠ 3) (u : Value) : SetV (w.setCell p u) v most ns := by
  obtain ⟨sv, rfl, hs, hg⟩ := h
  exact ⟨sv, rfl, hs.apart hp ht u, hg⟩
/-- Both cells of a variable stored into. -/
def put2 (w : World) (X : Nat) (a b : Value) : World := (w.setCell ⟨X, 0, none⟩ a).setCell ⟨X, 1, none⟩ b
theorem bk_put2 {w : World} {X : Nat} {t : TypeId} {a0 b0 : Value} (h : Bk w X t #[a0, b0]) (a b : Value) : Bk (put2 w X a b) X t #[a, b] := (h.store 0 a).store 1 b
theorem bk_put2' {w : World} {X Y : Nat} {t : TypeId} {cs : Array Value} (h : Bk w Y t cs) (hn : Y ≠ X) (a b : Value) : Bk (put2 w X a b) Y t cs := (h.other (p := ⟨X, 0, none⟩) hn a).other (p := ⟨X, 1, none⟩) hn b
theorem SetV.put2 {w : World} {v : Value} {most : Nat} {ns : List Int} (h : SetV w v most ns) {X : Nat} {t : TypeId} {cs : Array Value} (hp : Bk w X t cs) (ht : t ≠ 3) (a b : Value) : SetV (put2 w X a b) v most ns :=
  (h.apart (p := ⟨X, 0, none⟩) hp ht a).apart (p := ⟨X, 1, none⟩) (hp.store 0 a) ht b
theorem Slr.put2 {w : World} {v : Value} {xs : List Value} (h : Slr w v xs) {X : Nat} {t : TypeId} {cs : Array Value} (hp : Bk w X t cs) (ht : t ≠ 3) (a b : Value) : Slr (put2 w X a b) v xs :=
  (h.apart (p := ⟨X, 0, none⟩) hp ht a).apart (p := ⟨X, 1, none⟩) (hp.store 0 a) ht b
theorem below_put2 {B X : Nat} {a w : World} (h : Below B a w) (hX : B ≤ X) (u v : Value) : Below B a (put2 w X u v) := (h.setCell (p := ⟨X, 0, none⟩) hX u).setCell (p := ⟨X, 1, none⟩) hX v
theorem size_put2 (w : World) (X : Nat) (u v : Value) : (put2 w X u v).heap.size = w.heap.size := by simp [put2, World.setCell]
theorem set_ne_int : (28 : TypeId) ≠ 3 := by decide

end Go.Proofs.Ytdhafagihfdolaa
