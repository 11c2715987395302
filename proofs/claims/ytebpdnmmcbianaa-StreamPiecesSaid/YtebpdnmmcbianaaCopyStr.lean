/-
  copy of a text into a row of bytes, as much as fits; as one step of a region.
-/
import Derived.Test.YtebpdnmmcbianaaMem
import Derived.Lib.BufferWrite
set_option linter.unusedVariables false
set_option linter.unusedSimpArgs false
namespace Go.Proofs.Ytebpdnmmcbianaa
open Go.RowKit

theorem run_copy_str {P : Program} (w : World) (dT sT ty elem : TypeId) (g o dLen dCap k : Nat) (s : ByteArray) (cur : Array Value) (t : TypeId)
    (hu : P.underlying dT = some (.slice elem)) (hs : (P.info? elem).map (·.size) = some 1) (hg : Bk w g t cur) (hk : k = min s.size dLen) (hfit : o + k ≤ cur.size) :
    (Builtin.copy_ #[dT, sT] ty #[.slice (some ⟨g, o, none⟩) dLen dCap, .string s]).run P w =
      .ok (goInt k) (w.setRow g (lay cur o ((s.data.toList.take k).map fun b => Value.int .u8 b.toNat))) := by
  have hsl : s.data.toList.length = s.size := Array.length_toList
  have hlen : ((s.data.toList.take k).map fun b : UInt8 => Value.int .u8 b.toNat).length = k := by rw [List.length_map, List.length_take]; omega
  have hone : ∀ v ∈ ((s.data.toList.take k).map fun b : UInt8 => Value.int .u8 b.toNat), v.oneCell' = true := by
    intro v hv
    simp only [List.mem_map] at hv
    obtain ⟨b, _, rfl⟩ := hv
    rfl
  have hst := run_storeCells_at P g o t _ 0 cur w hg (by rw [hlen]; simpa using hfit) hone
  rw [hlen] at hst
  simp only [Nat.add_zero] at hst
  have hmin : Nat.min s.size dLen = k := hk.symm
  cases hq : P.info? elem with
  | none => simp [hq] at hs
  | some i =>
    simp [Builtin.copy_, run_underlying hu, Builtin.lenOf, Builtin.firstCells, sizeOf, typeInfo, hq, hmin]
    rw [List.map_take] at hst hlen
    rw [hst]
    simp [Result.andThen, lay, hlen]
theorem step_copy_str {P : Program} {ops : Array Oper} {o : Oper} {a : Act} {w : World} {K : Act → World → Prop} {Q : Exit → Act → World → Prop} {E : Prop} (hgd : o.guard = none) (d s : Operand) (dT sT : TypeId)
    (ho : o.op = .call { callee := .builtin .copy, args := #[d, s], argTypes := #[dT, sT] }) (elem : TypeId) (hu : P.underlying dT = some (.slice elem)) (hsz : (P.info? elem).map (·.size) = some 1)
    (g off dLen dCap k : Nat) (b : ByteArray) (hd : a.eval d = .slice (some ⟨g, off, none⟩) dLen dCap) (hs : a.eval s = .string b)
    (cur : Array Value) (t : TypeId) (hg : Bk w g t cur) (hk : k = min b.size dLen) (hfit : off + k ≤ cur.size)
    (h : ∀ w', Hid (Bk w' g t (lay cur off ((b.data.toList.take k).map fun b => Value.int .u8 b.toNat))) → Hid (Tch (· = g) w w') → K (a.put o.dst (goInt k)) w') :
    if Region.wanted o (yielded ops a.tmps) = true then Oper.wp P o a w K Q else E := by
  have hw : Region.wanted o (yielded ops a.tmps) = true := by simp [Region.wanted, hgd]
  rw [if_pos hw]
  have hrun := run_copy_str (P := P) w dT sT o.type elem g off dLen dCap k b cur t hu hsz hg hk hfit
  unfold Oper.wp
  simp [execOp, ho, resolve, invoke, builtin, hd, hs, hrun, Result.andThen]
  unfold Bk at hg
  exact h _ (show Bk _ _ _ _ by simpa [lay, Bk] using setRow_heap w g _ _ t _ hg) (tch_setRow _ _ _)
end Go.Proofs.Ytebpdnmmcbianaa
