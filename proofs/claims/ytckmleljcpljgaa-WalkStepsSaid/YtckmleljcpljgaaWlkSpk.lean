/-
  The laws of walks: speaks.
-/
import Derived.Test.YtckmleljcpljgaaWlkJoin
set_option linter.unusedVariables false
set_option linter.unusedSimpArgs false
set_option maxRecDepth 100000
namespace Go.Proofs.Ytckmleljcpljgaa
open Go.RowKit Go.Lib Go.Sort Go.Shelf

set_option maxHeartbeats 400000 in
theorem speaks10 (w : World) : Calls Try.prog 29 #[] w fun e w' => e = .returned (.bool true) ∧ Hid (New w w') := by
  have j1 : joinA ⟨1, 4, 4, [], []⟩ 2 3 5 5 [] = (⟨true, 0, false⟩, []) := by kernel_rfl
  have j2 : joinV ⟨1, 4, 4, [], []⟩ 4 = ⟨1, 4, 4, [4], []⟩ ∧ joinB ⟨1, 4, 4, [], []⟩ 4 = true := ⟨by kernel_rfl, by kernel_rfl⟩
  have j3 : joinV ⟨1, 4, 4, [4], []⟩ 5 = ⟨1, 4, 4, [4, 5], []⟩ ∧ joinB ⟨1, 4, 4, [4], []⟩ 5 = true := ⟨by kernel_rfl, by kernel_rfl⟩
  have j4 : joinA ⟨1, 4, 4, [4, 5], []⟩ 4 3 5 5 [] = (⟨false, 5, true⟩, []) := by kernel_rfl
  have J1 := Lib.hid j1
  have J2 := Lib.hid j2
  have J3 := Lib.hid j3
  have J4 := Lib.hid j4
  clear j1 j2 j3 j4
  go_enter Try.func29, Try.ntmps29
  go_wp2_with fail
  refine (vnew_ok 1 4 4 4 4 w (by omega) (by omega) (by omega) (by omega)).mono ?_
  rintro e w2 ⟨sa2, sp2, rfl, hs2, hn2⟩
  obtain ⟨⟨ao2, al2, ac2, rfl⟩, po2, pl2, pc2, rfl⟩ := hs2.slices
  obtain ⟨X, hX⟩ : ∃ X, X = w2.heap.size := ⟨_, rfl⟩
  obtain ⟨w3, hw3⟩ : ∃ w3, w3 = w2.alloc (.cells #[.int .i64 1, .int .i64 4, .slice ao2 al2 ac2, .int .i64 4, .slice po2 pl2 pc2] 30) := ⟨_, rfl⟩
  have HV3 := Lib.hid (show ViwAt w3 X ⟨1, 4, 4, [], []⟩ (.slice ao2 al2 ac2) (.slice po2 pl2 pc2) by rw [hw3, hX]; exact viw_made hs2)
  have HN3 := Lib.hid (show New w w3 by rw [hw3]; exact hn2.alloc _)
  have HZ := Lib.hid (show w.heap.size ≤ X by rw [hX]; exact hn2.size)
  have hj := wjoin_ok _ _ _ 2 3 5 5 (.pointer none) none 0 [] w3 HV3.out.s (.inl ⟨rfl, rfl, rfl⟩)
  rw [J1.out] at hj
  obtain ⟨⟨a0, a1, a2, a3, a4⟩, a5, a6, a7, a8, a9⟩ := HV3.out.five
  clear hs2 hn2
  unfold viwV at hj ⊢
  simp only at hj ⊢
  go_upto_region 2 with fail
  rw [← hw3, ← hX]
  clear hw3 hX
  go_wp2_with fail
  refine hj.mono ?_
  rintro e w4 ⟨rfl, hd4, hv4⟩
  have hn4 := VT.nil hv4.out
  obtain ⟨Y, hY⟩ : ∃ Y, Y = w4.heap.size := ⟨_, rfl⟩
  obtain ⟨w5, hw5⟩ : ∃ w5, w5 = w4.alloc (.cells #[.bool true, .int .i64 0, .bool false] 67) := ⟨_, rfl⟩
  have hn5 : New w3 w5 := by rw [hw5]; exact hn4.alloc _
  have HY5 := Lib.hid (show Bk w5 Y 67 #[.bool true, .int .i64 0, .bool false] by rw [hw5, hY]; exact Bk.made _ _ _)
  have HV5 := Lib.hid (HV3.out.new hn5)
  have HN5 := Lib.hid (HN3.out.then hn5)
  have hj2 := join_ok _ _ _ 4 w5 HV5.out.s
  rw [J2.out.1, J2.out.2] at hj2
  clear hj hd4 hv4 hn4 hn5 HV3 HN3 a0 a1 a2 a3 a4 a5 a6 a7 a8 a9
  obtain ⟨⟨a0, a1, a2, a3, a4⟩, a5, a6, a7, a8, a9⟩ := HV5.out.five
  unfold stV
  unfold viwV at hj2
  simp only at hj2 ⊢
  go_upto_region 3 with fail
  rw [← hw5, ← hY]
  clear hw5 hY
  go_wp2_with fail
  refine hj2.mono ?_
  rintro e w6 ⟨sa6, sp6, rfl, hs6, hn6⟩
  obtain ⟨⟨ao6, al6, ac6, rfl⟩, po6, pl6, pc6, rfl⟩ := hs6.slices
  have K6 := Lib.hid (hn6.bk HV5.out.bk)
  have HY6 := Lib.hid (hn6.bk HY5.out)
  have HS6 := Lib.hid hs6
  have HN6 := Lib.hid (HN5.out.then hn6)
  clear hj2 hs6 hn6 HY5 HN5 a0 a1 a2 a3 a4 a5 a6 a7 a8 a9
  obtain ⟨⟨a0, a1, a2, a3, a4⟩, a5, a6, a7, a8, a9⟩ := (show Bk w6 X 30 #[.int .i64 1, .int .i64 4, .slice ao2 al2 ac2, .int .i64 4, .slice po2 pl2 pc2] from K6.out).five
  unfold viwV
  simp only
  go_upto_region 4 with fail
  obtain ⟨w7, hw7⟩ : ∃ w7, w7 = put5 w6 X 1 4 (.slice ao6 al6 ac6) 4 (.slice po6 pl6 pc6) := ⟨_, rfl⟩
  have HV7 := Lib.hid (show ViwAt w7 X ⟨1, 4, 4, [4], []⟩ (.slice ao6 al6 ac6) (.slice po6 pl6 pc6) by rw [hw7]; exact viw_put K6.out HS6.out rfl rfl rfl)
  have HN7 := Lib.hid (show New w w7 by rw [hw7]; exact Tch.trans HN6.out (tch_put5 _ _ _ _ _ _ _) (fun b hb e => by rw [e]; exact HZ.out))
  have hXY : X ≠ Y := fun e => by
    have h1 := K6.out
    have h2 := HY6.out
    unfold Bk at h1 h2
    rw [e, h2] at h1
    injection h1 with h1
    injection h1 with _ h3
    exact absurd h3 (by decide)
  have HXY := Lib.hid hXY
  have HY7 := Lib.hid (show Bk w7 Y 67 #[.bool true, .int .i64 0, .bool false] by rw [hw7]; exact HY6.out.tch (tch_put5 _ _ _ _ _ _ _) (fun e => HXY.out e.symm))
  unfold put5 at hw7
  have hj3 := join_ok _ _ _ 5 w7 HV7.out.s
  rw [J3.out.1, J3.out.2] at hj3
  unfold viwV at hj3
  simp only at hj3
  clear K6 HY6 HS6 HN6 hXY HV5 a0 a1 a2 a3 a4 a5 a6 a7 a8 a9
  obtain ⟨⟨a0, a1, a2, a3, a4⟩, a5, a6, a7, a8, a9⟩ := HV7.out.five
  rw [← hw7]
  clear hw7
  go_wp2_with fail
  refine hj3.mono ?_
  rintro e w8 ⟨sa8, sp8, rfl, hs8, hn8⟩
  obtain ⟨⟨ao8, al8, ac8, rfl⟩, po8, pl8, pc8, rfl⟩ := hs8.slices
  have K8 := Lib.hid (hn8.bk HV7.out.bk)
  have HY8 := Lib.hid (hn8.bk HY7.out)
  have HS8 := Lib.hid hs8
  have HN8 := Lib.hid (HN7.out.then hn8)
  clear hj3 hs8 hn8 HY7 HN7 a0 a1 a2 a3 a4 a5 a6 a7 a8 a9
  obtain ⟨⟨a0, a1, a2, a3, a4⟩, a5, a6, a7, a8, a9⟩ := (show Bk w8 X 30 #[.int .i64 1, .int .i64 4, .slice ao6 al6 ac6, .int .i64 4, .slice po6 pl6 pc6] from K8.out).five
  unfold viwV
  simp only
  go_upto_region 5 with fail
  obtain ⟨w9, hw9⟩ : ∃ w9, w9 = put5 w8 X 1 4 (.slice ao8 al8 ac8) 4 (.slice po8 pl8 pc8) := ⟨_, rfl⟩
  have HV9 := Lib.hid (show ViwAt w9 X ⟨1, 4, 4, [4, 5], []⟩ (.slice ao8 al8 ac8) (.slice po8 pl8 pc8) by rw [hw9]; exact viw_put K8.out HS8.out rfl rfl rfl)
  have HN9 := Lib.hid (show New w w9 by rw [hw9]; exact Tch.trans HN8.out (tch_put5 _ _ _ _ _ _ _) (fun b hb e => by rw [e]; exact HZ.out))
  have HY9 := Lib.hid (show Bk w9 Y 67 #[.bool true, .int .i64 0, .bool false] by rw [hw9]; exact HY8.out.tch (tch_put5 _ _ _ _ _ _ _) (fun e => HXY.out e.symm))
  unfold put5 at hw9
  have hj4 := wjoin_ok _ _ _ 4 3 5 5 (.pointer none) none 0 [] w9 HV9.out.s (.inl ⟨rfl, rfl, rfl⟩)
  rw [J4.out] at hj4
  unfold viwV at hj4
  simp only at hj4
  clear K8 HY8 HS8 HN8 HV7 a0 a1 a2 a3 a4 a5 a6 a7 a8 a9
  obtain ⟨⟨a0, a1, a2, a3, a4⟩, a5, a6, a7, a8, a9⟩ := HV9.out.five
  rw [← hw9]
  clear hw9
  go_wp2_with fail
  refine hj4.mono ?_
  rintro e w10 ⟨rfl, hd10, hv10⟩
  have hn10 := VT.nil hv10.out
  obtain ⟨⟨c0, c1, c2⟩, c3, c4, c5⟩ := ((hn10.alloc (.cells #[.bool false, .int .i64 5, .bool true] 67)).bk HY9.out).three
  have HNF := Lib.hid (HN9.out.then (hn10.alloc (.cells #[.bool false, .int .i64 5, .bool true] 67)))
  clear hj4 hd10 hv10 hn10 a0 a1 a2 a3 a4 a5 a6 a7 a8 a9
  unfold stV
  simp only
  go_wp2_with fail
  go_ret
  exact ⟨rfl, HNF⟩
end Go.Proofs.Ytckmleljcpljgaa
