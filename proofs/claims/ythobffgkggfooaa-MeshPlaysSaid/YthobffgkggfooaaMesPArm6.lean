/-
  MeshPlays: the arm arm6 of the switch.
-/
import Derived.Test.YthobffgkggfooaaMesAct
import Derived.Test.YthobffgkggfooaaMesNeWay
import Derived.Test.YthobffgkggfooaaMesSpk
import Derived.Test.YthobffgkggfooaaMActs
import Derived.Test.YthobffgkggfooaaMesArm
import Derived.BigRegion
import Derived.BigQuiet
import Derived.Deep.CutBlock
import Derived.Deep.DeepCutAuto
import Derived.Deep.RegionHeld3
set_option linter.unusedVariables false
set_option linter.unusedSimpArgs false
set_option maxRecDepth 100000
namespace Go.Proofs.Ythobffgkggfooaa
open Go.RowKit Go.Maps

set_option maxHeartbeats 4000000 in
theorem mp_arm6 {W : World} {M B N i : Nat} {it : Ways} {ls lv : List Int} {l : List RW} {vl vw : Value} {a b t : Int} {s : ByteArray} {th : Bool} {wx : World} {i0 : TypeInfo}
    (hi : Try.prog.info? 3 = some i0) (hz0 : i0.zero = some (Value.int IntKind.i64 0)) (hz1 : i0.size = 1) (hz2 : i0.bytes = 8)
    (HNODES : Hid NodesGive) (HB : Hid (W.heap.size ≤ B)) (HA4 : Hid (In4 a)) (HB4 : Hid (In4 b)) (HAI : Hid (I64 a)) (HBI : Hid (I64 b)) (HP : Hid (PlJ W wx M B N i it vl ls lv vw l))
    (HTH : Hid (th = decide (a ∈ lv ∧ b ∈ lv ∧ a ≠ b))) (HNL : Hid (N ≤ 100 + 200 * i ∧ l.length ≤ 20 * i ∧ ls.length ≤ 3 + i ∧ lv.length ≤ 3 + i ∧ i < 120))
    (HAS : Hid (∀ (n : Int) (wy : World), Sl wy (fun x => W.heap.size ≤ x) vl (ints ls) → Calls Try.prog 34 #[vl, .int .i64 n] wy (fun e w' => e = .returned (.bool (decide (n ∈ lv))) ∧ w' = wy))) (t3 : (t == 3) = false) (t4 : (t == 4) = false) (t5 : (t == 5) = false) (t6 : (t == 6) = true)
    {x0 x1 x2 x6 x7 x12 x13 x14 x15 x16 x17 x18 x19 x20 x21 x22 x23 x24 x25 x26 x27 x28 x29 x30 x31 x32 x33 x34 x35 x36 x37 x38 x39 x40 x41 x42 x43 x44 x45 x46 x47 x48 x49 x50 x51 x52 x53 x54 x55 x56 x57 x58 x59 x60 x61 x62 x63 x64 x65 x66 x67 x68 x69 x70 x71 x72 x73 x74 x75 x76 x77 x78 x79 x80 x81 x82 x83 x84 x85 x86 x87 x88 x89 x90 x91 x92 x93 x95 x96 x97 x98 x99 x100 x101 x102 x103 x104 x105 x106 x107 x108 x109 x110 x111 x112 x113 x114 x115 x116 x117 x118 x119 x120 x121 x122 x123 x124 x125 x126 x127 x128 x129 x130 x131 x132 x133 x134 x135 x136 x137 x138 x139 x140 x141 x142 x143 x144 x145 x146 x147 x148 x149 x150 x151 x152 x153 x154 x155 x156 x157 x158 x159 x160 x161 x162 x163 x164 x165 x166 x167 x168 x169 x170 x171 x172 x173 x174 x175 x176 x177 x178 x179 x180 x181 x182 x183 x184 x185 x186 x187 x188 x189 x190 x191 x192 x193 x194 x195 x196 x197 x198 x199 x200 x201 x202 x203 x204 x205 x206 x207 x208 x209 x210 x211 x212 x213 x214 x215 x216 x217 x218 x219 x220 x221 x222 x223 x224 x225 x226 x227 x228 x229 x230 x231 x232 x233 x234 x235 x236 x237 x238 x239 x240 x241 x242 x243 x244 x245 x246 x247 x248 x249 x250 x251 x252 x253 x254 x255 x256 x257 x258 x259 x260 x261 x262 x263 x264 x265 x266 x267 x268 x269 x270 x271 x272 x273 x274 x275 x276 x277 x278 x279 x280 x281 x282 x283 x284 x285 x286 x287 x288 x289 x290 x291 x292 x293 x294 x295 x296 x297 x298 x299 x300 x301 x302 x303 x304 x305 x306 x307 x308 x309 x310 x311 x312 x313 x314 x315 x316 x317 x318 x319 x320 x321 x322 x323 x324 x325 x326 x327 x328 x329 x330 x331 x332 x333 x334 x335 x336 x337 x338 x339 x340 x341 x342 x343 x344 x345 x346 x347 x348 x349 x350 x351 x352 x353 x354 x355 x356 : Value}
    {J K' : Act → World → Prop} {Q' : Exit → Act → World → Prop}
    (hR : ∀ (a' : Act) (w' : World), (∃ u2 u4 u5 u12 u13 u14 u15 u16 u17 u18 u19 u39 u40 u41 u42 u43 u44 u45 u46 u47 u48 u49 u50 u51 u52 u53 u54 u55 u56 u57 u58 u59 u60 u61 u62 u63 u64 u65 u66 u67 u68 u69 u70 u71 u72 u73 u74 u75 u76 u77 u78 u79 u80 u81 u82 u83 u84 u85 u86 u87 u88 u89 u90 u91 u92 u93 u95 u96 u97 u98 u99 u100 u101 u102 u103 u104 u105 u106 u107 u108 u109 u110 u111 u112 u113 u114 u115 u116 u117 u118 u119 u120 u121 u122 u123 u124 u125 u126 u127 u128 u129 u130 u131 u132 u133 u134 u135 u136 u137 u138 u139 u140 u141 u142 u143 u144 u145 u146 u147 u148 u149 u150 u151 u152 u153 u154 u155 u156 u157 u158 u159 u160 u161 u162 u163 u164 u165 u166 u167 u168 u169 u170 u171 u172 u173 u174 u175 u176 u177 u178 u179 u180 u181 u182 u183 u184 u185 u186 u187 u188 u189 u190 u191 u192 u193 u194 u195 u196 u197 u198 u199 u200 u201 u202 u203 u204 u205 u206 u207 u208 u209 u210 u211 u212 u213 u214 u215 u216 u217 u218 u219 u220 u221 u222 u223 u224 u225 u226 u227 u228 u229 u230 u231 u232 u233 u234 u235 u236 u237 u238 u239 u240 u241 u242 u243 u244 u245 u246 u247 u248 u249 u250 u251 u252 u253 u254 u255 u256 u257 u258 u259 u260 u261 u262 u263 u264 u265 u266 u267 u268 u269 u270 u271 u272 u273 u274 u275 u276 u277 u278 u279 u280 u281 u282 u283 u284 u285 u286, (∃ N2 it2 ls2 lv2 l2, Hid (PlJ W w' M B N2 (i + 1) it2 u4 ls2 lv2 u5 l2)) ∧ a' = { tmps := #[x0, x1, u2, .pointer (some ⟨M, 0, none⟩), u4, u5, x6, x7, .int .i64 a, .int .i64 b, .string s, .bool th, u12, u13, u14, u15, u16, u17, u18, u19, x20, x21, x22, x23, x24, x25, x26, x27, x28, x29, x30, x31, x32, x33, x34, x35, x36, x37, x38, u39, u40, u41, u42, u43, u44, u45, u46, u47, u48, u49, u50, u51, u52, u53, u54, u55, u56, u57, u58, u59, u60, u61, u62, u63, u64, u65, u66, u67, u68, u69, u70, u71, u72, u73, u74, u75, u76, u77, u78, u79, u80, u81, u82, u83, u84, u85, u86, u87, u88, u89, u90, u91, u92, u93, .int .i64 t, u95, u96, u97, u98, u99, u100, u101, u102, u103, u104, u105, u106, u107, u108, u109, u110, u111, u112, u113, u114, u115, u116, u117, u118, u119, u120, u121, u122, u123, u124, u125, u126, u127, u128, u129, u130, u131, u132, u133, u134, u135, u136, u137, u138, u139, u140, u141, u142, u143, u144, u145, u146, u147, u148, u149, u150, u151, u152, u153, u154, u155, u156, u157, u158, u159, u160, u161, u162, u163, u164, u165, u166, u167, u168, u169, u170, u171, u172, u173, u174, u175, u176, u177, u178, u179, u180, u181, u182, u183, u184, u185, u186, u187, u188, u189, u190, u191, u192, u193, u194, u195, u196, u197, u198, u199, u200, u201, u202, u203, u204, u205, u206, u207, u208, u209, u210, u211, u212, u213, u214, u215, u216, u217, u218, u219, u220, u221, u222, u223, u224, u225, u226, u227, u228, u229, u230, u231, u232, u233, u234, u235, u236, u237, u238, u239, u240, u241, u242, u243, u244, u245, u246, u247, u248, u249, u250, u251, u252, u253, u254, u255, u256, u257, u258, u259, u260, u261, u262, u263, u264, u265, u266, u267, u268, u269, u270, u271, u272, u273, u274, u275, u276, u277, u278, u279, u280, u281, u282, u283, u284, u285, u286, x287, x288, x289, x290, x291, x292, x293, x294, x295, x296, x297, x298, x299, x300, x301, x302, x303, x304, x305, x306, x307, x308, x309, x310, x311, x312, x313, x314, x315, x316, x317, x318, x319, x320, x321, x322, x323, x324, x325, x326, x327, x328, x329, x330, x331, x332, x333, x334, x335, x336, x337, x338, x339, x340, x341, x342, x343, x344, x345, x346, x347, x348, x349, x350, x351, x352, x353, x354, x355, x356], defers := [] }) → J a' w')
    (hK : ∀ (a' : Act) (w' : World), Met J a' w' → K' a' w') :
    Code.wp Try.prog ((Try.f9.body.bind (blockAt 4)).getD .skip) (Exit.then K' Q') { tmps := #[x0, x1, x2, .pointer (some ⟨M, 0, none⟩), vl, vw, x6, x7, .int .i64 a, .int .i64 b, .string s, .bool th, x12, x13, x14, x15, x16, x17, x18, x19, x20, x21, x22, x23, x24, x25, x26, x27, x28, x29, x30, x31, x32, x33, x34, x35, x36, x37, x38, x39, x40, x41, x42, x43, x44, x45, x46, x47, x48, x49, x50, x51, x52, x53, x54, x55, x56, x57, x58, x59, x60, x61, x62, x63, x64, x65, x66, x67, x68, x69, x70, x71, x72, x73, x74, x75, x76, x77, x78, x79, x80, x81, x82, x83, x84, x85, x86, x87, x88, x89, x90, x91, x92, x93, .int .i64 t, x95, x96, x97, x98, x99, x100, x101, x102, x103, x104, x105, x106, x107, x108, x109, x110, x111, x112, x113, x114, x115, x116, x117, x118, x119, x120, x121, x122, x123, x124, x125, x126, x127, x128, x129, x130, x131, x132, x133, x134, x135, x136, x137, x138, x139, x140, x141, x142, x143, x144, x145, x146, x147, x148, x149, x150, x151, x152, x153, x154, x155, x156, x157, x158, x159, x160, x161, x162, x163, x164, x165, x166, x167, x168, x169, x170, x171, x172, x173, x174, x175, x176, x177, x178, x179, x180, x181, x182, x183, x184, x185, x186, x187, x188, x189, x190, x191, x192, x193, x194, x195, x196, x197, x198, x199, x200, x201, x202, x203, x204, x205, x206, x207, x208, x209, x210, x211, x212, x213, x214, x215, x216, x217, x218, x219, x220, x221, x222, x223, x224, x225, x226, x227, x228, x229, x230, x231, x232, x233, x234, x235, x236, x237, x238, x239, x240, x241, x242, x243, x244, x245, x246, x247, x248, x249, x250, x251, x252, x253, x254, x255, x256, x257, x258, x259, x260, x261, x262, x263, x264, x265, x266, x267, x268, x269, x270, x271, x272, x273, x274, x275, x276, x277, x278, x279, x280, x281, x282, x283, x284, x285, x286, x287, x288, x289, x290, x291, x292, x293, x294, x295, x296, x297, x298, x299, x300, x301, x302, x303, x304, x305, x306, x307, x308, x309, x310, x311, x312, x313, x314, x315, x316, x317, x318, x319, x320, x321, x322, x323, x324, x325, x326, x327, x328, x329, x330, x331, x332, x333, x334, x335, x336, x337, x338, x339, x340, x341, x342, x343, x344, x345, x346, x347, x348, x349, x350, x351, x352, x353, x354, x355, x356], defers := [] } wx := by
  let qq : Exit → Act → World → Prop := bodyPost Try.prog Try.f9 (fun _ _ => True)
  conv =>
    arg 2
    whnf
  have HD := Lib.hid (downA M B N lv it a wx HP.out.play.mesh HAI.out (by have := HNL.out; omega))
  go_wp2_with fail
  refine HD.out.mono ?_
  rintro e w3 ⟨rfl, hm, ht⟩
  try dsimp only
  have HT3 := Lib.hid ht
  have HV3 := Lib.hid (MT.sl ht HP.out.play.live)
  have HR3 := Lib.hid (HP.out.ref ht (New.refl _))
  have HZ3 := Lib.hid (show W.heap.size ≤ w3.heap.size by have := HP.out.len; have := ht.size; omega)
  have HH := Lib.hid (HAS.out a w3 HV3.out)
  by_cases ha : a ∈ lv
  · rw [if_pos ha] at hm
    rw [dec_ ha] at HH
    have HM3 := Lib.hid hm
    clear hm ht HD ha
    go_wp2_with fail
    refine HH.out.mono ?_
    rintro e w4 ⟨rfl, hw⟩
    try dsimp only
    rw [hw]
    clear hw HH
    obtain ⟨ao2, cap2, hv2, hcl, hcm, hnn, hcc⟩ := slr_ints HV3.out
    subst hv2
    have HCC2 := Lib.hid (show 0 < ls.length → ∃ b off, ao2 = some ⟨b, off, none⟩ ∧ b < w3.heap.size ∧ ∀ j, j < ls.length → w3.cell? ⟨b, off + j, none⟩ = some (.int .i64 (ls.getD j 0)) from fun h => by
      obtain ⟨b2, off2, e, _, hb, hc⟩ := hcc h
      exact ⟨b2, off2, e, hb, hc⟩)
    clear hcc hcm hnn hcl
    go_wp2_with fail
    go_loopw [15, 16] (fun vr vk wr => ∃ k : Nat, vk = .int .i64 k ∧ Hid (k ≤ ls.length) ∧ Hid (wr.ownsRow w3.heap.size 3 1 vr (downL (ls.take k) a).length (ints (downL (ls.take k) a))) ∧ Hid (New w3 wr)) (fun _ vk _ => ls.length - (intOf vk).toNat)
    case atStart => exact ⟨0, rfl, Lib.hid (by omega), Lib.hid (World.ownsRow_nil _ _ _ _), Lib.hid (New.refl _)⟩
    case round =>
      obtain ⟨k, rfl, HK, HOR, HNR⟩ := hrel
      obtain ⟨vr, hvr⟩ : ∃ x, x = u15 := ⟨_, rfl⟩
      subst hvr
      have hkb := HK.out
      by_cases hk : k < ls.length
      · have hk2 : (k : Int) < ls.length := by omega
        have hk200 : (k : Int) < 200 := by have := HNL.out; omega
        obtain ⟨b2, off2, hao, hbl, hc⟩ := HCC2.out (by omega)
        subst hao
        obtain ⟨y, hy⟩ : ∃ y, y = ls.getD k 0 := ⟨_, rfl⟩
        have cy : wr.cell? ⟨b2, off2 + k, none⟩ = some (.int .i64 y) := by
          have := HNR.out.cell (hc k hk)
          rw [this, hy]
        have HST := Lib.hid (show downL (ls.take (k + 1)) a = downL (ls.take k) a ++ (if y ≠ a then [y] else []) by
          unfold downL
          rw [List.take_succ_eq_append_getElem hk, List.filter_append]
          congr 1
          rw [hy, List.getD, List.getElem?_eq_getElem hk]
          simp only [Option.getD_some]
          by_cases e : ls[k] = a <;> simp [e])
        have HLK := Lib.hid (show (downL (ls.take k) a).length ≤ 200 by
          have h1 : (downL (ls.take k) a).length ≤ (ls.take k).length := List.length_filter_le _ _
          have h2 := HNL.out
          rw [List.length_take] at h1
          omega)
        clear hc hy hbl
        by_cases hya : y = a
        · have ty : (y != a) = false := by simp [hya]
          rw [if_neg (by simp [hya]), List.append_nil] at HST
          clear hya
          go_wp2_with fail
          go_roundw
          case rel => exact ⟨k + 1, rfl, Lib.hid (by omega), by rw [HST.out]; exact HOR, HNR⟩
          case measure => simp [intOf]; omega
        · have ty : (y != a) = true := by simp [hya]
          rw [if_pos (by simp [hya])] at HST
          clear hya
          have hm1 : (downL (ls.take k) a).length + 1 ≤ maxLen := Nat.le_trans (show _ ≤ 1000 by have := HLK.out; omega) (by decide)
          have hm2 : ((downL (ls.take k) a).length + 1) * 8 ≤ 140737488355328 := by have := HLK.out; omega
          have hbs : w3.heap.size ≤ (wr.alloc (.cells #[.int .i64 y] 3)).heap.size := by have := HNR.out.size; simp; omega
          have HOR1 := Lib.hid (own_tch HOR.out (Tch.alloc (Tch.refl (fun _ => False) _) (.cells #[.int .i64 y] 3)) (by simp))
          go_wp2_with (at_builtin; refine list_app rfl (.tmp 245) (.tmp 250) 26 rfl w3.heap.size 3 i0 (.int .i64 0) 8 Try.underlying26 hi hz0 hz1 hz2 rfl _ (downL (ls.take k) a).length (ints (downL (ls.take k) a)) rfl HOR1.out (some ⟨wr.heap.size, 0, none⟩) 1 1 [.int .i64 y] rfl rfl (by simp) (by simp) (fun _ => ⟨_, rfl, cells_one wr _ _⟩) (by intro u hu; simp at hu; subst hu; rfl) hm1 hm2 hbs ?_; intro vb wb hownb hgrowb)
          have HN7 := Lib.hid (show New w3 wb from Tch.grown (HNR.out.alloc _) hgrowb.out (fun k hk _ => (own_base HOR.out hk).1))
          have HR7 := Lib.hid (show wb.ownsRow w3.heap.size 3 1 vb (downL (ls.take (k + 1)) a).length (ints (downL (ls.take (k + 1)) a)) by
            have := hownb.out
            rw [HST.out]
            simpa [ints] using this)
          clear hownb hgrowb hm1 hm2 hbs HOR1
          go_wp2_with fail
          go_roundw
          case rel => exact ⟨k + 1, rfl, Lib.hid (by omega), HR7, HN7⟩
          case measure => simp [intOf]; omega
      · obtain rfl : k = ls.length := by omega
        have hk2 : ¬ (ls.length : Int) < ls.length := by omega
        rw [List.take_of_length_le (Nat.le_refl _)] at HOR
        obtain ⟨l0, hl0⟩ : ∃ l0, l0 = downL ls a := ⟨_, rfl⟩
        rw [← hl0] at HOR
        have HSR := Lib.hid (show Sl wr (w3.heap.size ≤ ·) vr (ints l0) from own_sl HOR.out)
        have HSM := Lib.hid (show l0.Perm (downL lv a) by rw [hl0]; exact HP.out.play.same.filter _)
        have HLE := Lib.hid (show l0.length ≤ ls.length by rw [hl0]; exact List.length_filter_le _ _)
        have HNA := Lib.hid (show a ∉ downL lv a from fun h => (downL_mem.1 h).2 rfl)
        have HAS2 := Lib.hid (fun (n : Int) (wy : World) (h : New w3 wy) (hs : Sl wy (w3.heap.size ≤ ·) vr (ints l0)) => show Calls Try.prog 34 #[vr, .int .i64 n] wy (fun e w' => e = .returned (.bool (decide (n ∈ downL lv a))) ∧ w' = wy) by
          have := has_ref vr l0 n wy hs (by have := HLE.out; have := HNL.out; omega)
          rw [contains_iff HSM.out n] at this
          exact this)
        clear hl0 HOR
        go_wp2_with fail
        go_loopw [5, 17] (fun vw2 vk wr => ∃ (j : Nat) (l2 : List RW), vk = .int .i64 (-4 + j) ∧ Hid (j ≤ 9) ∧ Hid (WRef wr (W.heap.size ≤ ·) vw2 l2) ∧ Hid (RefIt l2 (refDown (downL lv a) it a j)) ∧ Hid (l2.length ≤ l.length + 2 * j) ∧ Hid (New w3 wr) ∧ Hid (Sl wr (w3.heap.size ≤ ·) vr (ints l0))) (fun _ vk _ => (5 - intOf vk).toNat)
        case atStart => exact ⟨0, l, rfl, Lib.hid (by omega), Lib.hid (HR3.out.since HNR.out.below), Lib.hid (by rw [refDown_zero]; exact HP.out.play.it), Lib.hid (by omega), HNR, HSR⟩
        case round =>
          clear HNR HSR
          obtain ⟨j, l2, rfl, HJ2, HW2, HI2, HL2, HN2, HS2⟩ := hrel
          obtain ⟨vw2, hvw2⟩ : ∃ x, x = u5 := ⟨_, rfl⟩
          subst hvw2
          have hjb2 := HJ2.out
          obtain ⟨k, hk⟩ : ∃ k : Int, k = -4 + (j : Int) := ⟨_, rfl⟩
          have HKJ := Lib.hid hk
          rw [← hk]
          by_cases hj9 : j < 9
          · have hk5 : k < 5 := by omega
            have hkn : IntKind.i64.wrap (k + 1) = -4 + ((j + 1 : Nat) : Int) := by
              rw [hk]
              simp only [IntKind.wrap, IntKind.bits, IntKind.signed]
              simp
              omega
            clear hk
            have HSTEP := Lib.hid (refDown_step (it := it) (j := j) HKJ.out HNA.out)
            have HZ := Lib.hid (show W.heap.size ≤ wr.heap.size by have := HN2.out.size; have := HZ3.out; omega)
            go_wp2_with fail
            refine (pset W.heap.size vw2 l2 k a (.slice none 0 0) [] wr HW2.out Slk.nil (by have := HL2.out; have := HNL.out; omega) HZ.out).mono ?_
            rintro e w5 ⟨v5, rfl, hr5, hn5⟩
            try dsimp only
            have HR5 := Lib.hid hr5
            have HN5 := Lib.hid (HN2.out.then hn5)
            have HS5 := Lib.hid (show Sl w5 (w3.heap.size ≤ ·) vr (ints l0) from HS2.out.keep hn5.size (fun b hb _ => hn5.block b hb (by omega)))
            have HI5 := Lib.hid (HI2.out.set ⟨(k, a), .slice none 0 0, []⟩)
            have HL5 := Lib.hid (setR_len l2 ⟨(k, a), .slice none 0 0, []⟩)
            have HH5 := Lib.hid (HAS2.out k w5 HN5.out HS5.out)
            obtain ⟨l5, hl5⟩ : ∃ l5, l5 = setR l2 ⟨(k, a), .slice none 0 0, []⟩ := ⟨_, rfl⟩
            rw [← hl5] at HR5 HI5 HL5
            clear hr5 hn5 hl5 HW2 HI2 HS2 HN2
            by_cases hin : k ∈ downL lv a
            · rw [dec_ hin] at HH5
              rw [if_pos hin] at HSTEP
              clear hin
              go_wp2_with fail
              refine HH5.out.mono ?_
              rintro e w6 ⟨rfl, hw⟩
              try dsimp only
              rw [hw]
              clear hw HH5
              go_wp2_with fail
              refine (pbrk W.heap.size w5 (by have := HN5.out.size; have := HZ3.out; omega)).mono ?_
              rintro e w7 ⟨v7, rfl, hs7, hn7⟩
              try dsimp only
              have HS7 := Lib.hid hs7
              have HN7 := Lib.hid (HN5.out.then hn7)
              have HR7 := Lib.hid (HR5.out.since hn7.below)
              have HV7 := Lib.hid (show Sl w7 (w3.heap.size ≤ ·) vr (ints l0) from HS5.out.keep hn7.size (fun b hb _ => hn7.block b hb (by omega)))
              clear hs7 hn7 HN5 HR5 HS5
              go_wp2_with fail
              refine (pset W.heap.size v5 l5 a k v7 [brk] w7 HR7.out HS7.out (by have := HL5.out; have := HL2.out; have := HNL.out; omega) (by have := HN7.out.size; have := HZ3.out; omega)).mono ?_
              rintro e w8 ⟨v8, rfl, hr8, hn8⟩
              try dsimp only
              have HR8 := Lib.hid hr8
              have HN8 := Lib.hid (HN7.out.then hn8)
              have HV8 := Lib.hid (show Sl w8 (w3.heap.size ≤ ·) vr (ints l0) from HV7.out.keep hn8.size (fun b hb _ => hn8.block b hb (by omega)))
              have HI8 := Lib.hid (HI5.out.set ⟨(a, k), v7, [brk]⟩)
              have HL8 := Lib.hid (show _ ≤ _ from setR_len l5 ⟨(a, k), v7, [brk]⟩)
              clear hr8 hn8 HN7 HR7 HV7
              go_wp2_with fail
              go_roundw
              case rel => exact ⟨j + 1, _, by first | rw [hkn] | rfl, Lib.hid (by omega), HR8, Lib.hid (by rw [← HSTEP.out]; exact HI8.out), Lib.hid (by have := HL8.out; have := HL5.out; have := HL2.out; omega), HN8, HV8⟩
              case measure => have := HKJ.out; simp [intOf]; omega
            · rw [decn_ hin] at HH5
              rw [if_neg hin] at HSTEP
              clear hin
              go_wp2_with fail
              refine HH5.out.mono ?_
              rintro e w6 ⟨rfl, hw⟩
              try dsimp only
              rw [hw]
              clear hw HH5
              go_wp2_with fail
              go_roundw
              case rel => exact ⟨j + 1, _, by first | rw [hkn] | rfl, Lib.hid (by omega), HR5, Lib.hid (by rw [← HSTEP.out]; exact HI5.out), Lib.hid (by have := HL5.out; have := HL2.out; omega), HN5, HS5⟩
              case measure => have := HKJ.out; simp [intOf]; omega
          · obtain rfl : j = 9 := by omega
            have hk5 : ¬ k < 5 := by omega
            clear hk
            rw [refDown_end HP.out.box HP.out.lvb] at HI2
            have HB9 := Lib.hid (show InBox (downI lv it a) from by
              intro q hq
              unfold downI at hq
              by_cases e1 : q.2 = a
              · rw [if_pos e1] at hq; exact absurd rfl hq
              · rw [if_neg e1] at hq
                by_cases e2 : q.1 = a ∧ q.2 ∈ lv
                · exact ⟨by rw [e2.1]; exact HA4.out, HP.out.lvb _ e2.2⟩
                · rw [if_neg e2] at hq; exact HP.out.box q hq)
            have HX := Lib.hid (HP.out.turn HM3.out HT3.out HN2.out (HS2.out.more (fun b _ h => by have := HZ3.out; omega)) HSM.out (fun y hy => HP.out.lvb y (downL_mem.1 hy).1) (by have := HLE.out; omega) HW2.out HI2.out HB9.out (by have := HNL.out; omega) (by have := HL2.out; omega))
            go_wp2_with fail
            go_meet
            exact ⟨_, _, _, _, _, HX⟩
  · rw [if_neg ha] at hm
    rw [decn_ ha] at HH
    rw [downL_out ha] at hm
    have HX := Lib.hid (HP.out.alone hm ht rfl (by have := HNL.out; omega))
    clear hm ht HD ha
    go_wp2_with fail
    refine HH.out.mono ?_
    rintro e w4 ⟨rfl, hw⟩
    try dsimp only
    rw [hw]
    clear hw
    go_wp2_with fail
    go_meet
    exact ⟨_, _, _, _, _, HX⟩
end Go.Proofs.Ythobffgkggfooaa
