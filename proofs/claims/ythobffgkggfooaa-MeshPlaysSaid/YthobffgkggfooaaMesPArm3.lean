/-
  MeshPlays: the arm arm3 of the switch.
-/
import Derived.Test.YthobffgkggfooaaMesAct
import Derived.Test.YthobffgkggfooaaMesNeWay
import Derived.Test.YthobffgkggfooaaMesSpk
import Derived.Test.YthobffgkggfooaaMActs
import Derived.Test.YthobffgkggfooaaMesArm
import Derived.BigRegion
import Derived.BigQuiet
import Derived.Deep.CutBlock
import Derived.Deep.DeepCutAuto
import Derived.Deep.RegionHeld3
set_option linter.unusedVariables false
set_option linter.unusedSimpArgs false
set_option maxRecDepth 100000
namespace Go.Proofs.Ythobffgkggfooaa
open Go.RowKit Go.Maps

set_option maxHeartbeats 4000000 in
theorem mp_arm3 {W : World} {M B N i : Nat} {it : Ways} {ls lv : List Int} {l : List RW} {vl vw : Value} {a b t : Int} {s : ByteArray} {th : Bool} {wx : World} {i0 : TypeInfo}
    (hi : Try.prog.info? 3 = some i0) (hz0 : i0.zero = some (Value.int IntKind.i64 0)) (hz1 : i0.size = 1) (hz2 : i0.bytes = 8)
    (HNODES : Hid NodesGive) (HB : Hid (W.heap.size ≤ B)) (HA4 : Hid (In4 a)) (HB4 : Hid (In4 b)) (HAI : Hid (I64 a)) (HBI : Hid (I64 b)) (HP : Hid (PlJ W wx M B N i it vl ls lv vw l))
    (HTH : Hid (th = decide (a ∈ lv ∧ b ∈ lv ∧ a ≠ b))) (HNL : Hid (N ≤ 100 + 200 * i ∧ l.length ≤ 20 * i ∧ ls.length ≤ 3 + i ∧ lv.length ≤ 3 + i ∧ i < 120))
    (HAS : Hid (∀ (n : Int) (wy : World), Sl wy (fun x => W.heap.size ≤ x) vl (ints ls) → Calls Try.prog 34 #[vl, .int .i64 n] wy (fun e w' => e = .returned (.bool (decide (n ∈ lv))) ∧ w' = wy))) (t3 : (t == 3) = true)
    {x0 x1 x2 x6 x7 x12 x13 x14 x15 x16 x17 x18 x19 x20 x21 x22 x23 x24 x25 x26 x27 x28 x29 x30 x31 x32 x33 x34 x35 x36 x37 x38 x39 x40 x41 x42 x43 x44 x45 x46 x47 x48 x49 x50 x51 x52 x53 x54 x55 x56 x57 x58 x59 x60 x61 x62 x63 x64 x65 x66 x67 x68 x69 x70 x71 x72 x73 x74 x75 x76 x77 x78 x79 x80 x81 x82 x83 x84 x85 x86 x87 x88 x89 x90 x91 x92 x93 x95 x96 x97 x98 x99 x100 x101 x102 x103 x104 x105 x106 x107 x108 x109 x110 x111 x112 x113 x114 x115 x116 x117 x118 x119 x120 x121 x122 x123 x124 x125 x126 x127 x128 x129 x130 x131 x132 x133 x134 x135 x136 x137 x138 x139 x140 x141 x142 x143 x144 x145 x146 x147 x148 x149 x150 x151 x152 x153 x154 x155 x156 x157 x158 x159 x160 x161 x162 x163 x164 x165 x166 x167 x168 x169 x170 x171 x172 x173 x174 x175 x176 x177 x178 x179 x180 x181 x182 x183 x184 x185 x186 x187 x188 x189 x190 x191 x192 x193 x194 x195 x196 x197 x198 x199 x200 x201 x202 x203 x204 x205 x206 x207 x208 x209 x210 x211 x212 x213 x214 x215 x216 x217 x218 x219 x220 x221 x222 x223 x224 x225 x226 x227 x228 x229 x230 x231 x232 x233 x234 x235 x236 x237 x238 x239 x240 x241 x242 x243 x244 x245 x246 x247 x248 x249 x250 x251 x252 x253 x254 x255 x256 x257 x258 x259 x260 x261 x262 x263 x264 x265 x266 x267 x268 x269 x270 x271 x272 x273 x274 x275 x276 x277 x278 x279 x280 x281 x282 x283 x284 x285 x286 x287 x288 x289 x290 x291 x292 x293 x294 x295 x296 x297 x298 x299 x300 x301 x302 x303 x304 x305 x306 x307 x308 x309 x310 x311 x312 x313 x314 x315 x316 x317 x318 x319 x320 x321 x322 x323 x324 x325 x326 x327 x328 x329 x330 x331 x332 x333 x334 x335 x336 x337 x338 x339 x340 x341 x342 x343 x344 x345 x346 x347 x348 x349 x350 x351 x352 x353 x354 x355 x356 : Value}
    {J K' : Act → World → Prop} {Q' : Exit → Act → World → Prop}
    (hR : ∀ (a' : Act) (w' : World), (∃ u2 u4 u5 u12 u13 u14 u15 u16 u17 u18 u19 u39 u40 u41 u42 u43 u44 u45 u46 u47 u48 u49 u50 u51 u52 u53 u54 u55 u56 u57 u58 u59 u60 u61 u62 u63 u64 u65 u66 u67 u68 u69 u70 u71 u72 u73 u74 u75 u76 u77 u78 u79 u80 u81 u82 u83 u84 u85 u86 u87 u88 u89 u90 u91 u92 u93 u95 u96 u97 u98 u99 u100 u101 u102 u103 u104 u105 u106 u107 u108 u109 u110 u111 u112 u113 u114 u115 u116 u117 u118 u119 u120 u121 u122 u123 u124 u125 u126 u127 u128 u129 u130 u131 u132 u133 u134 u135 u136 u137 u138 u139 u140 u141 u142 u143 u144 u145 u146 u147 u148 u149 u150 u151 u152 u153 u154 u155 u156 u157 u158 u159 u160 u161 u162 u163 u164 u165 u166 u167 u168 u169 u170 u171 u172 u173 u174 u175 u176 u177 u178 u179 u180 u181 u182 u183 u184 u185 u186 u187 u188 u189 u190 u191 u192 u193 u194 u195 u196 u197 u198 u199 u200 u201 u202 u203 u204 u205 u206 u207 u208 u209 u210 u211 u212 u213 u214 u215 u216 u217 u218 u219 u220 u221 u222 u223 u224 u225 u226 u227 u228 u229 u230 u231 u232 u233 u234 u235 u236 u237 u238 u239 u240 u241 u242 u243 u244 u245 u246 u247 u248 u249 u250 u251 u252 u253 u254 u255 u256 u257 u258 u259 u260 u261 u262 u263 u264 u265 u266 u267 u268 u269 u270 u271 u272 u273 u274 u275 u276 u277 u278 u279 u280 u281 u282 u283 u284 u285 u286, (∃ N2 it2 ls2 lv2 l2, Hid (PlJ W w' M B N2 (i + 1) it2 u4 ls2 lv2 u5 l2)) ∧ a' = { tmps := #[x0, x1, u2, .pointer (some ⟨M, 0, none⟩), u4, u5, x6, x7, .int .i64 a, .int .i64 b, .string s, .bool th, u12, u13, u14, u15, u16, u17, u18, u19, x20, x21, x22, x23, x24, x25, x26, x27, x28, x29, x30, x31, x32, x33, x34, x35, x36, x37, x38, u39, u40, u41, u42, u43, u44, u45, u46, u47, u48, u49, u50, u51, u52, u53, u54, u55, u56, u57, u58, u59, u60, u61, u62, u63, u64, u65, u66, u67, u68, u69, u70, u71, u72, u73, u74, u75, u76, u77, u78, u79, u80, u81, u82, u83, u84, u85, u86, u87, u88, u89, u90, u91, u92, u93, .int .i64 t, u95, u96, u97, u98, u99, u100, u101, u102, u103, u104, u105, u106, u107, u108, u109, u110, u111, u112, u113, u114, u115, u116, u117, u118, u119, u120, u121, u122, u123, u124, u125, u126, u127, u128, u129, u130, u131, u132, u133, u134, u135, u136, u137, u138, u139, u140, u141, u142, u143, u144, u145, u146, u147, u148, u149, u150, u151, u152, u153, u154, u155, u156, u157, u158, u159, u160, u161, u162, u163, u164, u165, u166, u167, u168, u169, u170, u171, u172, u173, u174, u175, u176, u177, u178, u179, u180, u181, u182, u183, u184, u185, u186, u187, u188, u189, u190, u191, u192, u193, u194, u195, u196, u197, u198, u199, u200, u201, u202, u203, u204, u205, u206, u207, u208, u209, u210, u211, u212, u213, u214, u215, u216, u217, u218, u219, u220, u221, u222, u223, u224, u225, u226, u227, u228, u229, u230, u231, u232, u233, u234, u235, u236, u237, u238, u239, u240, u241, u242, u243, u244, u245, u246, u247, u248, u249, u250, u251, u252, u253, u254, u255, u256, u257, u258, u259, u260, u261, u262, u263, u264, u265, u266, u267, u268, u269, u270, u271, u272, u273, u274, u275, u276, u277, u278, u279, u280, u281, u282, u283, u284, u285, u286, x287, x288, x289, x290, x291, x292, x293, x294, x295, x296, x297, x298, x299, x300, x301, x302, x303, x304, x305, x306, x307, x308, x309, x310, x311, x312, x313, x314, x315, x316, x317, x318, x319, x320, x321, x322, x323, x324, x325, x326, x327, x328, x329, x330, x331, x332, x333, x334, x335, x336, x337, x338, x339, x340, x341, x342, x343, x344, x345, x346, x347, x348, x349, x350, x351, x352, x353, x354, x355, x356], defers := [] }) → J a' w')
    (hK : ∀ (a' : Act) (w' : World), Met J a' w' → K' a' w') :
    Code.wp Try.prog ((Try.f9.body.bind (blockAt 4)).getD .skip) (Exit.then K' Q') { tmps := #[x0, x1, x2, .pointer (some ⟨M, 0, none⟩), vl, vw, x6, x7, .int .i64 a, .int .i64 b, .string s, .bool th, x12, x13, x14, x15, x16, x17, x18, x19, x20, x21, x22, x23, x24, x25, x26, x27, x28, x29, x30, x31, x32, x33, x34, x35, x36, x37, x38, x39, x40, x41, x42, x43, x44, x45, x46, x47, x48, x49, x50, x51, x52, x53, x54, x55, x56, x57, x58, x59, x60, x61, x62, x63, x64, x65, x66, x67, x68, x69, x70, x71, x72, x73, x74, x75, x76, x77, x78, x79, x80, x81, x82, x83, x84, x85, x86, x87, x88, x89, x90, x91, x92, x93, .int .i64 t, x95, x96, x97, x98, x99, x100, x101, x102, x103, x104, x105, x106, x107, x108, x109, x110, x111, x112, x113, x114, x115, x116, x117, x118, x119, x120, x121, x122, x123, x124, x125, x126, x127, x128, x129, x130, x131, x132, x133, x134, x135, x136, x137, x138, x139, x140, x141, x142, x143, x144, x145, x146, x147, x148, x149, x150, x151, x152, x153, x154, x155, x156, x157, x158, x159, x160, x161, x162, x163, x164, x165, x166, x167, x168, x169, x170, x171, x172, x173, x174, x175, x176, x177, x178, x179, x180, x181, x182, x183, x184, x185, x186, x187, x188, x189, x190, x191, x192, x193, x194, x195, x196, x197, x198, x199, x200, x201, x202, x203, x204, x205, x206, x207, x208, x209, x210, x211, x212, x213, x214, x215, x216, x217, x218, x219, x220, x221, x222, x223, x224, x225, x226, x227, x228, x229, x230, x231, x232, x233, x234, x235, x236, x237, x238, x239, x240, x241, x242, x243, x244, x245, x246, x247, x248, x249, x250, x251, x252, x253, x254, x255, x256, x257, x258, x259, x260, x261, x262, x263, x264, x265, x266, x267, x268, x269, x270, x271, x272, x273, x274, x275, x276, x277, x278, x279, x280, x281, x282, x283, x284, x285, x286, x287, x288, x289, x290, x291, x292, x293, x294, x295, x296, x297, x298, x299, x300, x301, x302, x303, x304, x305, x306, x307, x308, x309, x310, x311, x312, x313, x314, x315, x316, x317, x318, x319, x320, x321, x322, x323, x324, x325, x326, x327, x328, x329, x330, x331, x332, x333, x334, x335, x336, x337, x338, x339, x340, x341, x342, x343, x344, x345, x346, x347, x348, x349, x350, x351, x352, x353, x354, x355, x356], defers := [] } wx := by
  conv =>
    arg 2
    whnf
  have HGE := Lib.hid (fun (wy : World) (h : WRef wy (W.heap.size ≤ ·) vw l) => rget_ok (W.heap.size ≤ ·) vw l a b wy h (by have := HNL.out; omega))
  have HIT := Lib.hid (HP.out.play.it (a, b))
  rcases hit : it (a, b) with _ | ⟨x, rest⟩
  · have HTK := Lib.hid (mtake_none M B N lv it a b wx HP.out.play.mesh HAI.out HBI.out hit)
    go_wp2_with fail
    refine HTK.out.mono ?_
    rintro e w3 ⟨rfl, hn⟩
    try dsimp only
    obtain ⟨w4, hw4⟩ : ∃ w4, w4 = w3.alloc (.cells #[.bool false, .string ⟨#[]⟩] 57) := ⟨_, rfl⟩
    have hn4 : New w3 w4 := by rw [hw4]; exact (New.refl _).alloc _
    have HP4 := Lib.hid (HP.out.later (hn.then hn4))
    have HG4 := Lib.hid (HGE.out _ HP4.out.play.ref)
    have hs4 := HP4.out.play.ref.get (a, b)
    rw [HIT.out, hit] at hs4
    obtain ⟨ao2, cap2, he2, _, _⟩ := hs4.shape
    rw [he2] at HG4
    have ck : w4.cell? ⟨w3.heap.size, 0, none⟩ = some (.bool false) ∧ w4.cell? ⟨w3.heap.size, 1, none⟩ = some (.string ⟨#[]⟩) := by
      rw [hw4]; exact ⟨(Bk.made _ _ _).cell 0, (Bk.made _ _ _).cell 1⟩
    obtain ⟨ck0, ck1⟩ := ck
    have hne := fun w => neItP zeroI w
    simp only [zeroI] at hne
    clear hn hn4 HTK hit HIT hs4 he2
    simp only [itV, zeroI]
    go_upto_region 28 with fail
    rw [← hw4]
    clear hw4
    go_wp2_with fail
    refine HG4.out.mono ?_
    rintro e w5 ⟨rfl, rfl⟩
    try dsimp only
    clear HG4
    go_upto_region 29 with fail
    go_quiet (fail)
    have HX := Lib.hid (show PlJ W (w5.drewN nq) M B N (i + 1) it vl ls lv vw l from (PlJ.alone HP4.out HP4.out.play.mesh (MT.refl _ _) rfl (by omega)).later ((New.refl _).drewN _))
    go_wp2_with fail
    go_meet
    exact ⟨_, _, _, _, _, HX⟩
  · have HTK := Lib.hid (show Calls Try.prog 35 #[.pointer (some ⟨M, 0, none⟩), .int .i64 a, .int .i64 b] wx (fun e w' => e = .returned (.tuple #[itV x, .bool true]) ∧ MeshA w' M B N lv (setI it (a, b) rest) ∧ MT B wx w') by
      rcases rest with _ | ⟨y, rest⟩
      · exact mtake_last M B N lv it a b x wx HP.out.play.mesh HAI.out HBI.out hit
      · exact mtake_more M B N lv it a b x (y :: rest) wx HP.out.play.mesh HAI.out HBI.out hit (by simp))
    have HFW := Lib.hid (HP.out.play.mesh.few (a, b))
    rw [hit] at HFW
    go_wp2_with fail
    refine HTK.out.mono ?_
    rintro e w3 ⟨rfl, hm, ht⟩
    try dsimp only
    obtain ⟨w4, hw4⟩ : ∃ w4, w4 = w3.alloc (.cells #[.bool x.broken, .string x.text] 57) := ⟨_, rfl⟩
    have hn4 : New w3 w4 := by rw [hw4]; exact (New.refl _).alloc _
    have HM3 := Lib.hid hm
    have HT3 := Lib.hid ht
    have HN4 := Lib.hid hn4
    have HR4 := Lib.hid (HP.out.ref ht hn4)
    have HG4 := Lib.hid (HGE.out _ HR4.out)
    have hs4 := HR4.out.get (a, b)
    rw [HIT.out, hit] at hs4
    obtain ⟨ao2, cap2, he2, hcx, hcm⟩ := hs4.shape
    rw [he2] at HG4 hs4
    obtain ⟨b2, off2, rfl, hb2, hbl, hcells⟩ := hs4.at_ (by simp)
    have c0' := hcells 0 (by simp) 0 (.bool x.broken) rfl
    have c1' := hcells 0 (by simp) 1 (.string x.text) rfl
    simp at c0' c1'
    have HS4 := Lib.hid hs4
    have ck : w4.cell? ⟨w3.heap.size, 0, none⟩ = some (.bool x.broken) ∧ w4.cell? ⟨w3.heap.size, 1, none⟩ = some (.string x.text) := by
      rw [hw4]; exact ⟨(Bk.made _ _ _).cell 0, (Bk.made _ _ _).cell 1⟩
    obtain ⟨ck0, ck1⟩ := ck
    have hne := fun w => neItR x w
    have hlp : (0 : Int) < (rest.length : Int) + 1 := by omega
    have HZ4 := Lib.hid (show W.heap.size ≤ w4.heap.size by have := HP.out.len; have := ht.size; have := hn4.size; omega)
    clear hm ht hn4 HTK hit HIT hs4 he2 hcells
    (try simp only [itV, List.length_cons] at HG4)
    (try simp only [itV, List.length_cons] at HFW)
    (try simp only [itV, List.length_cons] at HS4)
    (try simp only [itV, List.length_cons] at hcx hcm)
    (try simp only [itV, List.length_cons] at hbl hb2)
    (try simp only [itV, List.length_cons])
    go_upto_region 28 with fail
    rw [← hw4]
    clear hw4
    go_wp2_with fail
    refine HG4.out.mono ?_
    rintro e w5 ⟨rfl, rfl⟩
    try dsimp only
    clear HG4
    go_upto_region 29 with fail
    go_quiet (fail)
    obtain ⟨w6, hw6⟩ : ∃ w6, w6 = w5.drewN nq := ⟨_, rfl⟩
    rw [← hw6]
    have hn6 : New w5 w6 := by rw [hw6]; exact (New.refl _).drewN _
    have HN6 := Lib.hid (HN4.out.then hn6)
    have HS6 := Lib.hid (hn6.slk HS4.out)
    have HR6 := Lib.hid (HR4.out.since hn6.below)
    have HZ6 := Lib.hid (Nat.le_trans HZ4.out hn6.size)
    clear hw6 hn6 c0' c1' hne ck0 ck1 HN4 HS4 HR4 HZ4
    obtain ⟨i1, hi1', hz0', hz1', hz2'⟩ := info_parts rit_info
    have hl1 : rest.length ≤ 63 := by have := HFW.out; omega
    have h1c : 1 ≤ cap2 := by omega
    have hsrc : Hid (0 < rest.length → ∃ ad, (if cap2 = 1 then some (⟨b2, off2, none⟩ : Addr) else some ⟨b2, off2 + 1 * 2, none⟩) = some ad ∧ ∀ (j : Nat) (u : Value), (rest.flatMap itC)[j]? = some u → (w6.alloc (.cells #[] 60)).cell? (ad.add j) = some u) := Lib.hid fun h0 =>
      ⟨⟨b2, off2 + 1 * 2, none⟩, if_neg (by omega), fun j u hu => ((((New.refl w6).alloc _).slk HS6.out).tail (n := 1) (m2 := rest.length) (c2 := cap2 - 1) (by omega) (by omega) (by omega) (by omega)).flat itC_len j u hu⟩
    go_wp2_with (at_builtin; go_loud (refine list_appK rfl (.tmp 185) (.tmp 187) 55 rfl w6.heap.size 60 i1 (.agg #[.bool false, .string ⟨#[]⟩]) 2 24 Try.underlying55 hi1' hz0' hz1' hz2' rfl (by omega) (.slice (some ⟨w6.heap.size, 0, none⟩) 0 0) 0 [] (by simp [Act.eval, Act.put]) (World.ownsRow_made w6 #[] 0 (Nat.le_refl _) (Nat.zero_le _) rfl) (if cap2 = 1 then some ⟨b2, off2, none⟩ else some ⟨b2, off2 + 1 * 2, none⟩) rest.length (cap2 - 1) (rest.flatMap itC) (by simp [Act.eval, Act.put]) (flat_lengthK itC_len rest) (by split <;> simp) (by split <;> simp) hsrc.out (itC_one rest) (Nat.le_trans (show 0 + rest.length ≤ 64 by omega) (by decide)) (by omega) (by simp) ?_); intro v1 w7 HO7 HG7)
    all_goals
      have hn7 : New w6 w7 := (((New.refl w6).alloc _) : Tch _ _ _).trans (Tch.of_grown HG7.out) (fun b hb e => by have e2 : b = w6.heap.size := (by simpa [Value.ownBlock] using e); omega)
      have HS7 := Lib.hid (show Slk itC 2 w7 (W.heap.size ≤ ·) v1 rest from by
        have ho : w7.ownsRow w6.heap.size 60 2 v1 rest.length (rest.flatMap itC) := by simpa using HO7.out
        exact (own_slk itC_len ho).more (fun b _ h => by have := HZ6.out; omega))
      have HR7 := Lib.hid (HR6.out.since hn7.below)
      have HN7 := Lib.hid (HN6.out.then hn7)
      have HZ7 := Lib.hid (Nat.le_trans HZ6.out hn7.size)
      clear hn7 HO7 HG7 hsrc HR6 HN6 HZ6 HS6
      go_wp2_with fail
      refine (pset W.heap.size vw l a b v1 rest w7 HR7.out HS7.out (by have := HNL.out; omega) HZ7.out).mono ?_
      rintro e w8 ⟨v2, rfl, hr8, hn8⟩
      try dsimp only
      have HX := Lib.hid (HP.out.step HM3.out HT3.out (HN7.out.then hn8) hr8 (HP.out.play.it.set ⟨(a, b), v1, rest⟩) (HP.out.box.set HA4.out HB4.out _) (by omega) (by
        have h1 := setR_len l ⟨(a, b), v1, rest⟩
        omega))
      clear hr8 hn8
      go_wp2_with fail
      go_meet
      exact ⟨_, _, _, _, _, HX⟩
end Go.Proofs.Ythobffgkggfooaa
