/- The law CutKnown: its end. -/
import Derived.Test.YtenbhnemlfhioaaDoorMe
import Derived.Test.YtenbhnemlfhioaaDoorGb
namespace Go.Proofs.YtenbhnemlfhioaaDoor
open Go.RowKit Go.PlainAid Go.Shelf

theorem kc1 : nx ⟨2048, 0, ⟨#[97, 98, 99, 100, 101, 102]⟩, ⟨#[48, 49, 50, 51, 52, 53, 54, 55, 56, 57]⟩, 0, 7⟩ ⟨1, ⟨#[120, 121, 122]⟩⟩ 100 false = (noP, ⟨2048, 0, ⟨#[97, 98, 99, 100, 101, 102]⟩, ⟨#[48, 49, 50, 51, 52, 53, 54, 55, 56, 57]⟩, 0, 7⟩, 2) := by kernel_rfl
theorem kc2 : nx ⟨2048, 0, ⟨#[97, 98, 99, 100, 101, 102]⟩, ⟨#[48, 49, 50, 51, 52, 53, 54, 55, 56, 57]⟩, 0, 7⟩ ⟨0, ⟨#[97, 98, 99, 100, 101, 102]⟩⟩ (-5) false = (noP, ⟨2048, 0, ⟨#[97, 98, 99, 100, 101, 102]⟩, ⟨#[48, 49, 50, 51, 52, 53, 54, 55, 56, 57]⟩, 0, 7⟩, 12) := by kernel_rfl
theorem kc4 : nx ⟨2048, 0, ⟨#[97, 98, 99, 100, 101, 102]⟩, ⟨#[48, 49, 50, 51, 52, 53, 54, 55, 56, 57]⟩, 0, 7⟩ ⟨3, noB⟩ 14 true = (⟨true, true, 0, 0, 2048, 3, noB, ⟨#[48, 49, 50, 51, 52, 53, 54, 55, 56, 57]⟩, noB⟩, ⟨2048, 0, ⟨#[97, 98, 99, 100, 101, 102]⟩, ⟨#[48, 49, 50, 51, 52, 53, 54, 55, 56, 57]⟩, 10, 7⟩, 0) := by kernel_rfl
theorem kc3 (Z : ByteArray) (hZ : Z.size = 5000) : nx ⟨0, 2, noB, Z, 0, 0⟩ ⟨2, noB⟩ 1099511627776 false = (⟨true, false, 0, pdT ⟨2, noB⟩ Z.size, 0, 2, noB, Z.extract 0 4090, noB⟩, ⟨0, 2, noB, Z, 4090, 0⟩, 0) := by
  have e : okL ⟨2, noB⟩ = true := by kernel_rfl
  have hb : badN ⟨0, 2, noB, Z, 0, 0⟩ ⟨2, noB⟩ = false := by
    have hm : mayC ⟨0, 2, noB, Z, 0, 0⟩ = true := by simp [mayC, e, hZ]
    simp [badN, hm, e]
  rw [nx_ok hb, if_pos rfl]
  have z : szI 2 = 0 := rfl
  have hm : min (min (1099511627776 : Int) 4097 - 7 - szI 2) ((Z.size : Int) - 1) = 4090 := by rw [z, hZ]; decide
  unfold nxS
  simp only
  rw [if_neg (by rw [z, hZ]; decide), if_neg (by rw [z, hZ]; decide), hm]
  rfl
set_option maxRecDepth 100000 in
set_option maxHeartbeats 4000000 in
theorem known_end (P : NextP) (Q : Exit → Act → World → Prop) (v0 v2 v3 v4 v5 v6 v7 v8 v9 v10 v11 v12 v13 v14 v15 v16 v17 v18 v19 v20 v21 v22 v23 v24 v25 v26 v27 v28 v29 v30 v31 v32 v33 v34 v35 v36 v37 v38 v39 v40 v41 v42 v43 v44 v45 v46 v47 v48 v49 v50 v51 v52 v53 v54 v55 v56 v57 v58 v59 v60 v61 v62 v63 v64 v65 v66 v67 v68 v69 v70 v71 v72 v73 v74 v75 v76 v77 v78 v79 v80 v81 v82 v83 v84 v85 v86 v87 v88 v89 v90 v91 v92 v93 v94 v95 v96 v97 v98 v99 v100 v101 v102 v103 v104 v105 v106 v107 v108 v109 v110 v111 v112 v113 v114 v115 v116 v117 v118 v119 v120 v121 v122 v123 v124 v125 v126 v127 v128 v129 v130 v131 v132 v133 v134 v135 v136 v137 v138 v139 v140 v141 v142 v143 v144 v145 v146 v147 v148 v149 v150 v151 v152 v153 v154 v155 v156 v157 v158 v159 v160 v161 v162 v163 v164 v165 v166 v167 v168 v169 v170 v171 v172 v173 v174 v175 v176 v177 v178 v179 v180 v181 v182 v183 v184 v185 v186 v187 v188 v189 v190 v191 v192 v193 v194 v195 v196 v197 v198 v199 v200 v201 v202 v203 v204 v205 v206 v207 v208 v209 v210 v211 v212 v213 v214 v215 v216 v217 v218 v219 v220 v221 v222 v223 v224 v225 v226 v227 v228 v229 v230 v231 v232 v233 v234 v235 v236 v237 v238 v239 v240 v241 v242 v243 v244 v245 v246 v247 v248 v249 v250 v251 v252 v253 v254 v255 v256 v257 v258 v259 v260 v261 v262 v263 v264 v265 v266 v267 v268 v269 v270 v271 v272 v273 v274 v275 v276 v277 v278 : Value) (wr : World) (g1 : Nat) (hS : Sz wr) (hC : CAt wr g1 ⟨2048, 0, ⟨#[97, 98, 99, 100, 101, 102]⟩, ⟨#[48, 49, 50, 51, 52, 53, 54, 55, 56, 57]⟩, 0, 7⟩)
    (hQ : ∀ (x26 x27 x28 x29 x30 x31 x32 x33 x34 x35 x36 x37 x38 x202 x203 x204 x205 x206 x207 x208 x209 x210 x211 x212 x213 x214 x215 x216 x217 x218 x219 x220 x221 x222 x223 x224 x225 x226 x227 x228 x229 x230 x231 x232 x233 x234 x235 x236 x237 x238 x239 x240 x241 x242 x243 x244 x245 x246 x247 x248 x249 x250 x251 x252 x253 x254 x255 x256 x257 x258 x259 x260 x261 x262 x263 x264 x265 x266 x267 x268 x269 x270 x271 x272 x273 x274 x275 x276 x277 x278 : Value) (wx : World), Fr (fun _ => False) wr wx → Q .ret { tmps := #[.bool true, .pointer (some ⟨g1, 0, none⟩), v2, v3, v4, v5, v6, v7, v8, v9, v10, v11, v12, v13, v14, v15, v16, v17, v18, v19, v20, v21, v22, v23, v24, v25, x26, x27, x28, x29, x30, x31, x32, x33, x34, x35, x36, x37, x38, v39, v40, v41, v42, v43, v44, v45, v46, v47, v48, v49, v50, v51, v52, v53, v54, v55, v56, v57, v58, v59, v60, v61, v62, v63, v64, v65, v66, v67, v68, v69, v70, v71, v72, v73, v74, v75, v76, v77, v78, v79, v80, v81, v82, v83, v84, v85, v86, v87, v88, v89, v90, v91, v92, v93, v94, v95, v96, v97, v98, v99, v100, v101, v102, v103, v104, v105, v106, v107, v108, v109, v110, v111, v112, v113, v114, v115, v116, v117, v118, v119, v120, v121, v122, v123, v124, v125, v126, v127, v128, v129, v130, v131, v132, v133, v134, v135, v136, v137, v138, v139, v140, v141, v142, v143, v144, v145, v146, v147, v148, v149, v150, v151, v152, v153, v154, v155, v156, v157, v158, v159, v160, v161, v162, v163, v164, v165, v166, v167, v168, v169, v170, v171, v172, v173, v174, v175, v176, v177, v178, v179, v180, v181, v182, v183, v184, v185, v186, v187, v188, v189, v190, v191, v192, v193, v194, v195, v196, v197, v198, v199, v200, v201, x202, x203, x204, x205, x206, x207, x208, x209, x210, x211, x212, x213, x214, x215, x216, x217, x218, x219, x220, x221, x222, x223, x224, x225, x226, x227, x228, x229, x230, x231, x232, x233, x234, x235, x236, x237, x238, x239, x240, x241, x242, x243, x244, x245, x246, x247, x248, x249, x250, x251, x252, x253, x254, x255, x256, x257, x258, x259, x260, x261, x262, x263, x264, x265, x266, x267, x268, x269, x270, x271, x272, x273, x274, x275, x276, x277, x278], defers := [] } wx) :
    Code.wp Tryd.prog (cSnd (cSnd (cSnd (cSnd (cSnd (cSnd (cSnd (cSnd (cSnd (cSnd (cSnd (cSnd (cSnd (cBody Tryd.f5.body)))))))))))))) Q { tmps := #[v0, .pointer (some ⟨g1, 0, none⟩), v2, v3, v4, v5, v6, v7, v8, v9, v10, v11, v12, v13, v14, v15, v16, v17, v18, v19, v20, v21, v22, v23, v24, v25, v26, v27, v28, v29, v30, v31, v32, v33, v34, v35, v36, v37, v38, v39, v40, v41, v42, v43, v44, v45, v46, v47, v48, v49, v50, v51, v52, v53, v54, v55, v56, v57, v58, v59, v60, v61, v62, v63, v64, v65, v66, v67, v68, v69, v70, v71, v72, v73, v74, v75, v76, v77, v78, v79, v80, v81, v82, v83, v84, v85, v86, v87, v88, v89, v90, v91, v92, v93, v94, v95, v96, v97, v98, v99, v100, v101, v102, v103, v104, v105, v106, v107, v108, v109, v110, v111, v112, v113, v114, v115, v116, v117, v118, v119, v120, v121, v122, v123, v124, v125, v126, v127, v128, v129, v130, v131, v132, v133, v134, v135, v136, v137, v138, v139, v140, v141, v142, v143, v144, v145, v146, v147, v148, v149, v150, v151, v152, v153, v154, v155, v156, v157, v158, v159, v160, v161, v162, v163, v164, v165, v166, v167, v168, v169, v170, v171, v172, v173, v174, v175, v176, v177, v178, v179, v180, v181, v182, v183, v184, v185, v186, v187, v188, v189, v190, v191, v192, v193, v194, v195, v196, v197, v198, v199, v200, v201, v202, v203, v204, v205, v206, v207, v208, v209, v210, v211, v212, v213, v214, v215, v216, v217, v218, v219, v220, v221, v222, v223, v224, v225, v226, v227, v228, v229, v230, v231, v232, v233, v234, v235, v236, v237, v238, v239, v240, v241, v242, v243, v244, v245, v246, v247, v248, v249, v250, v251, v252, v253, v254, v255, v256, v257, v258, v259, v260, v261, v262, v263, v264, v265, v266, v267, v268, v269, v270, v271, v272, v273, v274, v275, v276, v277, v278], defers := [] } wr := by
  have hWK := fun W hW => works_any P W hW
  have n1 := fun W hW => P.is kc1 (by decide) (by decide) (by decide) W hW
  have n2 := fun W hW => P.is kc2 (by decide) (by decide) (by decide) W hW
  have n4 := fun W hW => P.is kc4 (by decide) (by decide) (by decide) W hW
  obtain ⟨z, hz⟩ : ∃ z : Nat, 5000 = z := ⟨_, rfl⟩
  have hz1 : (5000 : Int) = (z : Int) := by omega
  obtain ⟨Z, hZ⟩ : ∃ Z : ByteArray, byN Z = List.replicate z 0 := by
    obtain ⟨t, ht, _⟩ := (made_row z wr 5).conv z z (by simp)
    exact ⟨t, ht⟩
  have hZz : Z.size = z := by rw [← byN_len, hZ, List.length_replicate]
  have hcv : ∀ W : World, (convert 44 9 (.slice (some ⟨W.heap.size, 0, none⟩) z z)).run Tryd.prog (W.alloc (.cells (madeCells #[.int .u8 0] z) 5)) = .ok (.string Z) (W.alloc (.cells (madeCells #[.int .u8 0] z) 5)) := fun W => by
    obtain ⟨t, ht, hc⟩ := (made_row z W 5).conv z z (by simp)
    obtain rfl : t = Z := byN_eq (ht.trans hZ.symm)
    exact hc
  have hmk := run_make_row' (P := Tryd.prog) 44 5 (.int .u8 0) 1 Tryd.underlying44 info58 rfl .i64 .i64 z (by omega) (by omega)
  have n3 := fun W hW => P.is (kc3 Z (by omega)) (by decide) (by decide) (by show Z.size ≤ _; omega) W hW
  generalize pdT ⟨2, noB⟩ (Z.size : Int) = tt at n3
  have hX : (Z.extract 0 4090).size = 4090 := by rw [ByteArray.size_extract]; omega
  generalize Z.extract 0 4090 = X at *
  simp only [Ct.v, Ct.cs, Pc.v, Pc.cs, Lb.v, noP] at n1 n2 n3 n4
  clear hZ hz
  have hF : Fr (fun _ => False) wr wr := Fr.refl _ _
  have hl0 := hC.lt
  have hC0 := hC
  obtain ⟨c0, c1, c2, c3, c4, c5, -⟩ := hC0
  simp only [Tryd.f5, cSnd, cBody]
  go_wp2_with fail
  clear hl0
  refine (n1 _ (hS.keep hF (fun e => e))).mono ?_
  rintro e w1 ⟨rfl, kk⟩
  replace hC := hC.keep kk (fun e => e)
  replace hF := hF.trans kk (fun _ _ e => e)
  clear kk n1
  have hl := hC.lt
  have hl2 : g1 < w1.heap.size + 1 := by omega
  have hC0 := hC
  clear c0 c1 c2 c3 c4 c5
  obtain ⟨c0, c1, c2, c3, c4, c5, -⟩ := hC0
  go_wp2_with fail
  have ff : Fr (fun _ => False) w1 ((w1.alloc (.cells #[.bool false, .bool false, .int .i64 0, .int .i64 0, .int .i64 0, .int .i64 0, .string noB, .string noB, .string noB] 30)).alloc (.cells #[.int .i64 2048, .int .i64 0, .string ⟨#[97, 98, 99, 100, 101, 102]⟩, .string ⟨#[48, 49, 50, 51, 52, 53, 54, 55, 56, 57]⟩, .int .i64 0, .int .i64 7] 28)) := ((Fr.refl _ _).alloc _).alloc _
  replace hC := hC.keep ff (fun e => e)
  replace hF := hF.trans ff (fun _ _ e => e)
  clear ff hl hl2
  generalize (w1.alloc (.cells #[.bool false, .bool false, .int .i64 0, .int .i64 0, .int .i64 0, .int .i64 0, .string noB, .string noB, .string noB] 30)).alloc (.cells #[.int .i64 2048, .int .i64 0, .string ⟨#[97, 98, 99, 100, 101, 102]⟩, .string ⟨#[48, 49, 50, 51, 52, 53, 54, 55, 56, 57]⟩, .int .i64 0, .int .i64 7] 28) = y1 at *
  refine (n2 _ (hS.keep hF (fun e => e))).mono ?_
  rintro e w2 ⟨rfl, kk⟩
  replace hC := hC.keep kk (fun e => e)
  replace hF := hF.trans kk (fun _ _ e => e)
  clear kk n2
  have hl := hC.lt
  have hl2 : g1 < w2.heap.size + 1 := by omega
  have hC0 := hC
  clear c0 c1 c2 c3 c4 c5
  obtain ⟨c0, c1, c2, c3, c4, c5, -⟩ := hC0
  go_upto_region 21 with fail
  have ff : Fr (fun _ => False) w2 ((w2.alloc (.cells #[.bool false, .bool false, .int .i64 0, .int .i64 0, .int .i64 0, .int .i64 0, .string noB, .string noB, .string noB] 30)).alloc (.cells #[.int .i64 2048, .int .i64 0, .string ⟨#[97, 98, 99, 100, 101, 102]⟩, .string ⟨#[48, 49, 50, 51, 52, 53, 54, 55, 56, 57]⟩, .int .i64 0, .int .i64 7] 28)) := ((Fr.refl _ _).alloc _).alloc _
  replace hC := hC.keep ff (fun e => e)
  replace hF := hF.trans ff (fun _ _ e => e)
  clear ff hl hl2
  generalize (w2.alloc (.cells #[.bool false, .bool false, .int .i64 0, .int .i64 0, .int .i64 0, .int .i64 0, .string noB, .string noB, .string noB] 30)).alloc (.cells #[.int .i64 2048, .int .i64 0, .string ⟨#[97, 98, 99, 100, 101, 102]⟩, .string ⟨#[48, 49, 50, 51, 52, 53, 54, 55, 56, 57]⟩, .int .i64 0, .int .i64 7] 28) = y2 at *
  generalize w2.heap.size = b2 at *
  have hcv2 := hcv y2
  go_wp2_with fail
  have hK := cat_alloc (y2.alloc (.cells (madeCells #[.int .u8 0] z) 5)) ⟨0, 2, noB, Z, 0, 0⟩ 28
  have ff : Fr (fun _ => False) y2 ((y2.alloc (.cells (madeCells #[.int .u8 0] z) 5)).alloc (.cells #[.int .i64 0, .int .i64 2, .string noB, .string Z, .int .i64 0, .int .i64 0] 28)) := ((Fr.refl _ _).alloc _).alloc _
  simp only [Ct.cs] at hK
  rw [World.size_alloc] at hK
  replace hC := hC.keep ff (fun e => e)
  replace hF := hF.trans ff (fun _ _ e => e)
  clear ff hcv hcv2 hmk
  generalize (y2.alloc (.cells (madeCells #[.int .u8 0] z) 5)).alloc (.cells #[.int .i64 0, .int .i64 2, .string noB, .string Z, .int .i64 0, .int .i64 0] 28) = y3 at *
  generalize y2.heap.size + 1 = b3 at *
  refine (n3 _ (hS.keep hF (fun e => e))).mono ?_
  rintro e w3 ⟨rfl, kk⟩
  replace hC := hC.keep kk (fun e => e)
  replace hF := hF.trans kk (fun _ _ e => e)
  clear kk n3 hK
  have hl := hC.lt
  have hl2 : g1 < w3.heap.size + 1 := by omega
  have hC0 := hC
  clear c0 c1 c2 c3 c4 c5
  obtain ⟨c0, c1, c2, c3, c4, c5, -⟩ := hC0
  go_wp2_with fail
  have hP3 := (pat_alloc w3 ⟨true, false, 0, tt, 0, 2, noB, X, noB⟩ 30).keep ((Fr.refl (fun _ => False) _).alloc (.cells #[.int .i64 0, .int .i64 2, .string noB, .string Z, .int .i64 4090, .int .i64 0] 28)) (fun e => e)
  have hD3 := cat_alloc (w3.alloc (.cells #[.bool true, .bool false, .int .i64 0, .int .i64 tt, .int .i64 0, .int .i64 2, .string noB, .string X, .string noB] 30)) ⟨0, 2, noB, Z, 4090, 0⟩ 28
  rw [World.size_alloc] at hD3
  simp only [Pc.cs, Ct.cs] at hP3 hD3
  have ff : Fr (fun _ => False) w3 ((w3.alloc (.cells #[.bool true, .bool false, .int .i64 0, .int .i64 tt, .int .i64 0, .int .i64 2, .string noB, .string X, .string noB] 30)).alloc (.cells #[.int .i64 0, .int .i64 2, .string noB, .string Z, .int .i64 4090, .int .i64 0] 28)) := ((Fr.refl _ _).alloc _).alloc _
  replace hC := hC.keep ff (fun e => e)
  replace hF := hF.trans ff (fun _ _ e => e)
  clear ff hl hl2
  generalize (w3.alloc (.cells #[.bool true, .bool false, .int .i64 0, .int .i64 tt, .int .i64 0, .int .i64 2, .string noB, .string X, .string noB] 30)).alloc (.cells #[.int .i64 0, .int .i64 2, .string noB, .string Z, .int .i64 4090, .int .i64 0] 28) = y4 at *
  generalize w3.heap.size = b4 at *
  refine (n4 _ (hS.keep hF (fun e => e))).mono ?_
  rintro e w4 ⟨rfl, kk⟩
  replace hC := hC.keep kk (fun e => e)
  replace hF := hF.trans kk (fun _ _ e => e)
  replace hP3 := hP3.keep kk (fun e => e)
  replace hD3 := hD3.keep kk (fun e => e)
  clear kk n4 c0 c1 c2 c3 c4 c5 hC
  have l1 := hP3.lt
  have l2 := hD3.lt
  have l3 : b4 < w4.heap.size + 1 := by omega
  have l4 : b4 + 1 < w4.heap.size + 1 := by omega
  obtain ⟨p0, p1, p2, p3, p4, p5, p6, p7, p8, -⟩ := hP3
  obtain ⟨d0, d1, d2, d3, d4, d5, -⟩ := hD3
  go_wp2_with fail
  refine (hWK _ (hS.keep ((hF.alloc _).alloc _) (fun e => e))).mono ?_
  rintro e w5 ⟨rfl, k5⟩
  go_wp2_with fail
  exact ((hF.alloc _).alloc _).trans k5 (fun _ _ e => e)
end Go.Proofs.YtenbhnemlfhioaaDoor
