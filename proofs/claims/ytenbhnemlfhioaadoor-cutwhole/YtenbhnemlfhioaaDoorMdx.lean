/- A round of CutWhole: the last piece. -/
import Derived.Test.YtenbhnemlfhioaaDoorMe
namespace Go.Proofs.YtenbhnemlfhioaaDoor
open Go.RowKit Go.PlainAid Go.Shelf

set_option maxRecDepth 100000 in
set_option maxHeartbeats 4000000 in
theorem way_D (P : NextP) (Q : Exit → Act → World → Prop) (v6 v14 v15 v16 v17 v18 v19 v20 v21 v22 v23 v24 v25 v26 v27 v28 v29 v30 v31 v32 v33 v34 v35 v36 v37 v38 v39 v40 v41 v42 v43 v44 v45 v46 v47 v48 v49 v50 v51 v52 v53 v54 v55 v56 v57 v58 v59 v60 v61 v62 v63 v64 v65 v66 v67 v68 v69 v70 v71 v72 v73 v74 v75 v76 v77 v78 v79 v80 v81 v82 v83 v84 v85 v86 v87 v88 v89 v90 v91 v92 v93 v94 v95 v96 v97 v98 v99 v100 v101 v102 v103 v104 v105 v106 v107 v108 v109 v110 v111 v112 v113 v114 v115 v116 v117 v118 v119 v120 v121 v122 v123 v124 v125 v126 v127 v128 v129 v130 v131 v132 v133 v134 v135 v136 v137 v138 v139 v140 v141 v142 v143 v144 v145 v146 v147 v148 v149 v150 v151 v152 v153 v154 v155 v156 v157 v158 v159 v160 v161 v162 v163 v164 v165 v166 v167 v168 v169 v170 v171 v172 v173 v174 v175 v176 v177 v178 v179 v180 v181 v182 v183 v184 v185 v186 v187 v188 v189 v190 v191 v192 v193 v194 v195 v196 v197 v198 v199 v200 v201 v202 v203 v204 v205 v206 v207 v208 v209 v210 v211 v212 v213 v214 v215 v216 v217 v218 v219 v220 v221 v222 v223 v224 v225 v226 v227 v228 v229 v230 v231 v232 : Value) (w wr : World) (T al : ByteArray) (kd n i s g h u pos : Nat) (a : Option Addr) (cap : Nat) (l ld : Lb) (p : Pc)
    (hS : Sz w) (hk : kd < 256) (hyz : T.size ≤ 6000) (hT1 : 1 ≤ T.size) (_hn47 : n ≤ 1000000000000000) (hdk : okL ld = true) (_hni : T.toList.isEmpty = false) (hs5 : s < 5000) (hin : i ≤ n + pos)
    (hL : LAt wr g l) (hM : LAt wr h ld) (hC : CAt wr u ⟨2049, ld.kind, ld.bytes, T, ((pos : Nat) : Int), (kd : Int)⟩) (hP : PAt wr (u + 1) p) (hF : Fr (fun _ => False) w wr) (hg : g < u) (hMl : h < u) (hu : w.heap.size ≤ u)
    (hal : al = T.extract 0 pos) (hal2 : al.size = pos) (hp : pos < T.size) (hp1 : 1 ≤ pos) (h1 : 7 + (T.size - pos) ≤ min s 4097) (hnx : nx ⟨2049, ld.kind, ld.bytes, T, (pos : Int), (kd : Int)⟩ ld (s : Int) false = (⟨false, true, kd, 0, 0, 0, noB, T.extract pos T.size, pdS 2049 ld T⟩, ⟨2049, ld.kind, ld.bytes, T, (T.size : Int), (kd : Int)⟩, 0))
    (hQ : ∀ (gm : Nat) (al2 : ByteArray) (x14 x15 x16 x17 x18 x68 x69 x70 x71 x72 x73 x74 x75 x76 x77 x78 x79 x80 x81 x82 x83 x84 x85 x86 x87 x88 x89 x90 x91 x92 x93 x94 x95 x96 x97 x98 x99 x100 x101 x102 x103 x104 x105 x106 x107 x108 x109 x110 x111 x112 x113 x114 x115 x116 x117 x118 x119 x120 x121 x122 x123 x124 x125 x126 x127 x128 x129 x130 x131 x132 x133 x134 x135 x136 x137 x138 x139 x140 x141 x142 x143 x144 x145 x146 x147 x148 x149 x150 x151 x152 x153 x154 x155 x156 x157 x158 x159 x160 x161 x162 x163 x164 x165 x166 x167 x168 x169 x170 x171 x172 x173 x174 x175 x176 x177 x178 x179 x180 x181 x182 x183 x184 x185 x186 x187 x188 x189 x190 x191 x192 x193 x194 x195 x196 x197 x198 x199 x200 x201 x202 : Value) (wx : World), gm < (T.size - pos) + (n - i) → WholeR w T kd n g h u l ld gm (.string al2) (.int .i64 ((i : Int) + 1)) wx → Q .normal { tmps := #[.string T, .int .u8 (kd : Int), .slice a n cap, undef, undef, undef, v6, .pointer (some ⟨g, 0, none⟩), .pointer (some ⟨h, 0, none⟩), .pointer (some ⟨u, 0, none⟩), .string al2, .pointer (some ⟨u + 1, 0, none⟩), .int .i64 (i : Int), .int .i64 (s : Int), x14, x15, x16, x17, x18, v19, v20, v21, v22, v23, v24, v25, v26, v27, v28, v29, v30, v31, v32, v33, v34, v35, v36, v37, v38, v39, v40, v41, v42, v43, v44, v45, v46, v47, v48, v49, v50, v51, v52, v53, v54, v55, v56, v57, v58, v59, v60, v61, v62, v63, v64, v65, v66, v67, x68, x69, x70, x71, x72, x73, x74, x75, x76, x77, x78, x79, x80, x81, x82, x83, x84, x85, x86, x87, x88, x89, x90, x91, x92, x93, x94, x95, x96, x97, x98, x99, x100, x101, x102, x103, x104, x105, x106, x107, x108, x109, x110, x111, x112, x113, x114, x115, x116, x117, x118, x119, x120, x121, x122, x123, x124, x125, x126, x127, x128, x129, x130, x131, x132, x133, x134, x135, x136, x137, x138, x139, x140, x141, x142, x143, x144, x145, x146, x147, x148, x149, x150, x151, x152, x153, x154, x155, x156, x157, x158, x159, x160, x161, x162, x163, x164, x165, x166, x167, x168, x169, x170, x171, x172, x173, x174, x175, x176, x177, x178, x179, x180, x181, x182, x183, x184, x185, x186, x187, x188, x189, x190, x191, x192, x193, x194, x195, x196, x197, x198, x199, x200, x201, x202, v203, v204, v205, v206, v207, v208, v209, v210, v211, v212, v213, v214, v215, v216, v217, v218, v219, v220, v221, v222, v223, v224, v225, v226, v227, v228, v229, v230, v231, v232], defers := [] } wx) :
    Code.wp Tryd.prog (cSnd (cSnd (cIn (cFst (cSnd (cIn (cIn (cSnd (cFst (cSnd (cSnd (cSnd (cSnd (cSnd (cSnd (cSnd (cSnd (cBody Tryd.f3.body)))))))))))))))))) Q { tmps := #[.string T, .int .u8 (kd : Int), .slice a n cap, undef, undef, undef, v6, .pointer (some ⟨g, 0, none⟩), .pointer (some ⟨h, 0, none⟩), .pointer (some ⟨u, 0, none⟩), .string al, .pointer (some ⟨u + 1, 0, none⟩), .int .i64 (i : Int), .int .i64 (s : Int), v14, v15, v16, v17, v18, v19, v20, v21, v22, v23, v24, v25, v26, v27, v28, v29, v30, v31, v32, v33, v34, v35, v36, v37, v38, v39, v40, v41, v42, v43, v44, v45, v46, v47, v48, v49, v50, v51, v52, v53, v54, v55, v56, v57, v58, v59, v60, v61, v62, v63, v64, v65, v66, v67, v68, v69, v70, v71, v72, v73, v74, v75, v76, v77, v78, v79, v80, v81, v82, v83, v84, v85, v86, v87, v88, v89, v90, v91, v92, v93, v94, v95, v96, v97, v98, v99, v100, v101, v102, v103, v104, v105, v106, v107, v108, v109, v110, v111, v112, v113, v114, v115, v116, v117, v118, v119, v120, v121, v122, v123, v124, v125, v126, v127, v128, v129, v130, v131, v132, v133, v134, v135, v136, v137, v138, v139, v140, v141, v142, v143, v144, v145, v146, v147, v148, v149, v150, v151, v152, v153, v154, v155, v156, v157, v158, v159, v160, v161, v162, v163, v164, v165, v166, v167, v168, v169, v170, v171, v172, v173, v174, v175, v176, v177, v178, v179, v180, v181, v182, v183, v184, v185, v186, v187, v188, v189, v190, v191, v192, v193, v194, v195, v196, v197, v198, v199, v200, v201, v202, v203, v204, v205, v206, v207, v208, v209, v210, v211, v212, v213, v214, v215, v216, v217, v218, v219, v220, v221, v222, v223, v224, v225, v226, v227, v228, v229, v230, v231, v232], defers := [] } wr := by
  have hai := ne_empty (t := al) (by omega)
  have hX : (T.extract pos T.size).size = T.size - pos := by rw [ByteArray.size_extract]; omega
  have hap : al ++ T.extract pos T.size = T := by rw [hal, ex_app T (by omega) (by omega), ex_all]
  obtain ⟨X, hXX⟩ : ∃ X, T.extract pos T.size = X := ⟨_, rfl⟩
  rw [hXX] at hX hap hnx
  obtain ⟨su, hsu⟩ : ∃ su, pdS 2049 ld T = su := ⟨_, rfl⟩
  rw [hsu] at hnx
  have hsz := (pdS_cw hdk hyz).2
  rw [hsu] at hsz
  have HSU : Hid _ := hsu
  obtain ⟨x, hx⟩ : ∃ x, X.size = x := ⟨_, rfl⟩
  have hx2 : pos + x = T.size := by omega
  have HAP : Hid _ := hap
  clear hX hXX hap hsu hal
  have nn := fun W hW => P.is hnx (by omega) (by omega) (by show T.size ≤ _; omega) W hW
  simp only [Ct.v, Ct.cs, Pc.v, Pc.cs, Lb.v] at nn
  clear hnx
  have u0 := hC.lt
  have hC' := hC
  obtain ⟨d0, d1, d2, d3, d4, d5, -⟩ := hC'
  have hM' := hM
  obtain ⟨e0, e1, -, -⟩ := hM'
  simp only [Tryd.f3, cSnd, cFst, cIn, cBody]
  go_wp2_with fail
  refine (nn _ (hS.keep hF (fun e => e))).mono ?_
  rintro e w7 ⟨rfl, k7⟩
  replace hL := hL.keep k7 (fun e => e)
  replace hM := hM.keep k7 (fun e => e)
  replace hC := hC.keep k7 (fun e => e)
  replace hP := hP.keep k7 (fun e => e)
  replace hF := hF.trans k7 (fun _ _ e => e)
  have u1 : u < w7.heap.size := hC.lt
  have u2 : u + 1 < w7.heap.size := hP.lt
  clear k7 d0 d1 d2 d3 d4 d5 e0 e1 nn u0
  have her := la_err (su := su) (D := X) hk hsz (by omega)
  have sz := fun W hW => size8_any ⟨false, true, (kd : Int), 0, 0, 0, noB, X, su⟩ W hW ⟨by show noB.size ≤ _; decide, by show X.size ≤ _; omega, by show su.size ≤ _; omega⟩
  obtain ⟨Ns, hNs⟩ : ∃ Ns : Int, sizeP ⟨false, true, (kd : Int), 0, 0, 0, noB, X, su⟩ = Ns := ⟨_, rfl⟩
  rw [hNs] at sz her
  rw [her.1] at sz
  have hN1 := her.2
  simp only [Pc.v, Pc.cs] at sz
  clear her hNs
  go_wp2_with fail
  have hQ1 := (pat_alloc w7 ⟨false, true, (kd : Int), 0, 0, 0, noB, X, su⟩ 30).keep ((Fr.refl (fun _ => False) _).alloc (.cells #[.int .i64 2049, .int .i64 ld.kind, .string ld.bytes, .string T, .int .i64 (T.size : Int), .int .i64 (kd : Int)] 28)) (fun e => e)
  have hD := cat_alloc (w7.alloc (.cells #[.bool false, .bool true, .int .i64 (kd : Int), .int .i64 0, .int .i64 0, .int .i64 0, .string noB, .string X, .string su] 30)) ⟨2049, ld.kind, ld.bytes, T, (T.size : Int), (kd : Int)⟩ 28
  rw [World.size_alloc] at hD
  simp only [Pc.cs, Ct.cs] at hQ1 hD
  have ff : Fr (fun _ => False) w7 ((w7.alloc (.cells #[.bool false, .bool true, .int .i64 (kd : Int), .int .i64 0, .int .i64 0, .int .i64 0, .string noB, .string X, .string su] 30)).alloc (.cells #[.int .i64 2049, .int .i64 ld.kind, .string ld.bytes, .string T, .int .i64 (T.size : Int), .int .i64 (kd : Int)] 28)) := ((Fr.refl _ _).alloc _).alloc _
  replace hL := hL.keep ff (fun e => e)
  replace hM := hM.keep ff (fun e => e)
  replace hC := hC.keep ff (fun e => e)
  replace hP := hP.keep ff (fun e => e)
  replace hF := hF.trans ff (fun _ _ e => e)
  clear ff
  generalize (w7.alloc (.cells #[.bool false, .bool true, .int .i64 (kd : Int), .int .i64 0, .int .i64 0, .int .i64 0, .string noB, .string X, .string su] 30)).alloc (.cells #[.int .i64 2049, .int .i64 ld.kind, .string ld.bytes, .string T, .int .i64 (T.size : Int), .int .i64 (kd : Int)] 28) = w8 at *
  obtain ⟨v, hv⟩ : ∃ v, w7.heap.size = v := ⟨_, rfl⟩
  rw [hv] at hQ1 hD u1 u2 ⊢
  clear hv
  refine (sz _ (hS.keep hF (fun e => e))).mono ?_
  rintro e w9 ⟨rfl, k9⟩
  replace hL := hL.keep k9 (fun e => e)
  replace hM := hM.keep k9 (fun e => e)
  replace hC := hC.keep k9 (fun e => e)
  replace hP := hP.keep k9 (fun e => e)
  replace hQ1 := hQ1.keep k9 (fun e => e)
  replace hD := hD.keep k9 (fun e => e)
  replace hF := hF.trans k9 (fun _ _ e => e)
  clear k9 sz
  obtain ⟨q0, q1, q2, q3, q4, q5, q6, q7, q8, -⟩ := hQ1
  obtain ⟨r0, r1, r2, r3, r4, r5, -⟩ := hD
  have hM' := hM
  obtain ⟨e0, e1, -, -⟩ := hM'
  have hC' := hC
  obtain ⟨d0, d1, d2, d3, d4, d5, dz⟩ := hC'
  have hP' := hP
  obtain ⟨p0, p1, p2, p3, p4, p5, p6, p7, p8, pz⟩ := hP'
  have dz0 := dz 0 (by omega)
  have dz1 := dz 1 (by omega)
  have dz2 := dz 2 (by omega)
  have dz3 := dz 3 (by omega)
  have dz4 := dz 4 (by omega)
  have dz5 := dz 5 (by omega)
  have pz0 := pz 0 (by omega)
  have pz1 := pz 1 (by omega)
  have pz2 := pz 2 (by omega)
  have pz3 := pz 3 (by omega)
  have pz4 := pz 4 (by omega)
  have pz5 := pz 5 (by omega)
  have pz6 := pz 6 (by omega)
  have pz7 := pz 7 (by omega)
  have pz8 := pz 8 (by omega)
  clear dz pz
  have ne1 : ¬ v + 1 = u + 1 := by omega
  have ne2 : ¬ u + 1 = v + 1 := by omega
  have ne3 : ¬ u = u + 1 := by omega
  have ne4 : ¬ u + 1 = u := by omega
  have ne5 : ¬ v = u := by omega
  have ne6 : ¬ v = u + 1 := by omega
  have ne7 : ¬ h = u + 1 := by omega
  have ne8 : ¬ h = u := by omega
  have ne9 : ¬ v + 1 = u := by omega
  have g1 : ¬ (s : Int) < Ns := by omega
  have g2 : ¬ (4097 : Int) < Ns := by omega
  have g3 : ¬ 9223372036854775807 < pos + x := by omega
  have g4 : (pos : Int) + (x : Int) = (T.size : Int) := by omega
  clear hx2
  have hXi := ne_empty (t := X) (by omega)
  go_upto_region 26 with fail
  go_quiet (fail)
  have fd : Fr (fun _ => False) w9 (w9.drewN nq) := (Fr.refl _ _).drewN _
  replace hL := hL.keep fd (fun e => e)
  replace hM := hM.keep fd (fun e => e)
  replace hC := hC.keep fd (fun e => e)
  replace hP := hP.keep fd (fun e => e)
  replace hF := hF.trans fd (fun _ _ e => e)
  clear fd
  go_wp2_with fail
  refine hQ _ _ _ _ _ _ _ _ _ _ _ _ _ _ _ _ _ _ _ _ _ _ _ _ _ _ _ _ _ _ _ _ _ _ _ _ _ _ _ _ _ _ _ _ _ _ _ _ _ _ _ _ _ _ _ _ _ _ _ _ _ _ _ _ _ _ _ _ _ _ _ _ _ _ _ _ _ _ _ _ _ _ _ _ _ _ _ _ _ _ _ _ _ _ _ _ _ _ _ _ _ _ _ _ _ _ _ _ _ _ _ _ _ _ _ _ _ _ _ _ _ _ _ _ _ _ _ _ _ _ _ _ _ _ _ _ _ _ _ _ _ _ _ ?_ (whole_end (w9.drewN nq) ⟨false, true, (kd : Int), 0, 0, 0, noB, X, su⟩ ⟨2049, ld.kind, ld.bytes, T, (T.size : Int), (kd : Int)⟩ T.size i hL hM hC hP hF hg hMl hu (by omega) (by omega) (by rw [ex_all, HAP.out]) ⟨ld, .inr (.inr rfl), rfl⟩ (fun _ => .inr ⟨rfl, HSU.out.symm⟩))
  omega
end Go.Proofs.YtenbhnemlfhioaaDoor
