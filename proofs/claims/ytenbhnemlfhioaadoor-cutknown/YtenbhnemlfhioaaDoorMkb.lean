/- The law CutKnown: its loop over packets that may not be. -/
import Derived.Test.YtenbhnemlfhioaaDoorMe
import Derived.Test.YtenbhnemlfhioaaDoorQn
namespace Go.Proofs.YtenbhnemlfhioaaDoor
open Go.RowKit Go.PlainAid Go.Shelf

def oddC (Z : ByteArray) (m : Nat) : Ct :=
  if m = 0 then ⟨0, 0, noB, noB, 0, 0⟩ else if m = 1 then ⟨-1, 0, noB, ⟨#[97]⟩, 0, 0⟩ else if m = 2 then ⟨65536, 0, noB, ⟨#[97]⟩, 0, 0⟩ else if m = 3 then ⟨0, 1, noB, ⟨#[97]⟩, 0, 0⟩ else if m = 4 then ⟨0, 2, noB, ⟨#[97]⟩, 1, 0⟩
  else if m = 5 then ⟨0, 2, noB, ⟨#[97]⟩, -1, 0⟩ else if m = 6 then ⟨0, 2, noB, ⟨#[97]⟩, 0, 256⟩ else if m = 7 then ⟨0, 2, noB, ⟨#[97]⟩, 0, -1⟩ else ⟨0, 2, noB, Z, 0, 0⟩
theorem odd_may (Z : ByteArray) (hZ : Z.size = 65520) (m : Nat) (hm : m < 9) : mayC (oddC Z m) = false ∧ (oddC Z m).da.size ≤ 1000000 := by
  have : m = 0 ∨ m = 1 ∨ m = 2 ∨ m = 3 ∨ m = 4 ∨ m = 5 ∨ m = 6 ∨ m = 7 ∨ m = 8 := by omega
  rcases this with rfl | rfl | rfl | rfl | rfl | rfl | rfl | rfl | rfl
  all_goals first
    | exact ⟨by kernel_rfl, by show (⟨#[97]⟩ : ByteArray).size ≤ 1000000; decide⟩
    | exact ⟨by kernel_rfl, by show noB.size ≤ 1000000; decide⟩
    | (refine ⟨?_, by show Z.size ≤ _; omega⟩
       simp [oddC, mayC, hZ])
theorem odd_nx (Z : ByteArray) (hZ : Z.size = 65520) (m : Nat) (hm : m < 9) (l : Lb) : nx (oddC Z m) l 100 false = (noP, oddC Z m, 2) := by
  unfold nx badN
  rw [(odd_may Z hZ m hm).1]
  rfl
/-- The nine of them lie in block b. -/
structure OddR (w : World) (b : Nat) (Z : ByteArray) : Prop where
  c : ∀ m, m < 9 → w.cell? ⟨b, m * 6, none⟩ = some (.int .i64 (oddC Z m).ty) ∧ w.cell? ⟨b, m * 6 + 1, none⟩ = some (.int .i64 (oddC Z m).kd) ∧ w.cell? ⟨b, m * 6 + 2, none⟩ = some (.string (oddC Z m).lb) ∧
    w.cell? ⟨b, m * 6 + 3, none⟩ = some (.string (oddC Z m).da) ∧ w.cell? ⟨b, m * 6 + 4, none⟩ = some (.int .i64 (oddC Z m).pos) ∧ w.cell? ⟨b, m * 6 + 5, none⟩ = some (.int .i64 (oddC Z m).num)
theorem OddR.keep {S : Nat → Prop} {w w' : World} {b : Nat} {Z : ByteArray} (h : OddR w b Z) (f : Fr S w w') (hb : ¬ S b) : OddR w' b Z :=
  ⟨fun m hm => by obtain ⟨h0, h1, h2, h3, h4, h5⟩ := h.c m hm; exact ⟨f.cell h0 hb, f.cell h1 hb, f.cell h2 hb, f.cell h3 hb, f.cell h4 hb, f.cell h5 hb⟩⟩
/-- What the operations of the row yield in which one of them is cut; B: where the piece and the rest lie. -/
def oddVals (ob m : Nat) (c : Ct) (B : Nat × Nat) (i : Nat) : Value :=
  [.slice (some ⟨ob, 0, none⟩) 9 9, .int .i64 (m : Int), .pointer (some ⟨ob, m * 6, none⟩), c.v, .slice (some ⟨ob, 0, none⟩) 9 9, .int .i64 (m : Int), .pointer (some ⟨ob, m * 6, none⟩), .pointer (some ⟨ob, m * 6 + 1, none⟩), .agg #[.int .i64 c.kd, .string c.lb],
    .tuple #[noP.v, c.v, .int .i64 2], .tuple #[noP.v, c.v, .int .i64 2], noP.v, c.v, .int .i64 2, .pointer (some ⟨B.1, 0, none⟩), .pointer (some ⟨B.2, 0, none⟩), undef, undef, .int .i64 2].getD i undef
def oddSlot (i : Nat) : Nat := if i < 10 then 172 + i else if i = 10 then 171 else if i < 14 then 171 + i else if i = 14 then 23 else if i = 15 then 24 else if i = 18 then 25 else 279 + i
structure OddΦ (w0 : World) (c : Ct) (B : Nat × Nat) (f : Nat → Bool) (W : World) : Prop where
  fr : Fr (fun _ => False) w0 W
  p : f 14 = true → PAt W B.1 noP ∧ w0.heap.size ≤ B.1
  d : f 15 = true → (∃ c', CAt W B.2 c') ∧ w0.heap.size ≤ B.2
  ne : f 14 = true → f 15 = true → B.1 ≠ B.2
  e : f 17 = true → CAt W B.2 c
  o16 : f 16 = true → f 14 = true
  o17 : f 17 = true → f 15 = true
theorem oddVals_eq {ob m : Nat} {c : Ct} (B C : Nat × Nat) : ∀ j, (j = 14 → B.1 = C.1) → (j = 15 → B.2 = C.2) → oddVals ob m c B j = oddVals ob m c C j
  | 0, _, _ => rfl
  | 1, _, _ => rfl
  | 2, _, _ => rfl
  | 3, _, _ => rfl
  | 4, _, _ => rfl
  | 5, _, _ => rfl
  | 6, _, _ => rfl
  | 7, _, _ => rfl
  | 8, _, _ => rfl
  | 9, _, _ => rfl
  | 10, _, _ => rfl
  | 11, _, _ => rfl
  | 12, _, _ => rfl
  | 13, _, _ => rfl
  | 14, h, _ => by show Value.pointer (some ⟨B.1, 0, none⟩) = .pointer (some ⟨C.1, 0, none⟩); rw [h rfl]
  | 15, _, h => by show Value.pointer (some ⟨B.2, 0, none⟩) = .pointer (some ⟨C.2, 0, none⟩); rw [h rfl]
  | 16, _, _ => rfl
  | 17, _, _ => rfl
  | 18, _, _ => rfl
  | _ + 19, _, _ => rfl
theorem lset_at {f : Nat → Bool} {i j : Nat} (h : i ≠ j) : lset f i j = f j := by simp only [lset]; rw [if_neg (fun e => h e.symm)]
theorem OddΦ.moved {w0 : World} {c : Ct} {B : Nat × Nat} {f : Nat → Bool} {W W' : World} (h : OddΦ w0 c B f W) (k : Fr (fun _ => False) W W') : OddΦ w0 c B f W' :=
  ⟨h.fr.trans k (fun _ _ e => e), fun e => ⟨(h.p e).1.keep k (fun e => e), (h.p e).2⟩, fun e => ⟨by obtain ⟨⟨c', hc⟩, _⟩ := h.d e; exact ⟨c', hc.keep k (fun e => e)⟩, (h.d e).2⟩, h.ne, fun e => (h.e e).keep k (fun e => e), h.o16, h.o17⟩
theorem OddΦ.same {w0 : World} {c : Ct} {B : Nat × Nat} {f : Nat → Bool} {W : World} (h : OddΦ w0 c B f W) {i : Nat} (h14 : i ≠ 14) (h15 : i ≠ 15) (h16 : i ≠ 16) (h17 : i ≠ 17) : OddΦ w0 c B (lset f i) W := by
  refine ⟨h.fr, ?_, ?_, ?_, ?_, ?_, ?_⟩
  · rw [lset_at h14]; exact h.p
  · rw [lset_at h15]; exact h.d
  · rw [lset_at h14, lset_at h15]; exact h.ne
  · rw [lset_at h17]; exact h.e
  · rw [lset_at h16, lset_at h14]; exact h.o16
  · rw [lset_at h17, lset_at h15]; exact h.o17
theorem OddΦ.al14 {w0 : World} {c : Ct} {B : Nat × Nat} {f : Nat → Bool} {W : World} (h : OddΦ w0 c B f W) (_hf : f 14 = false) : OddΦ w0 c (W.heap.size, B.2) (lset f 14) (W.alloc (.cells noP.cs 30)) := by
  have k : Fr (fun _ => False) W (W.alloc (.cells noP.cs 30)) := (Fr.refl _ _).alloc _
  have h' := h.moved k
  refine ⟨h'.fr, fun _ => ⟨pat_alloc W noP 30, h.fr.size⟩, ?_, fun _ => ?_, ?_, fun _ => by simp [lset], ?_⟩
  · rw [lset_at (by decide)]; exact h'.d
  · rw [lset_at (by decide)]
    intro e
    obtain ⟨⟨c', hc⟩, _⟩ := h.d e
    have := hc.lt
    show W.heap.size ≠ B.2
    omega
  · rw [lset_at (by decide)]; exact h'.e
  · rw [lset_at (by decide), lset_at (by decide)]; exact h'.o17
theorem OddΦ.al15 {w0 : World} {c : Ct} {B : Nat × Nat} {f : Nat → Bool} {W : World} (h : OddΦ w0 c B f W) (hf : f 15 = false) : OddΦ w0 c (B.1, W.heap.size) (lset f 15) (W.alloc (.cells (⟨0, 0, noB, noB, 0, 0⟩ : Ct).cs 28)) := by
  have k : Fr (fun _ => False) W (W.alloc (.cells (⟨0, 0, noB, noB, 0, 0⟩ : Ct).cs 28)) := (Fr.refl _ _).alloc _
  have h' := h.moved k
  refine ⟨h'.fr, ?_, fun _ => ⟨⟨_, cat_alloc W ⟨0, 0, noB, noB, 0, 0⟩ 28⟩, h.fr.size⟩, ?_, ?_, ?_, fun _ => by simp [lset]⟩
  · rw [lset_at (by decide)]; exact h'.p
  · rw [lset_at (by decide)]
    intro e _
    have := (h.p e).1.lt
    show B.1 ≠ W.heap.size
    omega
  · rw [lset_at (by decide)]
    intro e
    have := h.o17 e
    rw [hf] at this
    cases this
  · rw [lset_at (by decide), lset_at (by decide)]; exact h'.o16
theorem OddΦ.st16 {w0 : World} {c : Ct} {B : Nat × Nat} {f : Nat → Bool} {W : World} (h : OddΦ w0 c B f W) (hf : f 14 = true) : OddΦ w0 c B (lset f 16) (putP W B.1 noP) := by
  have k : Fr (· = B.1) W (putP W B.1 noP) := Fr.putP (S := (· = B.1)) (Fr.refl _ _) _ (.inl rfl) noP
  refine ⟨Fr.putP h.fr _ (.inr (h.p hf).2) noP, ?_, ?_, ?_, ?_, fun _ => by rw [lset_at (by decide)]; exact hf, ?_⟩
  · rw [lset_at (by decide)]; exact fun e => ⟨(h.p e).1.put noP, (h.p e).2⟩
  · rw [lset_at (by decide)]
    exact fun e => ⟨by obtain ⟨⟨c', hc⟩, _⟩ := h.d e; exact ⟨c', hc.keep k (fun e2 => h.ne hf e e2.symm)⟩, (h.d e).2⟩
  · rw [lset_at (by decide), lset_at (by decide)]; exact h.ne
  · rw [lset_at (by decide)]; exact fun e => (h.e e).keep k (fun e2 => h.ne hf (h.o17 e) e2.symm)
  · rw [lset_at (by decide), lset_at (by decide)]; exact h.o17
theorem OddΦ.st17 {w0 : World} {c : Ct} {B : Nat × Nat} {f : Nat → Bool} {W : World} (h : OddΦ w0 c B f W) (hf : f 15 = true) : OddΦ w0 c B (lset f 17) (putC W B.2 c) := by
  have k : Fr (· = B.2) W (putC W B.2 c) := Fr.putC (S := (· = B.2)) (Fr.refl _ _) _ (.inl rfl) c
  obtain ⟨⟨c', hc⟩, hl⟩ := h.d hf
  refine ⟨Fr.putC h.fr _ (.inr hl) c, ?_, ?_, ?_, fun _ => hc.put c, ?_, fun _ => by rw [lset_at (by decide)]; exact hf⟩
  · rw [lset_at (by decide)]; exact fun e => ⟨(h.p e).1.keep k (fun e2 => h.ne e hf e2), (h.p e).2⟩
  · rw [lset_at (by decide)]; exact fun _ => ⟨⟨c, hc.put c⟩, hl⟩
  · rw [lset_at (by decide), lset_at (by decide)]; exact h.ne
  · rw [lset_at (by decide), lset_at (by decide)]; exact h.o16
set_option maxRecDepth 100000 in
set_option maxHeartbeats 4000000 in
theorem odd_loop (P : NextP) (Q : Exit → Act → World → Prop) (v0 v1 v2 v3 v4 v5 v6 v7 v8 v9 v10 v11 v12 v13 v14 v15 v16 v17 v18 v19 v20 v22 v23 v24 v25 v26 v27 v28 v29 v30 v31 v32 v33 v34 v35 v36 v37 v38 v39 v40 v41 v42 v43 v44 v45 v46 v47 v48 v49 v50 v51 v52 v53 v54 v55 v56 v57 v58 v59 v60 v61 v62 v63 v64 v65 v66 v67 v68 v69 v70 v71 v72 v73 v74 v75 v76 v77 v78 v79 v80 v81 v82 v83 v84 v85 v86 v87 v88 v89 v90 v91 v92 v93 v94 v95 v96 v97 v98 v99 v100 v101 v102 v103 v104 v105 v106 v107 v108 v109 v110 v111 v112 v113 v114 v115 v116 v117 v118 v119 v120 v121 v122 v123 v124 v125 v126 v127 v128 v129 v130 v131 v132 v133 v134 v135 v136 v137 v138 v139 v140 v141 v142 v143 v144 v145 v146 v147 v148 v149 v150 v151 v152 v153 v154 v155 v156 v157 v158 v159 v160 v161 v162 v163 v164 v165 v166 v167 v168 v169 v170 v171 v172 v173 v174 v175 v176 v177 v178 v179 v180 v181 v182 v183 v184 v185 v186 v187 v188 v189 v190 v191 v192 v193 v194 v195 v196 v197 v198 v199 v200 v201 v202 v203 v204 v205 v206 v207 v208 v209 v210 v211 v212 v213 v214 v215 v216 v217 v218 v219 v220 v221 v222 v223 v224 v225 v226 v227 v228 v229 v230 v231 v232 v233 v234 v235 v236 v237 v238 v239 v240 v241 v242 v243 v244 v245 v246 v247 v248 v249 v250 v251 v252 v253 v254 v255 v256 v257 v258 v259 v260 v261 v262 v263 v264 v265 v266 v267 v268 v269 v270 v271 v272 v273 v274 v275 v276 v277 v278 : Value) (wr : World) (ob : Nat) (Z : ByteArray) (hS : Sz wr) (hZ : Z.size = 65520) (hO : OddR wr ob Z)
    (hQ : ∀ (x0 x22 x23 x24 x25 x165 x166 x167 x168 x169 x170 x171 x172 x173 x174 x175 x176 x177 x178 x179 x180 x181 x182 x183 x184 x185 x186 x187 x188 x189 x190 x191 x192 x193 x194 x195 x196 x197 x198 x199 x200 x201 : Value) (wx : World), Fr (fun _ => False) wr wx → Q .normal { tmps := #[x0, v1, v2, v3, v4, v5, v6, v7, v8, v9, v10, v11, v12, v13, v14, v15, v16, v17, v18, v19, v20, .slice (some ⟨ob, 0, none⟩) 9 9, x22, x23, x24, x25, v26, v27, v28, v29, v30, v31, v32, v33, v34, v35, v36, v37, v38, v39, v40, v41, v42, v43, v44, v45, v46, v47, v48, v49, v50, v51, v52, v53, v54, v55, v56, v57, v58, v59, v60, v61, v62, v63, v64, v65, v66, v67, v68, v69, v70, v71, v72, v73, v74, v75, v76, v77, v78, v79, v80, v81, v82, v83, v84, v85, v86, v87, v88, v89, v90, v91, v92, v93, v94, v95, v96, v97, v98, v99, v100, v101, v102, v103, v104, v105, v106, v107, v108, v109, v110, v111, v112, v113, v114, v115, v116, v117, v118, v119, v120, v121, v122, v123, v124, v125, v126, v127, v128, v129, v130, v131, v132, v133, v134, v135, v136, v137, v138, v139, v140, v141, v142, v143, v144, v145, v146, v147, v148, v149, v150, v151, v152, v153, v154, v155, v156, v157, v158, v159, v160, v161, v162, v163, v164, x165, x166, x167, x168, x169, x170, x171, x172, x173, x174, x175, x176, x177, x178, x179, x180, x181, x182, x183, x184, x185, x186, x187, x188, x189, x190, x191, x192, x193, x194, x195, x196, x197, x198, x199, x200, x201, v202, v203, v204, v205, v206, v207, v208, v209, v210, v211, v212, v213, v214, v215, v216, v217, v218, v219, v220, v221, v222, v223, v224, v225, v226, v227, v228, v229, v230, v231, v232, v233, v234, v235, v236, v237, v238, v239, v240, v241, v242, v243, v244, v245, v246, v247, v248, v249, v250, v251, v252, v253, v254, v255, v256, v257, v258, v259, v260, v261, v262, v263, v264, v265, v266, v267, v268, v269, v270, v271, v272, v273, v274, v275, v276, v277, v278], defers := [] } wx) :
    Code.wp Tryd.prog (cFst (cSnd (cSnd (cSnd (cSnd (cSnd (cSnd (cSnd (cSnd (cSnd (cSnd (cSnd (cSnd (cBody Tryd.f5.body)))))))))))))) Q { tmps := #[v0, v1, v2, v3, v4, v5, v6, v7, v8, v9, v10, v11, v12, v13, v14, v15, v16, v17, v18, v19, v20, .slice (some ⟨ob, 0, none⟩) 9 9, v22, v23, v24, v25, v26, v27, v28, v29, v30, v31, v32, v33, v34, v35, v36, v37, v38, v39, v40, v41, v42, v43, v44, v45, v46, v47, v48, v49, v50, v51, v52, v53, v54, v55, v56, v57, v58, v59, v60, v61, v62, v63, v64, v65, v66, v67, v68, v69, v70, v71, v72, v73, v74, v75, v76, v77, v78, v79, v80, v81, v82, v83, v84, v85, v86, v87, v88, v89, v90, v91, v92, v93, v94, v95, v96, v97, v98, v99, v100, v101, v102, v103, v104, v105, v106, v107, v108, v109, v110, v111, v112, v113, v114, v115, v116, v117, v118, v119, v120, v121, v122, v123, v124, v125, v126, v127, v128, v129, v130, v131, v132, v133, v134, v135, v136, v137, v138, v139, v140, v141, v142, v143, v144, v145, v146, v147, v148, v149, v150, v151, v152, v153, v154, v155, v156, v157, v158, v159, v160, v161, v162, v163, v164, v165, v166, v167, v168, v169, v170, v171, v172, v173, v174, v175, v176, v177, v178, v179, v180, v181, v182, v183, v184, v185, v186, v187, v188, v189, v190, v191, v192, v193, v194, v195, v196, v197, v198, v199, v200, v201, v202, v203, v204, v205, v206, v207, v208, v209, v210, v211, v212, v213, v214, v215, v216, v217, v218, v219, v220, v221, v222, v223, v224, v225, v226, v227, v228, v229, v230, v231, v232, v233, v234, v235, v236, v237, v238, v239, v240, v241, v242, v243, v244, v245, v246, v247, v248, v249, v250, v251, v252, v253, v254, v255, v256, v257, v258, v259, v260, v261, v262, v263, v264, v265, v266, v267, v268, v269, v270, v271, v272, v273, v274, v275, v276, v277, v278], defers := [] } wr := by
  simp only [Tryd.f5, cSnd, cFst, cBody]
  go_wp2_with fail
  go_loopw [22] (fun i W => ∃ m : Nat, i = .int .i64 m ∧ m ≤ 9 ∧ Fr (fun _ => False) wr W) (fun i _ => 9 - (intOf i).toNat)
  case atStart => exact ⟨0, rfl, by omega, Fr.refl _ _⟩
  case round =>
    obtain ⟨m, rfl, hm9, hF⟩ := hrel
    by_cases hm : m < 9
    · have hO1 := hO.keep hF (fun e => e)
      have i1 : (m : Int) < 9 := by omega
      obtain ⟨h0, h1, h2, h3, h4, h5⟩ := hO1.c m hm
      have nn := fun W hW => P.is (odd_nx Z hZ m hm ⟨(oddC Z m).kd, (oddC Z m).lb⟩) (by decide) (by decide) (odd_may Z hZ m hm).2 W hW
      obtain ⟨c, hc⟩ : ∃ c, oddC Z m = c := ⟨_, rfl⟩
      rw [hc] at h0 h1 h2 h3 h4 h5 nn
      go_upto_region 16 with fail
      have hcs : ∀ W, Fr (fun _ => False) wr W → W.cell? ⟨ob, m * 6, none⟩ = some (.int .i64 c.ty) ∧ W.cell? ⟨ob, m * 6 + 1, none⟩ = some (.int .i64 c.kd) ∧ W.cell? ⟨ob, m * 6 + 2, none⟩ = some (.string c.lb) ∧ W.cell? ⟨ob, m * 6 + 3, none⟩ = some (.string c.da) ∧ W.cell? ⟨ob, m * 6 + 4, none⟩ = some (.int .i64 c.pos) ∧ W.cell? ⟨ob, m * 6 + 5, none⟩ = some (.int .i64 c.num) :=
        fun W hW => ⟨hW.cell h0 (fun e => e), hW.cell h1 (fun e => e), hW.cell h2 (fun e => e), hW.cell h3 (fun e => e), hW.cell h4 (fun e => e), hW.cell h5 (fun e => e)⟩
      have hSr := hS.keep hF (fun e => e)
      rename_i K hK
      have HK : Hid _ := hK
      clear hK
      refine wp_region_invN (β := Nat × Nat) (by kernel_rfl) (ordC_of (by kernel_rfl)) oddSlot (oddVals ob m c) (fun i j hi hj e => by have hi : i < 19 := hi; have hj : j < 19 := hj; unfold oddSlot at e; (repeat' split at e) <;> omega) (OddΦ wr c) (0, 0) ⟨(Fr.refl _ _).drew, fun e => Bool.noConfusion e, fun e => Bool.noConfusion e, fun e => Bool.noConfusion e, fun e => Bool.noConfusion e, fun e => Bool.noConfusion e, fun e => Bool.noConfusion e⟩ ?step ?fin
      case step =>
        intro B f a W i o ho hfl haf hag hΦ
        have hi : i < 19 := (Array.getElem?_eq_some_iff.1 ho).1
        have hic : i = 0 ∨ i = 1 ∨ i = 2 ∨ i = 3 ∨ i = 4 ∨ i = 5 ∨ i = 6 ∨ i = 7 ∨ i = 8 ∨ i = 9 ∨ i = 10 ∨ i = 11 ∨ i = 12 ∨ i = 13 ∨ i = 14 ∨ i = 15 ∨ i = 16 ∨ i = 17 ∨ i = 18 := by omega
        have s21 : a.tmps[21]? = some (.slice (some ⟨ob, 0, none⟩) 9 9) := (hag.old 21 (fun i hi _ e => by have hi : i < 19 := hi; unfold oddSlot at e; (repeat' split at e) <;> omega)).trans rfl
        have s22 : a.tmps[22]? = some (.int .i64 (m : Int)) := (hag.old 22 (fun i hi _ e => by have hi : i < 19 := hi; unfold oddSlot at e; (repeat' split at e) <;> omega)).trans rfl
        have hsz : a.tmps.size = 279 := hag.size
        have t0 : f 0 = true → a.tmps[172]? = some (.slice (some ⟨ob, 0, none⟩) 9 9) := fun h => hag.set 0 (by decide) h (by show oddSlot 0 < 279; decide)
        have t1 : f 1 = true → a.tmps[173]? = some (.int .i64 (m : Int)) := fun h => hag.set 1 (by decide) h (by show oddSlot 1 < 279; decide)
        have t2 : f 2 = true → a.tmps[174]? = some (.pointer (some ⟨ob, m * 6, none⟩)) := fun h => hag.set 2 (by decide) h (by show oddSlot 2 < 279; decide)
        have t3 : f 3 = true → a.tmps[175]? = some (c.v) := fun h => hag.set 3 (by decide) h (by show oddSlot 3 < 279; decide)
        have t4 : f 4 = true → a.tmps[176]? = some (.slice (some ⟨ob, 0, none⟩) 9 9) := fun h => hag.set 4 (by decide) h (by show oddSlot 4 < 279; decide)
        have t5 : f 5 = true → a.tmps[177]? = some (.int .i64 (m : Int)) := fun h => hag.set 5 (by decide) h (by show oddSlot 5 < 279; decide)
        have t6 : f 6 = true → a.tmps[178]? = some (.pointer (some ⟨ob, m * 6, none⟩)) := fun h => hag.set 6 (by decide) h (by show oddSlot 6 < 279; decide)
        have t7 : f 7 = true → a.tmps[179]? = some (.pointer (some ⟨ob, m * 6 + 1, none⟩)) := fun h => hag.set 7 (by decide) h (by show oddSlot 7 < 279; decide)
        have t8 : f 8 = true → a.tmps[180]? = some (.agg #[.int .i64 c.kd, .string c.lb]) := fun h => hag.set 8 (by decide) h (by show oddSlot 8 < 279; decide)
        have t9 : f 9 = true → a.tmps[181]? = some (.tuple #[noP.v, c.v, .int .i64 2]) := fun h => hag.set 9 (by decide) h (by show oddSlot 9 < 279; decide)
        have t10 : f 10 = true → a.tmps[171]? = some (.tuple #[noP.v, c.v, .int .i64 2]) := fun h => hag.set 10 (by decide) h (by show oddSlot 10 < 279; decide)
        have t11 : f 11 = true → a.tmps[182]? = some (noP.v) := fun h => hag.set 11 (by decide) h (by show oddSlot 11 < 279; decide)
        have t12 : f 12 = true → a.tmps[183]? = some (c.v) := fun h => hag.set 12 (by decide) h (by show oddSlot 12 < 279; decide)
        have t13 : f 13 = true → a.tmps[184]? = some (.int .i64 2) := fun h => hag.set 13 (by decide) h (by show oddSlot 13 < 279; decide)
        have t14 : f 14 = true → a.tmps[23]? = some (.pointer (some ⟨B.1, 0, none⟩)) := fun h => hag.set 14 (by decide) h (by show oddSlot 14 < 279; decide)
        have t15 : f 15 = true → a.tmps[24]? = some (.pointer (some ⟨B.2, 0, none⟩)) := fun h => hag.set 15 (by decide) h (by show oddSlot 15 < 279; decide)
        have t18 : f 18 = true → a.tmps[25]? = some (.int .i64 2) := fun h => hag.set 18 (by decide) h (by show oddSlot 18 < 279; decide)
        obtain ⟨g0, g1, g2, g3, g4, g5⟩ := hcs W hΦ.fr
        have hv : ∀ j, f j = true → oddVals ob m c B j = oddVals ob m c B j := fun _ _ => rfl
        rcases hic with rfl | rfl | rfl | rfl | rfl | rfl | rfl | rfl | rfl | rfl | rfl | rfl | rfl | rfl | rfl | rfl | rfl | rfl | rfl
        all_goals
          simp at ho
          subst ho
          simp [Region.binds] at haf
        · exact wpOp_val rfl rfl (v := .slice (some ⟨ob, 0, none⟩) 9 9) (by simp [execOp, go_sem, s21]) ⟨B, rfl, hv, hΦ.same (by decide) (by decide) (by decide) (by decide)⟩
        · exact wpOp_val rfl rfl (v := .int .i64 (m : Int)) (by simp [execOp, go_sem, s22]) ⟨B, rfl, hv, hΦ.same (by decide) (by decide) (by decide) (by decide)⟩
        · exact wpOp_val rfl rfl (v := .pointer (some ⟨ob, m * 6, none⟩)) (by simp [execOp, go_sem, haf, t0, t1, i1]) ⟨B, rfl, hv, hΦ.same (by decide) (by decide) (by decide) (by decide)⟩
        · exact wpOp_val rfl rfl (v := c.v) (by simp [execOp, go_sem, haf, t2, g0, g1, g2, g3, g4, g5]) ⟨B, rfl, hv, hΦ.same (by decide) (by decide) (by decide) (by decide)⟩
        · exact wpOp_val rfl rfl (v := .slice (some ⟨ob, 0, none⟩) 9 9) (by simp [execOp, go_sem, s21]) ⟨B, rfl, hv, hΦ.same (by decide) (by decide) (by decide) (by decide)⟩
        · exact wpOp_val rfl rfl (v := .int .i64 (m : Int)) (by simp [execOp, go_sem, s22]) ⟨B, rfl, hv, hΦ.same (by decide) (by decide) (by decide) (by decide)⟩
        · exact wpOp_val rfl rfl (v := .pointer (some ⟨ob, m * 6, none⟩)) (by simp [execOp, go_sem, haf, t4, t5, i1]) ⟨B, rfl, hv, hΦ.same (by decide) (by decide) (by decide) (by decide)⟩
        · exact wpOp_val rfl rfl (v := .pointer (some ⟨ob, m * 6 + 1, none⟩)) (by simp [execOp, go_sem, haf, t6]) ⟨B, rfl, hv, hΦ.same (by decide) (by decide) (by decide) (by decide)⟩
        · exact wpOp_val rfl rfl (v := .agg #[.int .i64 c.kd, .string c.lb]) (by simp [execOp, go_sem, haf, t7, g1, g2]) ⟨B, rfl, hv, hΦ.same (by decide) (by decide) (by decide) (by decide)⟩
        · refine wpOp_call rfl rfl 7 _ _ rfl (enters_of Tryd.func7 (by kernel_rfl) rfl) #[c.v, .agg #[.int .i64 c.kd, .string c.lb], .int .i64 100, .bool false] (by simp [Act.eval, haf, t3, t8]) (nn W (hSr.keep hΦ.fr (fun e => e))) ?_
          rintro e w3 ⟨rfl, k3⟩
          exact ⟨_, rfl, B, rfl, hv, (hΦ.moved k3).same (by decide) (by decide) (by decide) (by decide)⟩
        · exact wpOp_val rfl rfl (v := .tuple #[noP.v, c.v, .int .i64 2]) (by simp [execOp, go_sem, haf, t9]) ⟨B, rfl, hv, hΦ.same (by decide) (by decide) (by decide) (by decide)⟩
        · exact wpOp_val rfl rfl (v := noP.v) (by simp [execOp, go_sem, haf, t10]) ⟨B, rfl, hv, hΦ.same (by decide) (by decide) (by decide) (by decide)⟩
        · exact wpOp_val rfl rfl (v := c.v) (by simp [execOp, go_sem, haf, t10]) ⟨B, rfl, hv, hΦ.same (by decide) (by decide) (by decide) (by decide)⟩
        · exact wpOp_val rfl rfl (v := .int .i64 2) (by simp [execOp, go_sem, haf, t10]) ⟨B, rfl, hv, hΦ.same (by decide) (by decide) (by decide) (by decide)⟩
        · refine wpOp_valW rfl rfl (v := .pointer (some ⟨W.heap.size, 0, none⟩)) (w' := W.alloc (.cells noP.cs 30)) (by simp [execOp, go_sem, noP]) ?_
          exact ⟨(W.heap.size, B.2), rfl, fun j hj => oddVals_eq _ _ j (fun e => by subst e; rw [hfl] at hj; cases hj) (fun _ => rfl), hΦ.al14 hfl⟩
        · refine wpOp_valW rfl rfl (v := .pointer (some ⟨W.heap.size, 0, none⟩)) (w' := W.alloc (.cells (⟨0, 0, noB, noB, 0, 0⟩ : Ct).cs 28)) (by simp [execOp, go_sem]) ?_
          exact ⟨(B.1, W.heap.size), rfl, fun j hj => oddVals_eq _ _ j (fun _ => rfl) (fun e => by subst e; rw [hfl] at hj; cases hj), hΦ.al15 hfl⟩
        · obtain ⟨hp, hpl⟩ := hΦ.p haf.1
          obtain ⟨p0, p1, p2, p3, p4, p5, p6, p7, p8, pz⟩ := hp
          simp only [noP] at p0 p1 p2 p3 p4 p5 p6 p7 p8
          refine wpOp_skipW rfl rfl (w' := putP W B.1 noP) (by simp [execOp, go_sem, haf, t11, t14, noP, p0, p1, p2, p3, p4, p5, p6, p7, p8, pz 0, pz 1, pz 2, pz 3, pz 4, pz 5, pz 6, pz 7, pz 8]) ?_
          exact ⟨B, put_out (a := a) (k := oddSlot 16) (by rw [hsz]; decide), hv, hΦ.st16 haf.1⟩
        · obtain ⟨⟨c', hd⟩, hdl⟩ := hΦ.d haf.1
          obtain ⟨d0, d1, d2, d3, d4, d5, dz⟩ := hd
          refine wpOp_skipW rfl rfl (w' := putC W B.2 c) (by simp [execOp, go_sem, haf, t12, t15, d0, d1, d2, d3, d4, d5, dz 0, dz 1, dz 2, dz 3, dz 4, dz 5]) ?_
          exact ⟨B, put_out (a := a) (k := oddSlot 17) (by rw [hsz]; decide), hv, hΦ.st17 haf.1⟩
        · exact wpOp_val rfl rfl (v := .int .i64 2) (by simp [execOp, go_sem, haf, t13]) ⟨B, rfl, hv, hΦ.same (by decide) (by decide) (by decide) (by decide)⟩
      case fin =>
        intro B f W hall hΦ
        simp [List.range_succ, oddVals, oddSlot]
        refine HK.out _ _ ?_
        clear HK
        have hFW := hF.trans hΦ.fr (fun _ _ e => e)
        obtain ⟨hp, -⟩ := hΦ.p (hall 14 (by decide))
        have hd := hΦ.e (hall 17 (by decide))
        obtain ⟨g0, g1, g2, g3, g4, g5⟩ := hcs W hΦ.fr
        clear hΦ hall
        obtain ⟨p0, p1, p2, p3, p4, p5, p6, p7, p8, -⟩ := hp
        obtain ⟨d0, d1, d2, d3, d4, d5, -⟩ := hd
        simp only [noP] at p0 p1 p2 p3 p4 p5 p6 p7 p8
        obtain ⟨b1, b2⟩ := B
        obtain ⟨ty, kd, lb, da, pos, num⟩ := c
        simp only at p0 p1 p2 p3 p4 p5 p6 p7 p8 d0 d1 d2 d3 d4 d5 g0 g1 g2 g3 g4 g5
        clear nn hcs h0 h1 h2 h3 h4 h5 hO1 hc
        go_upto_region 17 with fail
        go_quiet (fail)
        go_wp2_with fail
        exact ⟨⟨m + 1, by go_num, hm, hFW.drewN _⟩, by simp [intOf]; omega⟩
    · obtain rfl : m = 9 := by omega
      go_wp2_with fail
      exact hF
end Go.Proofs.YtenbhnemlfhioaaDoor
