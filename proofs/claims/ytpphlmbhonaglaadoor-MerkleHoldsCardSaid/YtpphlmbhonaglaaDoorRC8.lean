/-
  A round of the reference's Sum, by itself.
-/
import Derived.Test.YtpphlmbhonaglaaDoorRBody
namespace Go.Proofs.YtpphlmbhonaglaaDoor
open Go.RowKit

set_option maxRecDepth 1000000 in
set_option maxHeartbeats 8000000 in
theorem case8 {v0 v1 v2 v3 v5 v6 v7 v8 v9 v10 v11 v12 v13 v14 v15 v16 v17 v18 v19 v20 v23 v24 v25 v26 v27 v28 v29 v30 v31 v32 v33 v34 v35 v36 v37 v38 v39 v40 v41 v42 v43 v44 v45 v46 v47 v48 v49 v50 v51 v52 v53 v54 v55 v56 v57 v58 v59 v60 v61 v62 v63 v64 v65 v66 v67 v68 v69 v70 v71 v72 v73 v74 v75 v76 v77 v78 v79 v80 v81 v82 v83 v84 v85 v86 v87 v88 v89 v90 v91 v92 v93 v94 v95 v96 v97 v98 v99 v100 v101 v102 v103 v104 v105 v106 v107 v108 v109 v110 v111 v112 v113 v114 v115 v116 v117 v118 v119 v120 v121 v122 v123 v124 v125 v126 v127 v128 v129 v130 v131 v132 v133 v134 v135 v136 v137 v138 v139 v140 v141 v142 v143 v144 v145 v146 v147 v148 v149 v150 v151 v152 v153 v154 v155 v156 v157 v158 v159 v160 v161 v162 v163 v164 v165 v166 v167 v168 v169 v170 v171 v172 v173 v174 v175 v176 v177 v178 v179 v180 v181 v182 v183 v184 v185 v186 v187 v188 v189 v190 v191 v192 v193 v194 v195 v196 v197 v198 v199 v200 v201 v202 v203 v204 v205 v206 v207 v208 v209 v210 v211 v212 v213 v214 v215 v216 v217 v218 v219 v220 v221 v222 v223 v224 v225 v226 v227 v228 v229 v230 v231 v232 v233 v234 v235 v236 v237 v238 v239 v240 v241 v242 v243 v244 v245 v246 v247 v248 v249 v250 v251 v252 v253 v254 v255 v256 v257 v258 v259 v260 v261 v262 v263 v264 v265 v266 v267 v268 v269 v270 v271 v272 v273 v274 v275 v276 v277 : Value} {gs go t : Nat} {S : St} {wa wr : World} {K0 : Act → World → Prop} {Q0 : Exit → Act → World → Prop} (ht8 : t < 8) (hgo : gs < go) (Sa : Ar wa 48 gs S.l) (hA : Ab wr 27 go (outs S t)) (bA : Below go wa wr)
    (hK : ∀ (u239 u240 u241 u242 u243 u244 u245 u246 u247 u248 u249 u250 u251 u252 u253 u254 u255 u256 u257 u258 u259 u260 u261 u262 u263 u264 u265 u266 u267 u268 u269 u270 u271 u272 u273 u274 u275 u276 : Value) (w' : World), Ab w' 27 go (outs S (t + 1)) → Below go wa w' → K0 ⟨#[v0, v1, v2, v3, .pointer (some ⟨gs, 0, none⟩), v5, v6, v7, v8, v9, v10, v11, v12, v13, v14, v15, v16, v17, v18, v19, v20, .pointer (some ⟨go, 0, none⟩), .int .i64 ((t : Int) + 1), v23, v24, v25, v26, v27, v28, v29, v30, v31, v32, v33, v34, v35, v36, v37, v38, v39, v40, v41, v42, v43, v44, v45, v46, v47, v48, v49, v50, v51, v52, v53, v54, v55, v56, v57, v58, v59, v60, v61, v62, v63, v64, v65, v66, v67, v68, v69, v70, v71, v72, v73, v74, v75, v76, v77, v78, v79, v80, v81, v82, v83, v84, v85, v86, v87, v88, v89, v90, v91, v92, v93, v94, v95, v96, v97, v98, v99, v100, v101, v102, v103, v104, v105, v106, v107, v108, v109, v110, v111, v112, v113, v114, v115, v116, v117, v118, v119, v120, v121, v122, v123, v124, v125, v126, v127, v128, v129, v130, v131, v132, v133, v134, v135, v136, v137, v138, v139, v140, v141, v142, v143, v144, v145, v146, v147, v148, v149, v150, v151, v152, v153, v154, v155, v156, v157, v158, v159, v160, v161, v162, v163, v164, v165, v166, v167, v168, v169, v170, v171, v172, v173, v174, v175, v176, v177, v178, v179, v180, v181, v182, v183, v184, v185, v186, v187, v188, v189, v190, v191, v192, v193, v194, v195, v196, v197, v198, v199, v200, v201, v202, v203, v204, v205, v206, v207, v208, v209, v210, v211, v212, v213, v214, v215, v216, v217, v218, v219, v220, v221, v222, v223, v224, v225, v226, v227, v228, v229, v230, v231, v232, v233, v234, v235, v236, v237, v238, u239, u240, u241, u242, u243, u244, u245, u246, u247, u248, u249, u250, u251, u252, u253, u254, u255, u256, u257, u258, u259, u260, u261, u262, u263, u264, u265, u266, u267, u268, u269, u270, u271, u272, u273, u274, u275, u276, v277], []⟩ w') :
    Code.wp Tryd.prog (rb 7) (Exit.then K0 Q0) ⟨#[v0, v1, v2, v3, .pointer (some ⟨gs, 0, none⟩), v5, v6, v7, v8, v9, v10, v11, v12, v13, v14, v15, v16, v17, v18, v19, v20, .pointer (some ⟨go, 0, none⟩), .int .i64 (t : Int), v23, v24, v25, v26, v27, v28, v29, v30, v31, v32, v33, v34, v35, v36, v37, v38, v39, v40, v41, v42, v43, v44, v45, v46, v47, v48, v49, v50, v51, v52, v53, v54, v55, v56, v57, v58, v59, v60, v61, v62, v63, v64, v65, v66, v67, v68, v69, v70, v71, v72, v73, v74, v75, v76, v77, v78, v79, v80, v81, v82, v83, v84, v85, v86, v87, v88, v89, v90, v91, v92, v93, v94, v95, v96, v97, v98, v99, v100, v101, v102, v103, v104, v105, v106, v107, v108, v109, v110, v111, v112, v113, v114, v115, v116, v117, v118, v119, v120, v121, v122, v123, v124, v125, v126, v127, v128, v129, v130, v131, v132, v133, v134, v135, v136, v137, v138, v139, v140, v141, v142, v143, v144, v145, v146, v147, v148, v149, v150, v151, v152, v153, v154, v155, v156, v157, v158, v159, v160, v161, v162, v163, v164, v165, v166, v167, v168, v169, v170, v171, v172, v173, v174, v175, v176, v177, v178, v179, v180, v181, v182, v183, v184, v185, v186, v187, v188, v189, v190, v191, v192, v193, v194, v195, v196, v197, v198, v199, v200, v201, v202, v203, v204, v205, v206, v207, v208, v209, v210, v211, v212, v213, v214, v215, v216, v217, v218, v219, v220, v221, v222, v223, v224, v225, v226, v227, v228, v229, v230, v231, v232, v233, v234, v235, v236, v237, v238, v239, v240, v241, v242, v243, v244, v245, v246, v247, v248, v249, v250, v251, v252, v253, v254, v255, v256, v257, v258, v259, v260, v261, v262, v263, v264, v265, v266, v267, v268, v269, v270, v271, v272, v273, v274, v275, v276, v277], []⟩ wr := by
  conv => arg 2; whnf
  have za : wr.cell? ⟨gs, t, none⟩ = some (.int .u32 (u (S.l.getD t 0))) := (Sa.kept (bA.block gs hgo)).get t ht8
  have HO : Hid (outs S (t + 1) = ((((outs S t).set (4 * t) (byt (S.l.getD t 0) 3)).set (4 * t + 1) (byt (S.l.getD t 0) 2)).set (4 * t + 2) (byt (S.l.getD t 0) 1)).set (4 * t + 3) (byt (S.l.getD t 0) 0)) := rfl
  generalize S.l.getD t 0 = sa at za HO
  have t8 : (t : Int) < 8 := by omega
  have e0 := IntWalk.i64_in (4 * (t : Int)) (by omega)
  have e1 := IntWalk.i64_in (4 * (t : Int) + 1) (by omega)
  have e2 := IntWalk.i64_in (4 * (t : Int) + 2) (by omega)
  have e3 := IntWalk.i64_in (4 * (t : Int) + 3) (by omega)
  have n0' : 0 ≤ 4 * (t : Int) := by omega
  have n1 : 0 ≤ 4 * (t : Int) + 1 := by omega
  have n2 : 0 ≤ 4 * (t : Int) + 2 := by omega
  have n3 : 0 ≤ 4 * (t : Int) + 3 := by omega
  have m0 : 4 * (t : Int) < 32 := by omega
  have m1 : 4 * (t : Int) + 1 < 32 := by omega
  have m2 : 4 * (t : Int) + 2 < 32 := by omega
  have m3 : 4 * (t : Int) + 3 < 32 := by omega
  have f0 : (4 * (t : Int)).toNat = 4 * t := by omega
  have f1 : (4 * (t : Int) + 1).toNat = 4 * t + 1 := by omega
  have f2 : (4 * (t : Int) + 2).toNat = 4 * t + 2 := by omega
  have f3 : (4 * (t : Int) + 3).toNat = 4 * t + 3 := by omega
  have r0 := u8_byte0
  have r1 := u8_byte1
  have r2 := u8_byte2
  have r3 := u8_byte3
  have s0 := u_byte0
  have s1 := u_byte1
  have s2 := u_byte2
  have s3 := u_byte3
  have r4 := ub_wrap
  have r5 := ub_mod
  have hfar := far_cell (show gs ≠ go by omega)
  have lo := u_lo
  have hi := u_hi
  go_wp2_with fail
  have c0 := hA.cell (4 * t) (by rw [outs_length]; omega)
  have c1 := hA.cell (4 * t + 1) (by rw [outs_length]; omega)
  have c2 := hA.cell (4 * t + 2) (by rw [outs_length]; omega)
  have c3 := hA.cell (4 * t + 3) (by rw [outs_length]; omega)
  have z0 := hA.free (4 * t)
  have z1 := hA.free (4 * t + 1)
  have z2 := hA.free (4 * t + 2)
  have z3 := hA.free (4 * t + 3)
  go_region_held3 (fun w' => w'.cell? ⟨gs, t, none⟩ = some (.int .u32 (u sa))) (first | go_keep | (simp only [World.cell?_drew, hfar]; assumption)) (fail)
  go_wp2_with fail
  refine hK _ _ _ _ _ _ _ _ _ _ _ _ _ _ _ _ _ _ _ _ _ _ _ _ _ _ _ _ _ _ _ _ _ _ _ _ _ _ _ ?_ ?_
  · rw [HO.out]; exact ((((hA.set _ _).set _ _).set _ _).set _ _).drew
  · exact ((((bA.setCell (Nat.le_refl _) _).setCell (Nat.le_refl _) _).setCell (Nat.le_refl _) _).setCell (Nat.le_refl _) _).drew
end Go.Proofs.YtpphlmbhonaglaaDoor
