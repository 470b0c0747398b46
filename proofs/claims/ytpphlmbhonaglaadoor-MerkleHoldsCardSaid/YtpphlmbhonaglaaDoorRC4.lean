/-
  A round of the reference's Sum, by itself.
-/
import Derived.Test.YtpphlmbhonaglaaDoorRBody
namespace Go.Proofs.YtpphlmbhonaglaaDoor
open Go.RowKit

set_option maxRecDepth 1000000 in
set_option maxHeartbeats 8000000 in
theorem case4 {v0 v1 v2 v3 v4 v6 v7 v11 v12 v13 v14 v15 v16 v17 v18 v19 v20 v21 v22 v23 v24 v25 v26 v27 v28 v29 v30 v31 v32 v33 v34 v35 v36 v37 v38 v39 v40 v41 v42 v43 v44 v45 v46 v47 v48 v49 v50 v51 v52 v53 v54 v55 v56 v57 v58 v59 v60 v61 v62 v63 v64 v65 v66 v67 v68 v69 v70 v71 v72 v73 v74 v75 v76 v77 v78 v79 v80 v81 v82 v83 v84 v85 v86 v87 v88 v89 v90 v91 v92 v93 v94 v95 v96 v97 v98 v99 v100 v101 v102 v103 v104 v105 v106 v107 v108 v109 v110 v111 v112 v113 v114 v115 v116 v117 v118 v119 v120 v121 v122 v123 v124 v125 v126 v127 v128 v129 v130 v131 v132 v133 v134 v135 v136 v137 v138 v139 v140 v141 v142 v143 v144 v145 v146 v147 v148 v149 v150 v151 v152 v153 v154 v155 v156 v157 v158 v159 v160 v161 v162 v163 v164 v165 v166 v167 v168 v169 v170 v171 v172 v173 v174 v175 v176 v177 v178 v179 v180 v181 v182 v183 v184 v185 v186 v187 v188 v189 v190 v191 v192 v193 v194 v195 v196 v197 v198 v199 v200 v201 v202 v203 v204 v205 v206 v207 v208 v209 v210 v211 v212 v213 v214 v215 v216 v217 v218 v219 v220 v221 v222 v223 v224 v225 v226 v227 v228 v229 v230 v231 v232 v233 v234 v235 v236 v237 v238 v239 v240 v241 v242 v243 v244 v245 v246 v247 v248 v249 v250 v251 v252 v253 v254 v255 v256 v257 v258 v259 v260 v261 v262 v263 v264 v265 v266 v267 v268 v269 v270 v271 v272 v273 v274 v275 v276 v277 : Value} {g2 gw M cap2 m k : Nat} {P : List UInt8} {L : List UInt32} {wo wr : World} {K0 : Act → World → Prop} {Q0 : Exit → Act → World → Prop} (hk16 : k < 16) (hmM : m < M) (hM2 : M ≤ 2000) (oP : OwnB wo 5 g2 (64 * M) cap2 P) (hgw : g2 < gw) (hL : Ar wr 46 gw L) (hl : Hid (L.length = 64)) (ht : Hid (L.take k = words (P.drop (64 * m)) k)) (hb : Below gw wo wr)
    (hK : ∀ (u11 u61 u62 u63 u64 u65 u66 u67 u68 u69 u70 u71 u72 u73 u74 u75 u76 u77 u78 u79 u80 u81 u82 u83 u84 u85 u86 u87 u88 u89 u90 u91 u92 u93 u94 u95 u96 u97 u98 u99 : Value) (L2 : List UInt32) (w' : World), Ar w' 46 gw L2 → Hid (L2.length = 64) → Hid (L2.take (k + 1) = words (P.drop (64 * m)) (k + 1)) → Below gw wo w' → K0 ⟨#[v0, v1, v2, v3, v4, .slice (some ⟨g2, 0, none⟩) (64 * M) cap2, v6, v7, .pointer (some ⟨gw, 0, none⟩), .int .i64 (64 * (m : Int)), .int .i64 ((k : Int) + 1), u11, v12, v13, v14, v15, v16, v17, v18, v19, v20, v21, v22, v23, v24, v25, v26, v27, v28, v29, v30, v31, v32, v33, v34, v35, v36, v37, v38, v39, v40, v41, v42, v43, v44, v45, v46, v47, v48, v49, v50, v51, v52, v53, v54, v55, v56, v57, v58, v59, v60, u61, u62, u63, u64, u65, u66, u67, u68, u69, u70, u71, u72, u73, u74, u75, u76, u77, u78, u79, u80, u81, u82, u83, u84, u85, u86, u87, u88, u89, u90, u91, u92, u93, u94, u95, u96, u97, u98, u99, v100, v101, v102, v103, v104, v105, v106, v107, v108, v109, v110, v111, v112, v113, v114, v115, v116, v117, v118, v119, v120, v121, v122, v123, v124, v125, v126, v127, v128, v129, v130, v131, v132, v133, v134, v135, v136, v137, v138, v139, v140, v141, v142, v143, v144, v145, v146, v147, v148, v149, v150, v151, v152, v153, v154, v155, v156, v157, v158, v159, v160, v161, v162, v163, v164, v165, v166, v167, v168, v169, v170, v171, v172, v173, v174, v175, v176, v177, v178, v179, v180, v181, v182, v183, v184, v185, v186, v187, v188, v189, v190, v191, v192, v193, v194, v195, v196, v197, v198, v199, v200, v201, v202, v203, v204, v205, v206, v207, v208, v209, v210, v211, v212, v213, v214, v215, v216, v217, v218, v219, v220, v221, v222, v223, v224, v225, v226, v227, v228, v229, v230, v231, v232, v233, v234, v235, v236, v237, v238, v239, v240, v241, v242, v243, v244, v245, v246, v247, v248, v249, v250, v251, v252, v253, v254, v255, v256, v257, v258, v259, v260, v261, v262, v263, v264, v265, v266, v267, v268, v269, v270, v271, v272, v273, v274, v275, v276, v277], []⟩ w') :
    Code.wp Tryd.prog (rb 3) (Exit.then K0 Q0) ⟨#[v0, v1, v2, v3, v4, .slice (some ⟨g2, 0, none⟩) (64 * M) cap2, v6, v7, .pointer (some ⟨gw, 0, none⟩), .int .i64 (64 * (m : Int)), .int .i64 (k : Int), v11, v12, v13, v14, v15, v16, v17, v18, v19, v20, v21, v22, v23, v24, v25, v26, v27, v28, v29, v30, v31, v32, v33, v34, v35, v36, v37, v38, v39, v40, v41, v42, v43, v44, v45, v46, v47, v48, v49, v50, v51, v52, v53, v54, v55, v56, v57, v58, v59, v60, v61, v62, v63, v64, v65, v66, v67, v68, v69, v70, v71, v72, v73, v74, v75, v76, v77, v78, v79, v80, v81, v82, v83, v84, v85, v86, v87, v88, v89, v90, v91, v92, v93, v94, v95, v96, v97, v98, v99, v100, v101, v102, v103, v104, v105, v106, v107, v108, v109, v110, v111, v112, v113, v114, v115, v116, v117, v118, v119, v120, v121, v122, v123, v124, v125, v126, v127, v128, v129, v130, v131, v132, v133, v134, v135, v136, v137, v138, v139, v140, v141, v142, v143, v144, v145, v146, v147, v148, v149, v150, v151, v152, v153, v154, v155, v156, v157, v158, v159, v160, v161, v162, v163, v164, v165, v166, v167, v168, v169, v170, v171, v172, v173, v174, v175, v176, v177, v178, v179, v180, v181, v182, v183, v184, v185, v186, v187, v188, v189, v190, v191, v192, v193, v194, v195, v196, v197, v198, v199, v200, v201, v202, v203, v204, v205, v206, v207, v208, v209, v210, v211, v212, v213, v214, v215, v216, v217, v218, v219, v220, v221, v222, v223, v224, v225, v226, v227, v228, v229, v230, v231, v232, v233, v234, v235, v236, v237, v238, v239, v240, v241, v242, v243, v244, v245, v246, v247, v248, v249, v250, v251, v252, v253, v254, v255, v256, v257, v258, v259, v260, v261, v262, v263, v264, v265, v266, v267, v268, v269, v270, v271, v272, v273, v274, v275, v276, v277], []⟩ wr := by
  conv => arg 2; whnf
  have hq3 : 64 * m + 4 * k + 3 < 64 * M := by omega
  obtain ⟨b0, hb0⟩ : ∃ b, P[64 * m + 4 * k]? = some b := ⟨_, List.getElem?_eq_getElem (by have := oP.len; omega)⟩
  obtain ⟨b1, hb1⟩ : ∃ b, P[64 * m + 4 * k + 1]? = some b := ⟨_, List.getElem?_eq_getElem (by have := oP.len; omega)⟩
  obtain ⟨b2, hb2⟩ : ∃ b, P[64 * m + 4 * k + 2]? = some b := ⟨_, List.getElem?_eq_getElem (by have := oP.len; omega)⟩
  obtain ⟨b3, hb3⟩ : ∃ b, P[64 * m + 4 * k + 3]? = some b := ⟨_, List.getElem?_eq_getElem (by have := oP.len; omega)⟩
  have oW := oP.below hb hgw
  have y0 : wr.cell? ⟨g2, 64 * m + 4 * k , none⟩ = some (.int .u8 (ub b0)) := oW.cell _ _ hb0
  have lo0 := ub_lo b0
  have hi0 := ub_hi b0
  have y1 : wr.cell? ⟨g2, 64 * m + 4 * k + 1, none⟩ = some (.int .u8 (ub b1)) := oW.cell _ _ hb1
  have lo1 := ub_lo b1
  have hi1 := ub_hi b1
  have y2 : wr.cell? ⟨g2, 64 * m + 4 * k + 2, none⟩ = some (.int .u8 (ub b2)) := oW.cell _ _ hb2
  have lo2 := ub_lo b2
  have hi2 := ub_hi b2
  have y3 : wr.cell? ⟨g2, 64 * m + 4 * k + 3, none⟩ = some (.int .u8 (ub b3)) := oW.cell _ _ hb3
  have lo3 := ub_lo b3
  have hi3 := ub_hi b3
  have HW : Hid (word (P.drop (64 * m)) k = be4 b0 b1 b2 b3) := word_at hb0 hb1 hb2 hb3
  clear hb0 hb1 hb2 hb3
  obtain ⟨q, hq⟩ : ∃ q : Nat, q = 64 * m + 4 * k := ⟨_, rfl⟩
  have hqi : 64 * (m : Int) + 4 * (k : Int) = q := by omega
  rw [← hq] at y0 y1 y2 y3 hq3
  have HQ := Lib.hid hq
  clear hq
  go_wp2_with fail
  clear hqi
  have e1 := IntWalk.i64_in ((q : Int) + 1) (by omega)
  have e2 := IntWalk.i64_in ((q : Int) + 2) (by omega)
  have e3 := IntWalk.i64_in ((q : Int) + 3) (by omega)
  have f0 : (q : Int) < 64 * (M : Int) := by omega
  have f1 : (q : Int) + 1 < 64 * (M : Int) := by omega
  have f2 : (q : Int) + 2 < 64 * (M : Int) := by omega
  have f3 : (q : Int) + 3 < 64 * (M : Int) := by omega
  have n1 : 0 ≤ (q : Int) + 1 := by omega
  have n2 : 0 ≤ (q : Int) + 2 := by omega
  have n3 : 0 ≤ (q : Int) + 3 := by omega
  have k64 : (k : Int) < 64 := by omega
  have c1 : ((q : Int) + 1).toNat = q + 1 := by omega
  have c2 : ((q : Int) + 2).toNat = q + 2 := by omega
  have c3 : ((q : Int) + 3).toNat = q + 3 := by omega
  refine region_tail 31 (by kernel_rfl) (by kernel_rfl) ?_
  intro wx hx bx
  have t0 := cell_hid hx y0
  have t1 := cell_hid hx y1
  have t2 := cell_hid hx y2
  have t3 := cell_hid hx y3
  have hLx : Ar wx 46 gw L := hL.kept (heap_hid hx gw)
  have tw := hLx.get k (by have := hl.out; omega)
  have tf := hLx.free k
  clear y0 y1 y2 y3
  simp only [List.take_succ_cons, List.take_zero, List.drop_succ_cons, List.drop_zero]
  iterate 31 still_step
  refine wpStill_nil ?_
  go_wp2_with fail
  refine hK _ _ _ _ _ _ _ _ _ _ _ _ _ _ _ _ _ _ _ _ _ _ _ _ _ _ _ _ _ _ _ _ _ _ _ _ _ _ _ _ (L.set k (be4 b0 b1 b2 b3)) _ ?_ ?_ ?_ ?_
  · have := hLx.set k (be4 b0 b1 b2 b3)
    rw [← or_be4] at this
    exact this
  · unfold Hid; rw [List.length_set]; exact hl.out
  · unfold Hid
    rw [words_snoc, HW.out, ← ht.out]
    exact take_set_snoc _ _ _ (by have := hl.out; omega)
  · exact (hb.trans (bx.mono (by have := hL.lt; omega))).setCell (Nat.le_refl _) _
end Go.Proofs.YtpphlmbhonaglaaDoor
