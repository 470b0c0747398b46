/-
  A round of the reference's Sum, by itself.
-/
import Derived.Test.YtpphlmbhonaglaaDoorRBody
namespace Go.Proofs.YtpphlmbhonaglaaDoor
open Go.RowKit

set_option maxRecDepth 1000000 in
set_option maxHeartbeats 8000000 in
theorem case6 {v0 v1 v2 v4 v5 v6 v7 v9 v10 v11 v12 v13 v14 v17 v18 v19 v20 v21 v22 v23 v24 v25 v26 v27 v28 v29 v30 v31 v32 v33 v34 v35 v36 v37 v38 v39 v40 v41 v42 v43 v44 v45 v46 v47 v48 v49 v50 v51 v52 v53 v54 v55 v56 v57 v58 v59 v60 v61 v62 v63 v64 v65 v66 v67 v68 v69 v70 v71 v72 v73 v74 v75 v76 v77 v78 v79 v80 v81 v82 v83 v84 v85 v86 v87 v88 v89 v90 v91 v92 v93 v94 v95 v96 v97 v98 v99 v100 v101 v102 v103 v104 v105 v106 v107 v108 v109 v110 v111 v112 v113 v114 v115 v116 v117 v118 v119 v120 v121 v122 v123 v124 v125 v126 v127 v128 v129 v130 v131 v132 v133 v134 v135 v136 v137 v138 v139 v140 v141 v142 v143 v144 v145 v146 v147 v148 v149 v150 v151 v152 v153 v154 v155 v156 v157 v158 v159 v160 v161 v162 v163 v164 v165 v166 v167 v168 v169 v170 v171 v172 v173 v174 v175 v176 v177 v178 v179 v180 v181 v182 v183 v184 v185 v186 v187 v188 v189 v190 v191 v192 v193 v194 v195 v196 v197 v198 v199 v200 v201 v202 v203 v204 v205 v206 v207 v208 v209 v210 v211 v212 v213 v214 v215 v216 v217 v218 v219 v220 v221 v222 v223 v224 v225 v226 v227 v228 v229 v230 v231 v232 v233 v234 v235 v236 v237 v238 v239 v240 v241 v242 v243 v244 v245 v246 v247 v248 v249 v250 v251 v252 v253 v254 v255 v256 v257 v258 v259 v260 v261 v262 v263 v264 v265 v266 v267 v268 v269 v270 v271 v272 v273 v274 v275 v276 v277 : Value} {gk gw ga t : Nat} {W : List UInt32} {S : St} {w9 wr : World} {K0 : Act → World → Prop} {Q0 : Exit → Act → World → Prop} (ht64 : t < 64) (k9 : Ar w9 46 gk K64) (L9 : Ar w9 46 gw W) (hgka : gk < ga) (hgwa : gw < ga) (HlW : Hid (W.length = 64)) (hT : Ar wr 48 ga (rounds W S t).l) (bT : Below ga w9 wr)
    (hK : ∀ (u17 u18 u19 u142 u143 u144 u145 u146 u147 u148 u149 u150 u151 u152 u153 u154 u155 u156 u157 u158 u159 u160 u161 u162 u163 u164 u165 u166 u167 u168 u169 u170 u171 u172 u173 u174 u175 u176 u177 u178 u179 u180 u181 u182 u183 u184 u185 u186 u187 u188 u189 u190 u191 u192 u193 u194 u195 u196 u197 u198 u199 u200 u201 u202 u203 u204 u205 u206 u207 u208 u209 u210 u211 u212 u213 u214 u215 u216 u217 u218 u219 u220 u221 u222 u223 u224 u225 u226 : Value) (w' : World), Ar w' 48 ga (rounds W S (t + 1)).l → Below ga w9 w' → K0 ⟨#[v0, v1, v2, .pointer (some ⟨gk, 0, none⟩), v4, v5, v6, v7, .pointer (some ⟨gw, 0, none⟩), v9, v10, v11, v12, v13, v14, .pointer (some ⟨ga, 0, none⟩), .int .i64 ((t : Int) + 1), u17, u18, u19, v20, v21, v22, v23, v24, v25, v26, v27, v28, v29, v30, v31, v32, v33, v34, v35, v36, v37, v38, v39, v40, v41, v42, v43, v44, v45, v46, v47, v48, v49, v50, v51, v52, v53, v54, v55, v56, v57, v58, v59, v60, v61, v62, v63, v64, v65, v66, v67, v68, v69, v70, v71, v72, v73, v74, v75, v76, v77, v78, v79, v80, v81, v82, v83, v84, v85, v86, v87, v88, v89, v90, v91, v92, v93, v94, v95, v96, v97, v98, v99, v100, v101, v102, v103, v104, v105, v106, v107, v108, v109, v110, v111, v112, v113, v114, v115, v116, v117, v118, v119, v120, v121, v122, v123, v124, v125, v126, v127, v128, v129, v130, v131, v132, v133, v134, v135, v136, v137, v138, v139, v140, v141, u142, u143, u144, u145, u146, u147, u148, u149, u150, u151, u152, u153, u154, u155, u156, u157, u158, u159, u160, u161, u162, u163, u164, u165, u166, u167, u168, u169, u170, u171, u172, u173, u174, u175, u176, u177, u178, u179, u180, u181, u182, u183, u184, u185, u186, u187, u188, u189, u190, u191, u192, u193, u194, u195, u196, u197, u198, u199, u200, u201, u202, u203, u204, u205, u206, u207, u208, u209, u210, u211, u212, u213, u214, u215, u216, u217, u218, u219, u220, u221, u222, u223, u224, u225, u226, v227, v228, v229, v230, v231, v232, v233, v234, v235, v236, v237, v238, v239, v240, v241, v242, v243, v244, v245, v246, v247, v248, v249, v250, v251, v252, v253, v254, v255, v256, v257, v258, v259, v260, v261, v262, v263, v264, v265, v266, v267, v268, v269, v270, v271, v272, v273, v274, v275, v276, v277], []⟩ w') :
    Code.wp Tryd.prog (rb 5) (Exit.then K0 Q0) ⟨#[v0, v1, v2, .pointer (some ⟨gk, 0, none⟩), v4, v5, v6, v7, .pointer (some ⟨gw, 0, none⟩), v9, v10, v11, v12, v13, v14, .pointer (some ⟨ga, 0, none⟩), .int .i64 (t : Int), v17, v18, v19, v20, v21, v22, v23, v24, v25, v26, v27, v28, v29, v30, v31, v32, v33, v34, v35, v36, v37, v38, v39, v40, v41, v42, v43, v44, v45, v46, v47, v48, v49, v50, v51, v52, v53, v54, v55, v56, v57, v58, v59, v60, v61, v62, v63, v64, v65, v66, v67, v68, v69, v70, v71, v72, v73, v74, v75, v76, v77, v78, v79, v80, v81, v82, v83, v84, v85, v86, v87, v88, v89, v90, v91, v92, v93, v94, v95, v96, v97, v98, v99, v100, v101, v102, v103, v104, v105, v106, v107, v108, v109, v110, v111, v112, v113, v114, v115, v116, v117, v118, v119, v120, v121, v122, v123, v124, v125, v126, v127, v128, v129, v130, v131, v132, v133, v134, v135, v136, v137, v138, v139, v140, v141, v142, v143, v144, v145, v146, v147, v148, v149, v150, v151, v152, v153, v154, v155, v156, v157, v158, v159, v160, v161, v162, v163, v164, v165, v166, v167, v168, v169, v170, v171, v172, v173, v174, v175, v176, v177, v178, v179, v180, v181, v182, v183, v184, v185, v186, v187, v188, v189, v190, v191, v192, v193, v194, v195, v196, v197, v198, v199, v200, v201, v202, v203, v204, v205, v206, v207, v208, v209, v210, v211, v212, v213, v214, v215, v216, v217, v218, v219, v220, v221, v222, v223, v224, v225, v226, v227, v228, v229, v230, v231, v232, v233, v234, v235, v236, v237, v238, v239, v240, v241, v242, v243, v244, v245, v246, v247, v248, v249, v250, v251, v252, v253, v254, v255, v256, v257, v258, v259, v260, v261, v262, v263, v264, v265, v266, v267, v268, v269, v270, v271, v272, v273, v274, v275, v276, v277], []⟩ wr := by
  conv => arg 2; whnf
  have HN : Hid (rounds W S (t + 1) = (rounds W S t).step (kk t) (W.getD t 0)) := rfl
  generalize rounds W S t = T at hT HN
  have z0 := hT.cell 0 T.a rfl
  have z1 := hT.cell 1 T.b rfl
  have z2 := hT.cell 2 T.c rfl
  have z3 := hT.cell 3 T.d rfl
  have z4 := hT.cell 4 T.e rfl
  have z5 := hT.cell 5 T.f rfl
  have z6 := hT.cell 6 T.g rfl
  have z7 := hT.cell 7 T.h rfl
  have kt : wr.cell? ⟨gk, t, none⟩ = some (.int .u32 (u (kk t))) := (k9.kept (bT.block gk hgka)).get t (by rw [K64_length]; exact ht64)
  have wt : wr.cell? ⟨gw, t, none⟩ = some (.int .u32 (u (W.getD t 0))) := (L9.kept (bT.block gw hgwa)).get t (by rw [HlW.out]; exact ht64)
  generalize kk t = kt0 at kt HN
  generalize W.getD t 0 = wt0 at wt HN
  have t64 : (t : Int) < 64 := by omega
  have r1 := u_xor
  have r2 := u_wrap
  have r3 := u_and
  have r4 := u_inv
  have r5 := u_add
  have lo := u_lo
  have hi := u_hi
  go_wp2_with fail
  refine region_all (by kernel_rfl) (by kernel_rfl) ?_
  intro wx hx bx
  have hTx : Ar wx 48 ga T.l := hT.kept (heap_hid hx ga)
  replace z5 := cell_hid hx z5
  replace z6 := cell_hid hx z6
  replace z7 := cell_hid hx z7
  replace kt := cell_hid hx kt
  replace wt := cell_hid hx wt
  iterate 31 (first | still_call (rot_still _ _ _ (by omega)) | still_step)
  refine wpStill_nil ?_
  clear z0 z1 z2 z3 z4 z5 z6 z7 kt wt
  have z0 := hTx.cell 0 T.a rfl
  have z1 := hTx.cell 1 T.b rfl
  have z2 := hTx.cell 2 T.c rfl
  go_wp2_with fail
  refine region_all (by kernel_rfl) (by kernel_rfl) ?_
  intro wy hy by_
  have hTy : Ar wy 48 ga T.l := hTx.kept (heap_hid hy ga)
  replace z0 := cell_hid hy z0
  replace z1 := cell_hid hy z1
  replace z2 := cell_hid hy z2
  iterate 30 (first | still_call (rot_still _ _ _ (by omega)) | still_step)
  refine wpStill_nil ?_
  have z3 := hTy.cell 3 T.d rfl
  have z4 := hTy.cell 4 T.e rfl
  have z5 := hTy.cell 5 T.f rfl
  have z6 := hTy.cell 6 T.g rfl
  go_wp2_with ((with_reducible refine wpList_store_ar rfl 48 _ _ rfl _ _ (T.step kt0 wt0).l ?_ ?_ _ hTy 8 size8 T.l_length (St.l_length _) ?_); (rfl); (rfl); (intro wz hz bz))
  have hTw : ga ≤ wr.heap.size := by have := hT.lt; omega
  have hTxw : ga ≤ wx.heap.size := by have := hTx.lt; omega
  have hTyw : ga ≤ wy.heap.size := by have := hTy.lt; omega
  refine hK _ _ _ _ _ _ _ _ _ _ _ _ _ _ _ _ _ _ _ _ _ _ _ _ _ _ _ _ _ _ _ _ _ _ _ _ _ _ _ _ _ _ _ _ _ _ _ _ _ _ _ _ _ _ _ _ _ _ _ _ _ _ _ _ _ _ _ _ _ _ _ _ _ _ _ _ _ _ _ _ _ _ _ _ _ _ _ _ _ ?_ ?_
  · rw [HN.out]; exact hz
  · exact ((bT.trans (bx.mono hTw)).trans (by_.mono hTxw)).grown bz hTyw (fun k h => by cases h; exact Nat.le_refl _)
end Go.Proofs.YtpphlmbhonaglaaDoor
