/-
  A round of the reference's Sum, by itself.
-/
import Derived.Test.YtpphlmbhonaglaaDoorRBody
namespace Go.Proofs.YtpphlmbhonaglaaDoor
open Go.RowKit

set_option maxRecDepth 1000000 in
set_option maxHeartbeats 8000000 in
theorem case5 {v0 v1 v2 v3 v4 v5 v6 v7 v9 v10 v11 v13 v14 v15 v16 v17 v18 v19 v20 v21 v22 v23 v24 v25 v26 v27 v28 v29 v30 v31 v32 v33 v34 v35 v36 v37 v38 v39 v40 v41 v42 v43 v44 v45 v46 v47 v48 v49 v50 v51 v52 v53 v54 v55 v56 v57 v58 v59 v60 v61 v62 v63 v64 v65 v66 v67 v68 v69 v70 v71 v72 v73 v74 v75 v76 v77 v78 v79 v80 v81 v82 v83 v84 v85 v86 v87 v88 v89 v90 v91 v92 v93 v94 v95 v96 v97 v98 v99 v100 v101 v102 v103 v104 v105 v106 v107 v108 v109 v110 v111 v112 v113 v114 v115 v116 v117 v118 v119 v120 v121 v122 v123 v124 v125 v126 v127 v128 v129 v130 v131 v132 v133 v134 v135 v136 v137 v138 v139 v140 v141 v142 v143 v144 v145 v146 v147 v148 v149 v150 v151 v152 v153 v154 v155 v156 v157 v158 v159 v160 v161 v162 v163 v164 v165 v166 v167 v168 v169 v170 v171 v172 v173 v174 v175 v176 v177 v178 v179 v180 v181 v182 v183 v184 v185 v186 v187 v188 v189 v190 v191 v192 v193 v194 v195 v196 v197 v198 v199 v200 v201 v202 v203 v204 v205 v206 v207 v208 v209 v210 v211 v212 v213 v214 v215 v216 v217 v218 v219 v220 v221 v222 v223 v224 v225 v226 v227 v228 v229 v230 v231 v232 v233 v234 v235 v236 v237 v238 v239 v240 v241 v242 v243 v244 v245 v246 v247 v248 v249 v250 v251 v252 v253 v254 v255 v256 v257 v258 v259 v260 v261 v262 v263 v264 v265 v266 v267 v268 v269 v270 v271 v272 v273 v274 v275 v276 v277 : Value} {gw m i : Nat} {P : List UInt8} {L1 : List UInt32} {wo wr : World} {K0 : Act → World → Prop} {Q0 : Exit → Act → World → Prop} (hi1 : 16 ≤ i) (hi3 : i < 64) (hL : Ar wr 46 gw L1) (hl : Hid (L1.length = 64)) (HT : Hid (L1.take i = sched (words (P.drop (64 * m)) 16) (i - 16))) (hb : Below gw wo wr)
    (hK : ∀ (u13 u14 u100 u101 u102 u103 u104 u105 u106 u107 u108 u109 u110 u111 u112 u113 u114 u115 u116 u117 u118 u119 u120 u121 u122 u123 u124 u125 u126 u127 u128 u129 u130 u131 u132 u133 u134 u135 u136 u137 u138 u139 u140 : Value) (L2 : List UInt32) (w' : World), Ar w' 46 gw L2 → Hid (L2.length = 64) → Hid (L2.take (i + 1) = sched (words (P.drop (64 * m)) 16) (i + 1 - 16)) → Below gw wo w' → K0 ⟨#[v0, v1, v2, v3, v4, v5, v6, v7, .pointer (some ⟨gw, 0, none⟩), v9, v10, v11, .int .i64 ((i : Int) + 1), u13, u14, v15, v16, v17, v18, v19, v20, v21, v22, v23, v24, v25, v26, v27, v28, v29, v30, v31, v32, v33, v34, v35, v36, v37, v38, v39, v40, v41, v42, v43, v44, v45, v46, v47, v48, v49, v50, v51, v52, v53, v54, v55, v56, v57, v58, v59, v60, v61, v62, v63, v64, v65, v66, v67, v68, v69, v70, v71, v72, v73, v74, v75, v76, v77, v78, v79, v80, v81, v82, v83, v84, v85, v86, v87, v88, v89, v90, v91, v92, v93, v94, v95, v96, v97, v98, v99, u100, u101, u102, u103, u104, u105, u106, u107, u108, u109, u110, u111, u112, u113, u114, u115, u116, u117, u118, u119, u120, u121, u122, u123, u124, u125, u126, u127, u128, u129, u130, u131, u132, u133, u134, u135, u136, u137, u138, u139, u140, v141, v142, v143, v144, v145, v146, v147, v148, v149, v150, v151, v152, v153, v154, v155, v156, v157, v158, v159, v160, v161, v162, v163, v164, v165, v166, v167, v168, v169, v170, v171, v172, v173, v174, v175, v176, v177, v178, v179, v180, v181, v182, v183, v184, v185, v186, v187, v188, v189, v190, v191, v192, v193, v194, v195, v196, v197, v198, v199, v200, v201, v202, v203, v204, v205, v206, v207, v208, v209, v210, v211, v212, v213, v214, v215, v216, v217, v218, v219, v220, v221, v222, v223, v224, v225, v226, v227, v228, v229, v230, v231, v232, v233, v234, v235, v236, v237, v238, v239, v240, v241, v242, v243, v244, v245, v246, v247, v248, v249, v250, v251, v252, v253, v254, v255, v256, v257, v258, v259, v260, v261, v262, v263, v264, v265, v266, v267, v268, v269, v270, v271, v272, v273, v274, v275, v276, v277], []⟩ w') :
    Code.wp Tryd.prog (rb 4) (Exit.then K0 Q0) ⟨#[v0, v1, v2, v3, v4, v5, v6, v7, .pointer (some ⟨gw, 0, none⟩), v9, v10, v11, .int .i64 (i : Int), v13, v14, v15, v16, v17, v18, v19, v20, v21, v22, v23, v24, v25, v26, v27, v28, v29, v30, v31, v32, v33, v34, v35, v36, v37, v38, v39, v40, v41, v42, v43, v44, v45, v46, v47, v48, v49, v50, v51, v52, v53, v54, v55, v56, v57, v58, v59, v60, v61, v62, v63, v64, v65, v66, v67, v68, v69, v70, v71, v72, v73, v74, v75, v76, v77, v78, v79, v80, v81, v82, v83, v84, v85, v86, v87, v88, v89, v90, v91, v92, v93, v94, v95, v96, v97, v98, v99, v100, v101, v102, v103, v104, v105, v106, v107, v108, v109, v110, v111, v112, v113, v114, v115, v116, v117, v118, v119, v120, v121, v122, v123, v124, v125, v126, v127, v128, v129, v130, v131, v132, v133, v134, v135, v136, v137, v138, v139, v140, v141, v142, v143, v144, v145, v146, v147, v148, v149, v150, v151, v152, v153, v154, v155, v156, v157, v158, v159, v160, v161, v162, v163, v164, v165, v166, v167, v168, v169, v170, v171, v172, v173, v174, v175, v176, v177, v178, v179, v180, v181, v182, v183, v184, v185, v186, v187, v188, v189, v190, v191, v192, v193, v194, v195, v196, v197, v198, v199, v200, v201, v202, v203, v204, v205, v206, v207, v208, v209, v210, v211, v212, v213, v214, v215, v216, v217, v218, v219, v220, v221, v222, v223, v224, v225, v226, v227, v228, v229, v230, v231, v232, v233, v234, v235, v236, v237, v238, v239, v240, v241, v242, v243, v244, v245, v246, v247, v248, v249, v250, v251, v252, v253, v254, v255, v256, v257, v258, v259, v260, v261, v262, v263, v264, v265, v266, v267, v268, v269, v270, v271, v272, v273, v274, v275, v276, v277], []⟩ wr := by
  conv => arg 2; whnf
  have x15 := hL.get (i - 15) (by have := hl.out; omega)
  have x2 := hL.get (i - 2) (by have := hl.out; omega)
  have x7 := hL.get (i - 7) (by have := hl.out; omega)
  have x16 := hL.get (i - 16) (by have := hl.out; omega)
  have HE : Hid (ext L1 i = bs1 (L1.getD (i - 2) 0) + L1.getD (i - 7) 0 + bs0 (L1.getD (i - 15) 0) + L1.getD (i - 16) 0) := rfl
  generalize L1.getD (i - 15) 0 = a15 at x15 HE
  generalize L1.getD (i - 2) 0 = a2 at x2 HE
  generalize L1.getD (i - 7) 0 = a7 at x7 HE
  generalize L1.getD (i - 16) 0 = a16 at x16 HE
  have e15 := IntWalk.i64_in ((i : Int) - 15) (by omega)
  have e2 := IntWalk.i64_in ((i : Int) - 2) (by omega)
  have e7 := IntWalk.i64_in ((i : Int) - 7) (by omega)
  have e16 := IntWalk.i64_in ((i : Int) - 16) (by omega)
  have n15 : 0 ≤ (i : Int) - 15 := by omega
  have n2 : 0 ≤ (i : Int) - 2 := by omega
  have n7 : 0 ≤ (i : Int) - 7 := by omega
  have n16 : 0 ≤ (i : Int) - 16 := by omega
  have m15 : (i : Int) - 15 < 64 := by omega
  have m2 : (i : Int) - 2 < 64 := by omega
  have m7 : (i : Int) - 7 < 64 := by omega
  have m16 : (i : Int) - 16 < 64 := by omega
  have m0 : (i : Int) < 64 := by omega
  have c15 : ((i : Int) - 15).toNat = i - 15 := by omega
  have c2 : ((i : Int) - 2).toNat = i - 2 := by omega
  have c7 : ((i : Int) - 7).toNat = i - 7 := by omega
  have c16 : ((i : Int) - 16).toNat = i - 16 := by omega
  go_wp2_with fail
  go_quiet (fail)
  go_wp2_with fail
  have k7 : 7 ≤ (i : Int) := by omega
  have k16 : 16 ≤ (i : Int) := by omega
  refine region_tail 29 (by kernel_rfl) (by kernel_rfl) ?_
  intro wx hx bx
  have t7 : wx.cell? ⟨gw, i - 7, none⟩ = some (.int .u32 (u a7)) := cell_hid hx x7
  have t16 : wx.cell? ⟨gw, i - 16, none⟩ = some (.int .u32 (u a16)) := cell_hid hx x16
  have hLx : Ar wx 46 gw L1 := hL.kept (heap_hid hx gw)
  have tw := hLx.get i (by have := hl.out; omega)
  have tf := hLx.free i
  have r1 := u_xor
  have r2 := u_add
  have r3 : ∀ x y, IntKind.u32.wrap (u x + u y) = u (x + y) := fun x y => by rw [IntKind.wrap_u32']; exact u_add x y
  have r4 : ∀ x, u x / 1024 = u (sr x 10) := fun x => u_shr x 10
  have r5 : ∀ x, u x / 8 = u (sr x 3) := fun x => u_shr x 3
  have lo := u_lo
  have hi := u_hi
  clear x15 x2 x7 x16
  simp only [List.take_succ_cons, List.take_zero, List.drop_succ_cons, List.drop_zero]
  iterate 29 (first | still_call (rot_still _ _ _ (by omega)) | still_step)
  refine wpStill_nil ?_
  go_wp2_with fail
  refine hK _ _ _ _ _ _ _ _ _ _ _ _ _ _ _ _ _ _ _ _ _ _ _ _ _ _ _ _ _ _ _ _ _ _ _ _ _ _ _ _ _ _ _ (L1.set i (ext L1 i)) _ ?_ ?_ ?_ ?_
  · have := hLx.set i (ext L1 i)
    rw [HE.out] at this ⊢
    exact this
  · unfold Hid; rw [List.length_set]; exact hl.out
  · exact sched_step L1 _ i hi1 (by have := hl.out; omega) HT.out
  · exact (below_drewN hb bx (by have := hL.lt; omega)).setCell (Nat.le_refl _) _
end Go.Proofs.YtpphlmbhonaglaaDoor
