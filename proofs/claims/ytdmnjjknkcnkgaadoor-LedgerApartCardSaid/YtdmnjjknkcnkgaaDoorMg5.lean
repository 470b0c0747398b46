/-
  The contract of sha.Sum: SHA-256 of all parts.
  The reference's rot, words.
  The bodies of the loops of the reference's Sum.
  A round of the reference's Sum, by itself.
  A round of the reference's Sum, by itself.
  A round of the reference's Sum, by itself.
  A round of the reference's Sum, by itself.
  A round of the reference's Sum, by itself.
-/
import Derived.Test.YtdmnjjknkcnkgaaDoorMg4
import Derived.Test.YtdmnjjknkcnkgaaDoorMg3
import Derived.Test.YtdmnjjknkcnkgaaDoorMg1
import Derived.Outline
namespace Go.Proofs.YtdmnjjknkcnkgaaDoor
open Go.RowKit

theorem IsB.lt {w : World} {ao : Option Addr} {n cap : Nat} {l : List UInt8} (h : IsB w ao n cap l) (hn : 0 < n) : ∀ a, ao = some a → a.block < w.heap.size := fun a ha => by
  have hl := h.len
  have hc := h.cell a ha 0 (l.getD 0 0) (by simp [List.getD, show 0 < l.length by omega])
  have e : (a.add 0).block = a.block := block_add a 0
  rw [← e]
  exact World.block_lt_of_cell? w _ hc
/-- A SLICE WHOSE ADDRESS LIES BELOW, empty or not. -/
theorem RC.below {w w' : World} {B : Nat} (h : RC w) (k : Below B w w') (hB : 0 < B) : RC w' := fun i hi => by
  rw [k.cell (p := ⟨0, i, none⟩) hB]
  exact h i hi
theorem RC.lt {w : World} (h : RC w) : 0 < w.heap.size := World.block_lt_of_cell? w _ (h 0 (by omega))
theorem RC.past {w w' : World} (h : RC w) (k : Below w.heap.size w w') : RC w' := h.below k h.lt
/-- A new sum's block. -/
def sum0 : List Value := smL H0.l (List.replicate 64 0) 0 0 (List.replicate 64 0) (onceV false) (List.replicate 64 0)
def sumZ : List Value := smL (List.replicate 8 0) (List.replicate 64 0) 0 0 (List.replicate 64 0) (onceV false) (List.replicate 64 0)
theorem sumZero : (Tryd.prog.info? 110).map (fun i => i.zero) = some (some (.agg sumZ.toArray)) := by kernel_rfl
theorem sumSize : (Tryd.prog.info? 110).map (·.size) = some 205 := by kernel_rfl
theorem built_sum : Tryd.prog.built 110 [(0, .agg (cus H0.l))] = some sum0.toArray := by kernel_rfl
theorem sum0_len : sum0.toArray.size = 205 := by kernel_rfl
theorem sumZ_len : sumZ.toArray.size = 205 := by kernel_rfl
theorem sum0_one : sum0.toArray.all (·.oneCell') = true := by kernel_rfl
theorem way0 {w : World} {g : Nat} (h : w.heap[g]? = some (.cells sum0.toArray 110 (0, 0))) : Way w g [] 0 :=
  ⟨H0, List.replicate 64 0, 0, Taken.none _, List.replicate 64 0, false, List.replicate 64 0, ⟨h, rfl, List.length_replicate, List.length_replicate, List.length_replicate, rfl⟩, fun h => by cases h⟩
theorem flatten_snoc (ps : List (List UInt8)) (k : Nat) (hk : k < ps.length) : (ps.take (k + 1)).flatten = (ps.take k).flatten ++ ps.getD k [] := by
  rw [List.take_add_one]
  simp only [List.getD, List.getElem?_eq_getElem hk, Option.toList_some, Option.getD_some, List.flatten_append]
  simp
theorem flatten_le (ps : List (List UInt8)) (k : Nat) : (ps.take k).flatten.length ≤ ps.flatten.length := by
  have h := congrArg (fun l : List (List UInt8) => l.flatten.length) (List.take_append_drop k ps)
  simp only [List.flatten_append, List.length_append] at h
  omega
theorem part_le (ps : List (List UInt8)) (k : Nat) (hk : k < ps.length) : (ps.getD k []).length ≤ ps.flatten.length := by
  have h1 := flatten_le ps (k + 1)
  rw [flatten_snoc ps k hk, List.length_append] at h1
  omega

/-- A new row of bytes, marked or not. -/
theorem isB_litF (w : World) (cs : Array Value) (e : TypeId) (fr : Nat × Nat) (l : List UInt8) (m : Nat) (hv : cs.toList = bcs l) (hm : l.length = m) (hM : m ≤ 1000000) : IsB (w.alloc (.cells cs e fr)) (some ⟨w.heap.size, 0, none⟩) m m l :=
  ⟨hm, Nat.le_refl _, by unfold maxLen; omega, (fun h => by cases h), fun a ha j u hu => by
    obtain rfl := Option.some.inj ha
    rw [Addr.add_lit, Nat.zero_add, cell_of_row _ _ _ _ e fr (heap_alloc_new w _), ← Array.getElem?_toList, hv, bcs_get, hu]
    rfl⟩
/-- A new row of slices of bytes. -/
theorem isP_one (w : World) (t : TypeId) (bo : Option Addr) (bn bc : Nat) (l : List UInt8) (h : IsB w bo bn bc l) : IsP (w.alloc (.cells #[.slice bo bn bc] t)) (some ⟨w.heap.size, 0, none⟩) 1 [l] :=
  isP_lit w t _ _ 1 rfl fun j hj => by
    obtain rfl : j = 0 := by omega
    exact ⟨bo, bn, bc, rfl, h⟩
theorem isP_two (w : World) (t : TypeId) (bo : Option Addr) (bn bc : Nat) (l : List UInt8) (h : IsB w bo bn bc l) (bo2 : Option Addr) (bn2 bc2 : Nat) (l2 : List UInt8) (h2 : IsB w bo2 bn2 bc2 l2) :
    IsP (w.alloc (.cells #[.slice bo bn bc, .slice bo2 bn2 bc2] t)) (some ⟨w.heap.size, 0, none⟩) 2 [l, l2] :=
  isP_lit w t _ _ 2 rfl fun j hj => by
    obtain rfl | rfl : j = 0 ∨ j = 1 := by omega
    · exact ⟨bo, bn, bc, rfl, h⟩
    · exact ⟨bo2, bn2, bc2, rfl, h2⟩
theorem isP_nil (w : World) (ao : Option Addr) : IsP w ao 0 [] := ⟨rfl, fun h => by omega, fun a _ j hj => by omega⟩
theorem RC.alloc {w : World} (h : RC w) (o : Obj) : RC (w.alloc o) := h.past ((Below.refl _ _).alloc (Nat.le_refl _) o)
theorem startState_any (w : World) : Calls Tryd.prog 52 #[] w fun e w' => e = .returned (.agg (cus H0.l)) ∧ Below w.heap.size w w' := by
  go_enter Tryd.func52, Tryd.ntmps52
  go_wp2_with fail
  refine bodyPost_ret (v := .agg #[Value.int IntKind.u32 1779033703, Value.int IntKind.u32 3144134277, Value.int IntKind.u32 1013904242, Value.int IntKind.u32 2773480762, Value.int IntKind.u32 1359893119, Value.int IntKind.u32 2600822924, Value.int IntKind.u32 528734635, Value.int IntKind.u32 1541459225]) (by simp [results, Tryd.results52, go_sem]) rfl ⟨by kernel_rfl, (Below.refl _ _).alloc (Nat.le_refl _) _⟩
end Go.Proofs.YtdmnjjknkcnkgaaDoor

namespace Go.Proofs.YtdmnjjknkcnkgaaDoor
open Go.RowKit

set_option maxRecDepth 100000 in
set_option maxHeartbeats 4000000 in
theorem sum_any (ao : Option Addr) (n cap : Nat) (ps : List (List UInt8)) (w : World) (hC : RC w) (h : IsP w ao n ps) (hn : n ≤ 1000000) (hm : ps.flatten.length ≤ 1000000) :
    Calls Tryd.prog 38 #[.slice ao n cap] w fun e w' => e = .returned (.agg (bcs (sha ps.flatten)).toArray) ∧ Below w.heap.size w w' := by
  have hlt := hC.lt
  go_enter Tryd.func38, Tryd.ntmps38
  go_wp2_with (first
    | (go_at_call 52; refine (startState_any _).mono ?_; rintro e w2 ⟨rfl, b2⟩)
    | (with_reducible refine wpList_alloc_blk (o := ⟨some 2, _, _, _, _, _⟩) rfl 47 rfl _ zeroHash ?_; intro w1 gr h1 b1 q1)
    | (with_reducible refine wpList_alloc_blk (o := ⟨some 3, _, _, _, _, _⟩) rfl 110 rfl _ sumZero ?_; intro w3 g h3 b3 q3)
    | ((with_reducible refine wpList_build_at (o := ⟨some 7, _, _, _, _, _⟩) rfl 110 _ rfl sum0.toArray ?_ ?_); (simp only [List.map_toArray, List.map_cons, List.map_nil]; exact built_sum))
    | ((with_reducible refine wpList_store_blk rfl 110 _ _ rfl g _ sum0.toArray ?_ ?_ _ h3 205 sumSize sumZ_len sum0_len sum0_one ?_); (rfl); (rfl); (intro w4 h4 b4)))
  have hgrw : w.heap.size ≤ gr := q1
  have hw4 : Below w.heap.size w w4 := (below_on b1 (b2.mono (Nat.le_refl _))).trans (((b3.mono b2.size).mono b1.size).trans ((gbelow b4 (Nat.le_of_lt (Array.getElem?_eq_some_iff.1 h3.out).1)).mono (by have := b1.size; have := b2.size; omega)))
  have z1 := b1.size
  have z2 := b2.size
  have z3 := b3.size
  have z4 := b4.size
  have hgr1 : gr < w1.heap.size := (Array.getElem?_eq_some_iff.1 h1.out).1
  have hg3 : g < w3.heap.size := (Array.getElem?_eq_some_iff.1 h3.out).1
  have hrg : gr < g := by omega
  have hwg : w.heap.size ≤ g := by omega
  have hg4 : g ≤ w4.heap.size := by omega
  have R4 : Hid (w4.heap[gr]? = some (.cells (bcs (List.replicate 32 0)).toArray 47 (0, 0))) := by
    unfold Hid
    rw [b4.block gr (by omega) (by simp; omega), b3.block gr (by omega), b2.block gr hgr1]
    exact h1.out
  have W4 : Way w4 g (ps.take 0).flatten ((0 : Nat) : Int) := way0 h4.out
  have C4 : RC w4 := hC.past hw4
  have hC' : ∀ a b : World, RC a → Below g a b → RC b := fun a b ha hb => ha.below hb (by omega)
  have HC := Lib.hid hC'
  clear hC' h1 b1 b2 h3 b3 b4 h4 z1 z2 z3 z4 q1 q3 hgr1 hg3
  go_loopw [10] (fun i wq => ∃ (k L : Nat), k ≤ n ∧ i = .int .i64 k ∧ Hid (L = (ps.take k).flatten.length) ∧ Way wq g (ps.take k).flatten L ∧ RC wq ∧ w4.grownBy wq (some g)) (fun i _ => n - (intOf i).toNat)
  case atStart => exact ⟨0, 0, by omega, rfl, rfl, W4, C4, World.grownBy.refl _ _⟩
  case round =>
    clear W4 C4
    obtain ⟨k, L, hk, rfl, HL, hW, hR, hG⟩ := hrel
    have hwr : Below w.heap.size w wr := hw4.trans ((gbelow hG hg4).mono hwg)
    by_cases hkn : k < n
    · obtain ⟨a, rfl⟩ := h.has (by omega)
      obtain ⟨bo, bn, bc, hc0, hB0⟩ := h.cell a rfl k hkn
      have hc : wr.cell? (a.add k) = some (.slice bo bn bc) := by
        rw [hwr.cell (World.block_lt_of_cell? w _ hc0)]
        exact hc0
      have hB := hB0.past hwr
      have hne : 0 < bn → ∀ a, bo = some a → a.block ≠ g := fun h0 a ha => by have := hB0.lt h0 a ha; omega
      have hps := h.len
      have HF : Hid ((ps.take (k + 1)).flatten = (ps.take k).flatten ++ ps.getD k []) := flatten_snoc ps k (by omega)
      have hb1 := hB0.len
      have hb2 := part_le ps k (by omega)
      have hb3 := flatten_le ps k
      have HN : Hid (L + bn = (ps.take (k + 1)).flatten.length) := by unfold Hid; rw [HF.out, List.length_append, ← HL.out, hb1]
      have hL : L ≤ 1000000 := by have := HL.out; omega
      have hbn : bn ≤ 1000000 := by omega
      clear hb1 hb2 hb3 hps hc0 hB0
      generalize ps.getD k [] = p at HF hB
      go_wp2_with (go_at_call 53; refine (take_in RC mix_any g HC.out (ps.take k).flatten L bo bn bc p _ hR hW hB hne (by omega) (by omega)).mono ?_; rintro e w5 ⟨rfl, hW5, hR5, hG5⟩)
      go_roundw
      case rel => exact ⟨k + 1, L + bn, by omega, by go_num, HN, by rw [HF.out]; exact hW5, hR5, grown_then hG hG5⟩
      case measure => simp [intOf]; omega
    · obtain rfl : k = n := by omega
      have hps := h.len
      have hall : ps.take k = ps := List.take_of_length_le (by omega)
      rw [hall] at hW HL
      have hgw := hW.lt
      have hL : L ≤ 1000000 := by have := HL.out; omega
      clear hall hps
      go_wp2_with fail
      refine (pad_in RC mix_any g HC.out ps.flatten L _ hR hW HL.out.symm hL).mono ?_
      rintro e w6 ⟨rfl, ⟨L6, S, blk, used, hT, last, d, sch, hS, hd⟩, b6⟩
      clear hd
      have HT := Lib.hid hT
      clear hT hW HL
      go_wp2_with fail
      refine (hash_any g S.l blk used L6 last _ sch _ hS).mono ?_
      rintro e w7 ⟨rfl, b7⟩
      have hSUM : filled S.l 32 = sha ps.flatten := (filled_all S).trans HT.out.sum
      rw [hSUM]
      have R7 : Hid (w7.heap[gr]? = some (.cells (bcs (List.replicate 32 0)).toArray 47 (0, 0))) := by
        unfold Hid
        have s6 := b6.size
        rw [b7.block gr (by omega), b6.block gr hrg, (gbelow hG hg4).block gr hrg]
        exact R4.out
      have hB7 : Below w.heap.size w w7 := hwr.trans ((b6.mono hwg).trans (b7.mono (by have := hwr.size; have := b6.size; omega)))
      clear hSUM hS hG hR b6 b7 hwr R4 HT
      go_wp2_with ((with_reducible refine wpList_store_blk rfl 47 _ _ rfl gr _ (bcs (sha ps.flatten)).toArray ?_ ?_ _ R7 32 sizeHash (by simp [bcs_length]) (by simp [bcs_length, sha_length]) (bcs_all _) ?_); (rfl); (rfl); (intro w8 h8 b8))
      refine bodyPost_ret (v := .agg (bcs (sha ps.flatten)).toArray) (results_cell_row rfl _ _ gr _ _ (0, 0) _ rfl h8.out Tryd.underlying47 rfl (by rw [sizeHash]; simp [bcs_length, sha_length])) rfl ⟨rfl, ?_⟩
      exact hB7.grown b8 hB7.size (fun k hk => by cases hk; omega)
end Go.Proofs.YtdmnjjknkcnkgaaDoor
namespace Go.Proofs.YtdmnjjknkcnkgaaDoor
open Go.RowKit

theorem rot_any (x : UInt32) (n : Nat) (w : World) (hn : 1 ≤ n ∧ n ≤ 31) :
    Calls Tryd.prog 51 #[.int .u32 (u x), .int .u64 n] w fun e w' => e = .returned (.int .u32 (u (rr x n))) ∧ w = w' := by
  have h1 := u_lo x
  have h2 := u_hi x
  have e : Hid (bits BinOp.or IntKind.u32 (u x / 2 ^ n) (u x * 2 ^ (32 - n) % 4294967296) = u (rr x n)) := by
    unfold Hid
    rw [u_shr, u_shl, u_or]
    rfl
  go_enter Tryd.func51, Tryd.ntmps51
  go_wp2_with fail
  go_ret
  exact ⟨ret_int e.out, rfl⟩

theorem rot_still (x : UInt32) (n : Int) (w : World) (hn : 1 ≤ n ∧ n ≤ 31) :
    Calls Tryd.prog 51 #[.int .u32 (u x), .int .u64 n] w fun e w' => e = .returned (.int .u32 (u (rr x n.toNat))) ∧ w' = w := by
  obtain ⟨m, rfl⟩ := Int.eq_ofNat_of_zero_le (show 0 ≤ n by omega)
  exact (rot_any x m w (by omega)).mono fun _ _ ⟨a, b⟩ => ⟨a, b.symm⟩

theorem zero64 : (Tryd.prog.info? 101).map (fun i => i.zero) = some (some (.agg (cus (List.replicate 64 0)))) := by kernel_rfl
theorem size64 : (Tryd.prog.info? 101).map (·.size) = some 64 := by kernel_rfl
theorem zeroH : (Tryd.prog.info? 47).map (fun i => i.zero) = some (some (.agg (bcs (List.replicate 32 0)).toArray)) := by kernel_rfl
theorem sizeH : (Tryd.prog.info? 47).map (·.size) = some 32 := by kernel_rfl
theorem zero8 : (Tryd.prog.info? 103).map (fun i => i.zero) = some (some (.agg (cus (List.replicate 8 0)))) := by kernel_rfl
theorem size8 : (Tryd.prog.info? 103).map (·.size) = some 8 := by kernel_rfl

set_option maxRecDepth 100000 in
theorem words_any (w : World) :
    Calls Tryd.prog 50 #[] w fun e w' => e = .returned (.agg (cus K64)) ∧ Below w.heap.size w w' := by
  go_enter Tryd.func50, Tryd.ntmps50
  go_wp2_with (first | (with_reducible refine wpList_alloc_ar rfl 101 rfl 64 zero64 ?_; intro w1 g1 h1 b1 q1) | (with_reducible refine wpList_build_at rfl 101 _ rfl (cus K64) (by kernel_rfl) ?_) | ((with_reducible refine wpList_store_ar rfl 101 _ _ rfl _ _ K64 ?_ ?_ _ h1 64 size64 List.length_replicate K64_length ?_); (rfl); (rfl); (intro w2 h2 b2)))
  refine bodyPost_ret (v := .agg (cus K64)) (results_cell_row rfl _ _ g1 _ _ (0, 0) _ rfl h2 Tryd.underlying101 rfl size64) rfl ⟨rfl, ?_⟩
  exact b1.grown b2 b1.size (fun k h => by cases h; exact q1)
end Go.Proofs.YtdmnjjknkcnkgaaDoor
namespace Go.Proofs.YtdmnjjknkcnkgaaDoor

def loopsOf : Code → List Code
  | .loop c => c :: loopsOf c
  | .seq a b => loopsOf a ++ loopsOf b
  | .block _ c => loopsOf c
  | .scope c => loopsOf c
  | .cond _ a b => loopsOf a ++ loopsOf b
  | _ => []
/-- Loop k of the reference's Sum, in the text's order. -/
noncomputable def rb (k : Nat) : Code := ((Tryd.f37.body.map loopsOf).getD []).getD k .skip
end Go.Proofs.YtdmnjjknkcnkgaaDoor
namespace Go.Proofs.YtdmnjjknkcnkgaaDoor
open Go.RowKit

set_option maxRecDepth 1000000 in
set_option maxHeartbeats 8000000 in
theorem case4 {v0 v1 v2 v3 v4 v6 v7 v11 v12 v13 v14 v15 v16 v17 v18 v19 v20 v21 v22 v23 v24 v25 v26 v27 v28 v29 v30 v31 v32 v33 v34 v35 v36 v37 v38 v39 v40 v41 v42 v43 v44 v45 v46 v47 v48 v49 v50 v51 v52 v53 v54 v55 v56 v57 v58 v59 v60 v61 v62 v63 v64 v65 v66 v67 v68 v69 v70 v71 v72 v73 v74 v75 v76 v77 v78 v79 v80 v81 v82 v83 v84 v85 v86 v87 v88 v89 v90 v91 v92 v93 v94 v95 v96 v97 v98 v99 v100 v101 v102 v103 v104 v105 v106 v107 v108 v109 v110 v111 v112 v113 v114 v115 v116 v117 v118 v119 v120 v121 v122 v123 v124 v125 v126 v127 v128 v129 v130 v131 v132 v133 v134 v135 v136 v137 v138 v139 v140 v141 v142 v143 v144 v145 v146 v147 v148 v149 v150 v151 v152 v153 v154 v155 v156 v157 v158 v159 v160 v161 v162 v163 v164 v165 v166 v167 v168 v169 v170 v171 v172 v173 v174 v175 v176 v177 v178 v179 v180 v181 v182 v183 v184 v185 v186 v187 v188 v189 v190 v191 v192 v193 v194 v195 v196 v197 v198 v199 v200 v201 v202 v203 v204 v205 v206 v207 v208 v209 v210 v211 v212 v213 v214 v215 v216 v217 v218 v219 v220 v221 v222 v223 v224 v225 v226 v227 v228 v229 v230 v231 v232 v233 v234 v235 v236 v237 v238 v239 v240 v241 v242 v243 v244 v245 v246 v247 v248 v249 v250 v251 v252 v253 v254 v255 v256 v257 v258 v259 v260 v261 v262 v263 v264 v265 v266 v267 v268 v269 v270 v271 v272 v273 v274 v275 v276 v277 : Value} {g2 gw M cap2 m k : Nat} {P : List UInt8} {L : List UInt32} {wo wr : World} {K0 : Act → World → Prop} {Q0 : Exit → Act → World → Prop} (hk16 : k < 16) (hmM : m < M) (hM2 : M ≤ 2000) (oP : OwnB wo 5 g2 (64 * M) cap2 P) (hgw : g2 < gw) (hL : Ar wr 101 gw L) (hl : Hid (L.length = 64)) (ht : Hid (L.take k = words (P.drop (64 * m)) k)) (hb : Below gw wo wr)
    (hK : ∀ (u11 u61 u62 u63 u64 u65 u66 u67 u68 u69 u70 u71 u72 u73 u74 u75 u76 u77 u78 u79 u80 u81 u82 u83 u84 u85 u86 u87 u88 u89 u90 u91 u92 u93 u94 u95 u96 u97 u98 u99 : Value) (L2 : List UInt32) (w' : World), Ar w' 101 gw L2 → Hid (L2.length = 64) → Hid (L2.take (k + 1) = words (P.drop (64 * m)) (k + 1)) → Below gw wo w' → K0 ⟨#[v0, v1, v2, v3, v4, .slice (some ⟨g2, 0, none⟩) (64 * M) cap2, v6, v7, .pointer (some ⟨gw, 0, none⟩), .int .i64 (64 * (m : Int)), .int .i64 ((k : Int) + 1), u11, v12, v13, v14, v15, v16, v17, v18, v19, v20, v21, v22, v23, v24, v25, v26, v27, v28, v29, v30, v31, v32, v33, v34, v35, v36, v37, v38, v39, v40, v41, v42, v43, v44, v45, v46, v47, v48, v49, v50, v51, v52, v53, v54, v55, v56, v57, v58, v59, v60, u61, u62, u63, u64, u65, u66, u67, u68, u69, u70, u71, u72, u73, u74, u75, u76, u77, u78, u79, u80, u81, u82, u83, u84, u85, u86, u87, u88, u89, u90, u91, u92, u93, u94, u95, u96, u97, u98, u99, v100, v101, v102, v103, v104, v105, v106, v107, v108, v109, v110, v111, v112, v113, v114, v115, v116, v117, v118, v119, v120, v121, v122, v123, v124, v125, v126, v127, v128, v129, v130, v131, v132, v133, v134, v135, v136, v137, v138, v139, v140, v141, v142, v143, v144, v145, v146, v147, v148, v149, v150, v151, v152, v153, v154, v155, v156, v157, v158, v159, v160, v161, v162, v163, v164, v165, v166, v167, v168, v169, v170, v171, v172, v173, v174, v175, v176, v177, v178, v179, v180, v181, v182, v183, v184, v185, v186, v187, v188, v189, v190, v191, v192, v193, v194, v195, v196, v197, v198, v199, v200, v201, v202, v203, v204, v205, v206, v207, v208, v209, v210, v211, v212, v213, v214, v215, v216, v217, v218, v219, v220, v221, v222, v223, v224, v225, v226, v227, v228, v229, v230, v231, v232, v233, v234, v235, v236, v237, v238, v239, v240, v241, v242, v243, v244, v245, v246, v247, v248, v249, v250, v251, v252, v253, v254, v255, v256, v257, v258, v259, v260, v261, v262, v263, v264, v265, v266, v267, v268, v269, v270, v271, v272, v273, v274, v275, v276, v277], []⟩ w') :
    Code.wp Tryd.prog (rb 3) (Exit.then K0 Q0) ⟨#[v0, v1, v2, v3, v4, .slice (some ⟨g2, 0, none⟩) (64 * M) cap2, v6, v7, .pointer (some ⟨gw, 0, none⟩), .int .i64 (64 * (m : Int)), .int .i64 (k : Int), v11, v12, v13, v14, v15, v16, v17, v18, v19, v20, v21, v22, v23, v24, v25, v26, v27, v28, v29, v30, v31, v32, v33, v34, v35, v36, v37, v38, v39, v40, v41, v42, v43, v44, v45, v46, v47, v48, v49, v50, v51, v52, v53, v54, v55, v56, v57, v58, v59, v60, v61, v62, v63, v64, v65, v66, v67, v68, v69, v70, v71, v72, v73, v74, v75, v76, v77, v78, v79, v80, v81, v82, v83, v84, v85, v86, v87, v88, v89, v90, v91, v92, v93, v94, v95, v96, v97, v98, v99, v100, v101, v102, v103, v104, v105, v106, v107, v108, v109, v110, v111, v112, v113, v114, v115, v116, v117, v118, v119, v120, v121, v122, v123, v124, v125, v126, v127, v128, v129, v130, v131, v132, v133, v134, v135, v136, v137, v138, v139, v140, v141, v142, v143, v144, v145, v146, v147, v148, v149, v150, v151, v152, v153, v154, v155, v156, v157, v158, v159, v160, v161, v162, v163, v164, v165, v166, v167, v168, v169, v170, v171, v172, v173, v174, v175, v176, v177, v178, v179, v180, v181, v182, v183, v184, v185, v186, v187, v188, v189, v190, v191, v192, v193, v194, v195, v196, v197, v198, v199, v200, v201, v202, v203, v204, v205, v206, v207, v208, v209, v210, v211, v212, v213, v214, v215, v216, v217, v218, v219, v220, v221, v222, v223, v224, v225, v226, v227, v228, v229, v230, v231, v232, v233, v234, v235, v236, v237, v238, v239, v240, v241, v242, v243, v244, v245, v246, v247, v248, v249, v250, v251, v252, v253, v254, v255, v256, v257, v258, v259, v260, v261, v262, v263, v264, v265, v266, v267, v268, v269, v270, v271, v272, v273, v274, v275, v276, v277], []⟩ wr := by
  conv => arg 2; whnf
  have hq3 : 64 * m + 4 * k + 3 < 64 * M := by omega
  obtain ⟨b0, hb0⟩ : ∃ b, P[64 * m + 4 * k]? = some b := ⟨_, List.getElem?_eq_getElem (by have := oP.len; omega)⟩
  obtain ⟨b1, hb1⟩ : ∃ b, P[64 * m + 4 * k + 1]? = some b := ⟨_, List.getElem?_eq_getElem (by have := oP.len; omega)⟩
  obtain ⟨b2, hb2⟩ : ∃ b, P[64 * m + 4 * k + 2]? = some b := ⟨_, List.getElem?_eq_getElem (by have := oP.len; omega)⟩
  obtain ⟨b3, hb3⟩ : ∃ b, P[64 * m + 4 * k + 3]? = some b := ⟨_, List.getElem?_eq_getElem (by have := oP.len; omega)⟩
  have oW := oP.below hb hgw
  have y0 : wr.cell? ⟨g2, 64 * m + 4 * k , none⟩ = some (.int .u8 (ub b0)) := oW.cell _ _ hb0
  have lo0 := ub_lo b0
  have hi0 := ub_hi b0
  have y1 : wr.cell? ⟨g2, 64 * m + 4 * k + 1, none⟩ = some (.int .u8 (ub b1)) := oW.cell _ _ hb1
  have lo1 := ub_lo b1
  have hi1 := ub_hi b1
  have y2 : wr.cell? ⟨g2, 64 * m + 4 * k + 2, none⟩ = some (.int .u8 (ub b2)) := oW.cell _ _ hb2
  have lo2 := ub_lo b2
  have hi2 := ub_hi b2
  have y3 : wr.cell? ⟨g2, 64 * m + 4 * k + 3, none⟩ = some (.int .u8 (ub b3)) := oW.cell _ _ hb3
  have lo3 := ub_lo b3
  have hi3 := ub_hi b3
  have HW : Hid (word (P.drop (64 * m)) k = be4 b0 b1 b2 b3) := word_at hb0 hb1 hb2 hb3
  clear hb0 hb1 hb2 hb3
  obtain ⟨q, hq⟩ : ∃ q : Nat, q = 64 * m + 4 * k := ⟨_, rfl⟩
  have hqi : 64 * (m : Int) + 4 * (k : Int) = q := by omega
  rw [← hq] at y0 y1 y2 y3 hq3
  have HQ := Lib.hid hq
  clear hq
  go_wp2_with fail
  clear hqi
  have e1 := IntWalk.i64_in ((q : Int) + 1) (by omega)
  have e2 := IntWalk.i64_in ((q : Int) + 2) (by omega)
  have e3 := IntWalk.i64_in ((q : Int) + 3) (by omega)
  have f0 : (q : Int) < 64 * (M : Int) := by omega
  have f1 : (q : Int) + 1 < 64 * (M : Int) := by omega
  have f2 : (q : Int) + 2 < 64 * (M : Int) := by omega
  have f3 : (q : Int) + 3 < 64 * (M : Int) := by omega
  have n1 : 0 ≤ (q : Int) + 1 := by omega
  have n2 : 0 ≤ (q : Int) + 2 := by omega
  have n3 : 0 ≤ (q : Int) + 3 := by omega
  have k64 : (k : Int) < 64 := by omega
  have c1 : ((q : Int) + 1).toNat = q + 1 := by omega
  have c2 : ((q : Int) + 2).toNat = q + 2 := by omega
  have c3 : ((q : Int) + 3).toNat = q + 3 := by omega
  refine region_tail 31 (by kernel_rfl) (by kernel_rfl) ?_
  intro wx hx bx
  have t0 := cell_hid hx y0
  have t1 := cell_hid hx y1
  have t2 := cell_hid hx y2
  have t3 := cell_hid hx y3
  have hLx : Ar wx 101 gw L := hL.kept (heap_hid hx gw)
  have tw := hLx.get k (by have := hl.out; omega)
  have tf := hLx.free k
  clear y0 y1 y2 y3
  simp only [List.take_succ_cons, List.take_zero, List.drop_succ_cons, List.drop_zero]
  iterate 31 still_step
  refine wpStill_nil ?_
  go_wp2_with fail
  refine hK _ _ _ _ _ _ _ _ _ _ _ _ _ _ _ _ _ _ _ _ _ _ _ _ _ _ _ _ _ _ _ _ _ _ _ _ _ _ _ _ (L.set k (be4 b0 b1 b2 b3)) _ ?_ ?_ ?_ ?_
  · have := hLx.set k (be4 b0 b1 b2 b3)
    rw [← or_be4] at this
    exact this
  · unfold Hid; rw [List.length_set]; exact hl.out
  · unfold Hid
    rw [words_snoc, HW.out, ← ht.out]
    exact take_set_snoc _ _ _ (by have := hl.out; omega)
  · exact (hb.trans (bx.mono (by have := hL.lt; omega))).setCell (Nat.le_refl _) _
end Go.Proofs.YtdmnjjknkcnkgaaDoor
namespace Go.Proofs.YtdmnjjknkcnkgaaDoor
open Go.RowKit

set_option maxRecDepth 1000000 in
set_option maxHeartbeats 8000000 in
theorem case5 {v0 v1 v2 v3 v4 v5 v6 v7 v9 v10 v11 v13 v14 v15 v16 v17 v18 v19 v20 v21 v22 v23 v24 v25 v26 v27 v28 v29 v30 v31 v32 v33 v34 v35 v36 v37 v38 v39 v40 v41 v42 v43 v44 v45 v46 v47 v48 v49 v50 v51 v52 v53 v54 v55 v56 v57 v58 v59 v60 v61 v62 v63 v64 v65 v66 v67 v68 v69 v70 v71 v72 v73 v74 v75 v76 v77 v78 v79 v80 v81 v82 v83 v84 v85 v86 v87 v88 v89 v90 v91 v92 v93 v94 v95 v96 v97 v98 v99 v100 v101 v102 v103 v104 v105 v106 v107 v108 v109 v110 v111 v112 v113 v114 v115 v116 v117 v118 v119 v120 v121 v122 v123 v124 v125 v126 v127 v128 v129 v130 v131 v132 v133 v134 v135 v136 v137 v138 v139 v140 v141 v142 v143 v144 v145 v146 v147 v148 v149 v150 v151 v152 v153 v154 v155 v156 v157 v158 v159 v160 v161 v162 v163 v164 v165 v166 v167 v168 v169 v170 v171 v172 v173 v174 v175 v176 v177 v178 v179 v180 v181 v182 v183 v184 v185 v186 v187 v188 v189 v190 v191 v192 v193 v194 v195 v196 v197 v198 v199 v200 v201 v202 v203 v204 v205 v206 v207 v208 v209 v210 v211 v212 v213 v214 v215 v216 v217 v218 v219 v220 v221 v222 v223 v224 v225 v226 v227 v228 v229 v230 v231 v232 v233 v234 v235 v236 v237 v238 v239 v240 v241 v242 v243 v244 v245 v246 v247 v248 v249 v250 v251 v252 v253 v254 v255 v256 v257 v258 v259 v260 v261 v262 v263 v264 v265 v266 v267 v268 v269 v270 v271 v272 v273 v274 v275 v276 v277 : Value} {gw m i : Nat} {P : List UInt8} {L1 : List UInt32} {wo wr : World} {K0 : Act → World → Prop} {Q0 : Exit → Act → World → Prop} (hi1 : 16 ≤ i) (hi3 : i < 64) (hL : Ar wr 101 gw L1) (hl : Hid (L1.length = 64)) (HT : Hid (L1.take i = sched (words (P.drop (64 * m)) 16) (i - 16))) (hb : Below gw wo wr)
    (hK : ∀ (u13 u14 u100 u101 u102 u103 u104 u105 u106 u107 u108 u109 u110 u111 u112 u113 u114 u115 u116 u117 u118 u119 u120 u121 u122 u123 u124 u125 u126 u127 u128 u129 u130 u131 u132 u133 u134 u135 u136 u137 u138 u139 u140 : Value) (L2 : List UInt32) (w' : World), Ar w' 101 gw L2 → Hid (L2.length = 64) → Hid (L2.take (i + 1) = sched (words (P.drop (64 * m)) 16) (i + 1 - 16)) → Below gw wo w' → K0 ⟨#[v0, v1, v2, v3, v4, v5, v6, v7, .pointer (some ⟨gw, 0, none⟩), v9, v10, v11, .int .i64 ((i : Int) + 1), u13, u14, v15, v16, v17, v18, v19, v20, v21, v22, v23, v24, v25, v26, v27, v28, v29, v30, v31, v32, v33, v34, v35, v36, v37, v38, v39, v40, v41, v42, v43, v44, v45, v46, v47, v48, v49, v50, v51, v52, v53, v54, v55, v56, v57, v58, v59, v60, v61, v62, v63, v64, v65, v66, v67, v68, v69, v70, v71, v72, v73, v74, v75, v76, v77, v78, v79, v80, v81, v82, v83, v84, v85, v86, v87, v88, v89, v90, v91, v92, v93, v94, v95, v96, v97, v98, v99, u100, u101, u102, u103, u104, u105, u106, u107, u108, u109, u110, u111, u112, u113, u114, u115, u116, u117, u118, u119, u120, u121, u122, u123, u124, u125, u126, u127, u128, u129, u130, u131, u132, u133, u134, u135, u136, u137, u138, u139, u140, v141, v142, v143, v144, v145, v146, v147, v148, v149, v150, v151, v152, v153, v154, v155, v156, v157, v158, v159, v160, v161, v162, v163, v164, v165, v166, v167, v168, v169, v170, v171, v172, v173, v174, v175, v176, v177, v178, v179, v180, v181, v182, v183, v184, v185, v186, v187, v188, v189, v190, v191, v192, v193, v194, v195, v196, v197, v198, v199, v200, v201, v202, v203, v204, v205, v206, v207, v208, v209, v210, v211, v212, v213, v214, v215, v216, v217, v218, v219, v220, v221, v222, v223, v224, v225, v226, v227, v228, v229, v230, v231, v232, v233, v234, v235, v236, v237, v238, v239, v240, v241, v242, v243, v244, v245, v246, v247, v248, v249, v250, v251, v252, v253, v254, v255, v256, v257, v258, v259, v260, v261, v262, v263, v264, v265, v266, v267, v268, v269, v270, v271, v272, v273, v274, v275, v276, v277], []⟩ w') :
    Code.wp Tryd.prog (rb 4) (Exit.then K0 Q0) ⟨#[v0, v1, v2, v3, v4, v5, v6, v7, .pointer (some ⟨gw, 0, none⟩), v9, v10, v11, .int .i64 (i : Int), v13, v14, v15, v16, v17, v18, v19, v20, v21, v22, v23, v24, v25, v26, v27, v28, v29, v30, v31, v32, v33, v34, v35, v36, v37, v38, v39, v40, v41, v42, v43, v44, v45, v46, v47, v48, v49, v50, v51, v52, v53, v54, v55, v56, v57, v58, v59, v60, v61, v62, v63, v64, v65, v66, v67, v68, v69, v70, v71, v72, v73, v74, v75, v76, v77, v78, v79, v80, v81, v82, v83, v84, v85, v86, v87, v88, v89, v90, v91, v92, v93, v94, v95, v96, v97, v98, v99, v100, v101, v102, v103, v104, v105, v106, v107, v108, v109, v110, v111, v112, v113, v114, v115, v116, v117, v118, v119, v120, v121, v122, v123, v124, v125, v126, v127, v128, v129, v130, v131, v132, v133, v134, v135, v136, v137, v138, v139, v140, v141, v142, v143, v144, v145, v146, v147, v148, v149, v150, v151, v152, v153, v154, v155, v156, v157, v158, v159, v160, v161, v162, v163, v164, v165, v166, v167, v168, v169, v170, v171, v172, v173, v174, v175, v176, v177, v178, v179, v180, v181, v182, v183, v184, v185, v186, v187, v188, v189, v190, v191, v192, v193, v194, v195, v196, v197, v198, v199, v200, v201, v202, v203, v204, v205, v206, v207, v208, v209, v210, v211, v212, v213, v214, v215, v216, v217, v218, v219, v220, v221, v222, v223, v224, v225, v226, v227, v228, v229, v230, v231, v232, v233, v234, v235, v236, v237, v238, v239, v240, v241, v242, v243, v244, v245, v246, v247, v248, v249, v250, v251, v252, v253, v254, v255, v256, v257, v258, v259, v260, v261, v262, v263, v264, v265, v266, v267, v268, v269, v270, v271, v272, v273, v274, v275, v276, v277], []⟩ wr := by
  conv => arg 2; whnf
  have x15 := hL.get (i - 15) (by have := hl.out; omega)
  have x2 := hL.get (i - 2) (by have := hl.out; omega)
  have x7 := hL.get (i - 7) (by have := hl.out; omega)
  have x16 := hL.get (i - 16) (by have := hl.out; omega)
  have HE : Hid (ext L1 i = bs1 (L1.getD (i - 2) 0) + L1.getD (i - 7) 0 + bs0 (L1.getD (i - 15) 0) + L1.getD (i - 16) 0) := rfl
  generalize L1.getD (i - 15) 0 = a15 at x15 HE
  generalize L1.getD (i - 2) 0 = a2 at x2 HE
  generalize L1.getD (i - 7) 0 = a7 at x7 HE
  generalize L1.getD (i - 16) 0 = a16 at x16 HE
  have e15 := IntWalk.i64_in ((i : Int) - 15) (by omega)
  have e2 := IntWalk.i64_in ((i : Int) - 2) (by omega)
  have e7 := IntWalk.i64_in ((i : Int) - 7) (by omega)
  have e16 := IntWalk.i64_in ((i : Int) - 16) (by omega)
  have n15 : 0 ≤ (i : Int) - 15 := by omega
  have n2 : 0 ≤ (i : Int) - 2 := by omega
  have n7 : 0 ≤ (i : Int) - 7 := by omega
  have n16 : 0 ≤ (i : Int) - 16 := by omega
  have m15 : (i : Int) - 15 < 64 := by omega
  have m2 : (i : Int) - 2 < 64 := by omega
  have m7 : (i : Int) - 7 < 64 := by omega
  have m16 : (i : Int) - 16 < 64 := by omega
  have m0 : (i : Int) < 64 := by omega
  have c15 : ((i : Int) - 15).toNat = i - 15 := by omega
  have c2 : ((i : Int) - 2).toNat = i - 2 := by omega
  have c7 : ((i : Int) - 7).toNat = i - 7 := by omega
  have c16 : ((i : Int) - 16).toNat = i - 16 := by omega
  go_wp2_with fail
  go_quiet (fail)
  go_wp2_with fail
  have k7 : 7 ≤ (i : Int) := by omega
  have k16 : 16 ≤ (i : Int) := by omega
  refine region_tail 29 (by kernel_rfl) (by kernel_rfl) ?_
  intro wx hx bx
  have t7 : wx.cell? ⟨gw, i - 7, none⟩ = some (.int .u32 (u a7)) := cell_hid hx x7
  have t16 : wx.cell? ⟨gw, i - 16, none⟩ = some (.int .u32 (u a16)) := cell_hid hx x16
  have hLx : Ar wx 101 gw L1 := hL.kept (heap_hid hx gw)
  have tw := hLx.get i (by have := hl.out; omega)
  have tf := hLx.free i
  have r1 := u_xor
  have r2 := u_add
  have r3 : ∀ x y, IntKind.u32.wrap (u x + u y) = u (x + y) := fun x y => by rw [IntKind.wrap_u32']; exact u_add x y
  have r4 : ∀ x, u x / 1024 = u (sr x 10) := fun x => u_shr x 10
  have r5 : ∀ x, u x / 8 = u (sr x 3) := fun x => u_shr x 3
  have lo := u_lo
  have hi := u_hi
  clear x15 x2 x7 x16
  simp only [List.take_succ_cons, List.take_zero, List.drop_succ_cons, List.drop_zero]
  iterate 29 (first | still_call (rot_still _ _ _ (by omega)) | still_step)
  refine wpStill_nil ?_
  go_wp2_with fail
  refine hK _ _ _ _ _ _ _ _ _ _ _ _ _ _ _ _ _ _ _ _ _ _ _ _ _ _ _ _ _ _ _ _ _ _ _ _ _ _ _ _ _ _ _ (L1.set i (ext L1 i)) _ ?_ ?_ ?_ ?_
  · have := hLx.set i (ext L1 i)
    rw [HE.out] at this ⊢
    exact this
  · unfold Hid; rw [List.length_set]; exact hl.out
  · exact sched_step L1 _ i hi1 (by have := hl.out; omega) HT.out
  · exact (below_drewN hb bx (by have := hL.lt; omega)).setCell (Nat.le_refl _) _
end Go.Proofs.YtdmnjjknkcnkgaaDoor
namespace Go.Proofs.YtdmnjjknkcnkgaaDoor
open Go.RowKit

set_option maxRecDepth 1000000 in
set_option maxHeartbeats 8000000 in
theorem case6 {v0 v1 v2 v4 v5 v6 v7 v9 v10 v11 v12 v13 v14 v17 v18 v19 v20 v21 v22 v23 v24 v25 v26 v27 v28 v29 v30 v31 v32 v33 v34 v35 v36 v37 v38 v39 v40 v41 v42 v43 v44 v45 v46 v47 v48 v49 v50 v51 v52 v53 v54 v55 v56 v57 v58 v59 v60 v61 v62 v63 v64 v65 v66 v67 v68 v69 v70 v71 v72 v73 v74 v75 v76 v77 v78 v79 v80 v81 v82 v83 v84 v85 v86 v87 v88 v89 v90 v91 v92 v93 v94 v95 v96 v97 v98 v99 v100 v101 v102 v103 v104 v105 v106 v107 v108 v109 v110 v111 v112 v113 v114 v115 v116 v117 v118 v119 v120 v121 v122 v123 v124 v125 v126 v127 v128 v129 v130 v131 v132 v133 v134 v135 v136 v137 v138 v139 v140 v141 v142 v143 v144 v145 v146 v147 v148 v149 v150 v151 v152 v153 v154 v155 v156 v157 v158 v159 v160 v161 v162 v163 v164 v165 v166 v167 v168 v169 v170 v171 v172 v173 v174 v175 v176 v177 v178 v179 v180 v181 v182 v183 v184 v185 v186 v187 v188 v189 v190 v191 v192 v193 v194 v195 v196 v197 v198 v199 v200 v201 v202 v203 v204 v205 v206 v207 v208 v209 v210 v211 v212 v213 v214 v215 v216 v217 v218 v219 v220 v221 v222 v223 v224 v225 v226 v227 v228 v229 v230 v231 v232 v233 v234 v235 v236 v237 v238 v239 v240 v241 v242 v243 v244 v245 v246 v247 v248 v249 v250 v251 v252 v253 v254 v255 v256 v257 v258 v259 v260 v261 v262 v263 v264 v265 v266 v267 v268 v269 v270 v271 v272 v273 v274 v275 v276 v277 : Value} {gk gw ga t : Nat} {W : List UInt32} {S : St} {w9 wr : World} {K0 : Act → World → Prop} {Q0 : Exit → Act → World → Prop} (ht64 : t < 64) (k9 : Ar w9 101 gk K64) (L9 : Ar w9 101 gw W) (hgka : gk < ga) (hgwa : gw < ga) (HlW : Hid (W.length = 64)) (hT : Ar wr 103 ga (rounds W S t).l) (bT : Below ga w9 wr)
    (hK : ∀ (u17 u18 u19 u142 u143 u144 u145 u146 u147 u148 u149 u150 u151 u152 u153 u154 u155 u156 u157 u158 u159 u160 u161 u162 u163 u164 u165 u166 u167 u168 u169 u170 u171 u172 u173 u174 u175 u176 u177 u178 u179 u180 u181 u182 u183 u184 u185 u186 u187 u188 u189 u190 u191 u192 u193 u194 u195 u196 u197 u198 u199 u200 u201 u202 u203 u204 u205 u206 u207 u208 u209 u210 u211 u212 u213 u214 u215 u216 u217 u218 u219 u220 u221 u222 u223 u224 u225 u226 : Value) (w' : World), Ar w' 103 ga (rounds W S (t + 1)).l → Below ga w9 w' → K0 ⟨#[v0, v1, v2, .pointer (some ⟨gk, 0, none⟩), v4, v5, v6, v7, .pointer (some ⟨gw, 0, none⟩), v9, v10, v11, v12, v13, v14, .pointer (some ⟨ga, 0, none⟩), .int .i64 ((t : Int) + 1), u17, u18, u19, v20, v21, v22, v23, v24, v25, v26, v27, v28, v29, v30, v31, v32, v33, v34, v35, v36, v37, v38, v39, v40, v41, v42, v43, v44, v45, v46, v47, v48, v49, v50, v51, v52, v53, v54, v55, v56, v57, v58, v59, v60, v61, v62, v63, v64, v65, v66, v67, v68, v69, v70, v71, v72, v73, v74, v75, v76, v77, v78, v79, v80, v81, v82, v83, v84, v85, v86, v87, v88, v89, v90, v91, v92, v93, v94, v95, v96, v97, v98, v99, v100, v101, v102, v103, v104, v105, v106, v107, v108, v109, v110, v111, v112, v113, v114, v115, v116, v117, v118, v119, v120, v121, v122, v123, v124, v125, v126, v127, v128, v129, v130, v131, v132, v133, v134, v135, v136, v137, v138, v139, v140, v141, u142, u143, u144, u145, u146, u147, u148, u149, u150, u151, u152, u153, u154, u155, u156, u157, u158, u159, u160, u161, u162, u163, u164, u165, u166, u167, u168, u169, u170, u171, u172, u173, u174, u175, u176, u177, u178, u179, u180, u181, u182, u183, u184, u185, u186, u187, u188, u189, u190, u191, u192, u193, u194, u195, u196, u197, u198, u199, u200, u201, u202, u203, u204, u205, u206, u207, u208, u209, u210, u211, u212, u213, u214, u215, u216, u217, u218, u219, u220, u221, u222, u223, u224, u225, u226, v227, v228, v229, v230, v231, v232, v233, v234, v235, v236, v237, v238, v239, v240, v241, v242, v243, v244, v245, v246, v247, v248, v249, v250, v251, v252, v253, v254, v255, v256, v257, v258, v259, v260, v261, v262, v263, v264, v265, v266, v267, v268, v269, v270, v271, v272, v273, v274, v275, v276, v277], []⟩ w') :
    Code.wp Tryd.prog (rb 5) (Exit.then K0 Q0) ⟨#[v0, v1, v2, .pointer (some ⟨gk, 0, none⟩), v4, v5, v6, v7, .pointer (some ⟨gw, 0, none⟩), v9, v10, v11, v12, v13, v14, .pointer (some ⟨ga, 0, none⟩), .int .i64 (t : Int), v17, v18, v19, v20, v21, v22, v23, v24, v25, v26, v27, v28, v29, v30, v31, v32, v33, v34, v35, v36, v37, v38, v39, v40, v41, v42, v43, v44, v45, v46, v47, v48, v49, v50, v51, v52, v53, v54, v55, v56, v57, v58, v59, v60, v61, v62, v63, v64, v65, v66, v67, v68, v69, v70, v71, v72, v73, v74, v75, v76, v77, v78, v79, v80, v81, v82, v83, v84, v85, v86, v87, v88, v89, v90, v91, v92, v93, v94, v95, v96, v97, v98, v99, v100, v101, v102, v103, v104, v105, v106, v107, v108, v109, v110, v111, v112, v113, v114, v115, v116, v117, v118, v119, v120, v121, v122, v123, v124, v125, v126, v127, v128, v129, v130, v131, v132, v133, v134, v135, v136, v137, v138, v139, v140, v141, v142, v143, v144, v145, v146, v147, v148, v149, v150, v151, v152, v153, v154, v155, v156, v157, v158, v159, v160, v161, v162, v163, v164, v165, v166, v167, v168, v169, v170, v171, v172, v173, v174, v175, v176, v177, v178, v179, v180, v181, v182, v183, v184, v185, v186, v187, v188, v189, v190, v191, v192, v193, v194, v195, v196, v197, v198, v199, v200, v201, v202, v203, v204, v205, v206, v207, v208, v209, v210, v211, v212, v213, v214, v215, v216, v217, v218, v219, v220, v221, v222, v223, v224, v225, v226, v227, v228, v229, v230, v231, v232, v233, v234, v235, v236, v237, v238, v239, v240, v241, v242, v243, v244, v245, v246, v247, v248, v249, v250, v251, v252, v253, v254, v255, v256, v257, v258, v259, v260, v261, v262, v263, v264, v265, v266, v267, v268, v269, v270, v271, v272, v273, v274, v275, v276, v277], []⟩ wr := by
  conv => arg 2; whnf
  have HN : Hid (rounds W S (t + 1) = (rounds W S t).step (kk t) (W.getD t 0)) := rfl
  generalize rounds W S t = T at hT HN
  have z0 := hT.cell 0 T.a rfl
  have z1 := hT.cell 1 T.b rfl
  have z2 := hT.cell 2 T.c rfl
  have z3 := hT.cell 3 T.d rfl
  have z4 := hT.cell 4 T.e rfl
  have z5 := hT.cell 5 T.f rfl
  have z6 := hT.cell 6 T.g rfl
  have z7 := hT.cell 7 T.h rfl
  have kt : wr.cell? ⟨gk, t, none⟩ = some (.int .u32 (u (kk t))) := (k9.kept (bT.block gk hgka)).get t (by rw [K64_length]; exact ht64)
  have wt : wr.cell? ⟨gw, t, none⟩ = some (.int .u32 (u (W.getD t 0))) := (L9.kept (bT.block gw hgwa)).get t (by rw [HlW.out]; exact ht64)
  generalize kk t = kt0 at kt HN
  generalize W.getD t 0 = wt0 at wt HN
  have t64 : (t : Int) < 64 := by omega
  have r1 := u_xor
  have r2 := u_wrap
  have r3 := u_and
  have r4 := u_inv
  have r5 := u_add
  have lo := u_lo
  have hi := u_hi
  go_wp2_with fail
  refine region_all (by kernel_rfl) (by kernel_rfl) ?_
  intro wx hx bx
  have hTx : Ar wx 103 ga T.l := hT.kept (heap_hid hx ga)
  replace z5 := cell_hid hx z5
  replace z6 := cell_hid hx z6
  replace z7 := cell_hid hx z7
  replace kt := cell_hid hx kt
  replace wt := cell_hid hx wt
  iterate 31 (first | still_call (rot_still _ _ _ (by omega)) | still_step)
  refine wpStill_nil ?_
  clear z0 z1 z2 z3 z4 z5 z6 z7 kt wt
  have z0 := hTx.cell 0 T.a rfl
  have z1 := hTx.cell 1 T.b rfl
  have z2 := hTx.cell 2 T.c rfl
  go_wp2_with fail
  refine region_all (by kernel_rfl) (by kernel_rfl) ?_
  intro wy hy by_
  have hTy : Ar wy 103 ga T.l := hTx.kept (heap_hid hy ga)
  replace z0 := cell_hid hy z0
  replace z1 := cell_hid hy z1
  replace z2 := cell_hid hy z2
  iterate 30 (first | still_call (rot_still _ _ _ (by omega)) | still_step)
  refine wpStill_nil ?_
  have z3 := hTy.cell 3 T.d rfl
  have z4 := hTy.cell 4 T.e rfl
  have z5 := hTy.cell 5 T.f rfl
  have z6 := hTy.cell 6 T.g rfl
  go_wp2_with ((with_reducible refine wpList_store_ar rfl 103 _ _ rfl _ _ (T.step kt0 wt0).l ?_ ?_ _ hTy 8 size8 T.l_length (St.l_length _) ?_); (rfl); (rfl); (intro wz hz bz))
  have hTw : ga ≤ wr.heap.size := by have := hT.lt; omega
  have hTxw : ga ≤ wx.heap.size := by have := hTx.lt; omega
  have hTyw : ga ≤ wy.heap.size := by have := hTy.lt; omega
  refine hK _ _ _ _ _ _ _ _ _ _ _ _ _ _ _ _ _ _ _ _ _ _ _ _ _ _ _ _ _ _ _ _ _ _ _ _ _ _ _ _ _ _ _ _ _ _ _ _ _ _ _ _ _ _ _ _ _ _ _ _ _ _ _ _ _ _ _ _ _ _ _ _ _ _ _ _ _ _ _ _ _ _ _ _ _ _ _ _ _ ?_ ?_
  · rw [HN.out]; exact hz
  · exact ((bT.trans (bx.mono hTw)).trans (by_.mono hTxw)).grown bz hTyw (fun k h => by cases h; exact Nat.le_refl _)
end Go.Proofs.YtdmnjjknkcnkgaaDoor
namespace Go.Proofs.YtdmnjjknkcnkgaaDoor
open Go.RowKit

set_option maxRecDepth 1000000 in
set_option maxHeartbeats 8000000 in
theorem case7 {v0 v1 v2 v3 v5 v6 v7 v8 v9 v10 v11 v12 v13 v14 v16 v17 v18 v19 v21 v22 v23 v24 v25 v26 v27 v28 v29 v30 v31 v32 v33 v34 v35 v36 v37 v38 v39 v40 v41 v42 v43 v44 v45 v46 v47 v48 v49 v50 v51 v52 v53 v54 v55 v56 v57 v58 v59 v60 v61 v62 v63 v64 v65 v66 v67 v68 v69 v70 v71 v72 v73 v74 v75 v76 v77 v78 v79 v80 v81 v82 v83 v84 v85 v86 v87 v88 v89 v90 v91 v92 v93 v94 v95 v96 v97 v98 v99 v100 v101 v102 v103 v104 v105 v106 v107 v108 v109 v110 v111 v112 v113 v114 v115 v116 v117 v118 v119 v120 v121 v122 v123 v124 v125 v126 v127 v128 v129 v130 v131 v132 v133 v134 v135 v136 v137 v138 v139 v140 v141 v142 v143 v144 v145 v146 v147 v148 v149 v150 v151 v152 v153 v154 v155 v156 v157 v158 v159 v160 v161 v162 v163 v164 v165 v166 v167 v168 v169 v170 v171 v172 v173 v174 v175 v176 v177 v178 v179 v180 v181 v182 v183 v184 v185 v186 v187 v188 v189 v190 v191 v192 v193 v194 v195 v196 v197 v198 v199 v200 v201 v202 v203 v204 v205 v206 v207 v208 v209 v210 v211 v212 v213 v214 v215 v216 v217 v218 v219 v220 v221 v222 v223 v224 v225 v226 v227 v228 v229 v230 v231 v232 v233 v234 v235 v236 v237 v238 v239 v240 v241 v242 v243 v244 v245 v246 v247 v248 v249 v250 v251 v252 v253 v254 v255 v256 v257 v258 v259 v260 v261 v262 v263 v264 v265 v266 v267 v268 v269 v270 v271 v272 v273 v274 v275 v276 v277 : Value} {gs ga t : Nat} {S T : St} {wx wr : World} {K0 : Act → World → Prop} {Q0 : Exit → Act → World → Prop} (ht8 : t < 8) (hgsa : gs ≠ ga) (hA : Ar wr 103 gs (sums S T t)) (hT : Ar wr 103 ga T.l) (gT : wx.grownBy wr (some gs))
    (hK : ∀ (u227 u228 u229 u230 u231 u232 u233 u234 u235 u236 u237 u238 : Value) (w' : World), Ar w' 103 gs (sums S T (t + 1)) → Ar w' 103 ga T.l → wx.grownBy w' (some gs) → K0 ⟨#[v0, v1, v2, v3, .pointer (some ⟨gs, 0, none⟩), v5, v6, v7, v8, v9, v10, v11, v12, v13, v14, .pointer (some ⟨ga, 0, none⟩), v16, v17, v18, v19, .int .i64 ((t : Int) + 1), v21, v22, v23, v24, v25, v26, v27, v28, v29, v30, v31, v32, v33, v34, v35, v36, v37, v38, v39, v40, v41, v42, v43, v44, v45, v46, v47, v48, v49, v50, v51, v52, v53, v54, v55, v56, v57, v58, v59, v60, v61, v62, v63, v64, v65, v66, v67, v68, v69, v70, v71, v72, v73, v74, v75, v76, v77, v78, v79, v80, v81, v82, v83, v84, v85, v86, v87, v88, v89, v90, v91, v92, v93, v94, v95, v96, v97, v98, v99, v100, v101, v102, v103, v104, v105, v106, v107, v108, v109, v110, v111, v112, v113, v114, v115, v116, v117, v118, v119, v120, v121, v122, v123, v124, v125, v126, v127, v128, v129, v130, v131, v132, v133, v134, v135, v136, v137, v138, v139, v140, v141, v142, v143, v144, v145, v146, v147, v148, v149, v150, v151, v152, v153, v154, v155, v156, v157, v158, v159, v160, v161, v162, v163, v164, v165, v166, v167, v168, v169, v170, v171, v172, v173, v174, v175, v176, v177, v178, v179, v180, v181, v182, v183, v184, v185, v186, v187, v188, v189, v190, v191, v192, v193, v194, v195, v196, v197, v198, v199, v200, v201, v202, v203, v204, v205, v206, v207, v208, v209, v210, v211, v212, v213, v214, v215, v216, v217, v218, v219, v220, v221, v222, v223, v224, v225, v226, u227, u228, u229, u230, u231, u232, u233, u234, u235, u236, u237, u238, v239, v240, v241, v242, v243, v244, v245, v246, v247, v248, v249, v250, v251, v252, v253, v254, v255, v256, v257, v258, v259, v260, v261, v262, v263, v264, v265, v266, v267, v268, v269, v270, v271, v272, v273, v274, v275, v276, v277], []⟩ w') :
    Code.wp Tryd.prog (rb 6) (Exit.then K0 Q0) ⟨#[v0, v1, v2, v3, .pointer (some ⟨gs, 0, none⟩), v5, v6, v7, v8, v9, v10, v11, v12, v13, v14, .pointer (some ⟨ga, 0, none⟩), v16, v17, v18, v19, .int .i64 (t : Int), v21, v22, v23, v24, v25, v26, v27, v28, v29, v30, v31, v32, v33, v34, v35, v36, v37, v38, v39, v40, v41, v42, v43, v44, v45, v46, v47, v48, v49, v50, v51, v52, v53, v54, v55, v56, v57, v58, v59, v60, v61, v62, v63, v64, v65, v66, v67, v68, v69, v70, v71, v72, v73, v74, v75, v76, v77, v78, v79, v80, v81, v82, v83, v84, v85, v86, v87, v88, v89, v90, v91, v92, v93, v94, v95, v96, v97, v98, v99, v100, v101, v102, v103, v104, v105, v106, v107, v108, v109, v110, v111, v112, v113, v114, v115, v116, v117, v118, v119, v120, v121, v122, v123, v124, v125, v126, v127, v128, v129, v130, v131, v132, v133, v134, v135, v136, v137, v138, v139, v140, v141, v142, v143, v144, v145, v146, v147, v148, v149, v150, v151, v152, v153, v154, v155, v156, v157, v158, v159, v160, v161, v162, v163, v164, v165, v166, v167, v168, v169, v170, v171, v172, v173, v174, v175, v176, v177, v178, v179, v180, v181, v182, v183, v184, v185, v186, v187, v188, v189, v190, v191, v192, v193, v194, v195, v196, v197, v198, v199, v200, v201, v202, v203, v204, v205, v206, v207, v208, v209, v210, v211, v212, v213, v214, v215, v216, v217, v218, v219, v220, v221, v222, v223, v224, v225, v226, v227, v228, v229, v230, v231, v232, v233, v234, v235, v236, v237, v238, v239, v240, v241, v242, v243, v244, v245, v246, v247, v248, v249, v250, v251, v252, v253, v254, v255, v256, v257, v258, v259, v260, v261, v262, v263, v264, v265, v266, v267, v268, v269, v270, v271, v272, v273, v274, v275, v276, v277], []⟩ wr := by
  conv => arg 2; whnf
  have za : wr.cell? ⟨gs, t, none⟩ = some (.int .u32 (u (S.l.getD t 0))) := by
    have := hA.get t (by rw [sums_length]; exact ht8)
    rwa [sums_get S T t ht8] at this
  have zb : wr.cell? ⟨ga, t, none⟩ = some (.int .u32 (u (T.l.getD t 0))) := hT.get t ht8
  have HA : Hid (sums S T (t + 1) = (sums S T t).set t (S.l.getD t 0 + T.l.getD t 0)) := rfl
  generalize S.l.getD t 0 = sa at za HA
  generalize T.l.getD t 0 = ta at zb HA
  have t8 : (t : Int) < 8 := by omega
  have r2 := u_wrap
  have r5 := u_add
  have lo := u_lo
  have hi := u_hi
  go_wp2_with fail
  refine region_tail 8 (by kernel_rfl) (by kernel_rfl) ?_
  intro wy hy by_
  have hAy : Ar wy 103 gs (sums S T t) := hA.kept (heap_hid hy gs)
  have hTy : Ar wy 103 ga T.l := hT.kept (heap_hid hy ga)
  have tf := hAy.free t
  replace za := cell_hid hy za
  replace zb := cell_hid hy zb
  simp only [List.take_succ_cons, List.take_zero, List.drop_succ_cons, List.drop_zero]
  iterate 8 still_step
  refine wpStill_nil ?_
  go_wp2_with fail
  refine hK _ _ _ _ _ _ _ _ _ _ _ _ _ ?_ ?_ ?_
  · rw [HA.out]; exact hAy.set t (sa + ta)
  · exact hTy.other _ _ (fun e => hgsa e.symm)
  · exact grown_set (grown_row gT by_)
end Go.Proofs.YtdmnjjknkcnkgaaDoor
namespace Go.Proofs.YtdmnjjknkcnkgaaDoor
open Go.RowKit

set_option maxRecDepth 1000000 in
set_option maxHeartbeats 8000000 in
theorem case8 {v0 v1 v2 v3 v5 v6 v7 v8 v9 v10 v11 v12 v13 v14 v15 v16 v17 v18 v19 v20 v23 v24 v25 v26 v27 v28 v29 v30 v31 v32 v33 v34 v35 v36 v37 v38 v39 v40 v41 v42 v43 v44 v45 v46 v47 v48 v49 v50 v51 v52 v53 v54 v55 v56 v57 v58 v59 v60 v61 v62 v63 v64 v65 v66 v67 v68 v69 v70 v71 v72 v73 v74 v75 v76 v77 v78 v79 v80 v81 v82 v83 v84 v85 v86 v87 v88 v89 v90 v91 v92 v93 v94 v95 v96 v97 v98 v99 v100 v101 v102 v103 v104 v105 v106 v107 v108 v109 v110 v111 v112 v113 v114 v115 v116 v117 v118 v119 v120 v121 v122 v123 v124 v125 v126 v127 v128 v129 v130 v131 v132 v133 v134 v135 v136 v137 v138 v139 v140 v141 v142 v143 v144 v145 v146 v147 v148 v149 v150 v151 v152 v153 v154 v155 v156 v157 v158 v159 v160 v161 v162 v163 v164 v165 v166 v167 v168 v169 v170 v171 v172 v173 v174 v175 v176 v177 v178 v179 v180 v181 v182 v183 v184 v185 v186 v187 v188 v189 v190 v191 v192 v193 v194 v195 v196 v197 v198 v199 v200 v201 v202 v203 v204 v205 v206 v207 v208 v209 v210 v211 v212 v213 v214 v215 v216 v217 v218 v219 v220 v221 v222 v223 v224 v225 v226 v227 v228 v229 v230 v231 v232 v233 v234 v235 v236 v237 v238 v239 v240 v241 v242 v243 v244 v245 v246 v247 v248 v249 v250 v251 v252 v253 v254 v255 v256 v257 v258 v259 v260 v261 v262 v263 v264 v265 v266 v267 v268 v269 v270 v271 v272 v273 v274 v275 v276 v277 : Value} {gs go t : Nat} {S : St} {wa wr : World} {K0 : Act → World → Prop} {Q0 : Exit → Act → World → Prop} (ht8 : t < 8) (hgo : gs < go) (Sa : Ar wa 103 gs S.l) (hA : Ab wr 47 go (outs S t)) (bA : Below go wa wr)
    (hK : ∀ (u239 u240 u241 u242 u243 u244 u245 u246 u247 u248 u249 u250 u251 u252 u253 u254 u255 u256 u257 u258 u259 u260 u261 u262 u263 u264 u265 u266 u267 u268 u269 u270 u271 u272 u273 u274 u275 u276 : Value) (w' : World), Ab w' 47 go (outs S (t + 1)) → Below go wa w' → K0 ⟨#[v0, v1, v2, v3, .pointer (some ⟨gs, 0, none⟩), v5, v6, v7, v8, v9, v10, v11, v12, v13, v14, v15, v16, v17, v18, v19, v20, .pointer (some ⟨go, 0, none⟩), .int .i64 ((t : Int) + 1), v23, v24, v25, v26, v27, v28, v29, v30, v31, v32, v33, v34, v35, v36, v37, v38, v39, v40, v41, v42, v43, v44, v45, v46, v47, v48, v49, v50, v51, v52, v53, v54, v55, v56, v57, v58, v59, v60, v61, v62, v63, v64, v65, v66, v67, v68, v69, v70, v71, v72, v73, v74, v75, v76, v77, v78, v79, v80, v81, v82, v83, v84, v85, v86, v87, v88, v89, v90, v91, v92, v93, v94, v95, v96, v97, v98, v99, v100, v101, v102, v103, v104, v105, v106, v107, v108, v109, v110, v111, v112, v113, v114, v115, v116, v117, v118, v119, v120, v121, v122, v123, v124, v125, v126, v127, v128, v129, v130, v131, v132, v133, v134, v135, v136, v137, v138, v139, v140, v141, v142, v143, v144, v145, v146, v147, v148, v149, v150, v151, v152, v153, v154, v155, v156, v157, v158, v159, v160, v161, v162, v163, v164, v165, v166, v167, v168, v169, v170, v171, v172, v173, v174, v175, v176, v177, v178, v179, v180, v181, v182, v183, v184, v185, v186, v187, v188, v189, v190, v191, v192, v193, v194, v195, v196, v197, v198, v199, v200, v201, v202, v203, v204, v205, v206, v207, v208, v209, v210, v211, v212, v213, v214, v215, v216, v217, v218, v219, v220, v221, v222, v223, v224, v225, v226, v227, v228, v229, v230, v231, v232, v233, v234, v235, v236, v237, v238, u239, u240, u241, u242, u243, u244, u245, u246, u247, u248, u249, u250, u251, u252, u253, u254, u255, u256, u257, u258, u259, u260, u261, u262, u263, u264, u265, u266, u267, u268, u269, u270, u271, u272, u273, u274, u275, u276, v277], []⟩ w') :
    Code.wp Tryd.prog (rb 7) (Exit.then K0 Q0) ⟨#[v0, v1, v2, v3, .pointer (some ⟨gs, 0, none⟩), v5, v6, v7, v8, v9, v10, v11, v12, v13, v14, v15, v16, v17, v18, v19, v20, .pointer (some ⟨go, 0, none⟩), .int .i64 (t : Int), v23, v24, v25, v26, v27, v28, v29, v30, v31, v32, v33, v34, v35, v36, v37, v38, v39, v40, v41, v42, v43, v44, v45, v46, v47, v48, v49, v50, v51, v52, v53, v54, v55, v56, v57, v58, v59, v60, v61, v62, v63, v64, v65, v66, v67, v68, v69, v70, v71, v72, v73, v74, v75, v76, v77, v78, v79, v80, v81, v82, v83, v84, v85, v86, v87, v88, v89, v90, v91, v92, v93, v94, v95, v96, v97, v98, v99, v100, v101, v102, v103, v104, v105, v106, v107, v108, v109, v110, v111, v112, v113, v114, v115, v116, v117, v118, v119, v120, v121, v122, v123, v124, v125, v126, v127, v128, v129, v130, v131, v132, v133, v134, v135, v136, v137, v138, v139, v140, v141, v142, v143, v144, v145, v146, v147, v148, v149, v150, v151, v152, v153, v154, v155, v156, v157, v158, v159, v160, v161, v162, v163, v164, v165, v166, v167, v168, v169, v170, v171, v172, v173, v174, v175, v176, v177, v178, v179, v180, v181, v182, v183, v184, v185, v186, v187, v188, v189, v190, v191, v192, v193, v194, v195, v196, v197, v198, v199, v200, v201, v202, v203, v204, v205, v206, v207, v208, v209, v210, v211, v212, v213, v214, v215, v216, v217, v218, v219, v220, v221, v222, v223, v224, v225, v226, v227, v228, v229, v230, v231, v232, v233, v234, v235, v236, v237, v238, v239, v240, v241, v242, v243, v244, v245, v246, v247, v248, v249, v250, v251, v252, v253, v254, v255, v256, v257, v258, v259, v260, v261, v262, v263, v264, v265, v266, v267, v268, v269, v270, v271, v272, v273, v274, v275, v276, v277], []⟩ wr := by
  conv => arg 2; whnf
  have za : wr.cell? ⟨gs, t, none⟩ = some (.int .u32 (u (S.l.getD t 0))) := (Sa.kept (bA.block gs hgo)).get t ht8
  have HO : Hid (outs S (t + 1) = ((((outs S t).set (4 * t) (byt (S.l.getD t 0) 3)).set (4 * t + 1) (byt (S.l.getD t 0) 2)).set (4 * t + 2) (byt (S.l.getD t 0) 1)).set (4 * t + 3) (byt (S.l.getD t 0) 0)) := rfl
  generalize S.l.getD t 0 = sa at za HO
  have t8 : (t : Int) < 8 := by omega
  have e0 := IntWalk.i64_in (4 * (t : Int)) (by omega)
  have e1 := IntWalk.i64_in (4 * (t : Int) + 1) (by omega)
  have e2 := IntWalk.i64_in (4 * (t : Int) + 2) (by omega)
  have e3 := IntWalk.i64_in (4 * (t : Int) + 3) (by omega)
  have n0' : 0 ≤ 4 * (t : Int) := by omega
  have n1 : 0 ≤ 4 * (t : Int) + 1 := by omega
  have n2 : 0 ≤ 4 * (t : Int) + 2 := by omega
  have n3 : 0 ≤ 4 * (t : Int) + 3 := by omega
  have m0 : 4 * (t : Int) < 32 := by omega
  have m1 : 4 * (t : Int) + 1 < 32 := by omega
  have m2 : 4 * (t : Int) + 2 < 32 := by omega
  have m3 : 4 * (t : Int) + 3 < 32 := by omega
  have f0 : (4 * (t : Int)).toNat = 4 * t := by omega
  have f1 : (4 * (t : Int) + 1).toNat = 4 * t + 1 := by omega
  have f2 : (4 * (t : Int) + 2).toNat = 4 * t + 2 := by omega
  have f3 : (4 * (t : Int) + 3).toNat = 4 * t + 3 := by omega
  have r0 := u8_byte0
  have r1 := u8_byte1
  have r2 := u8_byte2
  have r3 := u8_byte3
  have s0 := u_byte0
  have s1 := u_byte1
  have s2 := u_byte2
  have s3 := u_byte3
  have r4 := ub_wrap
  have r5 := ub_mod
  have hfar := far_cell (show gs ≠ go by omega)
  have lo := u_lo
  have hi := u_hi
  go_wp2_with fail
  have c0 := hA.cell (4 * t) (by rw [outs_length]; omega)
  have c1 := hA.cell (4 * t + 1) (by rw [outs_length]; omega)
  have c2 := hA.cell (4 * t + 2) (by rw [outs_length]; omega)
  have c3 := hA.cell (4 * t + 3) (by rw [outs_length]; omega)
  have z0 := hA.free (4 * t)
  have z1 := hA.free (4 * t + 1)
  have z2 := hA.free (4 * t + 2)
  have z3 := hA.free (4 * t + 3)
  go_region_held3 (fun w' => w'.cell? ⟨gs, t, none⟩ = some (.int .u32 (u sa))) (first | go_keep | (simp only [World.cell?_drew, hfar]; assumption)) (fail)
  go_wp2_with fail
  refine hK _ _ _ _ _ _ _ _ _ _ _ _ _ _ _ _ _ _ _ _ _ _ _ _ _ _ _ _ _ _ _ _ _ _ _ _ _ _ _ ?_ ?_
  · rw [HO.out]; exact ((((hA.set _ _).set _ _).set _ _).set _ _).drew
  · exact ((((bA.setCell (Nat.le_refl _) _).setCell (Nat.le_refl _) _).setCell (Nat.le_refl _) _).setCell (Nat.le_refl _) _).drew
end Go.Proofs.YtdmnjjknkcnkgaaDoor
