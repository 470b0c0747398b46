/-
  ledger: Digest (by gen_lgv.py).
-/
import Derived.Test.YtdmnjjknkcnkgaaDoorLgU
namespace Go.Proofs.YtdmnjjknkcnkgaaDoor
open Go.RowKit
set_option linter.unusedSimpArgs false
theorem results_ct {P : Program} {fn : Func} {p t : Tmp} {ty : TypeId} (h : fn.results = #[.cell p ty, .tmp t]) (tmps : Array Value) (w : World) (g : Nat) (t0 : TypeId) (cs : Array Value) (fr : Nat × Nat) (d : TypeDesc)
    (hp : tmps.getD p undef = .pointer (some ⟨g, 0, none⟩)) (hg : w.heap[g]? = some (.cells cs t0 fr))
    (hu : P.underlying ty = some d) (hd : (match d with | .struct _ | .array _ _ => true | _ => false) = true) (hi : (P.info? ty).map (·.size) = some cs.size) (v : Value) (ht : tmps.getD t undef = v) :
    (results fn tmps).run P w = .ok (.tuple #[.agg cs, v]) w := by
  have hp' : tmps[p]?.getD undef = .pointer (some ⟨g, 0, none⟩) := by simpa using hp
  have ht' : tmps[t]?.getD undef = v := by simpa using ht
  simp [results, h, hp', ht', asAddr, run_loadVar_row w g t0 ty cs fr d hg hu hd hi]
theorem built_dig0 : Tryd.prog.built 52 [] = some (Value.int .i64 0 :: bcs (List.replicate 32 0)).toArray := by kernel_rfl
/-- The digest's cells, its code. -/
def dgN (bl : List Blk) : Int := match bl.getLast? with
  | some b => b.n
  | none => 0
def dgC (bl : List Blk) : Array Value := (Value.int .i64 (dgN bl) :: bcs (hLast bl)).toArray
theorem dgC_len (bl : List Blk) : (dgC bl).size = 33 := by simp [dgC, bcs_length, hLast_len]
theorem dgC_one (bl : List Blk) : (dgC bl).all (·.oneCell') = true := by
  refine Array.all_eq_true_iff_forall_mem.2 fun v hv => ?_
  rcases List.mem_cons.1 (by simpa [dgC] using hv) with rfl | hv
  · rfl
  · exact bcs_1cell _ v hv
theorem dig_agg (w : World) : (isAgg 79).run Tryd.prog w = .ok true w := by kernel_rfl
theorem wp_store_blkU {P : Program} {w : World} {ops : Array Oper} {rest : List Oper} {o : Oper} {a : Act} {Q : Exit → Act → World → Prop} (hgd : o.guard = none) (ty : TypeId) (x y : Operand) (ho : o.op = .store ty x y)
    (g : Nat) (old cs : Array Value) (hx : a.eval x = .pointer (some ⟨g, 0, none⟩)) (hy : a.eval y = .agg cs) (t : TypeId) (hg : Bk w g old t) (N : Nat) (hi : (P.info? ty).map (·.size) = some N) (hl : old.size = N) (hm : cs.size = N) (h1 : cs.all (·.oneCell') = true)
    (hK : ∀ w', Bk w' g cs t → w.grownBy w' (some g) → wpList P ops Q rest (a.put o.dst undef) w') : wpList P ops Q (o :: rest) a w :=
  wpList_store_blk hgd ty x y ho g old cs hx hy t (Lib.hid hg) N hi hl hm h1 fun w' h => hK w' h.out
/-- A block of a row, as it lies. -/
theorem blk_in {w : World} {ba : Option Addr} {bn bc : Nat} {bl : List Blk} (h : IsR EBk w ba bn bc bl) {i : Nat} {b : Blk} (hb : bl[i]? = some b) : ∃ g off, ba = some ⟨g, off, none⟩ ∧ g < w.heap.size ∧ ∀ j v, b.cs[j]? = some v → w.cell? ((⟨g, off + i * 66, none⟩ : Addr).add j) = some v := by
  have hl := h.len
  have hi := (List.getElem?_eq_some_iff.1 hb).1
  obtain ⟨g, off, rfl, hg, hc⟩ := h.open (by omega) (by decide)
  refine ⟨g, off, rfl, hg, fun j v hv => ?_⟩
  have hj : j < 66 := by have := (List.getElem?_eq_some_iff.1 hv).1; rw [b.cs_len] at this; exact this
  rw [Addr.add_lit, Nat.add_assoc]
  refine hc _ v ?_
  exact (EBk.all_get bl i j b hb hj).trans hv
/-- What stands while the region's operations come up. -/
inductive LDig4 (B : Nat) (q : Nat) (r : Nat) (bN : Int) (CS : Array Value) (HA : Array Value) (DA : Array Value) (DZ : Array Value) (a0 : Act) (w0 : World) (L : Array Bool) (a : Act) (w : World) : Prop
  | mk (b0 b1 b2 b3 b4 b5 b6 : Bool) (x18 x19 x20 x21 x22 x3 : Value) (hL : L = #[b0, b1, b2, b3, b4, b5, b6]) (ha : a = ⟨((((((a0.tmps.setIfInBounds 18 x18).setIfInBounds 19 x19).setIfInBounds 20 x20).setIfInBounds 21 x21).setIfInBounds 22 x22).setIfInBounds 3 x3), a0.defers⟩) (hb : Below B w0 w) (cd0 : Hid (b0 = true → x18 = .pointer (some ⟨r, 0, none⟩))) (cd1 : Hid (b1 = true → x19 = .int .i64 bN)) (cd2 : Hid (b2 = true → x20 = .agg CS)) (cd3 : Hid (b3 = true → x21 = .agg HA)) (cd4 : Hid (b4 = true → x22 = .agg DA)) (cd6 : Hid (b6 = true → x3 = .int .i64 0)) (f_r : Hid (Bk w r CS 79)) (f_z : Hid (b5 = false → Bk w q DZ 52)) (f_s : Hid (b5 = true → Bk w q DA 52)) : LDig4 B q r bN CS HA DA DZ a0 w0 L a w
theorem wp_build_at {P : Program} {o : Oper} {a : Act} {w : World} {K : Act → World → Prop} {Q : Exit → Act → World → Prop} (t : TypeId) (parts : Array (Nat × Operand)) (ho : o.op = .build t parts) (V : Array Value) (hf : P.built t (parts.map fun (i, x) => (i, a.eval x)).toList = some V) (h : K (a.put o.dst (.agg V)) w) : o.wp P a w K Q :=
  wp_build t parts ho (by rw [hf]; rfl) (by rw [hf]; exact h)
set_option maxRecDepth 100000 in
set_option maxHeartbeats 1600000 in
theorem digest_any (w : World) (hC : RC w) (next : Int) (oa : Option Addr) (on oc : Nat) (ba : Option Addr) (bn bc : Nat) (ta : Option Addr) (tn tc : Nat) (bl : List Blk) (h : IsR EBk w ba bn bc bl) (hn : bn ≤ 1000) :
    Calls Tryd.prog 13 #[.agg #[.int .i64 next, .slice oa on oc, .slice ba bn bc, .slice ta tn tc]] w fun e w' => e = .returned (.tuple #[.agg (dgC bl), .int .i64 (if bn = 0 then 2 else 0)]) ∧ Below w.heap.size w w' := by
  have hln := h.len
  have B0 : Below w.heap.size w (w.alloc (.cells #[.int .i64 next, .slice oa on oc, .slice ba bn bc, .slice ta tn tc] 29)) := (Below.refl _ _).alloc (Nat.le_refl _) _
  have hP0 : Bk (w.alloc (.cells #[.int .i64 next, .slice oa on oc, .slice ba bn bc, .slice ta tn tc] 29)) w.heap.size #[.int .i64 next, .slice oa on oc, .slice ba bn bc, .slice ta tn tc] 29 := Bk.new w _ _
  obtain ⟨DA, hDA⟩ : ∃ d, dgC bl = d := ⟨_, rfl⟩
  have HD0 : Hid (DA.size = 33) := Lib.hid (by rw [← hDA]; exact dgC_len bl)
  have HD1 : Hid (DA.all (·.oneCell') = true) := Lib.hid (by rw [← hDA]; exact dgC_one bl)
  have HDD := Lib.hid hDA
  rw [hDA]
  clear hDA
  obtain ⟨EE, hEE⟩ : ∃ e : Int, (if bn = 0 then 2 else 0) = e := ⟨_, rfl⟩
  rw [hEE]
  go_enter Tryd.func13, Tryd.ntmps13
  go_upto_region 1 with (with_reducible refine wpList_alloc_blk (o := ⟨some 2, _, _, _, _, _⟩) rfl 52 rfl _ dig_info ?_; intro W q hq b1 q1)
  have hP1 := hP0.past b1
  have B1' := B0.trans (b1.mono B0.size)
  have hq1 : w.heap.size < q := by rw [World.size_alloc] at q1; omega
  obtain ⟨DZ, hDZ⟩ : ∃ z, (Value.int .i64 0 :: bcs (List.replicate 32 0)).toArray = z := ⟨_, rfl⟩
  have HDZ : Hid (DZ.size = 33) := Lib.hid (by rw [← hDZ]; simp [bcs_length])
  have hQ : Bk W q DZ 52 := by rw [← hDZ]; exact hq.out
  have HBD : Hid (Tryd.prog.built 52 [] = some DZ) := Lib.hid (by rw [← hDZ]; exact built_dig0)
  have h1 := h.past B1'
  have hC1 := hC.past B1'
  obtain ⟨p, hp⟩ : ∃ p, w.heap.size = p := ⟨_, rfl⟩
  have HG := Lib.hid hp
  rw [hp] at hP1 hq1 B1'
  simp only [hp]
  have hP : Bk W p #[.int .i64 next, .slice oa on oc, .slice ba bn bc, .slice ta tn tc] 29 := hP1
  have B1 : Below p w W := B1'
  have hBq : p ≤ q := by omega
  have hB0 : p ≤ W.heap.size := Nat.le_of_lt hP.lt
  have hqW := hQ.lt
  have c2 : W.cell? ⟨p, 2, none⟩ = some (.slice ba bn bc) := hP.c rfl
  have hpW := hP.lt
  have hC0 : Hid (∀ w', Below p w w' → RC w') := Lib.hid fun w' hb => hC.past (by rw [HG.out]; exact hb)
  clear hq b1 q1 hp hP0 hP1 B0 B1' hC h
  try simp only [Act.put, List.setIfInBounds_toArray, List.set_cons_zero, List.set_cons_succ]
  rcases Nat.eq_zero_or_pos bn with h0 | h0
  · subst h0
    obtain rfl : bl = [] := List.eq_nil_of_length_eq_zero hln
    obtain rfl : (2 : Int) = EE := hEE
    have hDD : DZ = DA := by rw [← hDZ]; exact HDD.out
    subst hDD
    clear hDZ
    go_wp2_with ((with_reducible refine wpList_build_at rfl 52 _ rfl DZ ?_ ?_); (simp only [List.map_toArray, List.map_nil]; exact HBD.out); (refine wp_store_blkU rfl 52 _ _ rfl q _ DZ rfl rfl _ hQ 33 dig_size HDZ.out HDZ.out HD1.out ?_); (intro w8 h8 b8))
    refine bodyPost_ret (v := .tuple #[.agg DZ, .int .i64 2]) (results_ct rfl _ _ q _ _ (0, 0) _ rfl h8 Tryd.underlying52 rfl (by rw [dig_size, HDZ.out]) _ rfl) rfl ?_
    exact ⟨rfl, by rw [HG.out]; exact B1.grown b8 hB0 (fun z hz => by cases hz; exact hBq)⟩
  · obtain ⟨m, rfl⟩ : ∃ m, bn = m + 1 := ⟨bn - 1, by omega⟩
    obtain ⟨b, hb⟩ : ∃ b, bl[m]? = some b := ⟨bl[m]'(by omega), List.getElem?_eq_getElem _⟩
    have hlast : bl.getLast? = some b := by rw [List.getLast?_eq_getElem?, hln]; exact hb
    obtain ⟨gb, goff, rfl, hgb, hcl⟩ := blk_in h1 hb
    have hd1 : dgC bl = (Value.int .i64 b.n :: bcs (blkS b)).toArray := by unfold dgC dgN hLast; rw [hlast]
    obtain rfl : (0 : Int) = EE := hEE
    have HHs0 := fun (w' : World) (hC' : RC w') => lhash_any w' hC' b
    have hb0 := built_dig b.n (blkS b) (blkS_len b)
    rw [← hd1, HDD.out] at hb0
    obtain ⟨HA, hHA⟩ : ∃ z, (bcs (blkS b)).toArray = z := ⟨_, rfl⟩
    rw [hHA] at hb0
    simp only [hHA] at HHs0
    have hc0 := blk_cs0 b
    have hcs : b.cs.toArray.size = 66 := by simp [Blk.cs_len]
    have hca : b.cs.toArray.all (·.oneCell') = true := Array.all_eq_true_iff_forall_mem.2 fun v hv => EBk.one b v (show v ∈ b.cs by simpa using hv)
    have hll : (Tryd.prog.info? 79).map (·.size) = some b.cs.length := by rw [b.cs_len]; exact blk_size
    obtain ⟨CL, hCL⟩ : ∃ x, b.cs = x := ⟨_, rfl⟩
    obtain ⟨bN, hbN⟩ : ∃ x, b.n = x := ⟨_, rfl⟩
    rw [hCL] at hcl hc0 hcs hca hll
    simp only [hCL] at HHs0
    rw [hbN] at hc0 hb0
    obtain ⟨CS, hCS⟩ : ∃ x, CL.toArray = x := ⟨_, rfl⟩
    rw [hCS] at hc0 hcs hca
    simp only [hCS] at HHs0
    have HC0 := Lib.hid hc0
    have HCS := Lib.hid hcs
    have HCA := Lib.hid hca
    have HLL := Lib.hid hll
    have HDA := Lib.hid hb0
    have HCC := Lib.hid hCS
    obtain ⟨ZB, hZB⟩ : ∃ x, Blk0.cs.toArray = x := ⟨_, rfl⟩
    have HZB : Hid (ZB.size = 66) := Lib.hid (by rw [← hZB]; simp [Blk.cs_len])
    have HZI : Hid ((Tryd.prog.info? 79).map (fun i => i.zero) = some (some (.agg ZB))) := Lib.hid (by rw [← hZB]; exact blk_zero)
    have HCN := Lib.hid hcl
    clear hZB hDZ HBD hCS hCL hbN hc0 hcs hca hll hb0 hd1 hlast hb hHA hcl
    go_upto_region 4 with ((with_reducible refine wpList_load_cells (o := ⟨some 17, _, _, _, _, _⟩) rfl 79 _ rfl ⟨gb, goff + m * 66, none⟩ rfl CL HCN.out dig_agg HLL.out ?_); (rw [HCC.out]); (refine wpList_alloc_blk rfl 79 rfl _ HZI.out ?_); (intro w2 r h2 b2 q2); (refine wp_store_blkU rfl 79 _ _ rfl r _ CS rfl rfl _ h2.out 66 blk_size HZB.out HCS.out HCA.out ?_); (intro w3 h3 g3))
    have hQ3 := (hQ.past b2).grown g3 (fun e => by have := Option.some.inj e; omega)
    have hR3 : Bk w3 r CS 79 := h3
    have B3 : Below p w w3 := (B1.trans (b2.mono hB0)).grown g3 (Nat.le_trans hB0 b2.size) (fun z hz => by cases hz; omega)
    have hrq : some r ≠ some q := fun e => by have := Option.some.inj e; omega
    have hB3 : p ≤ w3.heap.size := Nat.le_trans hB0 (Nat.le_trans b2.size g3.size)
    have HHs := fun (w' : World) (hb : Below p w3.drew w') => HHs0 w' (hC0.out w' (B3.trans ((Below.refl _ _).drew.trans hb)))
    clear hB0
    have hB0 := hB3
    clear HHs0 HCN h2 h3 g3 b2 q2 hQ B1 hP c2 hB3 hC1 h1 hC0
    have hz8 : (((m : Int) + 1) == 0) = false := by simp; omega
    try simp only [Act.put, List.setIfInBounds_toArray, List.set_cons_zero, List.set_cons_succ]
    try simp only [hz8]
    clear hz8
    refine region_inv (LDig4 p q r bN CS HA DA DZ) (by kernel_rfl) (by kernel_rfl) ?_ ?_ ?_
    · exact ⟨false, false, false, false, false, false, false, undef, undef, undef, undef, undef, .int .i64 0, rfl, (by simp only [Act.put, List.setIfInBounds_toArray, List.set_cons_zero, List.set_cons_succ]), Below.refl _ _, (fun h => by cases h), (fun h => by cases h), (fun h => by cases h), (fun h => by cases h), (fun h => by cases h), (fun h => by cases h), (hR3.past (Below.refl _ _).drew), (fun h1 => hQ3.past (Below.refl _ _).drew), (fun h => by cases h)⟩
    · refine ⟨?_, ?_, ?_, ?_, ?_, ?_, ?_, trivial⟩
      · rintro L a w ⟨b0, b1, b2, b3, b4, b5, b6, x18, x19, x20, x21, x22, x3, rfl, rfl, hb, cd0, cd1, cd2, cd3, cd4, cd6, f_r, f_z, f_s⟩ hf hd
        have hf' : b0 = false := hf
        subst hf'
        clear hf hd
        have W_r := f_r.out
        try simp only [List.setIfInBounds_toArray, List.set_cons_zero, List.set_cons_succ]
        intro K hK
        rw [if_pos (by rfl)]
        go_simp
        exact hK.out _ _ ⟨true, b1, b2, b3, b4, b5, b6, (.pointer (some ⟨r, 0, none⟩)), x19, x20, x21, x22, x3, (by simp only [Act.put, List.setIfInBounds_toArray, List.set_cons_zero, List.set_cons_succ]), (by simp only [Act.put, List.setIfInBounds_toArray, List.set_cons_zero, List.set_cons_succ]), hb, (fun _ => rfl), cd1, cd2, cd3, cd4, cd6, f_r, f_z, f_s⟩
      · rintro L a w ⟨b0, b1, b2, b3, b4, b5, b6, x18, x19, x20, x21, x22, x3, rfl, rfl, hb, cd0, cd1, cd2, cd3, cd4, cd6, f_r, f_z, f_s⟩ hf hd
        have hf' : b1 = false := hf
        subst hf'
        have d0 : b0 = true := hd ⟨0, .data⟩ (by simp) rfl
        subst d0
        obtain rfl := cd0.out rfl
        clear hf hd
        have W_r := f_r.out
        try simp only [List.setIfInBounds_toArray, List.set_cons_zero, List.set_cons_succ]
        have z0 := W_r.c HC0.out
        intro K hK
        rw [if_pos (by rfl)]
        go_simp
        exact hK.out _ _ ⟨true, true, b2, b3, b4, b5, b6, .pointer (some ⟨r, 0, none⟩), (.int .i64 bN), x20, x21, x22, x3, (by simp only [Act.put, List.setIfInBounds_toArray, List.set_cons_zero, List.set_cons_succ]), (by simp only [Act.put, List.setIfInBounds_toArray, List.set_cons_zero, List.set_cons_succ]), hb, (fun _ => rfl), (fun _ => rfl), cd2, cd3, cd4, cd6, f_r, f_z, f_s⟩
      · rintro L a w ⟨b0, b1, b2, b3, b4, b5, b6, x18, x19, x20, x21, x22, x3, rfl, rfl, hb, cd0, cd1, cd2, cd3, cd4, cd6, f_r, f_z, f_s⟩ hf hd
        have hf' : b2 = false := hf
        subst hf'
        clear hf hd
        have W_r := f_r.out
        try simp only [List.setIfInBounds_toArray, List.set_cons_zero, List.set_cons_succ]
        intro K hK
        rw [if_pos (by rfl)]
        refine wp_load_cells 79 _ rfl ⟨r, 0, none⟩ rfl CS.toList (fun j v hv => by rw [Addr.add_lit, Nat.zero_add]; exact W_r.c (by simpa using hv)) dig_agg (by rw [blk_size]; simp [HCS.out]) ?_
        simp only [Array.toArray_toList]
        exact hK.out _ _ ⟨b0, b1, true, b3, b4, b5, b6, x18, x19, (.agg CS), x21, x22, x3, (by simp only [Act.put, List.setIfInBounds_toArray, List.set_cons_zero, List.set_cons_succ]), (by simp only [Act.put, List.setIfInBounds_toArray, List.set_cons_zero, List.set_cons_succ]), hb, cd0, cd1, (fun _ => rfl), cd3, cd4, cd6, f_r, f_z, f_s⟩
      · rintro L a w ⟨b0, b1, b2, b3, b4, b5, b6, x18, x19, x20, x21, x22, x3, rfl, rfl, hb, cd0, cd1, cd2, cd3, cd4, cd6, f_r, f_z, f_s⟩ hf hd
        have hf' : b3 = false := hf
        subst hf'
        have d2 : b2 = true := hd ⟨2, .data⟩ (by simp) rfl
        subst d2
        obtain rfl := cd2.out rfl
        clear hf hd
        have W_r := f_r.out
        try simp only [List.setIfInBounds_toArray, List.set_cons_zero, List.set_cons_succ]
        intro K hK
        rw [if_pos (by rfl)]
        go_simp
        go_at_call 27
        refine (HHs _ hb).mono ?_
        rintro e w' ⟨rfl, bx⟩
        exact hK.out _ _ ⟨b0, b1, true, true, b4, b5, b6, x18, x19, .agg CS, (.agg HA), x22, x3, (by simp only [Act.put, List.setIfInBounds_toArray, List.set_cons_zero, List.set_cons_succ]), (by simp only [Act.put, List.setIfInBounds_toArray, List.set_cons_zero, List.set_cons_succ]), hb.trans (bx.mono (Nat.le_trans hB0 hb.size)), cd0, cd1, (fun _ => rfl), (fun _ => rfl), cd4, cd6, (f_r.out.past bx), (fun h1 => (f_z.out h1).past bx), (fun h0 => (f_s.out h0).past bx)⟩
      · rintro L a w ⟨b0, b1, b2, b3, b4, b5, b6, x18, x19, x20, x21, x22, x3, rfl, rfl, hb, cd0, cd1, cd2, cd3, cd4, cd6, f_r, f_z, f_s⟩ hf hd
        have hf' : b4 = false := hf
        subst hf'
        have d1 : b1 = true := hd ⟨1, .data⟩ (by simp) rfl
        subst d1
        have d3 : b3 = true := hd ⟨3, .data⟩ (by simp) rfl
        subst d3
        obtain rfl := cd1.out rfl
        obtain rfl := cd3.out rfl
        clear hf hd
        have W_r := f_r.out
        try simp only [List.setIfInBounds_toArray, List.set_cons_zero, List.set_cons_succ]
        intro K hK
        rw [if_pos (by rfl)]
        refine wp_build_at 52 _ rfl DA (by simp only [List.map_toArray, List.map_cons, List.map_nil]; exact HDA.out) ?_
        exact hK.out _ _ ⟨b0, true, b2, true, true, b5, b6, x18, .int .i64 bN, x20, .agg HA, (.agg DA), x3, (by simp only [Act.put, List.setIfInBounds_toArray, List.set_cons_zero, List.set_cons_succ]), (by simp only [Act.put, List.setIfInBounds_toArray, List.set_cons_zero, List.set_cons_succ]), hb, cd0, (fun _ => rfl), cd2, (fun _ => rfl), (fun _ => rfl), cd6, f_r, f_z, f_s⟩
      · rintro L a w ⟨b0, b1, b2, b3, b4, b5, b6, x18, x19, x20, x21, x22, x3, rfl, rfl, hb, cd0, cd1, cd2, cd3, cd4, cd6, f_r, f_z, f_s⟩ hf hd
        have hf' : b5 = false := hf
        subst hf'
        have d4 : b4 = true := hd ⟨4, .data⟩ (by simp) rfl
        subst d4
        have d3 : b3 = true := hd ⟨3, .chain⟩ (by simp) rfl
        subst d3
        have d0 : b0 = true := hd ⟨0, .phase⟩ (by simp) rfl
        subst d0
        have d1 : b1 = true := hd ⟨1, .phase⟩ (by simp) rfl
        subst d1
        have d2 : b2 = true := hd ⟨2, .phase⟩ (by simp) rfl
        subst d2
        obtain rfl := cd4.out rfl
        obtain rfl := cd3.out rfl
        obtain rfl := cd0.out rfl
        obtain rfl := cd1.out rfl
        obtain rfl := cd2.out rfl
        clear hf hd
        have W_r := f_r.out
        have W_z := f_z.out rfl
        try simp only [List.setIfInBounds_toArray, List.set_cons_zero, List.set_cons_succ]
        have ZZ : Hid (w.heap[q]? = some (.cells DZ 52 (0, 0))) := Lib.hid W_z
        intro K hK
        rw [if_pos (by rfl)]
        refine wp_store_blkT 52 _ _ rfl q DZ DA rfl rfl 52 ZZ 33 dig_size HDZ.out HD0.out HD1.out fun w2 h8 b8 => ?_
        have hb2 := hb.grown b8 (Nat.le_trans hB0 hb.size) (fun z hz => by cases hz; exact hBq)
        exact hK.out _ _ ⟨true, true, true, true, true, true, b6, .pointer (some ⟨r, 0, none⟩), .int .i64 bN, .agg CS, .agg HA, .agg DA, x3, (by simp only [Act.put, List.setIfInBounds_toArray, List.set_cons_zero, List.set_cons_succ]), (by simp only [Act.put, List.setIfInBounds_toArray, List.set_cons_zero, List.set_cons_succ]), hb2, (fun _ => rfl), (fun _ => rfl), (fun _ => rfl), (fun _ => rfl), (fun _ => rfl), cd6, (Bk.grown f_r.out b8 hrq), (fun h => by cases h), (fun _ => h8.out)⟩
      · rintro L a w ⟨b0, b1, b2, b3, b4, b5, b6, x18, x19, x20, x21, x22, x3, rfl, rfl, hb, cd0, cd1, cd2, cd3, cd4, cd6, f_r, f_z, f_s⟩ hf hd
        have hf' : b6 = false := hf
        subst hf'
        have d5 : b5 = true := hd ⟨5, .chain⟩ (by simp) rfl
        subst d5
        have d0 : b0 = true := hd ⟨0, .phase⟩ (by simp) rfl
        subst d0
        have d1 : b1 = true := hd ⟨1, .phase⟩ (by simp) rfl
        subst d1
        have d2 : b2 = true := hd ⟨2, .phase⟩ (by simp) rfl
        subst d2
        have d3 : b3 = true := hd ⟨3, .phase⟩ (by simp) rfl
        subst d3
        have d4 : b4 = true := hd ⟨4, .phase⟩ (by simp) rfl
        subst d4
        obtain rfl := cd0.out rfl
        obtain rfl := cd1.out rfl
        obtain rfl := cd2.out rfl
        obtain rfl := cd3.out rfl
        obtain rfl := cd4.out rfl
        clear hf hd
        have W_r := f_r.out
        have W_s := f_s.out rfl
        try simp only [List.setIfInBounds_toArray, List.set_cons_zero, List.set_cons_succ]
        intro K hK
        rw [if_pos (by rfl)]
        go_simp
        exact hK.out _ _ ⟨true, true, true, true, true, true, true, .pointer (some ⟨r, 0, none⟩), .int .i64 bN, .agg CS, .agg HA, .agg DA, (.int .i64 0), (by simp only [Act.put, List.setIfInBounds_toArray, List.set_cons_zero, List.set_cons_succ]), (by simp only [Act.put, List.setIfInBounds_toArray, List.set_cons_zero, List.set_cons_succ]), hb, (fun _ => rfl), (fun _ => rfl), (fun _ => rfl), (fun _ => rfl), (fun _ => rfl), (fun _ => rfl), f_r, (fun h => by cases h), f_s⟩
    · rintro act V ⟨b0, b1, b2, b3, b4, b5, b6, x18, x19, x20, x21, x22, x3, hL, rfl, hb, cd0, cd1, cd2, cd3, cd4, cd6, f_r, f_z, f_s⟩
      have hL' : [true, true, true, true, true, true, true] = [b0, b1, b2, b3, b4, b5, b6] := congrArg Array.toList hL
      simp only [List.cons.injEq, and_true] at hL'
      obtain ⟨rfl, rfl, rfl, rfl, rfl, rfl, rfl⟩ := hL'
      obtain rfl := cd0.out rfl
      obtain rfl := cd1.out rfl
      obtain rfl := cd2.out rfl
      obtain rfl := cd3.out rfl
      obtain rfl := cd4.out rfl
      obtain rfl := cd6.out rfl
      have W_r := f_r.out
      have W_s := f_s.out rfl
      clear hL f_r f_z f_s cd0 cd1 cd2 cd3 cd4 cd6
      simp only [List.setIfInBounds_toArray, List.set_cons_zero, List.set_cons_succ]
      have BV : Below p w V := B3.trans ((Below.refl _ _).drew.trans hb)
      clear hb
      go_wp2_with fail
      refine bodyPost_ret (v := .tuple #[.agg DA, .int .i64 0]) (results_ct rfl _ _ q _ _ (0, 0) _ rfl W_s Tryd.underlying52 rfl (by rw [dig_size, HD0.out]) _ rfl) rfl ?_
      exact ⟨rfl, by rw [HG.out]; exact BV⟩
end Go.Proofs.YtdmnjjknkcnkgaaDoor
