/-
  MerkleOrder, walked.
-/
import Derived.Test.YtlcfjiiejmnghaaDoorRRoot
namespace Go.Proofs.YtlcfjiiejmnghaaDoor
open Go.RowKit
set_option linter.unusedSimpArgs false

theorem wp_store_in {P : Program} {o : Oper} {a : Act} {w : World} {K : Act → World → Prop} {Q : Exit → Act → World → Prop} (ty : TypeId) (x y : Operand) (ho : o.op = .store ty x y)
    (g i : Nat) (cs old : List Value) (t : TypeId) (hx : a.eval x = .pointer (some ⟨g, i, none⟩)) (hy : a.eval y = .agg cs.toArray) (hg : w.heap[g]? = some (.cells old.toArray t (0, 0)))
    (n : Nat) (hi : (P.info? ty).map (·.size) = some n) (hn : cs.length = n) (hl : i + n ≤ old.length) (h1 : cs.toArray.all (·.oneCell') = true)
    (hK : ∀ w', w'.heap[g]? = some (.cells (old.take i ++ cs ++ old.drop (i + n)).toArray t (0, 0)) → w.grownBy w' (some g) → K (a.put o.dst undef) w') : o.wp P a w K Q := by
  have hst := run_storeCells_at P g i t cs 0 old.toArray w hg (by simp; omega) (fun v hv => (Array.all_eq_true_iff_forall_mem.1 h1) v (by simpa using hv))
  simp only [Nat.add_zero] at hst
  have hr : (storeVar ty ⟨g, i, none⟩ (.agg cs.toArray)).run P w = .ok () (w.setRow g (old.take i ++ cs ++ old.drop (i + n)).toArray) := by
    cases hq : P.info? ty with
    | none => simp [hq] at hi
    | some ii =>
      have hs : ii.size = n := by simpa [hq] using hi
      simp [storeVar, sizeOf, typeInfo, hq, Value.cells, hs, hn, hst]
  unfold Oper.wp execOp
  simp only [ho, hx, hy, Instr.storeAt, Instr.sureAddr, Sem.run_bind, Sem.run_pure, Result.andThen_ok, hr]
  exact hK _ (setRow_heap w g _ _ _ _ hg) ⟨rfl, rfl, rfl, by simp, fun k _ hk => setRow_other w g k _ (fun e => hk (by rw [e]))⟩
theorem flat_set : ∀ (hs : List (List UInt8)) (i : Nat) (x : List UInt8), (∀ h ∈ hs, h.length = 32) → i < hs.length → (hs.set i x).flatten = hs.flatten.take (i * 32) ++ x ++ hs.flatten.drop (i * 32 + 32)
  | h :: hs, 0, x, ha, _ => by
    have h32 := ha h (by simp)
    simp only [List.set_cons_zero, List.flatten_cons, Nat.zero_mul, List.take_zero, List.nil_append, Nat.zero_add]
    rw [← h32, List.drop_left]
  | h :: hs, i + 1, x, ha, hi => by
    have h32 := ha h (by simp)
    simp only [List.set_cons_succ, List.flatten_cons]
    have t : (h ++ hs.flatten).take ((i + 1) * 32) = h ++ hs.flatten.take (i * 32) := by rw [show (i + 1) * 32 = h.length + i * 32 by omega, List.take_length_add_append]
    have d : (h ++ hs.flatten).drop ((i + 1) * 32 + 32) = hs.flatten.drop (i * 32 + 32) := by rw [show (i + 1) * 32 + 32 = h.length + (i * 32 + 32) by omega, List.drop_length_add_append]
    rw [flat_set hs i x (fun y hy => ha y (by simp [hy])) (by simpa using hi), t, d]
    simp [List.append_assoc]
  | [], i, x, _, hi => by simp at hi
/-- BLOCK g HOLDS THE SUMS hs, and what lies behind them. -/
def RowH (w : World) (g k cap : Nat) (hs : List (List UInt8)) : Prop :=
  hs.length = k ∧ (∀ h ∈ hs, h.length = 32) ∧ k ≤ cap ∧ cap ≤ maxLen ∧ ∃ tail : List Value, w.heap[g]? = some (.cells (bcs hs.flatten ++ tail).toArray 24 (0, 0))
theorem OwnH.row {w : World} {base : Nat} {v : Value} {k : Nat} {hs : List (List UInt8)} (h : OwnH w base v k hs) (hk : 0 < k) : ∃ g cap, v = .slice (some ⟨g, 0, none⟩) k cap ∧ base ≤ g ∧ RowH w g k cap hs := by
  obtain ⟨⟨hl, ho⟩, hk', ha⟩ := h
  rcases ho with ⟨rfl, rfl⟩ | ⟨g, cap, cur, rfl, hg, hc, hn, hm, hs', ht⟩
  · omega
  · refine ⟨g, cap, rfl, hg, hk', ha, hn, hm, cur.toList.drop (k * 32), ?_⟩
    rw [hc, ← ht, List.take_append_drop]
theorem RowH.isH {w : World} {g k cap : Nat} {hs : List (List UInt8)} (h : RowH w g k cap hs) : IsH w (some ⟨g, 0, none⟩) k cap hs := by
  obtain ⟨h1, h2, h3, h4, tail, hc⟩ := h
  refine ⟨h1, h3, h4, (fun h => by cases h), h2, fun a e i hi j u hu => ?_⟩
  obtain rfl := Option.some.inj e
  have h32 : (hs.getD i []).length = 32 := by
    have : hs.getD i [] = hs[i]'(by omega) := by simp [List.getD, show i < hs.length by omega]
    rw [this]
    exact h2 _ (List.getElem_mem _)
  have hj : j < 32 := by have := (List.getElem?_eq_some_iff.1 hu).1; omega
  have hfl := flat_length hs h2
  rw [Addr.add_lit, Addr.add_lit, Nat.zero_add, cell_of_row w g _ _ _ (0, 0) hc]
  have h5 : (bcs hs.flatten)[i * 32 + j]? = some (bc u) := by rw [bcs_get, flat_get hs i j h2 (by omega) hj, hu]; rfl
  rw [List.getElem?_toArray, List.getElem?_append_left (by rw [bcs_length]; omega), h5]
theorem bcs_drop' (l : List UInt8) (n : Nat) : (bcs l).drop n = bcs (l.drop n) := by simp [bcs, List.map_drop]
/-- A store of the sum x at place i. -/
theorem wp_store_hs {o : Oper} {a : Act} {w : World} {K : Act → World → Prop} {Q : Exit → Act → World → Prop} (x y : Operand) (ho : o.op = .store 24 x y)
    (g k cap i : Nat) (hs : List (List UInt8)) (l : List UInt8) (hx : a.eval x = .pointer (some ⟨g, i * 32, none⟩)) (hy : a.eval y = .agg (bcs l).toArray) (hR : RowH w g k cap hs) (hi : i < k) (hl : l.length = 32)
    (hK : ∀ w', RowH w' g k cap (hs.set i l) → w.grownBy w' (some g) → K (a.put o.dst undef) w') : o.wp Tryd.prog a w K Q := by
  obtain ⟨h1, h2, h3, h4, tail, hc⟩ := hR
  have hfl := flat_length hs h2
  refine wp_store_in 24 x y ho g (i * 32) (bcs l) _ _ hx hy hc 32 sizeHash (by rw [bcs_length, hl]) (by rw [List.length_append, bcs_length]; omega) (bcs_all _) fun w' hw hg => hK w' ⟨by simp [h1], fun z hz => ?_, h3, h4, tail, ?_⟩ hg
  · rcases List.mem_or_eq_of_mem_set hz with h5 | h5
    · exact h2 z h5
    · rw [h5]; exact hl
  · rw [hw, flat_set hs i l h2 (by omega), bcs_append, bcs_append, List.take_append_of_le_length (by rw [bcs_length]; omega), List.drop_append_of_le_length (by rw [bcs_length]; omega), bcs_take, bcs_drop']
    simp [List.append_assoc]
theorem swap_same (hs : List (List UInt8)) (i : Nat) : (hs.set i (hs.getD i [])).set i (hs.getD i []) = hs := by
  by_cases h : i < hs.length
  · have : hs.getD i [] = hs[i] := by simp [List.getD, h]
    rw [this]
    simp
  · rw [List.set_eq_of_length_le (by simp; omega), List.set_eq_of_length_le (by omega)]
set_option maxRecDepth 100000 in
set_option maxHeartbeats 8000000 in
theorem merkleOrder_walk (a0 a1 a2 : Int) (w : World) (hC : RC w) (_w0 : (Lit.int .i64 a0).wf = true) (_w1 : (Lit.int .i64 a1).wf = true) (_w2 : (Lit.int .i64 a2).wf = true) :
    Calls Tryd.prog 12 #[.int .i64 a0, .int .i64 a1, .int .i64 a2] w fun e w' => e = .returned (.bool true) ∧ Below w.heap.size w w' := by
  obtain ⟨N, hN, hN3⟩ := wth_nat a0 30 (by omega)
  have HN := Lib.hid hN
  clear hN
  obtain ⟨n, hn⟩ : ∃ n, n = N + 2 := ⟨_, rfl⟩
  have e1 : (2 : Int) + (N : Int) = (n : Int) := by omega
  have hn1 : 2 ≤ n := by omega
  have hn2 : n ≤ 31 := by omega
  clear hn hN3
  obtain ⟨i, hi, hin⟩ := wth_nat a1 n (by omega)
  have HI := Lib.hid hi
  clear hi
  obtain ⟨j, hj, hjn⟩ := wth_nat a2 n (by omega)
  have HJ := Lib.hid hj
  clear hj
  go_enter Tryd.func12, Tryd.ntmps12
  go_wp2_with fail
  refine (known3 _ hC).mono ?_
  rintro e w1 ⟨rfl, B1⟩
  go_wp2_with fail
  refine (within3_any a0 30 _ (by omega) (by omega)).mono ?_
  rintro e w' ⟨rfl, rfl⟩
  rw [show wth a0 (30 : Int) = (N : Int) from HN.out]
  go_wp2_with fail
  refine (within3_any a1 n _ (by omega) (by omega)).mono ?_
  rintro e w' ⟨rfl, rfl⟩
  rw [show wth a1 (n : Int) = (i : Int) from HI.out]
  go_wp2_with fail
  refine (within3_any a2 n _ (by omega) (by omega)).mono ?_
  rintro e w' ⟨rfl, rfl⟩
  rw [show wth a2 (n : Int) = (j : Int) from HJ.out]
  go_wp2_with fail
  refine (lHashes_any n _ (by omega)).mono ?_
  rintro e w2 ⟨v2, rfl, hO2, b2⟩
  obtain ⟨ao, c, rfl, hI2, -⟩ := hO2.isH
  have B2 := B1.trans (b2.mono B1.size)
  clear hO2 b2 B1
  go_wp2_with fail
  refine (lHashes_any n _ (by omega)).mono ?_
  rintro e w3 ⟨v3, rfl, hO3, b3⟩
  obtain ⟨g, cm, rfl, hg, hRow⟩ := hO3.row (by omega)
  have hI3 := hRow.isH
  have t1 := hI3.at_ _ rfl i (by omega)
  have t2 := hI3.at_ _ rfl j (by omega)
  have l1 := hI3.one i (by omega)
  have l2 := hI3.one j (by omega)
  rw [Addr.add_lit, Nat.zero_add] at t1 t2
  have hsL2 := hsL_length n
  have hij : j = i → (((hsL n).set i ((hsL n).getD j [])).set j ((hsL n).getD i [])) = hsL n := fun e => by rw [e]; exact swap_same _ _
  obtain ⟨ms, hms⟩ : ∃ ms, ms = ((hsL n).set i ((hsL n).getD j [])).set j ((hsL n).getD i []) := ⟨_, rfl⟩
  rw [← hms] at hij
  have HMS := Lib.hid hms
  have HIJ := Lib.hid hij
  clear hms hij hI3 hO3
  generalize (hsL n).getD i [] = x at t1 l1 HMS
  generalize (hsL n).getD j [] = y at t2 l2 HMS
  have L1 := Lib.hid l1
  have L2 := Lib.hid l2
  have hl1 : (hsL n).length = n := hsL2
  have HLL := Lib.hid hl1
  have u24 := Tryd.underlying24
  have hin' : (i : Int) < n := by omega
  have hjn' : (j : Int) < n := by omega
  clear l1 l2 hsL2 hl1
  go_wp2_with fail
  refine wp_region_held_drew (S := fun w' => Below w2.heap.size w2 w') (by kernel_rfl) b3.drew (fun hHeld => ?_)
  have kd : Below w3.heap.size w3 w3.drew := (Below.refl _ _).drew
  have kD := b3.drew
  have RD : RowH w3.drew g n cm (hsL n) := hRow
  refine wpAnyH_take (i := 0) (v := ?_) rfl (by kernel_rfl) (by kernel_rfl) (by kernel_rfl) (fun _ _ _ h => h) (Or.inl ⟨by rfl, ?_⟩) hHeld ?_
  rotate_left 1
  focus (intro wq hSw; go_simp; try with_reducible rfl)
  try (simp only [Act.put, List.getElem_toArray, List.getElem_cons_succ, List.getElem_cons_zero, List.setIfInBounds_toArray, List.set_cons_zero, List.set_cons_succ])
  refine wpAnyH_take (i := 1) (v := ?_) rfl (by kernel_rfl) (by kernel_rfl) (by kernel_rfl) (fun _ _ _ h => h) (Or.inl ⟨by rfl, ?_⟩) hHeld ?_
  rotate_left 1
  focus (intro wq hSw; go_simp; try with_reducible rfl)
  try (simp only [Act.put, List.getElem_toArray, List.getElem_cons_succ, List.getElem_cons_zero, List.setIfInBounds_toArray, List.set_cons_zero, List.set_cons_succ])
  refine wpAnyH_take (i := 2) (v := ?_) rfl (by kernel_rfl) (by kernel_rfl) (by kernel_rfl) (fun _ _ _ h => h) (Or.inl ⟨by rfl, ?_⟩) hHeld ?_
  rotate_left 1
  focus (intro wq hSw; go_simp; try with_reducible rfl)
  try (simp only [Act.put, List.getElem_toArray, List.getElem_cons_succ, List.getElem_cons_zero, List.setIfInBounds_toArray, List.set_cons_zero, List.set_cons_succ])
  refine wpAnyH_take (i := 3) (v := ?_) rfl (by kernel_rfl) (by kernel_rfl) (by kernel_rfl) (fun _ _ _ h => h) (Or.inl ⟨by rfl, ?_⟩) hHeld ?_
  rotate_left 1
  focus (intro wq hSw; go_simp; try with_reducible rfl)
  try (simp only [Act.put, List.getElem_toArray, List.getElem_cons_succ, List.getElem_cons_zero, List.setIfInBounds_toArray, List.set_cons_zero, List.set_cons_succ])
  refine wpAnyH_take (i := 4) (v := ?_) rfl (by kernel_rfl) (by kernel_rfl) (by kernel_rfl) (fun _ _ _ h => h) (Or.inl ⟨by rfl, ?_⟩) hHeld ?_
  rotate_left 1
  focus (intro wq hSw; go_simp; try with_reducible rfl)
  try (simp only [Act.put, List.getElem_toArray, List.getElem_cons_succ, List.getElem_cons_zero, List.setIfInBounds_toArray, List.set_cons_zero, List.set_cons_succ])
  refine wpAnyH_take (i := 5) (v := ?_) rfl (by kernel_rfl) (by kernel_rfl) (by kernel_rfl) (fun _ _ _ h => h) (Or.inl ⟨by rfl, ?_⟩) hHeld ?_
  rotate_left 1
  focus (intro wq hSw; go_simp; try with_reducible rfl)
  try (simp only [Act.put, List.getElem_toArray, List.getElem_cons_succ, List.getElem_cons_zero, List.setIfInBounds_toArray, List.set_cons_zero, List.set_cons_succ])
  refine wpAnyH_take (i := 6) (v := ?_) rfl (by kernel_rfl) (by kernel_rfl) (by kernel_rfl) (fun _ _ _ h => h) (Or.inl ⟨by rfl, ?_⟩) hHeld ?_
  rotate_left 1
  focus (intro wq hSw; go_simp; try with_reducible rfl)
  try (simp only [Act.put, List.getElem_toArray, List.getElem_cons_succ, List.getElem_cons_zero, List.setIfInBounds_toArray, List.set_cons_zero, List.set_cons_succ])
  refine wpAnyH_take (i := 8) (v := ?_) rfl (by kernel_rfl) (by kernel_rfl) (by kernel_rfl) (fun _ _ _ h => h) (Or.inl ⟨by rfl, ?_⟩) hHeld ?_
  rotate_left 1
  focus (intro wq hSw; go_simp; try with_reducible rfl)
  try (simp only [Act.put, List.getElem_toArray, List.getElem_cons_succ, List.getElem_cons_zero, List.setIfInBounds_toArray, List.set_cons_zero, List.set_cons_succ])
  refine wpAnyH_take (i := 9) (v := ?_) rfl (by kernel_rfl) (by kernel_rfl) (by kernel_rfl) (fun _ _ _ h => h) (Or.inl ⟨by rfl, ?_⟩) hHeld ?_
  rotate_left 1
  focus (intro wq hSw; go_simp; try with_reducible rfl)
  try (simp only [Act.put, List.getElem_toArray, List.getElem_cons_succ, List.getElem_cons_zero, List.setIfInBounds_toArray, List.set_cons_zero, List.set_cons_succ])
  refine wpAnyH_take (i := 10) (v := ?_) rfl (by kernel_rfl) (by kernel_rfl) (by kernel_rfl) (fun _ _ _ h => h) (Or.inl ⟨by rfl, ?_⟩) hHeld ?_
  rotate_left 1
  focus (intro wq hSw; go_simp; try with_reducible rfl)
  try (simp only [Act.put, List.getElem_toArray, List.getElem_cons_succ, List.getElem_cons_zero, List.setIfInBounds_toArray, List.set_cons_zero, List.set_cons_succ])
  refine wpAnyH_ready (rs := [7, 11]) (by kernel_rfl) (by simp) ?_
  refine AllReadyH.cons rfl (fun K hK => ?_) (AllReadyH.cons rfl (fun K hK => ?_) AllReadyH.nil)
  · skip
    rw [if_pos (by rfl)]
    refine wp_load_at 24 _ rfl ⟨g, j * 32, none⟩ rfl y (t2.past kd) _ _ u24 (hash_size _ L2.out) ?_
    refine hK.out _ _ kD (fun hHeld => ?_)
    clear hK K
    try (simp only [Act.put, List.getElem_toArray, List.getElem_cons_succ, List.getElem_cons_zero, List.setIfInBounds_toArray, List.set_cons_zero, List.set_cons_succ])
    refine wpAnyH_ready (rs := [11]) (by kernel_rfl) (by simp) ?_
    refine AllReadyH.cons rfl (fun K hK => ?_) AllReadyH.nil
    rw [if_pos (by rfl)]
    refine wp_load_at 24 _ rfl ⟨g, i * 32, none⟩ rfl x (t1.past kd) _ _ u24 (hash_size _ L1.out) ?_
    refine hK.out _ _ kD (fun hHeld => ?_)
    clear hK K
    try (simp only [Act.put, List.getElem_toArray, List.getElem_cons_succ, List.getElem_cons_zero, List.setIfInBounds_toArray, List.set_cons_zero, List.set_cons_succ])
    refine wpAnyH_take (i := 12) (v := ?_) rfl (by kernel_rfl) (by kernel_rfl) (by kernel_rfl) (fun _ _ _ h => h) (Or.inl ⟨by rfl, ?_⟩) hHeld ?_
    rotate_left 1
    focus (intro wq hSw; go_simp; try with_reducible rfl)
    try (simp only [Act.put, List.getElem_toArray, List.getElem_cons_succ, List.getElem_cons_zero, List.setIfInBounds_toArray, List.set_cons_zero, List.set_cons_succ])
    refine wpAnyH_ready (rs := [13]) (by kernel_rfl) (by simp) ?_
    refine AllReadyH.cons rfl (fun K hK => ?_) AllReadyH.nil
    rw [if_pos (by rfl)]
    refine wp_store_hs _ _ rfl g n cm i (hsL n) y rfl rfl RD (by omega) L2.out fun w5 R5 g5 => ?_
    have k5 := kD.grown g5 (by have := b3.size; simp; omega) (fun k hk => by cases hk; omega)
    refine hK.out _ _ k5 (fun hHeld => ?_)
    clear hK K
    try (simp only [Act.put, List.getElem_toArray, List.getElem_cons_succ, List.getElem_cons_zero, List.setIfInBounds_toArray, List.set_cons_zero, List.set_cons_succ])
    refine wpAnyH_take (i := 14) (v := ?_) rfl (by kernel_rfl) (by kernel_rfl) (by kernel_rfl) (fun _ _ _ h => h) (Or.inl ⟨by rfl, ?_⟩) hHeld ?_
    rotate_left 1
    focus (intro wq hSw; go_simp; try with_reducible rfl)
    try (simp only [Act.put, List.getElem_toArray, List.getElem_cons_succ, List.getElem_cons_zero, List.setIfInBounds_toArray, List.set_cons_zero, List.set_cons_succ])
    refine wpAnyH_ready (rs := [15]) (by kernel_rfl) (by simp) ?_
    refine AllReadyH.cons rfl (fun K hK => ?_) AllReadyH.nil
    rw [if_pos (by rfl)]
    refine wp_store_hs _ _ rfl g n cm j _ x rfl rfl R5 (by omega) L1.out fun w6 R6 g6 => ?_
    have k6 := k5.grown g6 (by have := k5.size; omega) (fun k hk => by cases hk; omega)
    refine hK.out _ _ k6 (fun hHeld => ?_)
    clear hK K
    try (simp only [Act.put, List.getElem_toArray, List.getElem_cons_succ, List.getElem_cons_zero, List.setIfInBounds_toArray, List.set_cons_zero, List.set_cons_succ])
    refine wpAnyH_done (by kernel_rfl) ?_ _
    rw [← HMS.out] at R6
    have I6 := R6.isH
    have J6 := hI2.past k6
    have B6 := B2.trans (k6.mono B2.size)
    have S1 := rootS_length (hsL n) J6.all
    have S2 := rootS_length ms I6.all
    have S1h := Lib.hid S1
    have S2h := Lib.hid S2
    have q2 := equal_hash _ _ S2 S2
    simp only [beq_self_eq_true] at q2
    have q12 := equal_hash _ _ S1 S2
    clear S1 S2
    clear hRow RD R5 R6 g5 g6 k5 k6 kd kD hHeld
    go_wp2_with fail
    refine (root_any _ n cm ms _ (hC.past B6) I6 (by omega)).mono ?_
    rintro e w7 ⟨rfl, b7⟩
    have I7 := I6.past b7
    have J7 := J6.past b7
    have B7 := B6.trans (b7.mono B6.size)
    clear b7 B6 I6 J6
    go_wp2_with fail
    refine (rroot_any _ n cm ms _ I7 (by omega)).mono ?_
    rintro e w8 ⟨rfl, b8⟩
    have I8 := I7.past b8
    have J8 := J7.past b8
    have B8 := B7.trans (b8.mono B7.size)
    clear b8 B7 I7 J7
    go_wp2_with fail
    refine (root_any ao n c (hsL n) _ (hC.past B8) J8 (by omega)).mono ?_
    rintro e w9 ⟨rfl, b9⟩
    have I9 := I8.past b9
    have J9 := J8.past b9
    have B9 := B8.trans (b9.mono B8.size)
    clear b9 B8 I8 J8
    go_wp2_with fail
    refine (root_any _ n cm ms _ (hC.past B9) I9 (by omega)).mono ?_
    rintro e wa ⟨rfl, ba⟩
    have Ia := I9.past ba
    have Ja := J9.past ba
    have Ba := B9.trans (ba.mono B9.size)
    clear ba B9 I9 J9
    by_cases hs12 : rootS (hsL n) = rootS ms
    · rw [← hs12] at q12 q2
      simp only [beq_self_eq_true] at q12
      rw [← hs12]
      have E := Lib.hid hs12
      clear hs12
      by_cases hij : j = i
      · obtain rfl := hij
        go_wp2_with fail
        go_ret
        exact ⟨rfl, Ba⟩
      · have hb : ((i : Int) == (j : Int)) = false := by simp; omega
        go_wp2_with fail
        refine (rroot_any ao n c (hsL n) _ Ja (by omega)).mono ?_
        rintro e wb ⟨rfl, bb⟩
        have Ib := Ia.past bb
        have Bb := Ba.trans (bb.mono Ba.size)
        clear bb Ba Ia Ja
        go_wp2_with fail
        refine (rroot_any _ n cm ms _ Ib (by omega)).mono ?_
        rintro e wd ⟨rfl, bd⟩
        rw [← E.out]
        have Bd := Bb.trans (bd.mono Bb.size)
        clear bd Bb Ib
        go_wp2_with fail
        go_ret
        exact ⟨rfl, Bd⟩
    · have hne : (rootS (hsL n) == rootS ms) = false := beq_eq_false_iff_ne.2 hs12
      simp only [hne] at q12
      have hb : ((i : Int) == (j : Int)) = false := by
        have : j ≠ i := fun e => hs12 (by rw [HIJ.out e])
        simp; omega
      clear hne hs12
      go_wp2_with fail
      go_ret
      exact ⟨rfl, Ba⟩
  · skip
    rw [if_pos (by rfl)]
    refine wp_load_at 24 _ rfl ⟨g, i * 32, none⟩ rfl x (t1.past kd) _ _ u24 (hash_size _ L1.out) ?_
    refine hK.out _ _ kD (fun hHeld => ?_)
    clear hK K
    try (simp only [Act.put, List.getElem_toArray, List.getElem_cons_succ, List.getElem_cons_zero, List.setIfInBounds_toArray, List.set_cons_zero, List.set_cons_succ])
    refine wpAnyH_ready (rs := [7]) (by kernel_rfl) (by simp) ?_
    refine AllReadyH.cons rfl (fun K hK => ?_) AllReadyH.nil
    rw [if_pos (by rfl)]
    refine wp_load_at 24 _ rfl ⟨g, j * 32, none⟩ rfl y (t2.past kd) _ _ u24 (hash_size _ L2.out) ?_
    refine hK.out _ _ kD (fun hHeld => ?_)
    clear hK K
    try (simp only [Act.put, List.getElem_toArray, List.getElem_cons_succ, List.getElem_cons_zero, List.setIfInBounds_toArray, List.set_cons_zero, List.set_cons_succ])
    refine wpAnyH_take (i := 12) (v := ?_) rfl (by kernel_rfl) (by kernel_rfl) (by kernel_rfl) (fun _ _ _ h => h) (Or.inl ⟨by rfl, ?_⟩) hHeld ?_
    rotate_left 1
    focus (intro wq hSw; go_simp; try with_reducible rfl)
    try (simp only [Act.put, List.getElem_toArray, List.getElem_cons_succ, List.getElem_cons_zero, List.setIfInBounds_toArray, List.set_cons_zero, List.set_cons_succ])
    refine wpAnyH_ready (rs := [13]) (by kernel_rfl) (by simp) ?_
    refine AllReadyH.cons rfl (fun K hK => ?_) AllReadyH.nil
    rw [if_pos (by rfl)]
    refine wp_store_hs _ _ rfl g n cm i (hsL n) y rfl rfl RD (by omega) L2.out fun w5 R5 g5 => ?_
    have k5 := kD.grown g5 (by have := b3.size; simp; omega) (fun k hk => by cases hk; omega)
    refine hK.out _ _ k5 (fun hHeld => ?_)
    clear hK K
    try (simp only [Act.put, List.getElem_toArray, List.getElem_cons_succ, List.getElem_cons_zero, List.setIfInBounds_toArray, List.set_cons_zero, List.set_cons_succ])
    refine wpAnyH_take (i := 14) (v := ?_) rfl (by kernel_rfl) (by kernel_rfl) (by kernel_rfl) (fun _ _ _ h => h) (Or.inl ⟨by rfl, ?_⟩) hHeld ?_
    rotate_left 1
    focus (intro wq hSw; go_simp; try with_reducible rfl)
    try (simp only [Act.put, List.getElem_toArray, List.getElem_cons_succ, List.getElem_cons_zero, List.setIfInBounds_toArray, List.set_cons_zero, List.set_cons_succ])
    refine wpAnyH_ready (rs := [15]) (by kernel_rfl) (by simp) ?_
    refine AllReadyH.cons rfl (fun K hK => ?_) AllReadyH.nil
    rw [if_pos (by rfl)]
    refine wp_store_hs _ _ rfl g n cm j _ x rfl rfl R5 (by omega) L1.out fun w6 R6 g6 => ?_
    have k6 := k5.grown g6 (by have := k5.size; omega) (fun k hk => by cases hk; omega)
    refine hK.out _ _ k6 (fun hHeld => ?_)
    clear hK K
    try (simp only [Act.put, List.getElem_toArray, List.getElem_cons_succ, List.getElem_cons_zero, List.setIfInBounds_toArray, List.set_cons_zero, List.set_cons_succ])
    refine wpAnyH_done (by kernel_rfl) ?_ _
    rw [← HMS.out] at R6
    have I6 := R6.isH
    have J6 := hI2.past k6
    have B6 := B2.trans (k6.mono B2.size)
    have S1 := rootS_length (hsL n) J6.all
    have S2 := rootS_length ms I6.all
    have S1h := Lib.hid S1
    have S2h := Lib.hid S2
    have q2 := equal_hash _ _ S2 S2
    simp only [beq_self_eq_true] at q2
    have q12 := equal_hash _ _ S1 S2
    clear S1 S2
    clear hRow RD R5 R6 g5 g6 k5 k6 kd kD hHeld
    go_wp2_with fail
    refine (root_any _ n cm ms _ (hC.past B6) I6 (by omega)).mono ?_
    rintro e w7 ⟨rfl, b7⟩
    have I7 := I6.past b7
    have J7 := J6.past b7
    have B7 := B6.trans (b7.mono B6.size)
    clear b7 B6 I6 J6
    go_wp2_with fail
    refine (rroot_any _ n cm ms _ I7 (by omega)).mono ?_
    rintro e w8 ⟨rfl, b8⟩
    have I8 := I7.past b8
    have J8 := J7.past b8
    have B8 := B7.trans (b8.mono B7.size)
    clear b8 B7 I7 J7
    go_wp2_with fail
    refine (root_any ao n c (hsL n) _ (hC.past B8) J8 (by omega)).mono ?_
    rintro e w9 ⟨rfl, b9⟩
    have I9 := I8.past b9
    have J9 := J8.past b9
    have B9 := B8.trans (b9.mono B8.size)
    clear b9 B8 I8 J8
    go_wp2_with fail
    refine (root_any _ n cm ms _ (hC.past B9) I9 (by omega)).mono ?_
    rintro e wa ⟨rfl, ba⟩
    have Ia := I9.past ba
    have Ja := J9.past ba
    have Ba := B9.trans (ba.mono B9.size)
    clear ba B9 I9 J9
    by_cases hs12 : rootS (hsL n) = rootS ms
    · rw [← hs12] at q12 q2
      simp only [beq_self_eq_true] at q12
      rw [← hs12]
      have E := Lib.hid hs12
      clear hs12
      by_cases hij : j = i
      · obtain rfl := hij
        go_wp2_with fail
        go_ret
        exact ⟨rfl, Ba⟩
      · have hb : ((i : Int) == (j : Int)) = false := by simp; omega
        go_wp2_with fail
        refine (rroot_any ao n c (hsL n) _ Ja (by omega)).mono ?_
        rintro e wb ⟨rfl, bb⟩
        have Ib := Ia.past bb
        have Bb := Ba.trans (bb.mono Ba.size)
        clear bb Ba Ia Ja
        go_wp2_with fail
        refine (rroot_any _ n cm ms _ Ib (by omega)).mono ?_
        rintro e wd ⟨rfl, bd⟩
        rw [← E.out]
        have Bd := Bb.trans (bd.mono Bb.size)
        clear bd Bb Ib
        go_wp2_with fail
        go_ret
        exact ⟨rfl, Bd⟩
    · have hne : (rootS (hsL n) == rootS ms) = false := beq_eq_false_iff_ne.2 hs12
      simp only [hne] at q12
      have hb : ((i : Int) == (j : Int)) = false := by
        have : j ≠ i := fun e => hs12 (by rw [HIJ.out e])
        simp; omega
      clear hne hs12
      go_wp2_with fail
      go_ret
      exact ⟨rfl, Ba⟩
end Go.Proofs.YtlcfjiiejmnghaaDoor
