/-
  MerkleHalves, walked.
-/
import Derived.Test.YtlcfjiiejmnghaaDoorRRoot
namespace Go.Proofs.YtlcfjiiejmnghaaDoor
open Go.RowKit
set_option linter.unusedSimpArgs false
set_option linter.unusedVariables false
theorem wp_alloc_blk {P : Program} {w : World} {o : Oper} {a : Act} {K : Act → World → Prop} {Q : Exit → Act → World → Prop} (t : TypeId) (ho : o.op = .alloc t) (Z : Array Value)
    (hz : (P.info? t).map (fun i => i.zero) = some (some (.agg Z)))
    (hK : ∀ w' g, Hid (w'.heap[g]? = some (.cells Z t (0, 0))) → Below w.heap.size w w' → w.heap.size ≤ g → K (a.put o.dst (.pointer (some ⟨g, 0, none⟩))) w') : o.wp P a w K Q := by
  have h0 : (zeroValue t).run P w = .ok (.agg Z) w := by
    cases hq : P.info? t with
    | none => simp [hq] at hz
    | some i =>
      simp [hq] at hz
      simp [zeroValue, typeInfo, hq, hz]
  have hr : (Instr.alloc t true (.tuple #[])).run P w = .ok (.pointer (some ⟨w.heap.size, 0, none⟩)) (w.alloc (.cells Z t)) := by
    simp [Instr.alloc, h0, newVar, newRow, Value.cells]
  unfold Oper.wp execOp
  simp only [ho, Sem.run_bind, Sem.run_pure, Result.andThen_ok, hr]
  exact hK _ _ (heap_alloc_new w _) ((Below.refl _ _).alloc (Nat.le_refl _) _) (Nat.le_refl _)
theorem IsH_mid {w : World} {ao : Option Addr} {n cap : Nat} {hs : List (List UInt8)} (h : IsH w ao n cap hs) (lo hi : Nat) (h1 : lo ≤ hi) (h2 : hi ≤ n) (hc : lo < cap) :
    ∃ ao2, (∀ w' : World, (Instr.slice 33 (.slice ao n cap) (some (.int .i64 lo)) (some (.int .i64 hi)) none).run Tryd.prog w' = .ok (.slice ao2 (hi - lo) (cap - lo)) w') ∧ IsH w ao2 (hi - lo) (cap - lo) ((hs.drop lo).take (hi - lo)) := by
  have hle := h.le
  have hrun : ∀ w' : World, (Instr.slice 33 (.slice ao n cap) (some (.int .i64 lo)) (some (.int .i64 hi)) none).run Tryd.prog w' = .ok (sliced ao lo hi cap 32) w' := fun w' => by
    rw [run_slice_lh w' 33 ao n cap (by kernel_rfl) .i64 .i64 (lo : Int) (hi : Int) (by omega) (by omega) (by omega), elemH]
    simp [Result.andThen]
  exact ⟨ao.map fun x => x.add (lo * 32), fun w' => by rw [hrun, sliced, if_neg (by omega)], IsH_take (IsH_drop h lo (by omega)) (hi - lo) (by omega)⟩
theorem halves_two (hs : List (List UInt8)) (q n k : Nat) (hn : n = 2 ^ q) (hk : k = 2 * n) (hl : k ≤ hs.length) : rootS (hs.take k) = two (rootS (hs.take n)) (rootS ((hs.drop n).take (k - n))) := by
  have h1 := Nat.one_le_two_pow (n := q)
  have hl' : (hs.take k).length = k := by rw [List.length_take]; omega
  have hp : Mk.part k = n := by rw [hn]; exact Mk.part_eq (by omega) (by omega)
  unfold rootS
  rw [Mk.root_more _ _ (hs.take k) (by omega), hl', hp, List.take_take, List.drop_take, Nat.min_eq_left (by omega)]
theorem halves_odd (hs : List (List UInt8)) (q n k m : Nat) (hn : n = 2 ^ q) (hk : k = 2 * n) (hm : m = k + 1) (hl : hs.length = m) : rootS hs = two (rootS (hs.take k)) (hs.getD k []) := by
  have h1 := Nat.one_le_two_pow (n := q)
  have hp : Mk.part m = k := by
    have : k = 2 ^ (q + 1) := by rw [hk, hn, Nat.pow_succ]; omega
    rw [this]
    exact Mk.part_eq (by omega) (by omega)
  have hd : rootS (hs.drop k) = hs.getD k [] := by
    unfold rootS
    rw [Mk.root_one _ _ _ (by rw [List.length_drop]; omega)]
    have hk : k < hs.length := by omega
    simp [List.headD_eq_head?_getD, List.head?_drop, List.getD, hk]
  rw [← hd]
  unfold rootS
  rw [Mk.root_more _ _ hs (by omega), hl, hp]
theorem pow_small (q : Nat) (h : q < 5) : wrap64 ((2 : Int) ^ q) = ((2 ^ q : Nat) : Int) ∧ 1 ≤ 2 ^ q ∧ 2 ^ q ≤ 16 := by
  have : q = 0 ∨ q = 1 ∨ q = 2 ∨ q = 3 ∨ q = 4 := by omega
  rcases this with rfl | rfl | rfl | rfl | rfl <;> (refine ⟨?_, ?_, ?_⟩ <;> decide +kernel)
set_option maxRecDepth 100000 in
set_option maxHeartbeats 16000000 in
theorem merkleHalves_walk (a0 : Int) (w : World) (hC : RC w) (_w0 : (Lit.int .i64 a0).wf = true) :
    Calls Tryd.prog 11 #[.int .i64 a0] w fun e w' => e = .returned (.bool true) ∧ Below w.heap.size w w' := by
  obtain ⟨q, hq, hq5⟩ := wth_nat a0 5 (by omega)
  have HQ := Lib.hid hq
  clear hq
  obtain ⟨e0, hn1, hn2⟩ := pow_small q hq5
  obtain ⟨n, hn⟩ : ∃ n, n = 2 ^ q := ⟨_, rfl⟩
  rw [← hn] at e0 hn1 hn2
  obtain ⟨k, hk⟩ : ∃ k, k = 2 * n := ⟨_, rfl⟩
  obtain ⟨m, hm⟩ : ∃ m, m = k + 1 := ⟨_, rfl⟩
  have ek : 2 * (n : Int) = (k : Int) := by omega
  have em : (k : Int) + 1 = (m : Int) := by omega
  have hkn : n < k := by omega
  have hkm : k < m := by omega
  have hm33 : m ≤ 33 := by omega
  have hkn' : (n : Int) ≤ (k : Int) := by omega
  have hkm' : (k : Int) < (m : Int) := by omega
  have hnm' : (n : Int) ≤ (m : Int) := by omega
  have T1 := halves_two (hsL m) q n k hn hk (by rw [hsL_length]; omega)
  have T2 := halves_odd (hsL m) q n k m hn hk hm (hsL_length m)
  rw [T1] at T2
  have all32 : ∀ x ∈ hsL m, x.length = 32 := fun x hx => by obtain ⟨k, _, rfl⟩ := List.mem_map.1 hx; exact hsh_length k
  have la := rootS_length ((hsL m).take n) (fun x hx => all32 x (List.mem_of_mem_take hx))
  have lb := rootS_length (((hsL m).drop n).take (k - n)) (fun x hx => all32 x (List.mem_of_mem_drop (List.mem_of_mem_take hx)))
  have HT1 := Lib.hid T1
  have HT2 := Lib.hid T2
  clear hn hk hm T1 T2 all32
  go_enter Tryd.func11, Tryd.ntmps11
  go_wp2_with fail
  refine (known3 _ hC).mono ?_
  rintro e w1 ⟨rfl, B1⟩
  go_wp2_with fail
  refine (within3_any a0 5 _ (by omega) (by omega)).mono ?_
  rintro e w' ⟨rfl, rfl⟩
  rw [show wth a0 (5 : Int) = (q : Int) from HQ.out]
  go_wp2_with fail
  refine (lHashes_any m _ (by omega)).mono ?_
  rintro e w2 ⟨v2, rfl, hO2, b2⟩
  obtain ⟨ao, c, rfl, hI, -⟩ := hO2.isH
  have B2 := B1.trans (b2.mono B1.size)
  clear hO2 b2 B1
  have hle := hI.le
  obtain ⟨a, rfl⟩ := hI.has (by omega)
  obtain ⟨aa, hcA, hIA⟩ := IsH_head hI n (by omega)
  obtain ⟨ab, hcB, hIB⟩ := IsH_mid hI n k (by omega) (by omega) (by omega)
  obtain ⟨ac, hcC, hIC⟩ := IsH_head hI k (by omega)
  have CA := Lib.hid hcA
  have CB := Lib.hid hcB
  have CC := Lib.hid hcC
  have tx := hI.at_ a rfl k (by omega)
  have lx := hI.one k (by omega)
  clear hcA hcB hcC hle
  obtain ⟨ra, hra⟩ : ∃ ra, ra = rootS ((hsL m).take n) := ⟨_, rfl⟩
  obtain ⟨rb, hrb⟩ : ∃ rb, rb = rootS (((hsL m).drop n).take (k - n)) := ⟨_, rfl⟩
  rw [← hra] at la
  rw [← hrb] at lb
  have HRA := Lib.hid hra
  have HRB := Lib.hid hrb
  have HT1' : Hid (rootS ((hsL m).take k) = two ra rb) := by rw [HRA.out, HRB.out]; exact HT1
  have HT2' : Hid (rootS (hsL m) = two (two ra rb) ((hsL m).getD k [])) := by rw [HRA.out, HRB.out]; exact HT2
  clear hra hrb HT1 HT2
  generalize (hsL m).getD k [] = x at tx lx HT2'
  have LA := Lib.hid la
  have LB := Lib.hid lb
  have LX := Lib.hid lx
  clear la lb lx
  have u24 := Tryd.underlying24
  have heq1 := equal_hash (two ra rb) (two ra rb) (two_length _ _) (two_length _ _)
  have heq2 := equal_hash (two (two ra rb) x) (two (two ra rb) x) (two_length _ _) (two_length _ _)
  simp only [beq_self_eq_true] at heq1 heq2
  have hR : RC w2 := hC.past B2
  have ik := IntWalk.i64_in (k : Int) (by omega)
  go_wp2_with fail
  refine wp_region_held_drew (S := fun w' => Below w2.heap.size w2 w') (by kernel_rfl) ((Below.refl _ _).drew) (fun hHeld => ?_)
  have k0 : Below w2.heap.size w2 w2.drew := (Below.refl _ _).drew
  refine wpAnyH_take (i := 0) (v := ?_) rfl (by kernel_rfl) (by kernel_rfl) (by kernel_rfl) (fun _ _ _ h => h) (Or.inl ⟨by rfl, ?_⟩) hHeld ?_
  rotate_left 1
  focus (intro wq hSw; go_simp; try with_reducible rfl)
  try (simp only [Act.put, List.getElem_toArray, List.getElem_cons_succ, List.getElem_cons_zero, List.setIfInBounds_toArray, List.set_cons_zero, List.set_cons_succ])
  refine wpAnyH_take (i := 1) (v := ?_) rfl (by kernel_rfl) (by kernel_rfl) (by kernel_rfl) (fun _ _ _ h => h) (Or.inl ⟨by rfl, ?_⟩) hHeld ?_
  rotate_left 1
  focus (intro wq hSw; go_simp; try with_reducible rfl)
  try (simp only [Act.put, List.getElem_toArray, List.getElem_cons_succ, List.getElem_cons_zero, List.setIfInBounds_toArray, List.set_cons_zero, List.set_cons_succ])
  refine wpAnyH_take (i := 2) (v := ?_) rfl (by kernel_rfl) (by kernel_rfl) (by kernel_rfl) (fun _ _ _ h => h) (Or.inl ⟨by rfl, ?_⟩) hHeld ?_
  rotate_left 1
  focus (intro wq hSw; have hcv := CA.out wq; go_simp; try with_reducible rfl)
  try (simp only [Act.put, List.getElem_toArray, List.getElem_cons_succ, List.getElem_cons_zero, List.setIfInBounds_toArray, List.set_cons_zero, List.set_cons_succ])
  refine wpAnyH_take (i := 4) (v := ?_) rfl (by kernel_rfl) (by kernel_rfl) (by kernel_rfl) (fun _ _ _ h => h) (Or.inl ⟨by rfl, ?_⟩) hHeld ?_
  rotate_left 1
  focus (intro wq hSw; go_simp; try with_reducible rfl)
  try (simp only [Act.put, List.getElem_toArray, List.getElem_cons_succ, List.getElem_cons_zero, List.setIfInBounds_toArray, List.set_cons_zero, List.set_cons_succ])
  refine wpAnyH_take (i := 5) (v := ?_) rfl (by kernel_rfl) (by kernel_rfl) (by kernel_rfl) (fun _ _ _ h => h) (Or.inl ⟨by rfl, ?_⟩) hHeld ?_
  rotate_left 1
  focus (intro wq hSw; go_simp; try with_reducible rfl)
  try (simp only [Act.put, List.getElem_toArray, List.getElem_cons_succ, List.getElem_cons_zero, List.setIfInBounds_toArray, List.set_cons_zero, List.set_cons_succ])
  refine wpAnyH_take (i := 6) (v := ?_) rfl (by kernel_rfl) (by kernel_rfl) (by kernel_rfl) (fun _ _ _ h => h) (Or.inl ⟨by rfl, ?_⟩) hHeld ?_
  rotate_left 1
  focus (intro wq hSw; go_simp; try with_reducible rfl)
  try (simp only [Act.put, List.getElem_toArray, List.getElem_cons_succ, List.getElem_cons_zero, List.setIfInBounds_toArray, List.set_cons_zero, List.set_cons_succ])
  refine wpAnyH_take (i := 7) (v := ?_) rfl (by kernel_rfl) (by kernel_rfl) (by kernel_rfl) (fun _ _ _ h => h) (Or.inl ⟨by rfl, ?_⟩) hHeld ?_
  rotate_left 1
  focus (intro wq hSw; go_simp; try with_reducible rfl)
  try (simp only [Act.put, List.getElem_toArray, List.getElem_cons_succ, List.getElem_cons_zero, List.setIfInBounds_toArray, List.set_cons_zero, List.set_cons_succ])
  refine wpAnyH_take (i := 8) (v := ?_) rfl (by kernel_rfl) (by kernel_rfl) (by kernel_rfl) (fun _ _ _ h => h) (Or.inl ⟨by rfl, ?_⟩) hHeld ?_
  rotate_left 1
  focus (intro wq hSw; have hcv := CB.out wq; go_simp; try with_reducible rfl)
  try (simp only [Act.put, List.getElem_toArray, List.getElem_cons_succ, List.getElem_cons_zero, List.setIfInBounds_toArray, List.set_cons_zero, List.set_cons_succ])
  refine wpAnyH_ready (rs := [3, 10, 11]) (by kernel_rfl) (by simp) ?_
  refine (AllReadyH.cons rfl (fun K hK => ?_) (AllReadyH.cons rfl (fun K hK => ?_) (AllReadyH.cons rfl (fun K hK => ?_) AllReadyH.nil)))
  · skip
    go_simp
    go_at_call 26
    (with_reducible refine (root_any aa n c ((hsL m).take n) _ ?_ ?_ ?_).mono ?_)
    · exact hR.past k0
    · exact hIA.past k0
    · omega
    rintro e z1 ⟨rfl, b1⟩
    rw [← HRA.out]
    have k1 := k0.trans (b1.mono k0.size)
    refine hK.out _ _ k1 (fun hHeld => ?_)
    clear hK K
    try (simp only [Act.put, List.getElem_toArray, List.getElem_cons_succ, List.getElem_cons_zero, List.setIfInBounds_toArray, List.set_cons_zero, List.set_cons_succ])
    refine wpAnyH_ready (rs := [9, 10, 11]) (by kernel_rfl) (by simp) ?_
    refine (AllReadyH.cons rfl (fun K hK => ?_) (AllReadyH.cons rfl (fun K hK => ?_) (AllReadyH.cons rfl (fun K hK => ?_) AllReadyH.nil)))
    · skip
      go_simp
      go_at_call 26
      (with_reducible refine (root_any ab (k - n) (c - n) (((hsL m).drop n).take (k - n)) _ ?_ ?_ ?_).mono ?_)
      · exact hR.past k1
      · exact hIB.past k1
      · omega
      rintro e z2 ⟨rfl, b2⟩
      rw [← HRB.out]
      have k2 := k1.trans (b2.mono k1.size)
      refine hK.out _ _ k2 (fun hHeld => ?_)
      clear hK K
      try (simp only [Act.put, List.getElem_toArray, List.getElem_cons_succ, List.getElem_cons_zero, List.setIfInBounds_toArray, List.set_cons_zero, List.set_cons_succ])
      refine wpAnyH_ready (rs := [10, 11]) (by kernel_rfl) (by simp) ?_
      refine (AllReadyH.cons rfl (fun K hK => ?_) (AllReadyH.cons rfl (fun K hK => ?_) AllReadyH.nil))
      · skip
        rw [if_pos (by rfl)]
        refine wp_alloc_blk 24 rfl _ zeroHash fun z3 gA RA3 b3 q3 => ?_
        have k3 := k2.trans (b3.mono k2.size)
        have hgA : w2.heap.size ≤ gA := Nat.le_trans k2.size q3
        refine hK.out _ _ k3 (fun hHeld => ?_)
        clear hK K
        try (simp only [Act.put, List.getElem_toArray, List.getElem_cons_succ, List.getElem_cons_zero, List.setIfInBounds_toArray, List.set_cons_zero, List.set_cons_succ])
        refine wpAnyH_ready (rs := [11]) (by kernel_rfl) (by simp) ?_
        refine (AllReadyH.cons rfl (fun K hK => ?_) AllReadyH.nil)
        · skip
          rw [if_pos (by rfl)]
          refine wp_alloc_blk 24 rfl _ zeroHash fun z4 gB RB4 b4 q4 => ?_
          have k4 := k3.trans (b4.mono k3.size)
          have RA4 : Hid (z4.heap[gA]? = some (.cells (bcs (List.replicate 32 0)).toArray 24 (0, 0))) := (b4.block gA (Array.getElem?_eq_some_iff.1 RA3.out).1).trans RA3.out
          have hgB : w2.heap.size ≤ gB := Nat.le_trans k3.size q4
          have hne : gA ≠ gB := by have := (Array.getElem?_eq_some_iff.1 RA3.out).1; omega
          refine hK.out _ _ k4 (fun hHeld => ?_)
          clear hK K
          try (simp only [Act.put, List.getElem_toArray, List.getElem_cons_succ, List.getElem_cons_zero, List.setIfInBounds_toArray, List.set_cons_zero, List.set_cons_succ])
          refine wpAnyH_ready (rs := [12]) (by kernel_rfl) (by simp) ?_
          refine AllReadyH.cons rfl (fun K hK => ?_) AllReadyH.nil
          rw [if_pos (by rfl)]
          refine wp_store_blk 24 _ _ rfl gA _ (bcs ra).toArray rfl rfl _ RA4 32 sizeHash (by simp [bcs_length]) (by simp [bcs_length, LA.out]) (bcs_all _) fun y1 S1 s1 => ?_
          have ky1 := k4.grown s1 k4.size (fun k hk => by cases hk; exact hgA)
          have RBy : Hid (y1.heap[gB]? = some (.cells (bcs (List.replicate 32 0)).toArray 24 (0, 0))) := (s1.block gB (Array.getElem?_eq_some_iff.1 RB4.out).1 (by simp; omega)).trans RB4.out
          refine hK.out _ _ ky1 (fun hHeld => ?_)
          clear hK K
          try (simp only [Act.put, List.getElem_toArray, List.getElem_cons_succ, List.getElem_cons_zero, List.setIfInBounds_toArray, List.set_cons_zero, List.set_cons_succ])
          refine wpAnyH_ready (rs := [13]) (by kernel_rfl) (by simp) ?_
          refine AllReadyH.cons rfl (fun K hK => ?_) AllReadyH.nil
          rw [if_pos (by rfl)]
          refine wp_store_blk 24 _ _ rfl gB _ (bcs rb).toArray rfl rfl _ RBy 32 sizeHash (by simp [bcs_length]) (by simp [bcs_length, LB.out]) (bcs_all _) fun y2 S2 s2 => ?_
          have ky := ky1.grown s2 ky1.size (fun k hk => by cases hk; exact hgB)
          have X1 : Hid (y2.heap[gA]? = some (.cells (bcs ra).toArray 24 (0, 0))) := (s2.block gA (Array.getElem?_eq_some_iff.1 S1.out).1 (by simp; omega)).trans S1.out
          refine hK.out _ _ ky (fun hHeld => ?_)
          clear hK K
          try (simp only [Act.put, List.getElem_toArray, List.getElem_cons_succ, List.getElem_cons_zero, List.setIfInBounds_toArray, List.set_cons_zero, List.set_cons_succ])
          refine wpAnyH_done (by kernel_rfl) ?_ _
          have t1 := blk_at X1.out
          have t2 := blk_at S2.out
          have By := B2.trans (ky.mono B2.size)
          have Ry := hR.past ky
          have IC := hIC.past ky
          have II := hI.past ky
          have ty := tx.past ky
          go_wp2_with fail
          refine wp_region_held_drew (S := fun w' => Below y2.heap.size y2 w') (by kernel_rfl) ((Below.refl _ _).drew) (fun hHeld => ?_)
          have c0 : Below y2.heap.size y2 y2.drew := (Below.refl _ _).drew
          refine wpAnyH_take (i := 0) (v := ?_) rfl (by kernel_rfl) (by kernel_rfl) (by kernel_rfl) (fun _ _ _ h => h) (Or.inl ⟨by rfl, ?_⟩) hHeld ?_
          rotate_left 1
          focus (intro wq hSw; go_simp; try with_reducible rfl)
          try (simp only [Act.put, List.getElem_toArray, List.getElem_cons_succ, List.getElem_cons_zero, List.setIfInBounds_toArray, List.set_cons_zero, List.set_cons_succ])
          refine wpAnyH_take (i := 1) (v := ?_) rfl (by kernel_rfl) (by kernel_rfl) (by kernel_rfl) (fun _ _ _ h => h) (Or.inl ⟨by rfl, ?_⟩) hHeld ?_
          rotate_left 1
          focus (intro wq hSw; go_simp; try with_reducible rfl)
          try (simp only [Act.put, List.getElem_toArray, List.getElem_cons_succ, List.getElem_cons_zero, List.setIfInBounds_toArray, List.set_cons_zero, List.set_cons_succ])
          refine wpAnyH_take (i := 2) (v := ?_) rfl (by kernel_rfl) (by kernel_rfl) (by kernel_rfl) (fun _ _ _ h => h) (Or.inl ⟨by rfl, ?_⟩) hHeld ?_
          rotate_left 1
          focus (intro wq hSw; go_simp; try with_reducible rfl)
          try (simp only [Act.put, List.getElem_toArray, List.getElem_cons_succ, List.getElem_cons_zero, List.setIfInBounds_toArray, List.set_cons_zero, List.set_cons_succ])
          refine wpAnyH_take (i := 3) (v := ?_) rfl (by kernel_rfl) (by kernel_rfl) (by kernel_rfl) (fun _ _ _ h => h) (Or.inl ⟨by rfl, ?_⟩) hHeld ?_
          rotate_left 1
          focus (intro wq hSw; have hcv := CC.out wq; go_simp; try with_reducible rfl)
          try (simp only [Act.put, List.getElem_toArray, List.getElem_cons_succ, List.getElem_cons_zero, List.setIfInBounds_toArray, List.set_cons_zero, List.set_cons_succ])
          refine wpAnyH_take (i := 5) (v := .agg (bcs (ra)).toArray) rfl (by kernel_rfl) (by kernel_rfl) (by kernel_rfl) (fun _ _ _ h => h) (yieldsIf_load_at (by rfl) 24 _ rfl ⟨gA, 0, none⟩ rfl (ra) (fun wq hSw => t1.past hSw) _ _ u24 (hash_size _ LA.out)) hHeld ?_
          try (simp only [Act.put, List.getElem_toArray, List.getElem_cons_succ, List.getElem_cons_zero, List.setIfInBounds_toArray, List.set_cons_zero, List.set_cons_succ])
          refine wpAnyH_take (i := 6) (v := .agg (bcs (rb)).toArray) rfl (by kernel_rfl) (by kernel_rfl) (by kernel_rfl) (fun _ _ _ h => h) (yieldsIf_load_at (by rfl) 24 _ rfl ⟨gB, 0, none⟩ rfl (rb) (fun wq hSw => t2.past hSw) _ _ u24 (hash_size _ LB.out)) hHeld ?_
          try (simp only [Act.put, List.getElem_toArray, List.getElem_cons_succ, List.getElem_cons_zero, List.setIfInBounds_toArray, List.set_cons_zero, List.set_cons_succ])
          refine wpAnyH_ready (rs := [4]) (by kernel_rfl) (by simp) ?_
          refine AllReadyH.cons rfl (fun K hK => ?_) AllReadyH.nil
          go_simp
          go_at_call 26
          (with_reducible refine (root_any ac k c ((hsL m).take k) _ ?_ ?_ ?_).mono ?_)
          · exact Ry.past c0
          · exact IC.past c0
          · omega
          rintro e va ⟨rfl, d1⟩
          rw [HT1'.out]
          have c1 := c0.trans (d1.mono c0.size)
          refine hK.out _ _ (c1) (fun hHeld => ?_)
          clear hK K
          try (simp only [Act.put, List.getElem_toArray, List.getElem_cons_succ, List.getElem_cons_zero, List.setIfInBounds_toArray, List.set_cons_zero, List.set_cons_succ])
          refine wpAnyH_ready (rs := [7]) (by kernel_rfl) (by simp) ?_
          refine AllReadyH.cons rfl (fun K hK => ?_) AllReadyH.nil
          go_simp
          go_at_call 34
          (with_reducible refine (rtwo_any ra rb _ ?_ ?_).mono ?_)
          · exact LA.out
          · exact LB.out
          rintro e vb ⟨rfl, d2⟩
          have c2 := c1.trans (d2.mono c1.size)
          refine hK.out _ _ (c2) (fun hHeld => ?_)
          clear hK K
          try (simp only [Act.put, List.getElem_toArray, List.getElem_cons_succ, List.getElem_cons_zero, List.setIfInBounds_toArray, List.set_cons_zero, List.set_cons_succ])
          refine wpAnyH_take (i := 8) (v := ?_) rfl (by kernel_rfl) (by kernel_rfl) (by kernel_rfl) (fun _ _ _ h => h) (Or.inl ⟨by rfl, ?_⟩) hHeld ?_
          rotate_left 1
          focus (intro wq hSw; go_simp; try with_reducible rfl)
          try (simp only [Act.put, List.getElem_toArray, List.getElem_cons_succ, List.getElem_cons_zero, List.setIfInBounds_toArray, List.set_cons_zero, List.set_cons_succ])
          refine wpAnyH_take (i := 9) (v := ?_) rfl (by kernel_rfl) (by kernel_rfl) (by kernel_rfl) (fun _ _ _ h => h) (Or.inl ⟨by rfl, ?_⟩) hHeld ?_
          rotate_left 1
          focus (intro wq hSw; go_simp; try with_reducible rfl)
          try (simp only [Act.put, List.getElem_toArray, List.getElem_cons_succ, List.getElem_cons_zero, List.setIfInBounds_toArray, List.set_cons_zero, List.set_cons_succ])
          refine wpAnyH_take (i := 10) (v := ?_) rfl (by kernel_rfl) (by kernel_rfl) (by kernel_rfl) (fun _ _ _ h => h) (Or.inl ⟨by rfl, ?_⟩) hHeld ?_
          rotate_left 1
          focus (intro wq hSw; go_simp; try with_reducible rfl)
          try (simp only [Act.put, List.getElem_toArray, List.getElem_cons_succ, List.getElem_cons_zero, List.setIfInBounds_toArray, List.set_cons_zero, List.set_cons_succ])
          refine wpAnyH_take (i := 12) (v := .agg (bcs (ra)).toArray) rfl (by kernel_rfl) (by kernel_rfl) (by kernel_rfl) (fun _ _ _ h => h) (yieldsIf_load_at (by rfl) 24 _ rfl ⟨gA, 0, none⟩ rfl (ra) (fun wq hSw => t1.past hSw) _ _ u24 (hash_size _ LA.out)) hHeld ?_
          try (simp only [Act.put, List.getElem_toArray, List.getElem_cons_succ, List.getElem_cons_zero, List.setIfInBounds_toArray, List.set_cons_zero, List.set_cons_succ])
          refine wpAnyH_take (i := 13) (v := .agg (bcs (rb)).toArray) rfl (by kernel_rfl) (by kernel_rfl) (by kernel_rfl) (fun _ _ _ h => h) (yieldsIf_load_at (by rfl) 24 _ rfl ⟨gB, 0, none⟩ rfl (rb) (fun wq hSw => t2.past hSw) _ _ u24 (hash_size _ LB.out)) hHeld ?_
          try (simp only [Act.put, List.getElem_toArray, List.getElem_cons_succ, List.getElem_cons_zero, List.setIfInBounds_toArray, List.set_cons_zero, List.set_cons_succ])
          refine wpAnyH_take (i := 15) (v := ?_) rfl (by kernel_rfl) (by kernel_rfl) (by kernel_rfl) (fun _ _ _ h => h) (Or.inl ⟨by rfl, ?_⟩) hHeld ?_
          rotate_left 1
          focus (intro wq hSw; go_simp; try with_reducible rfl)
          try (simp only [Act.put, List.getElem_toArray, List.getElem_cons_succ, List.getElem_cons_zero, List.setIfInBounds_toArray, List.set_cons_zero, List.set_cons_succ])
          refine wpAnyH_take (i := 16) (v := ?_) rfl (by kernel_rfl) (by kernel_rfl) (by kernel_rfl) (fun _ _ _ h => h) (Or.inl ⟨by rfl, ?_⟩) hHeld ?_
          rotate_left 1
          focus (intro wq hSw; go_simp; try with_reducible rfl)
          try (simp only [Act.put, List.getElem_toArray, List.getElem_cons_succ, List.getElem_cons_zero, List.setIfInBounds_toArray, List.set_cons_zero, List.set_cons_succ])
          refine wpAnyH_take (i := 17) (v := ?_) rfl (by kernel_rfl) (by kernel_rfl) (by kernel_rfl) (fun _ _ _ h => h) (Or.inl ⟨by rfl, ?_⟩) hHeld ?_
          rotate_left 1
          focus (intro wq hSw; go_simp; try with_reducible rfl)
          try (simp only [Act.put, List.getElem_toArray, List.getElem_cons_succ, List.getElem_cons_zero, List.setIfInBounds_toArray, List.set_cons_zero, List.set_cons_succ])
          refine wpAnyH_take (i := 18) (v := ?_) rfl (by kernel_rfl) (by kernel_rfl) (by kernel_rfl) (fun _ _ _ h => h) (Or.inl ⟨by rfl, ?_⟩) hHeld ?_
          rotate_left 1
          focus (intro wq hSw; go_simp; try with_reducible rfl)
          try (simp only [Act.put, List.getElem_toArray, List.getElem_cons_succ, List.getElem_cons_zero, List.setIfInBounds_toArray, List.set_cons_zero, List.set_cons_succ])
          refine wpAnyH_take (i := 19) (v := .agg (bcs (x)).toArray) rfl (by kernel_rfl) (by kernel_rfl) (by kernel_rfl) (fun _ _ _ h => h) (yieldsIf_load_at (by rfl) 24 _ rfl (a.add (k * 32)) rfl (x) (fun wq hSw => ty.past hSw) _ _ u24 (hash_size _ LX.out)) hHeld ?_
          try (simp only [Act.put, List.getElem_toArray, List.getElem_cons_succ, List.getElem_cons_zero, List.setIfInBounds_toArray, List.set_cons_zero, List.set_cons_succ])
          refine wpAnyH_ready (rs := [11]) (by kernel_rfl) (by simp) ?_
          refine AllReadyH.cons rfl (fun K hK => ?_) AllReadyH.nil
          go_simp
          go_at_call 26
          (with_reducible refine (root_any (some a) m c (hsL m) _ ?_ ?_ ?_).mono ?_)
          · exact Ry.past c2
          · exact II.past c2
          · omega
          rintro e vc ⟨rfl, d3⟩
          rw [HT2'.out]
          have c3 := c2.trans (d3.mono c2.size)
          refine hK.out _ _ (c3) (fun hHeld => ?_)
          clear hK K
          try (simp only [Act.put, List.getElem_toArray, List.getElem_cons_succ, List.getElem_cons_zero, List.setIfInBounds_toArray, List.set_cons_zero, List.set_cons_succ])
          refine wpAnyH_ready (rs := [14]) (by kernel_rfl) (by simp) ?_
          refine AllReadyH.cons rfl (fun K hK => ?_) AllReadyH.nil
          go_simp
          go_at_call 34
          (with_reducible refine (rtwo_any ra rb _ ?_ ?_).mono ?_)
          · exact LA.out
          · exact LB.out
          rintro e vd ⟨rfl, d4⟩
          have c4 := c3.trans (d4.mono c3.size)
          refine hK.out _ _ (c4) (fun hHeld => ?_)
          clear hK K
          try (simp only [Act.put, List.getElem_toArray, List.getElem_cons_succ, List.getElem_cons_zero, List.setIfInBounds_toArray, List.set_cons_zero, List.set_cons_succ])
          refine wpAnyH_ready (rs := [20]) (by kernel_rfl) (by simp) ?_
          refine AllReadyH.cons rfl (fun K hK => ?_) AllReadyH.nil
          go_simp
          go_at_call 34
          (with_reducible refine (rtwo_any (two ra rb) x _ ?_ ?_).mono ?_)
          · exact two_length _ _
          · exact LX.out
          rintro e ve ⟨rfl, d5⟩
          have c5 := c4.trans (d5.mono c4.size)
          refine hK.out _ _ (c5) (fun hHeld => ?_)
          clear hK K
          try (simp only [Act.put, List.getElem_toArray, List.getElem_cons_succ, List.getElem_cons_zero, List.setIfInBounds_toArray, List.set_cons_zero, List.set_cons_succ])
          refine wpAnyH_take (i := 21) (v := ?_) rfl (by kernel_rfl) (by kernel_rfl) (by kernel_rfl) (fun _ _ _ h => h) (Or.inl ⟨by rfl, ?_⟩) hHeld ?_
          rotate_left 1
          focus (intro wq hSw; go_simp; try with_reducible rfl)
          try (simp only [Act.put, List.getElem_toArray, List.getElem_cons_succ, List.getElem_cons_zero, List.setIfInBounds_toArray, List.set_cons_zero, List.set_cons_succ])
          refine wpAnyH_take (i := 22) (v := ?_) rfl (by kernel_rfl) (by kernel_rfl) (by kernel_rfl) (fun _ _ _ h => h) (Or.inl ⟨by rfl, ?_⟩) hHeld ?_
          rotate_left 1
          focus (intro wq hSw; go_simp; try with_reducible rfl)
          try (simp only [Act.put, List.getElem_toArray, List.getElem_cons_succ, List.getElem_cons_zero, List.setIfInBounds_toArray, List.set_cons_zero, List.set_cons_succ])
          refine wpAnyH_take (i := 23) (v := ?_) rfl (by kernel_rfl) (by kernel_rfl) (by kernel_rfl) (fun _ _ _ h => h) (Or.inl ⟨by rfl, ?_⟩) hHeld ?_
          rotate_left 1
          focus (intro wq hSw; go_simp; try with_reducible rfl)
          try (simp only [Act.put, List.getElem_toArray, List.getElem_cons_succ, List.getElem_cons_zero, List.setIfInBounds_toArray, List.set_cons_zero, List.set_cons_succ])
          refine wpAnyH_done (by kernel_rfl) ?_ _
          have BF := By.trans (c5.mono By.size)
          go_wp2_with fail
          go_ret
          exact ⟨rfl, BF⟩
      · skip
        rw [if_pos (by rfl)]
        refine wp_alloc_blk 24 rfl _ zeroHash fun z3 gB RB3 b3 q3 => ?_
        have k3 := k2.trans (b3.mono k2.size)
        have hgB : w2.heap.size ≤ gB := Nat.le_trans k2.size q3
        refine hK.out _ _ k3 (fun hHeld => ?_)
        clear hK K
        try (simp only [Act.put, List.getElem_toArray, List.getElem_cons_succ, List.getElem_cons_zero, List.setIfInBounds_toArray, List.set_cons_zero, List.set_cons_succ])
        refine wpAnyH_ready (rs := [10]) (by kernel_rfl) (by simp) ?_
        refine (AllReadyH.cons rfl (fun K hK => ?_) AllReadyH.nil)
        · skip
          rw [if_pos (by rfl)]
          refine wp_alloc_blk 24 rfl _ zeroHash fun z4 gA RA4 b4 q4 => ?_
          have k4 := k3.trans (b4.mono k3.size)
          have RB4 : Hid (z4.heap[gB]? = some (.cells (bcs (List.replicate 32 0)).toArray 24 (0, 0))) := (b4.block gB (Array.getElem?_eq_some_iff.1 RB3.out).1).trans RB3.out
          have hgA : w2.heap.size ≤ gA := Nat.le_trans k3.size q4
          have hne : gA ≠ gB := by have := (Array.getElem?_eq_some_iff.1 RB3.out).1; omega
          refine hK.out _ _ k4 (fun hHeld => ?_)
          clear hK K
          try (simp only [Act.put, List.getElem_toArray, List.getElem_cons_succ, List.getElem_cons_zero, List.setIfInBounds_toArray, List.set_cons_zero, List.set_cons_succ])
          refine wpAnyH_ready (rs := [12]) (by kernel_rfl) (by simp) ?_
          refine AllReadyH.cons rfl (fun K hK => ?_) AllReadyH.nil
          rw [if_pos (by rfl)]
          refine wp_store_blk 24 _ _ rfl gA _ (bcs ra).toArray rfl rfl _ RA4 32 sizeHash (by simp [bcs_length]) (by simp [bcs_length, LA.out]) (bcs_all _) fun y1 S1 s1 => ?_
          have ky1 := k4.grown s1 k4.size (fun k hk => by cases hk; exact hgA)
          have RBy : Hid (y1.heap[gB]? = some (.cells (bcs (List.replicate 32 0)).toArray 24 (0, 0))) := (s1.block gB (Array.getElem?_eq_some_iff.1 RB4.out).1 (by simp; omega)).trans RB4.out
          refine hK.out _ _ ky1 (fun hHeld => ?_)
          clear hK K
          try (simp only [Act.put, List.getElem_toArray, List.getElem_cons_succ, List.getElem_cons_zero, List.setIfInBounds_toArray, List.set_cons_zero, List.set_cons_succ])
          refine wpAnyH_ready (rs := [13]) (by kernel_rfl) (by simp) ?_
          refine AllReadyH.cons rfl (fun K hK => ?_) AllReadyH.nil
          rw [if_pos (by rfl)]
          refine wp_store_blk 24 _ _ rfl gB _ (bcs rb).toArray rfl rfl _ RBy 32 sizeHash (by simp [bcs_length]) (by simp [bcs_length, LB.out]) (bcs_all _) fun y2 S2 s2 => ?_
          have ky := ky1.grown s2 ky1.size (fun k hk => by cases hk; exact hgB)
          have X1 : Hid (y2.heap[gA]? = some (.cells (bcs ra).toArray 24 (0, 0))) := (s2.block gA (Array.getElem?_eq_some_iff.1 S1.out).1 (by simp; omega)).trans S1.out
          refine hK.out _ _ ky (fun hHeld => ?_)
          clear hK K
          try (simp only [Act.put, List.getElem_toArray, List.getElem_cons_succ, List.getElem_cons_zero, List.setIfInBounds_toArray, List.set_cons_zero, List.set_cons_succ])
          refine wpAnyH_done (by kernel_rfl) ?_ _
          have t1 := blk_at X1.out
          have t2 := blk_at S2.out
          have By := B2.trans (ky.mono B2.size)
          have Ry := hR.past ky
          have IC := hIC.past ky
          have II := hI.past ky
          have ty := tx.past ky
          go_wp2_with fail
          refine wp_region_held_drew (S := fun w' => Below y2.heap.size y2 w') (by kernel_rfl) ((Below.refl _ _).drew) (fun hHeld => ?_)
          have c0 : Below y2.heap.size y2 y2.drew := (Below.refl _ _).drew
          refine wpAnyH_take (i := 0) (v := ?_) rfl (by kernel_rfl) (by kernel_rfl) (by kernel_rfl) (fun _ _ _ h => h) (Or.inl ⟨by rfl, ?_⟩) hHeld ?_
          rotate_left 1
          focus (intro wq hSw; go_simp; try with_reducible rfl)
          try (simp only [Act.put, List.getElem_toArray, List.getElem_cons_succ, List.getElem_cons_zero, List.setIfInBounds_toArray, List.set_cons_zero, List.set_cons_succ])
          refine wpAnyH_take (i := 1) (v := ?_) rfl (by kernel_rfl) (by kernel_rfl) (by kernel_rfl) (fun _ _ _ h => h) (Or.inl ⟨by rfl, ?_⟩) hHeld ?_
          rotate_left 1
          focus (intro wq hSw; go_simp; try with_reducible rfl)
          try (simp only [Act.put, List.getElem_toArray, List.getElem_cons_succ, List.getElem_cons_zero, List.setIfInBounds_toArray, List.set_cons_zero, List.set_cons_succ])
          refine wpAnyH_take (i := 2) (v := ?_) rfl (by kernel_rfl) (by kernel_rfl) (by kernel_rfl) (fun _ _ _ h => h) (Or.inl ⟨by rfl, ?_⟩) hHeld ?_
          rotate_left 1
          focus (intro wq hSw; go_simp; try with_reducible rfl)
          try (simp only [Act.put, List.getElem_toArray, List.getElem_cons_succ, List.getElem_cons_zero, List.setIfInBounds_toArray, List.set_cons_zero, List.set_cons_succ])
          refine wpAnyH_take (i := 3) (v := ?_) rfl (by kernel_rfl) (by kernel_rfl) (by kernel_rfl) (fun _ _ _ h => h) (Or.inl ⟨by rfl, ?_⟩) hHeld ?_
          rotate_left 1
          focus (intro wq hSw; have hcv := CC.out wq; go_simp; try with_reducible rfl)
          try (simp only [Act.put, List.getElem_toArray, List.getElem_cons_succ, List.getElem_cons_zero, List.setIfInBounds_toArray, List.set_cons_zero, List.set_cons_succ])
          refine wpAnyH_take (i := 5) (v := .agg (bcs (ra)).toArray) rfl (by kernel_rfl) (by kernel_rfl) (by kernel_rfl) (fun _ _ _ h => h) (yieldsIf_load_at (by rfl) 24 _ rfl ⟨gA, 0, none⟩ rfl (ra) (fun wq hSw => t1.past hSw) _ _ u24 (hash_size _ LA.out)) hHeld ?_
          try (simp only [Act.put, List.getElem_toArray, List.getElem_cons_succ, List.getElem_cons_zero, List.setIfInBounds_toArray, List.set_cons_zero, List.set_cons_succ])
          refine wpAnyH_take (i := 6) (v := .agg (bcs (rb)).toArray) rfl (by kernel_rfl) (by kernel_rfl) (by kernel_rfl) (fun _ _ _ h => h) (yieldsIf_load_at (by rfl) 24 _ rfl ⟨gB, 0, none⟩ rfl (rb) (fun wq hSw => t2.past hSw) _ _ u24 (hash_size _ LB.out)) hHeld ?_
          try (simp only [Act.put, List.getElem_toArray, List.getElem_cons_succ, List.getElem_cons_zero, List.setIfInBounds_toArray, List.set_cons_zero, List.set_cons_succ])
          refine wpAnyH_ready (rs := [4]) (by kernel_rfl) (by simp) ?_
          refine AllReadyH.cons rfl (fun K hK => ?_) AllReadyH.nil
          go_simp
          go_at_call 26
          (with_reducible refine (root_any ac k c ((hsL m).take k) _ ?_ ?_ ?_).mono ?_)
          · exact Ry.past c0
          · exact IC.past c0
          · omega
          rintro e va ⟨rfl, d1⟩
          rw [HT1'.out]
          have c1 := c0.trans (d1.mono c0.size)
          refine hK.out _ _ (c1) (fun hHeld => ?_)
          clear hK K
          try (simp only [Act.put, List.getElem_toArray, List.getElem_cons_succ, List.getElem_cons_zero, List.setIfInBounds_toArray, List.set_cons_zero, List.set_cons_succ])
          refine wpAnyH_ready (rs := [7]) (by kernel_rfl) (by simp) ?_
          refine AllReadyH.cons rfl (fun K hK => ?_) AllReadyH.nil
          go_simp
          go_at_call 34
          (with_reducible refine (rtwo_any ra rb _ ?_ ?_).mono ?_)
          · exact LA.out
          · exact LB.out
          rintro e vb ⟨rfl, d2⟩
          have c2 := c1.trans (d2.mono c1.size)
          refine hK.out _ _ (c2) (fun hHeld => ?_)
          clear hK K
          try (simp only [Act.put, List.getElem_toArray, List.getElem_cons_succ, List.getElem_cons_zero, List.setIfInBounds_toArray, List.set_cons_zero, List.set_cons_succ])
          refine wpAnyH_take (i := 8) (v := ?_) rfl (by kernel_rfl) (by kernel_rfl) (by kernel_rfl) (fun _ _ _ h => h) (Or.inl ⟨by rfl, ?_⟩) hHeld ?_
          rotate_left 1
          focus (intro wq hSw; go_simp; try with_reducible rfl)
          try (simp only [Act.put, List.getElem_toArray, List.getElem_cons_succ, List.getElem_cons_zero, List.setIfInBounds_toArray, List.set_cons_zero, List.set_cons_succ])
          refine wpAnyH_take (i := 9) (v := ?_) rfl (by kernel_rfl) (by kernel_rfl) (by kernel_rfl) (fun _ _ _ h => h) (Or.inl ⟨by rfl, ?_⟩) hHeld ?_
          rotate_left 1
          focus (intro wq hSw; go_simp; try with_reducible rfl)
          try (simp only [Act.put, List.getElem_toArray, List.getElem_cons_succ, List.getElem_cons_zero, List.setIfInBounds_toArray, List.set_cons_zero, List.set_cons_succ])
          refine wpAnyH_take (i := 10) (v := ?_) rfl (by kernel_rfl) (by kernel_rfl) (by kernel_rfl) (fun _ _ _ h => h) (Or.inl ⟨by rfl, ?_⟩) hHeld ?_
          rotate_left 1
          focus (intro wq hSw; go_simp; try with_reducible rfl)
          try (simp only [Act.put, List.getElem_toArray, List.getElem_cons_succ, List.getElem_cons_zero, List.setIfInBounds_toArray, List.set_cons_zero, List.set_cons_succ])
          refine wpAnyH_take (i := 12) (v := .agg (bcs (ra)).toArray) rfl (by kernel_rfl) (by kernel_rfl) (by kernel_rfl) (fun _ _ _ h => h) (yieldsIf_load_at (by rfl) 24 _ rfl ⟨gA, 0, none⟩ rfl (ra) (fun wq hSw => t1.past hSw) _ _ u24 (hash_size _ LA.out)) hHeld ?_
          try (simp only [Act.put, List.getElem_toArray, List.getElem_cons_succ, List.getElem_cons_zero, List.setIfInBounds_toArray, List.set_cons_zero, List.set_cons_succ])
          refine wpAnyH_take (i := 13) (v := .agg (bcs (rb)).toArray) rfl (by kernel_rfl) (by kernel_rfl) (by kernel_rfl) (fun _ _ _ h => h) (yieldsIf_load_at (by rfl) 24 _ rfl ⟨gB, 0, none⟩ rfl (rb) (fun wq hSw => t2.past hSw) _ _ u24 (hash_size _ LB.out)) hHeld ?_
          try (simp only [Act.put, List.getElem_toArray, List.getElem_cons_succ, List.getElem_cons_zero, List.setIfInBounds_toArray, List.set_cons_zero, List.set_cons_succ])
          refine wpAnyH_take (i := 15) (v := ?_) rfl (by kernel_rfl) (by kernel_rfl) (by kernel_rfl) (fun _ _ _ h => h) (Or.inl ⟨by rfl, ?_⟩) hHeld ?_
          rotate_left 1
          focus (intro wq hSw; go_simp; try with_reducible rfl)
          try (simp only [Act.put, List.getElem_toArray, List.getElem_cons_succ, List.getElem_cons_zero, List.setIfInBounds_toArray, List.set_cons_zero, List.set_cons_succ])
          refine wpAnyH_take (i := 16) (v := ?_) rfl (by kernel_rfl) (by kernel_rfl) (by kernel_rfl) (fun _ _ _ h => h) (Or.inl ⟨by rfl, ?_⟩) hHeld ?_
          rotate_left 1
          focus (intro wq hSw; go_simp; try with_reducible rfl)
          try (simp only [Act.put, List.getElem_toArray, List.getElem_cons_succ, List.getElem_cons_zero, List.setIfInBounds_toArray, List.set_cons_zero, List.set_cons_succ])
          refine wpAnyH_take (i := 17) (v := ?_) rfl (by kernel_rfl) (by kernel_rfl) (by kernel_rfl) (fun _ _ _ h => h) (Or.inl ⟨by rfl, ?_⟩) hHeld ?_
          rotate_left 1
          focus (intro wq hSw; go_simp; try with_reducible rfl)
          try (simp only [Act.put, List.getElem_toArray, List.getElem_cons_succ, List.getElem_cons_zero, List.setIfInBounds_toArray, List.set_cons_zero, List.set_cons_succ])
          refine wpAnyH_take (i := 18) (v := ?_) rfl (by kernel_rfl) (by kernel_rfl) (by kernel_rfl) (fun _ _ _ h => h) (Or.inl ⟨by rfl, ?_⟩) hHeld ?_
          rotate_left 1
          focus (intro wq hSw; go_simp; try with_reducible rfl)
          try (simp only [Act.put, List.getElem_toArray, List.getElem_cons_succ, List.getElem_cons_zero, List.setIfInBounds_toArray, List.set_cons_zero, List.set_cons_succ])
          refine wpAnyH_take (i := 19) (v := .agg (bcs (x)).toArray) rfl (by kernel_rfl) (by kernel_rfl) (by kernel_rfl) (fun _ _ _ h => h) (yieldsIf_load_at (by rfl) 24 _ rfl (a.add (k * 32)) rfl (x) (fun wq hSw => ty.past hSw) _ _ u24 (hash_size _ LX.out)) hHeld ?_
          try (simp only [Act.put, List.getElem_toArray, List.getElem_cons_succ, List.getElem_cons_zero, List.setIfInBounds_toArray, List.set_cons_zero, List.set_cons_succ])
          refine wpAnyH_ready (rs := [11]) (by kernel_rfl) (by simp) ?_
          refine AllReadyH.cons rfl (fun K hK => ?_) AllReadyH.nil
          go_simp
          go_at_call 26
          (with_reducible refine (root_any (some a) m c (hsL m) _ ?_ ?_ ?_).mono ?_)
          · exact Ry.past c2
          · exact II.past c2
          · omega
          rintro e vc ⟨rfl, d3⟩
          rw [HT2'.out]
          have c3 := c2.trans (d3.mono c2.size)
          refine hK.out _ _ (c3) (fun hHeld => ?_)
          clear hK K
          try (simp only [Act.put, List.getElem_toArray, List.getElem_cons_succ, List.getElem_cons_zero, List.setIfInBounds_toArray, List.set_cons_zero, List.set_cons_succ])
          refine wpAnyH_ready (rs := [14]) (by kernel_rfl) (by simp) ?_
          refine AllReadyH.cons rfl (fun K hK => ?_) AllReadyH.nil
          go_simp
          go_at_call 34
          (with_reducible refine (rtwo_any ra rb _ ?_ ?_).mono ?_)
          · exact LA.out
          · exact LB.out
          rintro e vd ⟨rfl, d4⟩
          have c4 := c3.trans (d4.mono c3.size)
          refine hK.out _ _ (c4) (fun hHeld => ?_)
          clear hK K
          try (simp only [Act.put, List.getElem_toArray, List.getElem_cons_succ, List.getElem_cons_zero, List.setIfInBounds_toArray, List.set_cons_zero, List.set_cons_succ])
          refine wpAnyH_ready (rs := [20]) (by kernel_rfl) (by simp) ?_
          refine AllReadyH.cons rfl (fun K hK => ?_) AllReadyH.nil
          go_simp
          go_at_call 34
          (with_reducible refine (rtwo_any (two ra rb) x _ ?_ ?_).mono ?_)
          · exact two_length _ _
          · exact LX.out
          rintro e ve ⟨rfl, d5⟩
          have c5 := c4.trans (d5.mono c4.size)
          refine hK.out _ _ (c5) (fun hHeld => ?_)
          clear hK K
          try (simp only [Act.put, List.getElem_toArray, List.getElem_cons_succ, List.getElem_cons_zero, List.setIfInBounds_toArray, List.set_cons_zero, List.set_cons_succ])
          refine wpAnyH_take (i := 21) (v := ?_) rfl (by kernel_rfl) (by kernel_rfl) (by kernel_rfl) (fun _ _ _ h => h) (Or.inl ⟨by rfl, ?_⟩) hHeld ?_
          rotate_left 1
          focus (intro wq hSw; go_simp; try with_reducible rfl)
          try (simp only [Act.put, List.getElem_toArray, List.getElem_cons_succ, List.getElem_cons_zero, List.setIfInBounds_toArray, List.set_cons_zero, List.set_cons_succ])
          refine wpAnyH_take (i := 22) (v := ?_) rfl (by kernel_rfl) (by kernel_rfl) (by kernel_rfl) (fun _ _ _ h => h) (Or.inl ⟨by rfl, ?_⟩) hHeld ?_
          rotate_left 1
          focus (intro wq hSw; go_simp; try with_reducible rfl)
          try (simp only [Act.put, List.getElem_toArray, List.getElem_cons_succ, List.getElem_cons_zero, List.setIfInBounds_toArray, List.set_cons_zero, List.set_cons_succ])
          refine wpAnyH_take (i := 23) (v := ?_) rfl (by kernel_rfl) (by kernel_rfl) (by kernel_rfl) (fun _ _ _ h => h) (Or.inl ⟨by rfl, ?_⟩) hHeld ?_
          rotate_left 1
          focus (intro wq hSw; go_simp; try with_reducible rfl)
          try (simp only [Act.put, List.getElem_toArray, List.getElem_cons_succ, List.getElem_cons_zero, List.setIfInBounds_toArray, List.set_cons_zero, List.set_cons_succ])
          refine wpAnyH_done (by kernel_rfl) ?_ _
          have BF := By.trans (c5.mono By.size)
          go_wp2_with fail
          go_ret
          exact ⟨rfl, BF⟩
    · skip
      rw [if_pos (by rfl)]
      refine wp_alloc_blk 24 rfl _ zeroHash fun z2 gA RA2 b2 q2 => ?_
      have k2 := k1.trans (b2.mono k1.size)
      have hgA : w2.heap.size ≤ gA := Nat.le_trans k1.size q2
      refine hK.out _ _ k2 (fun hHeld => ?_)
      clear hK K
      try (simp only [Act.put, List.getElem_toArray, List.getElem_cons_succ, List.getElem_cons_zero, List.setIfInBounds_toArray, List.set_cons_zero, List.set_cons_succ])
      refine wpAnyH_ready (rs := [9, 11]) (by kernel_rfl) (by simp) ?_
      refine (AllReadyH.cons rfl (fun K hK => ?_) (AllReadyH.cons rfl (fun K hK => ?_) AllReadyH.nil))
      · skip
        go_simp
        go_at_call 26
        (with_reducible refine (root_any ab (k - n) (c - n) (((hsL m).drop n).take (k - n)) _ ?_ ?_ ?_).mono ?_)
        · exact hR.past k2
        · exact hIB.past k2
        · omega
        rintro e z3 ⟨rfl, b3⟩
        rw [← HRB.out]
        have k3 := k2.trans (b3.mono k2.size)
        have RA3 : Hid (z3.heap[gA]? = some (.cells (bcs (List.replicate 32 0)).toArray 24 (0, 0))) := (b3.block gA (Array.getElem?_eq_some_iff.1 RA2.out).1).trans RA2.out
        refine hK.out _ _ k3 (fun hHeld => ?_)
        clear hK K
        try (simp only [Act.put, List.getElem_toArray, List.getElem_cons_succ, List.getElem_cons_zero, List.setIfInBounds_toArray, List.set_cons_zero, List.set_cons_succ])
        refine wpAnyH_ready (rs := [11]) (by kernel_rfl) (by simp) ?_
        refine (AllReadyH.cons rfl (fun K hK => ?_) AllReadyH.nil)
        · skip
          rw [if_pos (by rfl)]
          refine wp_alloc_blk 24 rfl _ zeroHash fun z4 gB RB4 b4 q4 => ?_
          have k4 := k3.trans (b4.mono k3.size)
          have RA4 : Hid (z4.heap[gA]? = some (.cells (bcs (List.replicate 32 0)).toArray 24 (0, 0))) := (b4.block gA (Array.getElem?_eq_some_iff.1 RA3.out).1).trans RA3.out
          have hgB : w2.heap.size ≤ gB := Nat.le_trans k3.size q4
          have hne : gA ≠ gB := by have := (Array.getElem?_eq_some_iff.1 RA3.out).1; omega
          refine hK.out _ _ k4 (fun hHeld => ?_)
          clear hK K
          try (simp only [Act.put, List.getElem_toArray, List.getElem_cons_succ, List.getElem_cons_zero, List.setIfInBounds_toArray, List.set_cons_zero, List.set_cons_succ])
          refine wpAnyH_ready (rs := [12]) (by kernel_rfl) (by simp) ?_
          refine AllReadyH.cons rfl (fun K hK => ?_) AllReadyH.nil
          rw [if_pos (by rfl)]
          refine wp_store_blk 24 _ _ rfl gA _ (bcs ra).toArray rfl rfl _ RA4 32 sizeHash (by simp [bcs_length]) (by simp [bcs_length, LA.out]) (bcs_all _) fun y1 S1 s1 => ?_
          have ky1 := k4.grown s1 k4.size (fun k hk => by cases hk; exact hgA)
          have RBy : Hid (y1.heap[gB]? = some (.cells (bcs (List.replicate 32 0)).toArray 24 (0, 0))) := (s1.block gB (Array.getElem?_eq_some_iff.1 RB4.out).1 (by simp; omega)).trans RB4.out
          refine hK.out _ _ ky1 (fun hHeld => ?_)
          clear hK K
          try (simp only [Act.put, List.getElem_toArray, List.getElem_cons_succ, List.getElem_cons_zero, List.setIfInBounds_toArray, List.set_cons_zero, List.set_cons_succ])
          refine wpAnyH_ready (rs := [13]) (by kernel_rfl) (by simp) ?_
          refine AllReadyH.cons rfl (fun K hK => ?_) AllReadyH.nil
          rw [if_pos (by rfl)]
          refine wp_store_blk 24 _ _ rfl gB _ (bcs rb).toArray rfl rfl _ RBy 32 sizeHash (by simp [bcs_length]) (by simp [bcs_length, LB.out]) (bcs_all _) fun y2 S2 s2 => ?_
          have ky := ky1.grown s2 ky1.size (fun k hk => by cases hk; exact hgB)
          have X1 : Hid (y2.heap[gA]? = some (.cells (bcs ra).toArray 24 (0, 0))) := (s2.block gA (Array.getElem?_eq_some_iff.1 S1.out).1 (by simp; omega)).trans S1.out
          refine hK.out _ _ ky (fun hHeld => ?_)
          clear hK K
          try (simp only [Act.put, List.getElem_toArray, List.getElem_cons_succ, List.getElem_cons_zero, List.setIfInBounds_toArray, List.set_cons_zero, List.set_cons_succ])
          refine wpAnyH_done (by kernel_rfl) ?_ _
          have t1 := blk_at X1.out
          have t2 := blk_at S2.out
          have By := B2.trans (ky.mono B2.size)
          have Ry := hR.past ky
          have IC := hIC.past ky
          have II := hI.past ky
          have ty := tx.past ky
          go_wp2_with fail
          refine wp_region_held_drew (S := fun w' => Below y2.heap.size y2 w') (by kernel_rfl) ((Below.refl _ _).drew) (fun hHeld => ?_)
          have c0 : Below y2.heap.size y2 y2.drew := (Below.refl _ _).drew
          refine wpAnyH_take (i := 0) (v := ?_) rfl (by kernel_rfl) (by kernel_rfl) (by kernel_rfl) (fun _ _ _ h => h) (Or.inl ⟨by rfl, ?_⟩) hHeld ?_
          rotate_left 1
          focus (intro wq hSw; go_simp; try with_reducible rfl)
          try (simp only [Act.put, List.getElem_toArray, List.getElem_cons_succ, List.getElem_cons_zero, List.setIfInBounds_toArray, List.set_cons_zero, List.set_cons_succ])
          refine wpAnyH_take (i := 1) (v := ?_) rfl (by kernel_rfl) (by kernel_rfl) (by kernel_rfl) (fun _ _ _ h => h) (Or.inl ⟨by rfl, ?_⟩) hHeld ?_
          rotate_left 1
          focus (intro wq hSw; go_simp; try with_reducible rfl)
          try (simp only [Act.put, List.getElem_toArray, List.getElem_cons_succ, List.getElem_cons_zero, List.setIfInBounds_toArray, List.set_cons_zero, List.set_cons_succ])
          refine wpAnyH_take (i := 2) (v := ?_) rfl (by kernel_rfl) (by kernel_rfl) (by kernel_rfl) (fun _ _ _ h => h) (Or.inl ⟨by rfl, ?_⟩) hHeld ?_
          rotate_left 1
          focus (intro wq hSw; go_simp; try with_reducible rfl)
          try (simp only [Act.put, List.getElem_toArray, List.getElem_cons_succ, List.getElem_cons_zero, List.setIfInBounds_toArray, List.set_cons_zero, List.set_cons_succ])
          refine wpAnyH_take (i := 3) (v := ?_) rfl (by kernel_rfl) (by kernel_rfl) (by kernel_rfl) (fun _ _ _ h => h) (Or.inl ⟨by rfl, ?_⟩) hHeld ?_
          rotate_left 1
          focus (intro wq hSw; have hcv := CC.out wq; go_simp; try with_reducible rfl)
          try (simp only [Act.put, List.getElem_toArray, List.getElem_cons_succ, List.getElem_cons_zero, List.setIfInBounds_toArray, List.set_cons_zero, List.set_cons_succ])
          refine wpAnyH_take (i := 5) (v := .agg (bcs (ra)).toArray) rfl (by kernel_rfl) (by kernel_rfl) (by kernel_rfl) (fun _ _ _ h => h) (yieldsIf_load_at (by rfl) 24 _ rfl ⟨gA, 0, none⟩ rfl (ra) (fun wq hSw => t1.past hSw) _ _ u24 (hash_size _ LA.out)) hHeld ?_
          try (simp only [Act.put, List.getElem_toArray, List.getElem_cons_succ, List.getElem_cons_zero, List.setIfInBounds_toArray, List.set_cons_zero, List.set_cons_succ])
          refine wpAnyH_take (i := 6) (v := .agg (bcs (rb)).toArray) rfl (by kernel_rfl) (by kernel_rfl) (by kernel_rfl) (fun _ _ _ h => h) (yieldsIf_load_at (by rfl) 24 _ rfl ⟨gB, 0, none⟩ rfl (rb) (fun wq hSw => t2.past hSw) _ _ u24 (hash_size _ LB.out)) hHeld ?_
          try (simp only [Act.put, List.getElem_toArray, List.getElem_cons_succ, List.getElem_cons_zero, List.setIfInBounds_toArray, List.set_cons_zero, List.set_cons_succ])
          refine wpAnyH_ready (rs := [4]) (by kernel_rfl) (by simp) ?_
          refine AllReadyH.cons rfl (fun K hK => ?_) AllReadyH.nil
          go_simp
          go_at_call 26
          (with_reducible refine (root_any ac k c ((hsL m).take k) _ ?_ ?_ ?_).mono ?_)
          · exact Ry.past c0
          · exact IC.past c0
          · omega
          rintro e va ⟨rfl, d1⟩
          rw [HT1'.out]
          have c1 := c0.trans (d1.mono c0.size)
          refine hK.out _ _ (c1) (fun hHeld => ?_)
          clear hK K
          try (simp only [Act.put, List.getElem_toArray, List.getElem_cons_succ, List.getElem_cons_zero, List.setIfInBounds_toArray, List.set_cons_zero, List.set_cons_succ])
          refine wpAnyH_ready (rs := [7]) (by kernel_rfl) (by simp) ?_
          refine AllReadyH.cons rfl (fun K hK => ?_) AllReadyH.nil
          go_simp
          go_at_call 34
          (with_reducible refine (rtwo_any ra rb _ ?_ ?_).mono ?_)
          · exact LA.out
          · exact LB.out
          rintro e vb ⟨rfl, d2⟩
          have c2 := c1.trans (d2.mono c1.size)
          refine hK.out _ _ (c2) (fun hHeld => ?_)
          clear hK K
          try (simp only [Act.put, List.getElem_toArray, List.getElem_cons_succ, List.getElem_cons_zero, List.setIfInBounds_toArray, List.set_cons_zero, List.set_cons_succ])
          refine wpAnyH_take (i := 8) (v := ?_) rfl (by kernel_rfl) (by kernel_rfl) (by kernel_rfl) (fun _ _ _ h => h) (Or.inl ⟨by rfl, ?_⟩) hHeld ?_
          rotate_left 1
          focus (intro wq hSw; go_simp; try with_reducible rfl)
          try (simp only [Act.put, List.getElem_toArray, List.getElem_cons_succ, List.getElem_cons_zero, List.setIfInBounds_toArray, List.set_cons_zero, List.set_cons_succ])
          refine wpAnyH_take (i := 9) (v := ?_) rfl (by kernel_rfl) (by kernel_rfl) (by kernel_rfl) (fun _ _ _ h => h) (Or.inl ⟨by rfl, ?_⟩) hHeld ?_
          rotate_left 1
          focus (intro wq hSw; go_simp; try with_reducible rfl)
          try (simp only [Act.put, List.getElem_toArray, List.getElem_cons_succ, List.getElem_cons_zero, List.setIfInBounds_toArray, List.set_cons_zero, List.set_cons_succ])
          refine wpAnyH_take (i := 10) (v := ?_) rfl (by kernel_rfl) (by kernel_rfl) (by kernel_rfl) (fun _ _ _ h => h) (Or.inl ⟨by rfl, ?_⟩) hHeld ?_
          rotate_left 1
          focus (intro wq hSw; go_simp; try with_reducible rfl)
          try (simp only [Act.put, List.getElem_toArray, List.getElem_cons_succ, List.getElem_cons_zero, List.setIfInBounds_toArray, List.set_cons_zero, List.set_cons_succ])
          refine wpAnyH_take (i := 12) (v := .agg (bcs (ra)).toArray) rfl (by kernel_rfl) (by kernel_rfl) (by kernel_rfl) (fun _ _ _ h => h) (yieldsIf_load_at (by rfl) 24 _ rfl ⟨gA, 0, none⟩ rfl (ra) (fun wq hSw => t1.past hSw) _ _ u24 (hash_size _ LA.out)) hHeld ?_
          try (simp only [Act.put, List.getElem_toArray, List.getElem_cons_succ, List.getElem_cons_zero, List.setIfInBounds_toArray, List.set_cons_zero, List.set_cons_succ])
          refine wpAnyH_take (i := 13) (v := .agg (bcs (rb)).toArray) rfl (by kernel_rfl) (by kernel_rfl) (by kernel_rfl) (fun _ _ _ h => h) (yieldsIf_load_at (by rfl) 24 _ rfl ⟨gB, 0, none⟩ rfl (rb) (fun wq hSw => t2.past hSw) _ _ u24 (hash_size _ LB.out)) hHeld ?_
          try (simp only [Act.put, List.getElem_toArray, List.getElem_cons_succ, List.getElem_cons_zero, List.setIfInBounds_toArray, List.set_cons_zero, List.set_cons_succ])
          refine wpAnyH_take (i := 15) (v := ?_) rfl (by kernel_rfl) (by kernel_rfl) (by kernel_rfl) (fun _ _ _ h => h) (Or.inl ⟨by rfl, ?_⟩) hHeld ?_
          rotate_left 1
          focus (intro wq hSw; go_simp; try with_reducible rfl)
          try (simp only [Act.put, List.getElem_toArray, List.getElem_cons_succ, List.getElem_cons_zero, List.setIfInBounds_toArray, List.set_cons_zero, List.set_cons_succ])
          refine wpAnyH_take (i := 16) (v := ?_) rfl (by kernel_rfl) (by kernel_rfl) (by kernel_rfl) (fun _ _ _ h => h) (Or.inl ⟨by rfl, ?_⟩) hHeld ?_
          rotate_left 1
          focus (intro wq hSw; go_simp; try with_reducible rfl)
          try (simp only [Act.put, List.getElem_toArray, List.getElem_cons_succ, List.getElem_cons_zero, List.setIfInBounds_toArray, List.set_cons_zero, List.set_cons_succ])
          refine wpAnyH_take (i := 17) (v := ?_) rfl (by kernel_rfl) (by kernel_rfl) (by kernel_rfl) (fun _ _ _ h => h) (Or.inl ⟨by rfl, ?_⟩) hHeld ?_
          rotate_left 1
          focus (intro wq hSw; go_simp; try with_reducible rfl)
          try (simp only [Act.put, List.getElem_toArray, List.getElem_cons_succ, List.getElem_cons_zero, List.setIfInBounds_toArray, List.set_cons_zero, List.set_cons_succ])
          refine wpAnyH_take (i := 18) (v := ?_) rfl (by kernel_rfl) (by kernel_rfl) (by kernel_rfl) (fun _ _ _ h => h) (Or.inl ⟨by rfl, ?_⟩) hHeld ?_
          rotate_left 1
          focus (intro wq hSw; go_simp; try with_reducible rfl)
          try (simp only [Act.put, List.getElem_toArray, List.getElem_cons_succ, List.getElem_cons_zero, List.setIfInBounds_toArray, List.set_cons_zero, List.set_cons_succ])
          refine wpAnyH_take (i := 19) (v := .agg (bcs (x)).toArray) rfl (by kernel_rfl) (by kernel_rfl) (by kernel_rfl) (fun _ _ _ h => h) (yieldsIf_load_at (by rfl) 24 _ rfl (a.add (k * 32)) rfl (x) (fun wq hSw => ty.past hSw) _ _ u24 (hash_size _ LX.out)) hHeld ?_
          try (simp only [Act.put, List.getElem_toArray, List.getElem_cons_succ, List.getElem_cons_zero, List.setIfInBounds_toArray, List.set_cons_zero, List.set_cons_succ])
          refine wpAnyH_ready (rs := [11]) (by kernel_rfl) (by simp) ?_
          refine AllReadyH.cons rfl (fun K hK => ?_) AllReadyH.nil
          go_simp
          go_at_call 26
          (with_reducible refine (root_any (some a) m c (hsL m) _ ?_ ?_ ?_).mono ?_)
          · exact Ry.past c2
          · exact II.past c2
          · omega
          rintro e vc ⟨rfl, d3⟩
          rw [HT2'.out]
          have c3 := c2.trans (d3.mono c2.size)
          refine hK.out _ _ (c3) (fun hHeld => ?_)
          clear hK K
          try (simp only [Act.put, List.getElem_toArray, List.getElem_cons_succ, List.getElem_cons_zero, List.setIfInBounds_toArray, List.set_cons_zero, List.set_cons_succ])
          refine wpAnyH_ready (rs := [14]) (by kernel_rfl) (by simp) ?_
          refine AllReadyH.cons rfl (fun K hK => ?_) AllReadyH.nil
          go_simp
          go_at_call 34
          (with_reducible refine (rtwo_any ra rb _ ?_ ?_).mono ?_)
          · exact LA.out
          · exact LB.out
          rintro e vd ⟨rfl, d4⟩
          have c4 := c3.trans (d4.mono c3.size)
          refine hK.out _ _ (c4) (fun hHeld => ?_)
          clear hK K
          try (simp only [Act.put, List.getElem_toArray, List.getElem_cons_succ, List.getElem_cons_zero, List.setIfInBounds_toArray, List.set_cons_zero, List.set_cons_succ])
          refine wpAnyH_ready (rs := [20]) (by kernel_rfl) (by simp) ?_
          refine AllReadyH.cons rfl (fun K hK => ?_) AllReadyH.nil
          go_simp
          go_at_call 34
          (with_reducible refine (rtwo_any (two ra rb) x _ ?_ ?_).mono ?_)
          · exact two_length _ _
          · exact LX.out
          rintro e ve ⟨rfl, d5⟩
          have c5 := c4.trans (d5.mono c4.size)
          refine hK.out _ _ (c5) (fun hHeld => ?_)
          clear hK K
          try (simp only [Act.put, List.getElem_toArray, List.getElem_cons_succ, List.getElem_cons_zero, List.setIfInBounds_toArray, List.set_cons_zero, List.set_cons_succ])
          refine wpAnyH_take (i := 21) (v := ?_) rfl (by kernel_rfl) (by kernel_rfl) (by kernel_rfl) (fun _ _ _ h => h) (Or.inl ⟨by rfl, ?_⟩) hHeld ?_
          rotate_left 1
          focus (intro wq hSw; go_simp; try with_reducible rfl)
          try (simp only [Act.put, List.getElem_toArray, List.getElem_cons_succ, List.getElem_cons_zero, List.setIfInBounds_toArray, List.set_cons_zero, List.set_cons_succ])
          refine wpAnyH_take (i := 22) (v := ?_) rfl (by kernel_rfl) (by kernel_rfl) (by kernel_rfl) (fun _ _ _ h => h) (Or.inl ⟨by rfl, ?_⟩) hHeld ?_
          rotate_left 1
          focus (intro wq hSw; go_simp; try with_reducible rfl)
          try (simp only [Act.put, List.getElem_toArray, List.getElem_cons_succ, List.getElem_cons_zero, List.setIfInBounds_toArray, List.set_cons_zero, List.set_cons_succ])
          refine wpAnyH_take (i := 23) (v := ?_) rfl (by kernel_rfl) (by kernel_rfl) (by kernel_rfl) (fun _ _ _ h => h) (Or.inl ⟨by rfl, ?_⟩) hHeld ?_
          rotate_left 1
          focus (intro wq hSw; go_simp; try with_reducible rfl)
          try (simp only [Act.put, List.getElem_toArray, List.getElem_cons_succ, List.getElem_cons_zero, List.setIfInBounds_toArray, List.set_cons_zero, List.set_cons_succ])
          refine wpAnyH_done (by kernel_rfl) ?_ _
          have BF := By.trans (c5.mono By.size)
          go_wp2_with fail
          go_ret
          exact ⟨rfl, BF⟩
      · skip
        rw [if_pos (by rfl)]
        refine wp_alloc_blk 24 rfl _ zeroHash fun z3 gB RB3 b3 q3 => ?_
        have k3 := k2.trans (b3.mono k2.size)
        have RA3 : Hid (z3.heap[gA]? = some (.cells (bcs (List.replicate 32 0)).toArray 24 (0, 0))) := (b3.block gA (Array.getElem?_eq_some_iff.1 RA2.out).1).trans RA2.out
        have hgB : w2.heap.size ≤ gB := Nat.le_trans k2.size q3
        have hne : gA ≠ gB := by have := (Array.getElem?_eq_some_iff.1 RA2.out).1; omega
        refine hK.out _ _ k3 (fun hHeld => ?_)
        clear hK K
        try (simp only [Act.put, List.getElem_toArray, List.getElem_cons_succ, List.getElem_cons_zero, List.setIfInBounds_toArray, List.set_cons_zero, List.set_cons_succ])
        refine wpAnyH_ready (rs := [9]) (by kernel_rfl) (by simp) ?_
        refine (AllReadyH.cons rfl (fun K hK => ?_) AllReadyH.nil)
        · skip
          go_simp
          go_at_call 26
          (with_reducible refine (root_any ab (k - n) (c - n) (((hsL m).drop n).take (k - n)) _ ?_ ?_ ?_).mono ?_)
          · exact hR.past k3
          · exact hIB.past k3
          · omega
          rintro e z4 ⟨rfl, b4⟩
          rw [← HRB.out]
          have k4 := k3.trans (b4.mono k3.size)
          have RA4 : Hid (z4.heap[gA]? = some (.cells (bcs (List.replicate 32 0)).toArray 24 (0, 0))) := (b4.block gA (Array.getElem?_eq_some_iff.1 RA3.out).1).trans RA3.out
          have RB4 : Hid (z4.heap[gB]? = some (.cells (bcs (List.replicate 32 0)).toArray 24 (0, 0))) := (b4.block gB (Array.getElem?_eq_some_iff.1 RB3.out).1).trans RB3.out
          refine hK.out _ _ k4 (fun hHeld => ?_)
          clear hK K
          try (simp only [Act.put, List.getElem_toArray, List.getElem_cons_succ, List.getElem_cons_zero, List.setIfInBounds_toArray, List.set_cons_zero, List.set_cons_succ])
          refine wpAnyH_ready (rs := [12]) (by kernel_rfl) (by simp) ?_
          refine AllReadyH.cons rfl (fun K hK => ?_) AllReadyH.nil
          rw [if_pos (by rfl)]
          refine wp_store_blk 24 _ _ rfl gA _ (bcs ra).toArray rfl rfl _ RA4 32 sizeHash (by simp [bcs_length]) (by simp [bcs_length, LA.out]) (bcs_all _) fun y1 S1 s1 => ?_
          have ky1 := k4.grown s1 k4.size (fun k hk => by cases hk; exact hgA)
          have RBy : Hid (y1.heap[gB]? = some (.cells (bcs (List.replicate 32 0)).toArray 24 (0, 0))) := (s1.block gB (Array.getElem?_eq_some_iff.1 RB4.out).1 (by simp; omega)).trans RB4.out
          refine hK.out _ _ ky1 (fun hHeld => ?_)
          clear hK K
          try (simp only [Act.put, List.getElem_toArray, List.getElem_cons_succ, List.getElem_cons_zero, List.setIfInBounds_toArray, List.set_cons_zero, List.set_cons_succ])
          refine wpAnyH_ready (rs := [13]) (by kernel_rfl) (by simp) ?_
          refine AllReadyH.cons rfl (fun K hK => ?_) AllReadyH.nil
          rw [if_pos (by rfl)]
          refine wp_store_blk 24 _ _ rfl gB _ (bcs rb).toArray rfl rfl _ RBy 32 sizeHash (by simp [bcs_length]) (by simp [bcs_length, LB.out]) (bcs_all _) fun y2 S2 s2 => ?_
          have ky := ky1.grown s2 ky1.size (fun k hk => by cases hk; exact hgB)
          have X1 : Hid (y2.heap[gA]? = some (.cells (bcs ra).toArray 24 (0, 0))) := (s2.block gA (Array.getElem?_eq_some_iff.1 S1.out).1 (by simp; omega)).trans S1.out
          refine hK.out _ _ ky (fun hHeld => ?_)
          clear hK K
          try (simp only [Act.put, List.getElem_toArray, List.getElem_cons_succ, List.getElem_cons_zero, List.setIfInBounds_toArray, List.set_cons_zero, List.set_cons_succ])
          refine wpAnyH_done (by kernel_rfl) ?_ _
          have t1 := blk_at X1.out
          have t2 := blk_at S2.out
          have By := B2.trans (ky.mono B2.size)
          have Ry := hR.past ky
          have IC := hIC.past ky
          have II := hI.past ky
          have ty := tx.past ky
          go_wp2_with fail
          refine wp_region_held_drew (S := fun w' => Below y2.heap.size y2 w') (by kernel_rfl) ((Below.refl _ _).drew) (fun hHeld => ?_)
          have c0 : Below y2.heap.size y2 y2.drew := (Below.refl _ _).drew
          refine wpAnyH_take (i := 0) (v := ?_) rfl (by kernel_rfl) (by kernel_rfl) (by kernel_rfl) (fun _ _ _ h => h) (Or.inl ⟨by rfl, ?_⟩) hHeld ?_
          rotate_left 1
          focus (intro wq hSw; go_simp; try with_reducible rfl)
          try (simp only [Act.put, List.getElem_toArray, List.getElem_cons_succ, List.getElem_cons_zero, List.setIfInBounds_toArray, List.set_cons_zero, List.set_cons_succ])
          refine wpAnyH_take (i := 1) (v := ?_) rfl (by kernel_rfl) (by kernel_rfl) (by kernel_rfl) (fun _ _ _ h => h) (Or.inl ⟨by rfl, ?_⟩) hHeld ?_
          rotate_left 1
          focus (intro wq hSw; go_simp; try with_reducible rfl)
          try (simp only [Act.put, List.getElem_toArray, List.getElem_cons_succ, List.getElem_cons_zero, List.setIfInBounds_toArray, List.set_cons_zero, List.set_cons_succ])
          refine wpAnyH_take (i := 2) (v := ?_) rfl (by kernel_rfl) (by kernel_rfl) (by kernel_rfl) (fun _ _ _ h => h) (Or.inl ⟨by rfl, ?_⟩) hHeld ?_
          rotate_left 1
          focus (intro wq hSw; go_simp; try with_reducible rfl)
          try (simp only [Act.put, List.getElem_toArray, List.getElem_cons_succ, List.getElem_cons_zero, List.setIfInBounds_toArray, List.set_cons_zero, List.set_cons_succ])
          refine wpAnyH_take (i := 3) (v := ?_) rfl (by kernel_rfl) (by kernel_rfl) (by kernel_rfl) (fun _ _ _ h => h) (Or.inl ⟨by rfl, ?_⟩) hHeld ?_
          rotate_left 1
          focus (intro wq hSw; have hcv := CC.out wq; go_simp; try with_reducible rfl)
          try (simp only [Act.put, List.getElem_toArray, List.getElem_cons_succ, List.getElem_cons_zero, List.setIfInBounds_toArray, List.set_cons_zero, List.set_cons_succ])
          refine wpAnyH_take (i := 5) (v := .agg (bcs (ra)).toArray) rfl (by kernel_rfl) (by kernel_rfl) (by kernel_rfl) (fun _ _ _ h => h) (yieldsIf_load_at (by rfl) 24 _ rfl ⟨gA, 0, none⟩ rfl (ra) (fun wq hSw => t1.past hSw) _ _ u24 (hash_size _ LA.out)) hHeld ?_
          try (simp only [Act.put, List.getElem_toArray, List.getElem_cons_succ, List.getElem_cons_zero, List.setIfInBounds_toArray, List.set_cons_zero, List.set_cons_succ])
          refine wpAnyH_take (i := 6) (v := .agg (bcs (rb)).toArray) rfl (by kernel_rfl) (by kernel_rfl) (by kernel_rfl) (fun _ _ _ h => h) (yieldsIf_load_at (by rfl) 24 _ rfl ⟨gB, 0, none⟩ rfl (rb) (fun wq hSw => t2.past hSw) _ _ u24 (hash_size _ LB.out)) hHeld ?_
          try (simp only [Act.put, List.getElem_toArray, List.getElem_cons_succ, List.getElem_cons_zero, List.setIfInBounds_toArray, List.set_cons_zero, List.set_cons_succ])
          refine wpAnyH_ready (rs := [4]) (by kernel_rfl) (by simp) ?_
          refine AllReadyH.cons rfl (fun K hK => ?_) AllReadyH.nil
          go_simp
          go_at_call 26
          (with_reducible refine (root_any ac k c ((hsL m).take k) _ ?_ ?_ ?_).mono ?_)
          · exact Ry.past c0
          · exact IC.past c0
          · omega
          rintro e va ⟨rfl, d1⟩
          rw [HT1'.out]
          have c1 := c0.trans (d1.mono c0.size)
          refine hK.out _ _ (c1) (fun hHeld => ?_)
          clear hK K
          try (simp only [Act.put, List.getElem_toArray, List.getElem_cons_succ, List.getElem_cons_zero, List.setIfInBounds_toArray, List.set_cons_zero, List.set_cons_succ])
          refine wpAnyH_ready (rs := [7]) (by kernel_rfl) (by simp) ?_
          refine AllReadyH.cons rfl (fun K hK => ?_) AllReadyH.nil
          go_simp
          go_at_call 34
          (with_reducible refine (rtwo_any ra rb _ ?_ ?_).mono ?_)
          · exact LA.out
          · exact LB.out
          rintro e vb ⟨rfl, d2⟩
          have c2 := c1.trans (d2.mono c1.size)
          refine hK.out _ _ (c2) (fun hHeld => ?_)
          clear hK K
          try (simp only [Act.put, List.getElem_toArray, List.getElem_cons_succ, List.getElem_cons_zero, List.setIfInBounds_toArray, List.set_cons_zero, List.set_cons_succ])
          refine wpAnyH_take (i := 8) (v := ?_) rfl (by kernel_rfl) (by kernel_rfl) (by kernel_rfl) (fun _ _ _ h => h) (Or.inl ⟨by rfl, ?_⟩) hHeld ?_
          rotate_left 1
          focus (intro wq hSw; go_simp; try with_reducible rfl)
          try (simp only [Act.put, List.getElem_toArray, List.getElem_cons_succ, List.getElem_cons_zero, List.setIfInBounds_toArray, List.set_cons_zero, List.set_cons_succ])
          refine wpAnyH_take (i := 9) (v := ?_) rfl (by kernel_rfl) (by kernel_rfl) (by kernel_rfl) (fun _ _ _ h => h) (Or.inl ⟨by rfl, ?_⟩) hHeld ?_
          rotate_left 1
          focus (intro wq hSw; go_simp; try with_reducible rfl)
          try (simp only [Act.put, List.getElem_toArray, List.getElem_cons_succ, List.getElem_cons_zero, List.setIfInBounds_toArray, List.set_cons_zero, List.set_cons_succ])
          refine wpAnyH_take (i := 10) (v := ?_) rfl (by kernel_rfl) (by kernel_rfl) (by kernel_rfl) (fun _ _ _ h => h) (Or.inl ⟨by rfl, ?_⟩) hHeld ?_
          rotate_left 1
          focus (intro wq hSw; go_simp; try with_reducible rfl)
          try (simp only [Act.put, List.getElem_toArray, List.getElem_cons_succ, List.getElem_cons_zero, List.setIfInBounds_toArray, List.set_cons_zero, List.set_cons_succ])
          refine wpAnyH_take (i := 12) (v := .agg (bcs (ra)).toArray) rfl (by kernel_rfl) (by kernel_rfl) (by kernel_rfl) (fun _ _ _ h => h) (yieldsIf_load_at (by rfl) 24 _ rfl ⟨gA, 0, none⟩ rfl (ra) (fun wq hSw => t1.past hSw) _ _ u24 (hash_size _ LA.out)) hHeld ?_
          try (simp only [Act.put, List.getElem_toArray, List.getElem_cons_succ, List.getElem_cons_zero, List.setIfInBounds_toArray, List.set_cons_zero, List.set_cons_succ])
          refine wpAnyH_take (i := 13) (v := .agg (bcs (rb)).toArray) rfl (by kernel_rfl) (by kernel_rfl) (by kernel_rfl) (fun _ _ _ h => h) (yieldsIf_load_at (by rfl) 24 _ rfl ⟨gB, 0, none⟩ rfl (rb) (fun wq hSw => t2.past hSw) _ _ u24 (hash_size _ LB.out)) hHeld ?_
          try (simp only [Act.put, List.getElem_toArray, List.getElem_cons_succ, List.getElem_cons_zero, List.setIfInBounds_toArray, List.set_cons_zero, List.set_cons_succ])
          refine wpAnyH_take (i := 15) (v := ?_) rfl (by kernel_rfl) (by kernel_rfl) (by kernel_rfl) (fun _ _ _ h => h) (Or.inl ⟨by rfl, ?_⟩) hHeld ?_
          rotate_left 1
          focus (intro wq hSw; go_simp; try with_reducible rfl)
          try (simp only [Act.put, List.getElem_toArray, List.getElem_cons_succ, List.getElem_cons_zero, List.setIfInBounds_toArray, List.set_cons_zero, List.set_cons_succ])
          refine wpAnyH_take (i := 16) (v := ?_) rfl (by kernel_rfl) (by kernel_rfl) (by kernel_rfl) (fun _ _ _ h => h) (Or.inl ⟨by rfl, ?_⟩) hHeld ?_
          rotate_left 1
          focus (intro wq hSw; go_simp; try with_reducible rfl)
          try (simp only [Act.put, List.getElem_toArray, List.getElem_cons_succ, List.getElem_cons_zero, List.setIfInBounds_toArray, List.set_cons_zero, List.set_cons_succ])
          refine wpAnyH_take (i := 17) (v := ?_) rfl (by kernel_rfl) (by kernel_rfl) (by kernel_rfl) (fun _ _ _ h => h) (Or.inl ⟨by rfl, ?_⟩) hHeld ?_
          rotate_left 1
          focus (intro wq hSw; go_simp; try with_reducible rfl)
          try (simp only [Act.put, List.getElem_toArray, List.getElem_cons_succ, List.getElem_cons_zero, List.setIfInBounds_toArray, List.set_cons_zero, List.set_cons_succ])
          refine wpAnyH_take (i := 18) (v := ?_) rfl (by kernel_rfl) (by kernel_rfl) (by kernel_rfl) (fun _ _ _ h => h) (Or.inl ⟨by rfl, ?_⟩) hHeld ?_
          rotate_left 1
          focus (intro wq hSw; go_simp; try with_reducible rfl)
          try (simp only [Act.put, List.getElem_toArray, List.getElem_cons_succ, List.getElem_cons_zero, List.setIfInBounds_toArray, List.set_cons_zero, List.set_cons_succ])
          refine wpAnyH_take (i := 19) (v := .agg (bcs (x)).toArray) rfl (by kernel_rfl) (by kernel_rfl) (by kernel_rfl) (fun _ _ _ h => h) (yieldsIf_load_at (by rfl) 24 _ rfl (a.add (k * 32)) rfl (x) (fun wq hSw => ty.past hSw) _ _ u24 (hash_size _ LX.out)) hHeld ?_
          try (simp only [Act.put, List.getElem_toArray, List.getElem_cons_succ, List.getElem_cons_zero, List.setIfInBounds_toArray, List.set_cons_zero, List.set_cons_succ])
          refine wpAnyH_ready (rs := [11]) (by kernel_rfl) (by simp) ?_
          refine AllReadyH.cons rfl (fun K hK => ?_) AllReadyH.nil
          go_simp
          go_at_call 26
          (with_reducible refine (root_any (some a) m c (hsL m) _ ?_ ?_ ?_).mono ?_)
          · exact Ry.past c2
          · exact II.past c2
          · omega
          rintro e vc ⟨rfl, d3⟩
          rw [HT2'.out]
          have c3 := c2.trans (d3.mono c2.size)
          refine hK.out _ _ (c3) (fun hHeld => ?_)
          clear hK K
          try (simp only [Act.put, List.getElem_toArray, List.getElem_cons_succ, List.getElem_cons_zero, List.setIfInBounds_toArray, List.set_cons_zero, List.set_cons_succ])
          refine wpAnyH_ready (rs := [14]) (by kernel_rfl) (by simp) ?_
          refine AllReadyH.cons rfl (fun K hK => ?_) AllReadyH.nil
          go_simp
          go_at_call 34
          (with_reducible refine (rtwo_any ra rb _ ?_ ?_).mono ?_)
          · exact LA.out
          · exact LB.out
          rintro e vd ⟨rfl, d4⟩
          have c4 := c3.trans (d4.mono c3.size)
          refine hK.out _ _ (c4) (fun hHeld => ?_)
          clear hK K
          try (simp only [Act.put, List.getElem_toArray, List.getElem_cons_succ, List.getElem_cons_zero, List.setIfInBounds_toArray, List.set_cons_zero, List.set_cons_succ])
          refine wpAnyH_ready (rs := [20]) (by kernel_rfl) (by simp) ?_
          refine AllReadyH.cons rfl (fun K hK => ?_) AllReadyH.nil
          go_simp
          go_at_call 34
          (with_reducible refine (rtwo_any (two ra rb) x _ ?_ ?_).mono ?_)
          · exact two_length _ _
          · exact LX.out
          rintro e ve ⟨rfl, d5⟩
          have c5 := c4.trans (d5.mono c4.size)
          refine hK.out _ _ (c5) (fun hHeld => ?_)
          clear hK K
          try (simp only [Act.put, List.getElem_toArray, List.getElem_cons_succ, List.getElem_cons_zero, List.setIfInBounds_toArray, List.set_cons_zero, List.set_cons_succ])
          refine wpAnyH_take (i := 21) (v := ?_) rfl (by kernel_rfl) (by kernel_rfl) (by kernel_rfl) (fun _ _ _ h => h) (Or.inl ⟨by rfl, ?_⟩) hHeld ?_
          rotate_left 1
          focus (intro wq hSw; go_simp; try with_reducible rfl)
          try (simp only [Act.put, List.getElem_toArray, List.getElem_cons_succ, List.getElem_cons_zero, List.setIfInBounds_toArray, List.set_cons_zero, List.set_cons_succ])
          refine wpAnyH_take (i := 22) (v := ?_) rfl (by kernel_rfl) (by kernel_rfl) (by kernel_rfl) (fun _ _ _ h => h) (Or.inl ⟨by rfl, ?_⟩) hHeld ?_
          rotate_left 1
          focus (intro wq hSw; go_simp; try with_reducible rfl)
          try (simp only [Act.put, List.getElem_toArray, List.getElem_cons_succ, List.getElem_cons_zero, List.setIfInBounds_toArray, List.set_cons_zero, List.set_cons_succ])
          refine wpAnyH_take (i := 23) (v := ?_) rfl (by kernel_rfl) (by kernel_rfl) (by kernel_rfl) (fun _ _ _ h => h) (Or.inl ⟨by rfl, ?_⟩) hHeld ?_
          rotate_left 1
          focus (intro wq hSw; go_simp; try with_reducible rfl)
          try (simp only [Act.put, List.getElem_toArray, List.getElem_cons_succ, List.getElem_cons_zero, List.setIfInBounds_toArray, List.set_cons_zero, List.set_cons_succ])
          refine wpAnyH_done (by kernel_rfl) ?_ _
          have BF := By.trans (c5.mono By.size)
          go_wp2_with fail
          go_ret
          exact ⟨rfl, BF⟩
    · skip
      rw [if_pos (by rfl)]
      refine wp_alloc_blk 24 rfl _ zeroHash fun z2 gB RB2 b2 q2 => ?_
      have k2 := k1.trans (b2.mono k1.size)
      have hgB : w2.heap.size ≤ gB := Nat.le_trans k1.size q2
      refine hK.out _ _ k2 (fun hHeld => ?_)
      clear hK K
      try (simp only [Act.put, List.getElem_toArray, List.getElem_cons_succ, List.getElem_cons_zero, List.setIfInBounds_toArray, List.set_cons_zero, List.set_cons_succ])
      refine wpAnyH_ready (rs := [9, 10]) (by kernel_rfl) (by simp) ?_
      refine (AllReadyH.cons rfl (fun K hK => ?_) (AllReadyH.cons rfl (fun K hK => ?_) AllReadyH.nil))
      · skip
        go_simp
        go_at_call 26
        (with_reducible refine (root_any ab (k - n) (c - n) (((hsL m).drop n).take (k - n)) _ ?_ ?_ ?_).mono ?_)
        · exact hR.past k2
        · exact hIB.past k2
        · omega
        rintro e z3 ⟨rfl, b3⟩
        rw [← HRB.out]
        have k3 := k2.trans (b3.mono k2.size)
        have RB3 : Hid (z3.heap[gB]? = some (.cells (bcs (List.replicate 32 0)).toArray 24 (0, 0))) := (b3.block gB (Array.getElem?_eq_some_iff.1 RB2.out).1).trans RB2.out
        refine hK.out _ _ k3 (fun hHeld => ?_)
        clear hK K
        try (simp only [Act.put, List.getElem_toArray, List.getElem_cons_succ, List.getElem_cons_zero, List.setIfInBounds_toArray, List.set_cons_zero, List.set_cons_succ])
        refine wpAnyH_ready (rs := [10]) (by kernel_rfl) (by simp) ?_
        refine (AllReadyH.cons rfl (fun K hK => ?_) AllReadyH.nil)
        · skip
          rw [if_pos (by rfl)]
          refine wp_alloc_blk 24 rfl _ zeroHash fun z4 gA RA4 b4 q4 => ?_
          have k4 := k3.trans (b4.mono k3.size)
          have RB4 : Hid (z4.heap[gB]? = some (.cells (bcs (List.replicate 32 0)).toArray 24 (0, 0))) := (b4.block gB (Array.getElem?_eq_some_iff.1 RB3.out).1).trans RB3.out
          have hgA : w2.heap.size ≤ gA := Nat.le_trans k3.size q4
          have hne : gA ≠ gB := by have := (Array.getElem?_eq_some_iff.1 RB3.out).1; omega
          refine hK.out _ _ k4 (fun hHeld => ?_)
          clear hK K
          try (simp only [Act.put, List.getElem_toArray, List.getElem_cons_succ, List.getElem_cons_zero, List.setIfInBounds_toArray, List.set_cons_zero, List.set_cons_succ])
          refine wpAnyH_ready (rs := [12]) (by kernel_rfl) (by simp) ?_
          refine AllReadyH.cons rfl (fun K hK => ?_) AllReadyH.nil
          rw [if_pos (by rfl)]
          refine wp_store_blk 24 _ _ rfl gA _ (bcs ra).toArray rfl rfl _ RA4 32 sizeHash (by simp [bcs_length]) (by simp [bcs_length, LA.out]) (bcs_all _) fun y1 S1 s1 => ?_
          have ky1 := k4.grown s1 k4.size (fun k hk => by cases hk; exact hgA)
          have RBy : Hid (y1.heap[gB]? = some (.cells (bcs (List.replicate 32 0)).toArray 24 (0, 0))) := (s1.block gB (Array.getElem?_eq_some_iff.1 RB4.out).1 (by simp; omega)).trans RB4.out
          refine hK.out _ _ ky1 (fun hHeld => ?_)
          clear hK K
          try (simp only [Act.put, List.getElem_toArray, List.getElem_cons_succ, List.getElem_cons_zero, List.setIfInBounds_toArray, List.set_cons_zero, List.set_cons_succ])
          refine wpAnyH_ready (rs := [13]) (by kernel_rfl) (by simp) ?_
          refine AllReadyH.cons rfl (fun K hK => ?_) AllReadyH.nil
          rw [if_pos (by rfl)]
          refine wp_store_blk 24 _ _ rfl gB _ (bcs rb).toArray rfl rfl _ RBy 32 sizeHash (by simp [bcs_length]) (by simp [bcs_length, LB.out]) (bcs_all _) fun y2 S2 s2 => ?_
          have ky := ky1.grown s2 ky1.size (fun k hk => by cases hk; exact hgB)
          have X1 : Hid (y2.heap[gA]? = some (.cells (bcs ra).toArray 24 (0, 0))) := (s2.block gA (Array.getElem?_eq_some_iff.1 S1.out).1 (by simp; omega)).trans S1.out
          refine hK.out _ _ ky (fun hHeld => ?_)
          clear hK K
          try (simp only [Act.put, List.getElem_toArray, List.getElem_cons_succ, List.getElem_cons_zero, List.setIfInBounds_toArray, List.set_cons_zero, List.set_cons_succ])
          refine wpAnyH_done (by kernel_rfl) ?_ _
          have t1 := blk_at X1.out
          have t2 := blk_at S2.out
          have By := B2.trans (ky.mono B2.size)
          have Ry := hR.past ky
          have IC := hIC.past ky
          have II := hI.past ky
          have ty := tx.past ky
          go_wp2_with fail
          refine wp_region_held_drew (S := fun w' => Below y2.heap.size y2 w') (by kernel_rfl) ((Below.refl _ _).drew) (fun hHeld => ?_)
          have c0 : Below y2.heap.size y2 y2.drew := (Below.refl _ _).drew
          refine wpAnyH_take (i := 0) (v := ?_) rfl (by kernel_rfl) (by kernel_rfl) (by kernel_rfl) (fun _ _ _ h => h) (Or.inl ⟨by rfl, ?_⟩) hHeld ?_
          rotate_left 1
          focus (intro wq hSw; go_simp; try with_reducible rfl)
          try (simp only [Act.put, List.getElem_toArray, List.getElem_cons_succ, List.getElem_cons_zero, List.setIfInBounds_toArray, List.set_cons_zero, List.set_cons_succ])
          refine wpAnyH_take (i := 1) (v := ?_) rfl (by kernel_rfl) (by kernel_rfl) (by kernel_rfl) (fun _ _ _ h => h) (Or.inl ⟨by rfl, ?_⟩) hHeld ?_
          rotate_left 1
          focus (intro wq hSw; go_simp; try with_reducible rfl)
          try (simp only [Act.put, List.getElem_toArray, List.getElem_cons_succ, List.getElem_cons_zero, List.setIfInBounds_toArray, List.set_cons_zero, List.set_cons_succ])
          refine wpAnyH_take (i := 2) (v := ?_) rfl (by kernel_rfl) (by kernel_rfl) (by kernel_rfl) (fun _ _ _ h => h) (Or.inl ⟨by rfl, ?_⟩) hHeld ?_
          rotate_left 1
          focus (intro wq hSw; go_simp; try with_reducible rfl)
          try (simp only [Act.put, List.getElem_toArray, List.getElem_cons_succ, List.getElem_cons_zero, List.setIfInBounds_toArray, List.set_cons_zero, List.set_cons_succ])
          refine wpAnyH_take (i := 3) (v := ?_) rfl (by kernel_rfl) (by kernel_rfl) (by kernel_rfl) (fun _ _ _ h => h) (Or.inl ⟨by rfl, ?_⟩) hHeld ?_
          rotate_left 1
          focus (intro wq hSw; have hcv := CC.out wq; go_simp; try with_reducible rfl)
          try (simp only [Act.put, List.getElem_toArray, List.getElem_cons_succ, List.getElem_cons_zero, List.setIfInBounds_toArray, List.set_cons_zero, List.set_cons_succ])
          refine wpAnyH_take (i := 5) (v := .agg (bcs (ra)).toArray) rfl (by kernel_rfl) (by kernel_rfl) (by kernel_rfl) (fun _ _ _ h => h) (yieldsIf_load_at (by rfl) 24 _ rfl ⟨gA, 0, none⟩ rfl (ra) (fun wq hSw => t1.past hSw) _ _ u24 (hash_size _ LA.out)) hHeld ?_
          try (simp only [Act.put, List.getElem_toArray, List.getElem_cons_succ, List.getElem_cons_zero, List.setIfInBounds_toArray, List.set_cons_zero, List.set_cons_succ])
          refine wpAnyH_take (i := 6) (v := .agg (bcs (rb)).toArray) rfl (by kernel_rfl) (by kernel_rfl) (by kernel_rfl) (fun _ _ _ h => h) (yieldsIf_load_at (by rfl) 24 _ rfl ⟨gB, 0, none⟩ rfl (rb) (fun wq hSw => t2.past hSw) _ _ u24 (hash_size _ LB.out)) hHeld ?_
          try (simp only [Act.put, List.getElem_toArray, List.getElem_cons_succ, List.getElem_cons_zero, List.setIfInBounds_toArray, List.set_cons_zero, List.set_cons_succ])
          refine wpAnyH_ready (rs := [4]) (by kernel_rfl) (by simp) ?_
          refine AllReadyH.cons rfl (fun K hK => ?_) AllReadyH.nil
          go_simp
          go_at_call 26
          (with_reducible refine (root_any ac k c ((hsL m).take k) _ ?_ ?_ ?_).mono ?_)
          · exact Ry.past c0
          · exact IC.past c0
          · omega
          rintro e va ⟨rfl, d1⟩
          rw [HT1'.out]
          have c1 := c0.trans (d1.mono c0.size)
          refine hK.out _ _ (c1) (fun hHeld => ?_)
          clear hK K
          try (simp only [Act.put, List.getElem_toArray, List.getElem_cons_succ, List.getElem_cons_zero, List.setIfInBounds_toArray, List.set_cons_zero, List.set_cons_succ])
          refine wpAnyH_ready (rs := [7]) (by kernel_rfl) (by simp) ?_
          refine AllReadyH.cons rfl (fun K hK => ?_) AllReadyH.nil
          go_simp
          go_at_call 34
          (with_reducible refine (rtwo_any ra rb _ ?_ ?_).mono ?_)
          · exact LA.out
          · exact LB.out
          rintro e vb ⟨rfl, d2⟩
          have c2 := c1.trans (d2.mono c1.size)
          refine hK.out _ _ (c2) (fun hHeld => ?_)
          clear hK K
          try (simp only [Act.put, List.getElem_toArray, List.getElem_cons_succ, List.getElem_cons_zero, List.setIfInBounds_toArray, List.set_cons_zero, List.set_cons_succ])
          refine wpAnyH_take (i := 8) (v := ?_) rfl (by kernel_rfl) (by kernel_rfl) (by kernel_rfl) (fun _ _ _ h => h) (Or.inl ⟨by rfl, ?_⟩) hHeld ?_
          rotate_left 1
          focus (intro wq hSw; go_simp; try with_reducible rfl)
          try (simp only [Act.put, List.getElem_toArray, List.getElem_cons_succ, List.getElem_cons_zero, List.setIfInBounds_toArray, List.set_cons_zero, List.set_cons_succ])
          refine wpAnyH_take (i := 9) (v := ?_) rfl (by kernel_rfl) (by kernel_rfl) (by kernel_rfl) (fun _ _ _ h => h) (Or.inl ⟨by rfl, ?_⟩) hHeld ?_
          rotate_left 1
          focus (intro wq hSw; go_simp; try with_reducible rfl)
          try (simp only [Act.put, List.getElem_toArray, List.getElem_cons_succ, List.getElem_cons_zero, List.setIfInBounds_toArray, List.set_cons_zero, List.set_cons_succ])
          refine wpAnyH_take (i := 10) (v := ?_) rfl (by kernel_rfl) (by kernel_rfl) (by kernel_rfl) (fun _ _ _ h => h) (Or.inl ⟨by rfl, ?_⟩) hHeld ?_
          rotate_left 1
          focus (intro wq hSw; go_simp; try with_reducible rfl)
          try (simp only [Act.put, List.getElem_toArray, List.getElem_cons_succ, List.getElem_cons_zero, List.setIfInBounds_toArray, List.set_cons_zero, List.set_cons_succ])
          refine wpAnyH_take (i := 12) (v := .agg (bcs (ra)).toArray) rfl (by kernel_rfl) (by kernel_rfl) (by kernel_rfl) (fun _ _ _ h => h) (yieldsIf_load_at (by rfl) 24 _ rfl ⟨gA, 0, none⟩ rfl (ra) (fun wq hSw => t1.past hSw) _ _ u24 (hash_size _ LA.out)) hHeld ?_
          try (simp only [Act.put, List.getElem_toArray, List.getElem_cons_succ, List.getElem_cons_zero, List.setIfInBounds_toArray, List.set_cons_zero, List.set_cons_succ])
          refine wpAnyH_take (i := 13) (v := .agg (bcs (rb)).toArray) rfl (by kernel_rfl) (by kernel_rfl) (by kernel_rfl) (fun _ _ _ h => h) (yieldsIf_load_at (by rfl) 24 _ rfl ⟨gB, 0, none⟩ rfl (rb) (fun wq hSw => t2.past hSw) _ _ u24 (hash_size _ LB.out)) hHeld ?_
          try (simp only [Act.put, List.getElem_toArray, List.getElem_cons_succ, List.getElem_cons_zero, List.setIfInBounds_toArray, List.set_cons_zero, List.set_cons_succ])
          refine wpAnyH_take (i := 15) (v := ?_) rfl (by kernel_rfl) (by kernel_rfl) (by kernel_rfl) (fun _ _ _ h => h) (Or.inl ⟨by rfl, ?_⟩) hHeld ?_
          rotate_left 1
          focus (intro wq hSw; go_simp; try with_reducible rfl)
          try (simp only [Act.put, List.getElem_toArray, List.getElem_cons_succ, List.getElem_cons_zero, List.setIfInBounds_toArray, List.set_cons_zero, List.set_cons_succ])
          refine wpAnyH_take (i := 16) (v := ?_) rfl (by kernel_rfl) (by kernel_rfl) (by kernel_rfl) (fun _ _ _ h => h) (Or.inl ⟨by rfl, ?_⟩) hHeld ?_
          rotate_left 1
          focus (intro wq hSw; go_simp; try with_reducible rfl)
          try (simp only [Act.put, List.getElem_toArray, List.getElem_cons_succ, List.getElem_cons_zero, List.setIfInBounds_toArray, List.set_cons_zero, List.set_cons_succ])
          refine wpAnyH_take (i := 17) (v := ?_) rfl (by kernel_rfl) (by kernel_rfl) (by kernel_rfl) (fun _ _ _ h => h) (Or.inl ⟨by rfl, ?_⟩) hHeld ?_
          rotate_left 1
          focus (intro wq hSw; go_simp; try with_reducible rfl)
          try (simp only [Act.put, List.getElem_toArray, List.getElem_cons_succ, List.getElem_cons_zero, List.setIfInBounds_toArray, List.set_cons_zero, List.set_cons_succ])
          refine wpAnyH_take (i := 18) (v := ?_) rfl (by kernel_rfl) (by kernel_rfl) (by kernel_rfl) (fun _ _ _ h => h) (Or.inl ⟨by rfl, ?_⟩) hHeld ?_
          rotate_left 1
          focus (intro wq hSw; go_simp; try with_reducible rfl)
          try (simp only [Act.put, List.getElem_toArray, List.getElem_cons_succ, List.getElem_cons_zero, List.setIfInBounds_toArray, List.set_cons_zero, List.set_cons_succ])
          refine wpAnyH_take (i := 19) (v := .agg (bcs (x)).toArray) rfl (by kernel_rfl) (by kernel_rfl) (by kernel_rfl) (fun _ _ _ h => h) (yieldsIf_load_at (by rfl) 24 _ rfl (a.add (k * 32)) rfl (x) (fun wq hSw => ty.past hSw) _ _ u24 (hash_size _ LX.out)) hHeld ?_
          try (simp only [Act.put, List.getElem_toArray, List.getElem_cons_succ, List.getElem_cons_zero, List.setIfInBounds_toArray, List.set_cons_zero, List.set_cons_succ])
          refine wpAnyH_ready (rs := [11]) (by kernel_rfl) (by simp) ?_
          refine AllReadyH.cons rfl (fun K hK => ?_) AllReadyH.nil
          go_simp
          go_at_call 26
          (with_reducible refine (root_any (some a) m c (hsL m) _ ?_ ?_ ?_).mono ?_)
          · exact Ry.past c2
          · exact II.past c2
          · omega
          rintro e vc ⟨rfl, d3⟩
          rw [HT2'.out]
          have c3 := c2.trans (d3.mono c2.size)
          refine hK.out _ _ (c3) (fun hHeld => ?_)
          clear hK K
          try (simp only [Act.put, List.getElem_toArray, List.getElem_cons_succ, List.getElem_cons_zero, List.setIfInBounds_toArray, List.set_cons_zero, List.set_cons_succ])
          refine wpAnyH_ready (rs := [14]) (by kernel_rfl) (by simp) ?_
          refine AllReadyH.cons rfl (fun K hK => ?_) AllReadyH.nil
          go_simp
          go_at_call 34
          (with_reducible refine (rtwo_any ra rb _ ?_ ?_).mono ?_)
          · exact LA.out
          · exact LB.out
          rintro e vd ⟨rfl, d4⟩
          have c4 := c3.trans (d4.mono c3.size)
          refine hK.out _ _ (c4) (fun hHeld => ?_)
          clear hK K
          try (simp only [Act.put, List.getElem_toArray, List.getElem_cons_succ, List.getElem_cons_zero, List.setIfInBounds_toArray, List.set_cons_zero, List.set_cons_succ])
          refine wpAnyH_ready (rs := [20]) (by kernel_rfl) (by simp) ?_
          refine AllReadyH.cons rfl (fun K hK => ?_) AllReadyH.nil
          go_simp
          go_at_call 34
          (with_reducible refine (rtwo_any (two ra rb) x _ ?_ ?_).mono ?_)
          · exact two_length _ _
          · exact LX.out
          rintro e ve ⟨rfl, d5⟩
          have c5 := c4.trans (d5.mono c4.size)
          refine hK.out _ _ (c5) (fun hHeld => ?_)
          clear hK K
          try (simp only [Act.put, List.getElem_toArray, List.getElem_cons_succ, List.getElem_cons_zero, List.setIfInBounds_toArray, List.set_cons_zero, List.set_cons_succ])
          refine wpAnyH_take (i := 21) (v := ?_) rfl (by kernel_rfl) (by kernel_rfl) (by kernel_rfl) (fun _ _ _ h => h) (Or.inl ⟨by rfl, ?_⟩) hHeld ?_
          rotate_left 1
          focus (intro wq hSw; go_simp; try with_reducible rfl)
          try (simp only [Act.put, List.getElem_toArray, List.getElem_cons_succ, List.getElem_cons_zero, List.setIfInBounds_toArray, List.set_cons_zero, List.set_cons_succ])
          refine wpAnyH_take (i := 22) (v := ?_) rfl (by kernel_rfl) (by kernel_rfl) (by kernel_rfl) (fun _ _ _ h => h) (Or.inl ⟨by rfl, ?_⟩) hHeld ?_
          rotate_left 1
          focus (intro wq hSw; go_simp; try with_reducible rfl)
          try (simp only [Act.put, List.getElem_toArray, List.getElem_cons_succ, List.getElem_cons_zero, List.setIfInBounds_toArray, List.set_cons_zero, List.set_cons_succ])
          refine wpAnyH_take (i := 23) (v := ?_) rfl (by kernel_rfl) (by kernel_rfl) (by kernel_rfl) (fun _ _ _ h => h) (Or.inl ⟨by rfl, ?_⟩) hHeld ?_
          rotate_left 1
          focus (intro wq hSw; go_simp; try with_reducible rfl)
          try (simp only [Act.put, List.getElem_toArray, List.getElem_cons_succ, List.getElem_cons_zero, List.setIfInBounds_toArray, List.set_cons_zero, List.set_cons_succ])
          refine wpAnyH_done (by kernel_rfl) ?_ _
          have BF := By.trans (c5.mono By.size)
          go_wp2_with fail
          go_ret
          exact ⟨rfl, BF⟩
      · skip
        rw [if_pos (by rfl)]
        refine wp_alloc_blk 24 rfl _ zeroHash fun z3 gA RA3 b3 q3 => ?_
        have k3 := k2.trans (b3.mono k2.size)
        have RB3 : Hid (z3.heap[gB]? = some (.cells (bcs (List.replicate 32 0)).toArray 24 (0, 0))) := (b3.block gB (Array.getElem?_eq_some_iff.1 RB2.out).1).trans RB2.out
        have hgA : w2.heap.size ≤ gA := Nat.le_trans k2.size q3
        have hne : gA ≠ gB := by have := (Array.getElem?_eq_some_iff.1 RB2.out).1; omega
        refine hK.out _ _ k3 (fun hHeld => ?_)
        clear hK K
        try (simp only [Act.put, List.getElem_toArray, List.getElem_cons_succ, List.getElem_cons_zero, List.setIfInBounds_toArray, List.set_cons_zero, List.set_cons_succ])
        refine wpAnyH_ready (rs := [9]) (by kernel_rfl) (by simp) ?_
        refine (AllReadyH.cons rfl (fun K hK => ?_) AllReadyH.nil)
        · skip
          go_simp
          go_at_call 26
          (with_reducible refine (root_any ab (k - n) (c - n) (((hsL m).drop n).take (k - n)) _ ?_ ?_ ?_).mono ?_)
          · exact hR.past k3
          · exact hIB.past k3
          · omega
          rintro e z4 ⟨rfl, b4⟩
          rw [← HRB.out]
          have k4 := k3.trans (b4.mono k3.size)
          have RA4 : Hid (z4.heap[gA]? = some (.cells (bcs (List.replicate 32 0)).toArray 24 (0, 0))) := (b4.block gA (Array.getElem?_eq_some_iff.1 RA3.out).1).trans RA3.out
          have RB4 : Hid (z4.heap[gB]? = some (.cells (bcs (List.replicate 32 0)).toArray 24 (0, 0))) := (b4.block gB (Array.getElem?_eq_some_iff.1 RB3.out).1).trans RB3.out
          refine hK.out _ _ k4 (fun hHeld => ?_)
          clear hK K
          try (simp only [Act.put, List.getElem_toArray, List.getElem_cons_succ, List.getElem_cons_zero, List.setIfInBounds_toArray, List.set_cons_zero, List.set_cons_succ])
          refine wpAnyH_ready (rs := [12]) (by kernel_rfl) (by simp) ?_
          refine AllReadyH.cons rfl (fun K hK => ?_) AllReadyH.nil
          rw [if_pos (by rfl)]
          refine wp_store_blk 24 _ _ rfl gA _ (bcs ra).toArray rfl rfl _ RA4 32 sizeHash (by simp [bcs_length]) (by simp [bcs_length, LA.out]) (bcs_all _) fun y1 S1 s1 => ?_
          have ky1 := k4.grown s1 k4.size (fun k hk => by cases hk; exact hgA)
          have RBy : Hid (y1.heap[gB]? = some (.cells (bcs (List.replicate 32 0)).toArray 24 (0, 0))) := (s1.block gB (Array.getElem?_eq_some_iff.1 RB4.out).1 (by simp; omega)).trans RB4.out
          refine hK.out _ _ ky1 (fun hHeld => ?_)
          clear hK K
          try (simp only [Act.put, List.getElem_toArray, List.getElem_cons_succ, List.getElem_cons_zero, List.setIfInBounds_toArray, List.set_cons_zero, List.set_cons_succ])
          refine wpAnyH_ready (rs := [13]) (by kernel_rfl) (by simp) ?_
          refine AllReadyH.cons rfl (fun K hK => ?_) AllReadyH.nil
          rw [if_pos (by rfl)]
          refine wp_store_blk 24 _ _ rfl gB _ (bcs rb).toArray rfl rfl _ RBy 32 sizeHash (by simp [bcs_length]) (by simp [bcs_length, LB.out]) (bcs_all _) fun y2 S2 s2 => ?_
          have ky := ky1.grown s2 ky1.size (fun k hk => by cases hk; exact hgB)
          have X1 : Hid (y2.heap[gA]? = some (.cells (bcs ra).toArray 24 (0, 0))) := (s2.block gA (Array.getElem?_eq_some_iff.1 S1.out).1 (by simp; omega)).trans S1.out
          refine hK.out _ _ ky (fun hHeld => ?_)
          clear hK K
          try (simp only [Act.put, List.getElem_toArray, List.getElem_cons_succ, List.getElem_cons_zero, List.setIfInBounds_toArray, List.set_cons_zero, List.set_cons_succ])
          refine wpAnyH_done (by kernel_rfl) ?_ _
          have t1 := blk_at X1.out
          have t2 := blk_at S2.out
          have By := B2.trans (ky.mono B2.size)
          have Ry := hR.past ky
          have IC := hIC.past ky
          have II := hI.past ky
          have ty := tx.past ky
          go_wp2_with fail
          refine wp_region_held_drew (S := fun w' => Below y2.heap.size y2 w') (by kernel_rfl) ((Below.refl _ _).drew) (fun hHeld => ?_)
          have c0 : Below y2.heap.size y2 y2.drew := (Below.refl _ _).drew
          refine wpAnyH_take (i := 0) (v := ?_) rfl (by kernel_rfl) (by kernel_rfl) (by kernel_rfl) (fun _ _ _ h => h) (Or.inl ⟨by rfl, ?_⟩) hHeld ?_
          rotate_left 1
          focus (intro wq hSw; go_simp; try with_reducible rfl)
          try (simp only [Act.put, List.getElem_toArray, List.getElem_cons_succ, List.getElem_cons_zero, List.setIfInBounds_toArray, List.set_cons_zero, List.set_cons_succ])
          refine wpAnyH_take (i := 1) (v := ?_) rfl (by kernel_rfl) (by kernel_rfl) (by kernel_rfl) (fun _ _ _ h => h) (Or.inl ⟨by rfl, ?_⟩) hHeld ?_
          rotate_left 1
          focus (intro wq hSw; go_simp; try with_reducible rfl)
          try (simp only [Act.put, List.getElem_toArray, List.getElem_cons_succ, List.getElem_cons_zero, List.setIfInBounds_toArray, List.set_cons_zero, List.set_cons_succ])
          refine wpAnyH_take (i := 2) (v := ?_) rfl (by kernel_rfl) (by kernel_rfl) (by kernel_rfl) (fun _ _ _ h => h) (Or.inl ⟨by rfl, ?_⟩) hHeld ?_
          rotate_left 1
          focus (intro wq hSw; go_simp; try with_reducible rfl)
          try (simp only [Act.put, List.getElem_toArray, List.getElem_cons_succ, List.getElem_cons_zero, List.setIfInBounds_toArray, List.set_cons_zero, List.set_cons_succ])
          refine wpAnyH_take (i := 3) (v := ?_) rfl (by kernel_rfl) (by kernel_rfl) (by kernel_rfl) (fun _ _ _ h => h) (Or.inl ⟨by rfl, ?_⟩) hHeld ?_
          rotate_left 1
          focus (intro wq hSw; have hcv := CC.out wq; go_simp; try with_reducible rfl)
          try (simp only [Act.put, List.getElem_toArray, List.getElem_cons_succ, List.getElem_cons_zero, List.setIfInBounds_toArray, List.set_cons_zero, List.set_cons_succ])
          refine wpAnyH_take (i := 5) (v := .agg (bcs (ra)).toArray) rfl (by kernel_rfl) (by kernel_rfl) (by kernel_rfl) (fun _ _ _ h => h) (yieldsIf_load_at (by rfl) 24 _ rfl ⟨gA, 0, none⟩ rfl (ra) (fun wq hSw => t1.past hSw) _ _ u24 (hash_size _ LA.out)) hHeld ?_
          try (simp only [Act.put, List.getElem_toArray, List.getElem_cons_succ, List.getElem_cons_zero, List.setIfInBounds_toArray, List.set_cons_zero, List.set_cons_succ])
          refine wpAnyH_take (i := 6) (v := .agg (bcs (rb)).toArray) rfl (by kernel_rfl) (by kernel_rfl) (by kernel_rfl) (fun _ _ _ h => h) (yieldsIf_load_at (by rfl) 24 _ rfl ⟨gB, 0, none⟩ rfl (rb) (fun wq hSw => t2.past hSw) _ _ u24 (hash_size _ LB.out)) hHeld ?_
          try (simp only [Act.put, List.getElem_toArray, List.getElem_cons_succ, List.getElem_cons_zero, List.setIfInBounds_toArray, List.set_cons_zero, List.set_cons_succ])
          refine wpAnyH_ready (rs := [4]) (by kernel_rfl) (by simp) ?_
          refine AllReadyH.cons rfl (fun K hK => ?_) AllReadyH.nil
          go_simp
          go_at_call 26
          (with_reducible refine (root_any ac k c ((hsL m).take k) _ ?_ ?_ ?_).mono ?_)
          · exact Ry.past c0
          · exact IC.past c0
          · omega
          rintro e va ⟨rfl, d1⟩
          rw [HT1'.out]
          have c1 := c0.trans (d1.mono c0.size)
          refine hK.out _ _ (c1) (fun hHeld => ?_)
          clear hK K
          try (simp only [Act.put, List.getElem_toArray, List.getElem_cons_succ, List.getElem_cons_zero, List.setIfInBounds_toArray, List.set_cons_zero, List.set_cons_succ])
          refine wpAnyH_ready (rs := [7]) (by kernel_rfl) (by simp) ?_
          refine AllReadyH.cons rfl (fun K hK => ?_) AllReadyH.nil
          go_simp
          go_at_call 34
          (with_reducible refine (rtwo_any ra rb _ ?_ ?_).mono ?_)
          · exact LA.out
          · exact LB.out
          rintro e vb ⟨rfl, d2⟩
          have c2 := c1.trans (d2.mono c1.size)
          refine hK.out _ _ (c2) (fun hHeld => ?_)
          clear hK K
          try (simp only [Act.put, List.getElem_toArray, List.getElem_cons_succ, List.getElem_cons_zero, List.setIfInBounds_toArray, List.set_cons_zero, List.set_cons_succ])
          refine wpAnyH_take (i := 8) (v := ?_) rfl (by kernel_rfl) (by kernel_rfl) (by kernel_rfl) (fun _ _ _ h => h) (Or.inl ⟨by rfl, ?_⟩) hHeld ?_
          rotate_left 1
          focus (intro wq hSw; go_simp; try with_reducible rfl)
          try (simp only [Act.put, List.getElem_toArray, List.getElem_cons_succ, List.getElem_cons_zero, List.setIfInBounds_toArray, List.set_cons_zero, List.set_cons_succ])
          refine wpAnyH_take (i := 9) (v := ?_) rfl (by kernel_rfl) (by kernel_rfl) (by kernel_rfl) (fun _ _ _ h => h) (Or.inl ⟨by rfl, ?_⟩) hHeld ?_
          rotate_left 1
          focus (intro wq hSw; go_simp; try with_reducible rfl)
          try (simp only [Act.put, List.getElem_toArray, List.getElem_cons_succ, List.getElem_cons_zero, List.setIfInBounds_toArray, List.set_cons_zero, List.set_cons_succ])
          refine wpAnyH_take (i := 10) (v := ?_) rfl (by kernel_rfl) (by kernel_rfl) (by kernel_rfl) (fun _ _ _ h => h) (Or.inl ⟨by rfl, ?_⟩) hHeld ?_
          rotate_left 1
          focus (intro wq hSw; go_simp; try with_reducible rfl)
          try (simp only [Act.put, List.getElem_toArray, List.getElem_cons_succ, List.getElem_cons_zero, List.setIfInBounds_toArray, List.set_cons_zero, List.set_cons_succ])
          refine wpAnyH_take (i := 12) (v := .agg (bcs (ra)).toArray) rfl (by kernel_rfl) (by kernel_rfl) (by kernel_rfl) (fun _ _ _ h => h) (yieldsIf_load_at (by rfl) 24 _ rfl ⟨gA, 0, none⟩ rfl (ra) (fun wq hSw => t1.past hSw) _ _ u24 (hash_size _ LA.out)) hHeld ?_
          try (simp only [Act.put, List.getElem_toArray, List.getElem_cons_succ, List.getElem_cons_zero, List.setIfInBounds_toArray, List.set_cons_zero, List.set_cons_succ])
          refine wpAnyH_take (i := 13) (v := .agg (bcs (rb)).toArray) rfl (by kernel_rfl) (by kernel_rfl) (by kernel_rfl) (fun _ _ _ h => h) (yieldsIf_load_at (by rfl) 24 _ rfl ⟨gB, 0, none⟩ rfl (rb) (fun wq hSw => t2.past hSw) _ _ u24 (hash_size _ LB.out)) hHeld ?_
          try (simp only [Act.put, List.getElem_toArray, List.getElem_cons_succ, List.getElem_cons_zero, List.setIfInBounds_toArray, List.set_cons_zero, List.set_cons_succ])
          refine wpAnyH_take (i := 15) (v := ?_) rfl (by kernel_rfl) (by kernel_rfl) (by kernel_rfl) (fun _ _ _ h => h) (Or.inl ⟨by rfl, ?_⟩) hHeld ?_
          rotate_left 1
          focus (intro wq hSw; go_simp; try with_reducible rfl)
          try (simp only [Act.put, List.getElem_toArray, List.getElem_cons_succ, List.getElem_cons_zero, List.setIfInBounds_toArray, List.set_cons_zero, List.set_cons_succ])
          refine wpAnyH_take (i := 16) (v := ?_) rfl (by kernel_rfl) (by kernel_rfl) (by kernel_rfl) (fun _ _ _ h => h) (Or.inl ⟨by rfl, ?_⟩) hHeld ?_
          rotate_left 1
          focus (intro wq hSw; go_simp; try with_reducible rfl)
          try (simp only [Act.put, List.getElem_toArray, List.getElem_cons_succ, List.getElem_cons_zero, List.setIfInBounds_toArray, List.set_cons_zero, List.set_cons_succ])
          refine wpAnyH_take (i := 17) (v := ?_) rfl (by kernel_rfl) (by kernel_rfl) (by kernel_rfl) (fun _ _ _ h => h) (Or.inl ⟨by rfl, ?_⟩) hHeld ?_
          rotate_left 1
          focus (intro wq hSw; go_simp; try with_reducible rfl)
          try (simp only [Act.put, List.getElem_toArray, List.getElem_cons_succ, List.getElem_cons_zero, List.setIfInBounds_toArray, List.set_cons_zero, List.set_cons_succ])
          refine wpAnyH_take (i := 18) (v := ?_) rfl (by kernel_rfl) (by kernel_rfl) (by kernel_rfl) (fun _ _ _ h => h) (Or.inl ⟨by rfl, ?_⟩) hHeld ?_
          rotate_left 1
          focus (intro wq hSw; go_simp; try with_reducible rfl)
          try (simp only [Act.put, List.getElem_toArray, List.getElem_cons_succ, List.getElem_cons_zero, List.setIfInBounds_toArray, List.set_cons_zero, List.set_cons_succ])
          refine wpAnyH_take (i := 19) (v := .agg (bcs (x)).toArray) rfl (by kernel_rfl) (by kernel_rfl) (by kernel_rfl) (fun _ _ _ h => h) (yieldsIf_load_at (by rfl) 24 _ rfl (a.add (k * 32)) rfl (x) (fun wq hSw => ty.past hSw) _ _ u24 (hash_size _ LX.out)) hHeld ?_
          try (simp only [Act.put, List.getElem_toArray, List.getElem_cons_succ, List.getElem_cons_zero, List.setIfInBounds_toArray, List.set_cons_zero, List.set_cons_succ])
          refine wpAnyH_ready (rs := [11]) (by kernel_rfl) (by simp) ?_
          refine AllReadyH.cons rfl (fun K hK => ?_) AllReadyH.nil
          go_simp
          go_at_call 26
          (with_reducible refine (root_any (some a) m c (hsL m) _ ?_ ?_ ?_).mono ?_)
          · exact Ry.past c2
          · exact II.past c2
          · omega
          rintro e vc ⟨rfl, d3⟩
          rw [HT2'.out]
          have c3 := c2.trans (d3.mono c2.size)
          refine hK.out _ _ (c3) (fun hHeld => ?_)
          clear hK K
          try (simp only [Act.put, List.getElem_toArray, List.getElem_cons_succ, List.getElem_cons_zero, List.setIfInBounds_toArray, List.set_cons_zero, List.set_cons_succ])
          refine wpAnyH_ready (rs := [14]) (by kernel_rfl) (by simp) ?_
          refine AllReadyH.cons rfl (fun K hK => ?_) AllReadyH.nil
          go_simp
          go_at_call 34
          (with_reducible refine (rtwo_any ra rb _ ?_ ?_).mono ?_)
          · exact LA.out
          · exact LB.out
          rintro e vd ⟨rfl, d4⟩
          have c4 := c3.trans (d4.mono c3.size)
          refine hK.out _ _ (c4) (fun hHeld => ?_)
          clear hK K
          try (simp only [Act.put, List.getElem_toArray, List.getElem_cons_succ, List.getElem_cons_zero, List.setIfInBounds_toArray, List.set_cons_zero, List.set_cons_succ])
          refine wpAnyH_ready (rs := [20]) (by kernel_rfl) (by simp) ?_
          refine AllReadyH.cons rfl (fun K hK => ?_) AllReadyH.nil
          go_simp
          go_at_call 34
          (with_reducible refine (rtwo_any (two ra rb) x _ ?_ ?_).mono ?_)
          · exact two_length _ _
          · exact LX.out
          rintro e ve ⟨rfl, d5⟩
          have c5 := c4.trans (d5.mono c4.size)
          refine hK.out _ _ (c5) (fun hHeld => ?_)
          clear hK K
          try (simp only [Act.put, List.getElem_toArray, List.getElem_cons_succ, List.getElem_cons_zero, List.setIfInBounds_toArray, List.set_cons_zero, List.set_cons_succ])
          refine wpAnyH_take (i := 21) (v := ?_) rfl (by kernel_rfl) (by kernel_rfl) (by kernel_rfl) (fun _ _ _ h => h) (Or.inl ⟨by rfl, ?_⟩) hHeld ?_
          rotate_left 1
          focus (intro wq hSw; go_simp; try with_reducible rfl)
          try (simp only [Act.put, List.getElem_toArray, List.getElem_cons_succ, List.getElem_cons_zero, List.setIfInBounds_toArray, List.set_cons_zero, List.set_cons_succ])
          refine wpAnyH_take (i := 22) (v := ?_) rfl (by kernel_rfl) (by kernel_rfl) (by kernel_rfl) (fun _ _ _ h => h) (Or.inl ⟨by rfl, ?_⟩) hHeld ?_
          rotate_left 1
          focus (intro wq hSw; go_simp; try with_reducible rfl)
          try (simp only [Act.put, List.getElem_toArray, List.getElem_cons_succ, List.getElem_cons_zero, List.setIfInBounds_toArray, List.set_cons_zero, List.set_cons_succ])
          refine wpAnyH_take (i := 23) (v := ?_) rfl (by kernel_rfl) (by kernel_rfl) (by kernel_rfl) (fun _ _ _ h => h) (Or.inl ⟨by rfl, ?_⟩) hHeld ?_
          rotate_left 1
          focus (intro wq hSw; go_simp; try with_reducible rfl)
          try (simp only [Act.put, List.getElem_toArray, List.getElem_cons_succ, List.getElem_cons_zero, List.setIfInBounds_toArray, List.set_cons_zero, List.set_cons_succ])
          refine wpAnyH_done (by kernel_rfl) ?_ _
          have BF := By.trans (c5.mono By.size)
          go_wp2_with fail
          go_ret
          exact ⟨rfl, BF⟩
  · skip
    rw [if_pos (by rfl)]
    refine wp_alloc_blk 24 rfl _ zeroHash fun z1 gA RA1 b1 q1 => ?_
    have k1 := k0.trans (b1.mono k0.size)
    have hgA : w2.heap.size ≤ gA := Nat.le_trans k0.size q1
    refine hK.out _ _ k1 (fun hHeld => ?_)
    clear hK K
    try (simp only [Act.put, List.getElem_toArray, List.getElem_cons_succ, List.getElem_cons_zero, List.setIfInBounds_toArray, List.set_cons_zero, List.set_cons_succ])
    refine wpAnyH_ready (rs := [3, 11]) (by kernel_rfl) (by simp) ?_
    refine (AllReadyH.cons rfl (fun K hK => ?_) (AllReadyH.cons rfl (fun K hK => ?_) AllReadyH.nil))
    · skip
      go_simp
      go_at_call 26
      (with_reducible refine (root_any aa n c ((hsL m).take n) _ ?_ ?_ ?_).mono ?_)
      · exact hR.past k1
      · exact hIA.past k1
      · omega
      rintro e z2 ⟨rfl, b2⟩
      rw [← HRA.out]
      have k2 := k1.trans (b2.mono k1.size)
      have RA2 : Hid (z2.heap[gA]? = some (.cells (bcs (List.replicate 32 0)).toArray 24 (0, 0))) := (b2.block gA (Array.getElem?_eq_some_iff.1 RA1.out).1).trans RA1.out
      refine hK.out _ _ k2 (fun hHeld => ?_)
      clear hK K
      try (simp only [Act.put, List.getElem_toArray, List.getElem_cons_succ, List.getElem_cons_zero, List.setIfInBounds_toArray, List.set_cons_zero, List.set_cons_succ])
      refine wpAnyH_ready (rs := [9, 11]) (by kernel_rfl) (by simp) ?_
      refine (AllReadyH.cons rfl (fun K hK => ?_) (AllReadyH.cons rfl (fun K hK => ?_) AllReadyH.nil))
      · skip
        go_simp
        go_at_call 26
        (with_reducible refine (root_any ab (k - n) (c - n) (((hsL m).drop n).take (k - n)) _ ?_ ?_ ?_).mono ?_)
        · exact hR.past k2
        · exact hIB.past k2
        · omega
        rintro e z3 ⟨rfl, b3⟩
        rw [← HRB.out]
        have k3 := k2.trans (b3.mono k2.size)
        have RA3 : Hid (z3.heap[gA]? = some (.cells (bcs (List.replicate 32 0)).toArray 24 (0, 0))) := (b3.block gA (Array.getElem?_eq_some_iff.1 RA2.out).1).trans RA2.out
        refine hK.out _ _ k3 (fun hHeld => ?_)
        clear hK K
        try (simp only [Act.put, List.getElem_toArray, List.getElem_cons_succ, List.getElem_cons_zero, List.setIfInBounds_toArray, List.set_cons_zero, List.set_cons_succ])
        refine wpAnyH_ready (rs := [11]) (by kernel_rfl) (by simp) ?_
        refine (AllReadyH.cons rfl (fun K hK => ?_) AllReadyH.nil)
        · skip
          rw [if_pos (by rfl)]
          refine wp_alloc_blk 24 rfl _ zeroHash fun z4 gB RB4 b4 q4 => ?_
          have k4 := k3.trans (b4.mono k3.size)
          have RA4 : Hid (z4.heap[gA]? = some (.cells (bcs (List.replicate 32 0)).toArray 24 (0, 0))) := (b4.block gA (Array.getElem?_eq_some_iff.1 RA3.out).1).trans RA3.out
          have hgB : w2.heap.size ≤ gB := Nat.le_trans k3.size q4
          have hne : gA ≠ gB := by have := (Array.getElem?_eq_some_iff.1 RA3.out).1; omega
          refine hK.out _ _ k4 (fun hHeld => ?_)
          clear hK K
          try (simp only [Act.put, List.getElem_toArray, List.getElem_cons_succ, List.getElem_cons_zero, List.setIfInBounds_toArray, List.set_cons_zero, List.set_cons_succ])
          refine wpAnyH_ready (rs := [12]) (by kernel_rfl) (by simp) ?_
          refine AllReadyH.cons rfl (fun K hK => ?_) AllReadyH.nil
          rw [if_pos (by rfl)]
          refine wp_store_blk 24 _ _ rfl gA _ (bcs ra).toArray rfl rfl _ RA4 32 sizeHash (by simp [bcs_length]) (by simp [bcs_length, LA.out]) (bcs_all _) fun y1 S1 s1 => ?_
          have ky1 := k4.grown s1 k4.size (fun k hk => by cases hk; exact hgA)
          have RBy : Hid (y1.heap[gB]? = some (.cells (bcs (List.replicate 32 0)).toArray 24 (0, 0))) := (s1.block gB (Array.getElem?_eq_some_iff.1 RB4.out).1 (by simp; omega)).trans RB4.out
          refine hK.out _ _ ky1 (fun hHeld => ?_)
          clear hK K
          try (simp only [Act.put, List.getElem_toArray, List.getElem_cons_succ, List.getElem_cons_zero, List.setIfInBounds_toArray, List.set_cons_zero, List.set_cons_succ])
          refine wpAnyH_ready (rs := [13]) (by kernel_rfl) (by simp) ?_
          refine AllReadyH.cons rfl (fun K hK => ?_) AllReadyH.nil
          rw [if_pos (by rfl)]
          refine wp_store_blk 24 _ _ rfl gB _ (bcs rb).toArray rfl rfl _ RBy 32 sizeHash (by simp [bcs_length]) (by simp [bcs_length, LB.out]) (bcs_all _) fun y2 S2 s2 => ?_
          have ky := ky1.grown s2 ky1.size (fun k hk => by cases hk; exact hgB)
          have X1 : Hid (y2.heap[gA]? = some (.cells (bcs ra).toArray 24 (0, 0))) := (s2.block gA (Array.getElem?_eq_some_iff.1 S1.out).1 (by simp; omega)).trans S1.out
          refine hK.out _ _ ky (fun hHeld => ?_)
          clear hK K
          try (simp only [Act.put, List.getElem_toArray, List.getElem_cons_succ, List.getElem_cons_zero, List.setIfInBounds_toArray, List.set_cons_zero, List.set_cons_succ])
          refine wpAnyH_done (by kernel_rfl) ?_ _
          have t1 := blk_at X1.out
          have t2 := blk_at S2.out
          have By := B2.trans (ky.mono B2.size)
          have Ry := hR.past ky
          have IC := hIC.past ky
          have II := hI.past ky
          have ty := tx.past ky
          go_wp2_with fail
          refine wp_region_held_drew (S := fun w' => Below y2.heap.size y2 w') (by kernel_rfl) ((Below.refl _ _).drew) (fun hHeld => ?_)
          have c0 : Below y2.heap.size y2 y2.drew := (Below.refl _ _).drew
          refine wpAnyH_take (i := 0) (v := ?_) rfl (by kernel_rfl) (by kernel_rfl) (by kernel_rfl) (fun _ _ _ h => h) (Or.inl ⟨by rfl, ?_⟩) hHeld ?_
          rotate_left 1
          focus (intro wq hSw; go_simp; try with_reducible rfl)
          try (simp only [Act.put, List.getElem_toArray, List.getElem_cons_succ, List.getElem_cons_zero, List.setIfInBounds_toArray, List.set_cons_zero, List.set_cons_succ])
          refine wpAnyH_take (i := 1) (v := ?_) rfl (by kernel_rfl) (by kernel_rfl) (by kernel_rfl) (fun _ _ _ h => h) (Or.inl ⟨by rfl, ?_⟩) hHeld ?_
          rotate_left 1
          focus (intro wq hSw; go_simp; try with_reducible rfl)
          try (simp only [Act.put, List.getElem_toArray, List.getElem_cons_succ, List.getElem_cons_zero, List.setIfInBounds_toArray, List.set_cons_zero, List.set_cons_succ])
          refine wpAnyH_take (i := 2) (v := ?_) rfl (by kernel_rfl) (by kernel_rfl) (by kernel_rfl) (fun _ _ _ h => h) (Or.inl ⟨by rfl, ?_⟩) hHeld ?_
          rotate_left 1
          focus (intro wq hSw; go_simp; try with_reducible rfl)
          try (simp only [Act.put, List.getElem_toArray, List.getElem_cons_succ, List.getElem_cons_zero, List.setIfInBounds_toArray, List.set_cons_zero, List.set_cons_succ])
          refine wpAnyH_take (i := 3) (v := ?_) rfl (by kernel_rfl) (by kernel_rfl) (by kernel_rfl) (fun _ _ _ h => h) (Or.inl ⟨by rfl, ?_⟩) hHeld ?_
          rotate_left 1
          focus (intro wq hSw; have hcv := CC.out wq; go_simp; try with_reducible rfl)
          try (simp only [Act.put, List.getElem_toArray, List.getElem_cons_succ, List.getElem_cons_zero, List.setIfInBounds_toArray, List.set_cons_zero, List.set_cons_succ])
          refine wpAnyH_take (i := 5) (v := .agg (bcs (ra)).toArray) rfl (by kernel_rfl) (by kernel_rfl) (by kernel_rfl) (fun _ _ _ h => h) (yieldsIf_load_at (by rfl) 24 _ rfl ⟨gA, 0, none⟩ rfl (ra) (fun wq hSw => t1.past hSw) _ _ u24 (hash_size _ LA.out)) hHeld ?_
          try (simp only [Act.put, List.getElem_toArray, List.getElem_cons_succ, List.getElem_cons_zero, List.setIfInBounds_toArray, List.set_cons_zero, List.set_cons_succ])
          refine wpAnyH_take (i := 6) (v := .agg (bcs (rb)).toArray) rfl (by kernel_rfl) (by kernel_rfl) (by kernel_rfl) (fun _ _ _ h => h) (yieldsIf_load_at (by rfl) 24 _ rfl ⟨gB, 0, none⟩ rfl (rb) (fun wq hSw => t2.past hSw) _ _ u24 (hash_size _ LB.out)) hHeld ?_
          try (simp only [Act.put, List.getElem_toArray, List.getElem_cons_succ, List.getElem_cons_zero, List.setIfInBounds_toArray, List.set_cons_zero, List.set_cons_succ])
          refine wpAnyH_ready (rs := [4]) (by kernel_rfl) (by simp) ?_
          refine AllReadyH.cons rfl (fun K hK => ?_) AllReadyH.nil
          go_simp
          go_at_call 26
          (with_reducible refine (root_any ac k c ((hsL m).take k) _ ?_ ?_ ?_).mono ?_)
          · exact Ry.past c0
          · exact IC.past c0
          · omega
          rintro e va ⟨rfl, d1⟩
          rw [HT1'.out]
          have c1 := c0.trans (d1.mono c0.size)
          refine hK.out _ _ (c1) (fun hHeld => ?_)
          clear hK K
          try (simp only [Act.put, List.getElem_toArray, List.getElem_cons_succ, List.getElem_cons_zero, List.setIfInBounds_toArray, List.set_cons_zero, List.set_cons_succ])
          refine wpAnyH_ready (rs := [7]) (by kernel_rfl) (by simp) ?_
          refine AllReadyH.cons rfl (fun K hK => ?_) AllReadyH.nil
          go_simp
          go_at_call 34
          (with_reducible refine (rtwo_any ra rb _ ?_ ?_).mono ?_)
          · exact LA.out
          · exact LB.out
          rintro e vb ⟨rfl, d2⟩
          have c2 := c1.trans (d2.mono c1.size)
          refine hK.out _ _ (c2) (fun hHeld => ?_)
          clear hK K
          try (simp only [Act.put, List.getElem_toArray, List.getElem_cons_succ, List.getElem_cons_zero, List.setIfInBounds_toArray, List.set_cons_zero, List.set_cons_succ])
          refine wpAnyH_take (i := 8) (v := ?_) rfl (by kernel_rfl) (by kernel_rfl) (by kernel_rfl) (fun _ _ _ h => h) (Or.inl ⟨by rfl, ?_⟩) hHeld ?_
          rotate_left 1
          focus (intro wq hSw; go_simp; try with_reducible rfl)
          try (simp only [Act.put, List.getElem_toArray, List.getElem_cons_succ, List.getElem_cons_zero, List.setIfInBounds_toArray, List.set_cons_zero, List.set_cons_succ])
          refine wpAnyH_take (i := 9) (v := ?_) rfl (by kernel_rfl) (by kernel_rfl) (by kernel_rfl) (fun _ _ _ h => h) (Or.inl ⟨by rfl, ?_⟩) hHeld ?_
          rotate_left 1
          focus (intro wq hSw; go_simp; try with_reducible rfl)
          try (simp only [Act.put, List.getElem_toArray, List.getElem_cons_succ, List.getElem_cons_zero, List.setIfInBounds_toArray, List.set_cons_zero, List.set_cons_succ])
          refine wpAnyH_take (i := 10) (v := ?_) rfl (by kernel_rfl) (by kernel_rfl) (by kernel_rfl) (fun _ _ _ h => h) (Or.inl ⟨by rfl, ?_⟩) hHeld ?_
          rotate_left 1
          focus (intro wq hSw; go_simp; try with_reducible rfl)
          try (simp only [Act.put, List.getElem_toArray, List.getElem_cons_succ, List.getElem_cons_zero, List.setIfInBounds_toArray, List.set_cons_zero, List.set_cons_succ])
          refine wpAnyH_take (i := 12) (v := .agg (bcs (ra)).toArray) rfl (by kernel_rfl) (by kernel_rfl) (by kernel_rfl) (fun _ _ _ h => h) (yieldsIf_load_at (by rfl) 24 _ rfl ⟨gA, 0, none⟩ rfl (ra) (fun wq hSw => t1.past hSw) _ _ u24 (hash_size _ LA.out)) hHeld ?_
          try (simp only [Act.put, List.getElem_toArray, List.getElem_cons_succ, List.getElem_cons_zero, List.setIfInBounds_toArray, List.set_cons_zero, List.set_cons_succ])
          refine wpAnyH_take (i := 13) (v := .agg (bcs (rb)).toArray) rfl (by kernel_rfl) (by kernel_rfl) (by kernel_rfl) (fun _ _ _ h => h) (yieldsIf_load_at (by rfl) 24 _ rfl ⟨gB, 0, none⟩ rfl (rb) (fun wq hSw => t2.past hSw) _ _ u24 (hash_size _ LB.out)) hHeld ?_
          try (simp only [Act.put, List.getElem_toArray, List.getElem_cons_succ, List.getElem_cons_zero, List.setIfInBounds_toArray, List.set_cons_zero, List.set_cons_succ])
          refine wpAnyH_take (i := 15) (v := ?_) rfl (by kernel_rfl) (by kernel_rfl) (by kernel_rfl) (fun _ _ _ h => h) (Or.inl ⟨by rfl, ?_⟩) hHeld ?_
          rotate_left 1
          focus (intro wq hSw; go_simp; try with_reducible rfl)
          try (simp only [Act.put, List.getElem_toArray, List.getElem_cons_succ, List.getElem_cons_zero, List.setIfInBounds_toArray, List.set_cons_zero, List.set_cons_succ])
          refine wpAnyH_take (i := 16) (v := ?_) rfl (by kernel_rfl) (by kernel_rfl) (by kernel_rfl) (fun _ _ _ h => h) (Or.inl ⟨by rfl, ?_⟩) hHeld ?_
          rotate_left 1
          focus (intro wq hSw; go_simp; try with_reducible rfl)
          try (simp only [Act.put, List.getElem_toArray, List.getElem_cons_succ, List.getElem_cons_zero, List.setIfInBounds_toArray, List.set_cons_zero, List.set_cons_succ])
          refine wpAnyH_take (i := 17) (v := ?_) rfl (by kernel_rfl) (by kernel_rfl) (by kernel_rfl) (fun _ _ _ h => h) (Or.inl ⟨by rfl, ?_⟩) hHeld ?_
          rotate_left 1
          focus (intro wq hSw; go_simp; try with_reducible rfl)
          try (simp only [Act.put, List.getElem_toArray, List.getElem_cons_succ, List.getElem_cons_zero, List.setIfInBounds_toArray, List.set_cons_zero, List.set_cons_succ])
          refine wpAnyH_take (i := 18) (v := ?_) rfl (by kernel_rfl) (by kernel_rfl) (by kernel_rfl) (fun _ _ _ h => h) (Or.inl ⟨by rfl, ?_⟩) hHeld ?_
          rotate_left 1
          focus (intro wq hSw; go_simp; try with_reducible rfl)
          try (simp only [Act.put, List.getElem_toArray, List.getElem_cons_succ, List.getElem_cons_zero, List.setIfInBounds_toArray, List.set_cons_zero, List.set_cons_succ])
          refine wpAnyH_take (i := 19) (v := .agg (bcs (x)).toArray) rfl (by kernel_rfl) (by kernel_rfl) (by kernel_rfl) (fun _ _ _ h => h) (yieldsIf_load_at (by rfl) 24 _ rfl (a.add (k * 32)) rfl (x) (fun wq hSw => ty.past hSw) _ _ u24 (hash_size _ LX.out)) hHeld ?_
          try (simp only [Act.put, List.getElem_toArray, List.getElem_cons_succ, List.getElem_cons_zero, List.setIfInBounds_toArray, List.set_cons_zero, List.set_cons_succ])
          refine wpAnyH_ready (rs := [11]) (by kernel_rfl) (by simp) ?_
          refine AllReadyH.cons rfl (fun K hK => ?_) AllReadyH.nil
          go_simp
          go_at_call 26
          (with_reducible refine (root_any (some a) m c (hsL m) _ ?_ ?_ ?_).mono ?_)
          · exact Ry.past c2
          · exact II.past c2
          · omega
          rintro e vc ⟨rfl, d3⟩
          rw [HT2'.out]
          have c3 := c2.trans (d3.mono c2.size)
          refine hK.out _ _ (c3) (fun hHeld => ?_)
          clear hK K
          try (simp only [Act.put, List.getElem_toArray, List.getElem_cons_succ, List.getElem_cons_zero, List.setIfInBounds_toArray, List.set_cons_zero, List.set_cons_succ])
          refine wpAnyH_ready (rs := [14]) (by kernel_rfl) (by simp) ?_
          refine AllReadyH.cons rfl (fun K hK => ?_) AllReadyH.nil
          go_simp
          go_at_call 34
          (with_reducible refine (rtwo_any ra rb _ ?_ ?_).mono ?_)
          · exact LA.out
          · exact LB.out
          rintro e vd ⟨rfl, d4⟩
          have c4 := c3.trans (d4.mono c3.size)
          refine hK.out _ _ (c4) (fun hHeld => ?_)
          clear hK K
          try (simp only [Act.put, List.getElem_toArray, List.getElem_cons_succ, List.getElem_cons_zero, List.setIfInBounds_toArray, List.set_cons_zero, List.set_cons_succ])
          refine wpAnyH_ready (rs := [20]) (by kernel_rfl) (by simp) ?_
          refine AllReadyH.cons rfl (fun K hK => ?_) AllReadyH.nil
          go_simp
          go_at_call 34
          (with_reducible refine (rtwo_any (two ra rb) x _ ?_ ?_).mono ?_)
          · exact two_length _ _
          · exact LX.out
          rintro e ve ⟨rfl, d5⟩
          have c5 := c4.trans (d5.mono c4.size)
          refine hK.out _ _ (c5) (fun hHeld => ?_)
          clear hK K
          try (simp only [Act.put, List.getElem_toArray, List.getElem_cons_succ, List.getElem_cons_zero, List.setIfInBounds_toArray, List.set_cons_zero, List.set_cons_succ])
          refine wpAnyH_take (i := 21) (v := ?_) rfl (by kernel_rfl) (by kernel_rfl) (by kernel_rfl) (fun _ _ _ h => h) (Or.inl ⟨by rfl, ?_⟩) hHeld ?_
          rotate_left 1
          focus (intro wq hSw; go_simp; try with_reducible rfl)
          try (simp only [Act.put, List.getElem_toArray, List.getElem_cons_succ, List.getElem_cons_zero, List.setIfInBounds_toArray, List.set_cons_zero, List.set_cons_succ])
          refine wpAnyH_take (i := 22) (v := ?_) rfl (by kernel_rfl) (by kernel_rfl) (by kernel_rfl) (fun _ _ _ h => h) (Or.inl ⟨by rfl, ?_⟩) hHeld ?_
          rotate_left 1
          focus (intro wq hSw; go_simp; try with_reducible rfl)
          try (simp only [Act.put, List.getElem_toArray, List.getElem_cons_succ, List.getElem_cons_zero, List.setIfInBounds_toArray, List.set_cons_zero, List.set_cons_succ])
          refine wpAnyH_take (i := 23) (v := ?_) rfl (by kernel_rfl) (by kernel_rfl) (by kernel_rfl) (fun _ _ _ h => h) (Or.inl ⟨by rfl, ?_⟩) hHeld ?_
          rotate_left 1
          focus (intro wq hSw; go_simp; try with_reducible rfl)
          try (simp only [Act.put, List.getElem_toArray, List.getElem_cons_succ, List.getElem_cons_zero, List.setIfInBounds_toArray, List.set_cons_zero, List.set_cons_succ])
          refine wpAnyH_done (by kernel_rfl) ?_ _
          have BF := By.trans (c5.mono By.size)
          go_wp2_with fail
          go_ret
          exact ⟨rfl, BF⟩
      · skip
        rw [if_pos (by rfl)]
        refine wp_alloc_blk 24 rfl _ zeroHash fun z3 gB RB3 b3 q3 => ?_
        have k3 := k2.trans (b3.mono k2.size)
        have RA3 : Hid (z3.heap[gA]? = some (.cells (bcs (List.replicate 32 0)).toArray 24 (0, 0))) := (b3.block gA (Array.getElem?_eq_some_iff.1 RA2.out).1).trans RA2.out
        have hgB : w2.heap.size ≤ gB := Nat.le_trans k2.size q3
        have hne : gA ≠ gB := by have := (Array.getElem?_eq_some_iff.1 RA2.out).1; omega
        refine hK.out _ _ k3 (fun hHeld => ?_)
        clear hK K
        try (simp only [Act.put, List.getElem_toArray, List.getElem_cons_succ, List.getElem_cons_zero, List.setIfInBounds_toArray, List.set_cons_zero, List.set_cons_succ])
        refine wpAnyH_ready (rs := [9]) (by kernel_rfl) (by simp) ?_
        refine (AllReadyH.cons rfl (fun K hK => ?_) AllReadyH.nil)
        · skip
          go_simp
          go_at_call 26
          (with_reducible refine (root_any ab (k - n) (c - n) (((hsL m).drop n).take (k - n)) _ ?_ ?_ ?_).mono ?_)
          · exact hR.past k3
          · exact hIB.past k3
          · omega
          rintro e z4 ⟨rfl, b4⟩
          rw [← HRB.out]
          have k4 := k3.trans (b4.mono k3.size)
          have RA4 : Hid (z4.heap[gA]? = some (.cells (bcs (List.replicate 32 0)).toArray 24 (0, 0))) := (b4.block gA (Array.getElem?_eq_some_iff.1 RA3.out).1).trans RA3.out
          have RB4 : Hid (z4.heap[gB]? = some (.cells (bcs (List.replicate 32 0)).toArray 24 (0, 0))) := (b4.block gB (Array.getElem?_eq_some_iff.1 RB3.out).1).trans RB3.out
          refine hK.out _ _ k4 (fun hHeld => ?_)
          clear hK K
          try (simp only [Act.put, List.getElem_toArray, List.getElem_cons_succ, List.getElem_cons_zero, List.setIfInBounds_toArray, List.set_cons_zero, List.set_cons_succ])
          refine wpAnyH_ready (rs := [12]) (by kernel_rfl) (by simp) ?_
          refine AllReadyH.cons rfl (fun K hK => ?_) AllReadyH.nil
          rw [if_pos (by rfl)]
          refine wp_store_blk 24 _ _ rfl gA _ (bcs ra).toArray rfl rfl _ RA4 32 sizeHash (by simp [bcs_length]) (by simp [bcs_length, LA.out]) (bcs_all _) fun y1 S1 s1 => ?_
          have ky1 := k4.grown s1 k4.size (fun k hk => by cases hk; exact hgA)
          have RBy : Hid (y1.heap[gB]? = some (.cells (bcs (List.replicate 32 0)).toArray 24 (0, 0))) := (s1.block gB (Array.getElem?_eq_some_iff.1 RB4.out).1 (by simp; omega)).trans RB4.out
          refine hK.out _ _ ky1 (fun hHeld => ?_)
          clear hK K
          try (simp only [Act.put, List.getElem_toArray, List.getElem_cons_succ, List.getElem_cons_zero, List.setIfInBounds_toArray, List.set_cons_zero, List.set_cons_succ])
          refine wpAnyH_ready (rs := [13]) (by kernel_rfl) (by simp) ?_
          refine AllReadyH.cons rfl (fun K hK => ?_) AllReadyH.nil
          rw [if_pos (by rfl)]
          refine wp_store_blk 24 _ _ rfl gB _ (bcs rb).toArray rfl rfl _ RBy 32 sizeHash (by simp [bcs_length]) (by simp [bcs_length, LB.out]) (bcs_all _) fun y2 S2 s2 => ?_
          have ky := ky1.grown s2 ky1.size (fun k hk => by cases hk; exact hgB)
          have X1 : Hid (y2.heap[gA]? = some (.cells (bcs ra).toArray 24 (0, 0))) := (s2.block gA (Array.getElem?_eq_some_iff.1 S1.out).1 (by simp; omega)).trans S1.out
          refine hK.out _ _ ky (fun hHeld => ?_)
          clear hK K
          try (simp only [Act.put, List.getElem_toArray, List.getElem_cons_succ, List.getElem_cons_zero, List.setIfInBounds_toArray, List.set_cons_zero, List.set_cons_succ])
          refine wpAnyH_done (by kernel_rfl) ?_ _
          have t1 := blk_at X1.out
          have t2 := blk_at S2.out
          have By := B2.trans (ky.mono B2.size)
          have Ry := hR.past ky
          have IC := hIC.past ky
          have II := hI.past ky
          have ty := tx.past ky
          go_wp2_with fail
          refine wp_region_held_drew (S := fun w' => Below y2.heap.size y2 w') (by kernel_rfl) ((Below.refl _ _).drew) (fun hHeld => ?_)
          have c0 : Below y2.heap.size y2 y2.drew := (Below.refl _ _).drew
          refine wpAnyH_take (i := 0) (v := ?_) rfl (by kernel_rfl) (by kernel_rfl) (by kernel_rfl) (fun _ _ _ h => h) (Or.inl ⟨by rfl, ?_⟩) hHeld ?_
          rotate_left 1
          focus (intro wq hSw; go_simp; try with_reducible rfl)
          try (simp only [Act.put, List.getElem_toArray, List.getElem_cons_succ, List.getElem_cons_zero, List.setIfInBounds_toArray, List.set_cons_zero, List.set_cons_succ])
          refine wpAnyH_take (i := 1) (v := ?_) rfl (by kernel_rfl) (by kernel_rfl) (by kernel_rfl) (fun _ _ _ h => h) (Or.inl ⟨by rfl, ?_⟩) hHeld ?_
          rotate_left 1
          focus (intro wq hSw; go_simp; try with_reducible rfl)
          try (simp only [Act.put, List.getElem_toArray, List.getElem_cons_succ, List.getElem_cons_zero, List.setIfInBounds_toArray, List.set_cons_zero, List.set_cons_succ])
          refine wpAnyH_take (i := 2) (v := ?_) rfl (by kernel_rfl) (by kernel_rfl) (by kernel_rfl) (fun _ _ _ h => h) (Or.inl ⟨by rfl, ?_⟩) hHeld ?_
          rotate_left 1
          focus (intro wq hSw; go_simp; try with_reducible rfl)
          try (simp only [Act.put, List.getElem_toArray, List.getElem_cons_succ, List.getElem_cons_zero, List.setIfInBounds_toArray, List.set_cons_zero, List.set_cons_succ])
          refine wpAnyH_take (i := 3) (v := ?_) rfl (by kernel_rfl) (by kernel_rfl) (by kernel_rfl) (fun _ _ _ h => h) (Or.inl ⟨by rfl, ?_⟩) hHeld ?_
          rotate_left 1
          focus (intro wq hSw; have hcv := CC.out wq; go_simp; try with_reducible rfl)
          try (simp only [Act.put, List.getElem_toArray, List.getElem_cons_succ, List.getElem_cons_zero, List.setIfInBounds_toArray, List.set_cons_zero, List.set_cons_succ])
          refine wpAnyH_take (i := 5) (v := .agg (bcs (ra)).toArray) rfl (by kernel_rfl) (by kernel_rfl) (by kernel_rfl) (fun _ _ _ h => h) (yieldsIf_load_at (by rfl) 24 _ rfl ⟨gA, 0, none⟩ rfl (ra) (fun wq hSw => t1.past hSw) _ _ u24 (hash_size _ LA.out)) hHeld ?_
          try (simp only [Act.put, List.getElem_toArray, List.getElem_cons_succ, List.getElem_cons_zero, List.setIfInBounds_toArray, List.set_cons_zero, List.set_cons_succ])
          refine wpAnyH_take (i := 6) (v := .agg (bcs (rb)).toArray) rfl (by kernel_rfl) (by kernel_rfl) (by kernel_rfl) (fun _ _ _ h => h) (yieldsIf_load_at (by rfl) 24 _ rfl ⟨gB, 0, none⟩ rfl (rb) (fun wq hSw => t2.past hSw) _ _ u24 (hash_size _ LB.out)) hHeld ?_
          try (simp only [Act.put, List.getElem_toArray, List.getElem_cons_succ, List.getElem_cons_zero, List.setIfInBounds_toArray, List.set_cons_zero, List.set_cons_succ])
          refine wpAnyH_ready (rs := [4]) (by kernel_rfl) (by simp) ?_
          refine AllReadyH.cons rfl (fun K hK => ?_) AllReadyH.nil
          go_simp
          go_at_call 26
          (with_reducible refine (root_any ac k c ((hsL m).take k) _ ?_ ?_ ?_).mono ?_)
          · exact Ry.past c0
          · exact IC.past c0
          · omega
          rintro e va ⟨rfl, d1⟩
          rw [HT1'.out]
          have c1 := c0.trans (d1.mono c0.size)
          refine hK.out _ _ (c1) (fun hHeld => ?_)
          clear hK K
          try (simp only [Act.put, List.getElem_toArray, List.getElem_cons_succ, List.getElem_cons_zero, List.setIfInBounds_toArray, List.set_cons_zero, List.set_cons_succ])
          refine wpAnyH_ready (rs := [7]) (by kernel_rfl) (by simp) ?_
          refine AllReadyH.cons rfl (fun K hK => ?_) AllReadyH.nil
          go_simp
          go_at_call 34
          (with_reducible refine (rtwo_any ra rb _ ?_ ?_).mono ?_)
          · exact LA.out
          · exact LB.out
          rintro e vb ⟨rfl, d2⟩
          have c2 := c1.trans (d2.mono c1.size)
          refine hK.out _ _ (c2) (fun hHeld => ?_)
          clear hK K
          try (simp only [Act.put, List.getElem_toArray, List.getElem_cons_succ, List.getElem_cons_zero, List.setIfInBounds_toArray, List.set_cons_zero, List.set_cons_succ])
          refine wpAnyH_take (i := 8) (v := ?_) rfl (by kernel_rfl) (by kernel_rfl) (by kernel_rfl) (fun _ _ _ h => h) (Or.inl ⟨by rfl, ?_⟩) hHeld ?_
          rotate_left 1
          focus (intro wq hSw; go_simp; try with_reducible rfl)
          try (simp only [Act.put, List.getElem_toArray, List.getElem_cons_succ, List.getElem_cons_zero, List.setIfInBounds_toArray, List.set_cons_zero, List.set_cons_succ])
          refine wpAnyH_take (i := 9) (v := ?_) rfl (by kernel_rfl) (by kernel_rfl) (by kernel_rfl) (fun _ _ _ h => h) (Or.inl ⟨by rfl, ?_⟩) hHeld ?_
          rotate_left 1
          focus (intro wq hSw; go_simp; try with_reducible rfl)
          try (simp only [Act.put, List.getElem_toArray, List.getElem_cons_succ, List.getElem_cons_zero, List.setIfInBounds_toArray, List.set_cons_zero, List.set_cons_succ])
          refine wpAnyH_take (i := 10) (v := ?_) rfl (by kernel_rfl) (by kernel_rfl) (by kernel_rfl) (fun _ _ _ h => h) (Or.inl ⟨by rfl, ?_⟩) hHeld ?_
          rotate_left 1
          focus (intro wq hSw; go_simp; try with_reducible rfl)
          try (simp only [Act.put, List.getElem_toArray, List.getElem_cons_succ, List.getElem_cons_zero, List.setIfInBounds_toArray, List.set_cons_zero, List.set_cons_succ])
          refine wpAnyH_take (i := 12) (v := .agg (bcs (ra)).toArray) rfl (by kernel_rfl) (by kernel_rfl) (by kernel_rfl) (fun _ _ _ h => h) (yieldsIf_load_at (by rfl) 24 _ rfl ⟨gA, 0, none⟩ rfl (ra) (fun wq hSw => t1.past hSw) _ _ u24 (hash_size _ LA.out)) hHeld ?_
          try (simp only [Act.put, List.getElem_toArray, List.getElem_cons_succ, List.getElem_cons_zero, List.setIfInBounds_toArray, List.set_cons_zero, List.set_cons_succ])
          refine wpAnyH_take (i := 13) (v := .agg (bcs (rb)).toArray) rfl (by kernel_rfl) (by kernel_rfl) (by kernel_rfl) (fun _ _ _ h => h) (yieldsIf_load_at (by rfl) 24 _ rfl ⟨gB, 0, none⟩ rfl (rb) (fun wq hSw => t2.past hSw) _ _ u24 (hash_size _ LB.out)) hHeld ?_
          try (simp only [Act.put, List.getElem_toArray, List.getElem_cons_succ, List.getElem_cons_zero, List.setIfInBounds_toArray, List.set_cons_zero, List.set_cons_succ])
          refine wpAnyH_take (i := 15) (v := ?_) rfl (by kernel_rfl) (by kernel_rfl) (by kernel_rfl) (fun _ _ _ h => h) (Or.inl ⟨by rfl, ?_⟩) hHeld ?_
          rotate_left 1
          focus (intro wq hSw; go_simp; try with_reducible rfl)
          try (simp only [Act.put, List.getElem_toArray, List.getElem_cons_succ, List.getElem_cons_zero, List.setIfInBounds_toArray, List.set_cons_zero, List.set_cons_succ])
          refine wpAnyH_take (i := 16) (v := ?_) rfl (by kernel_rfl) (by kernel_rfl) (by kernel_rfl) (fun _ _ _ h => h) (Or.inl ⟨by rfl, ?_⟩) hHeld ?_
          rotate_left 1
          focus (intro wq hSw; go_simp; try with_reducible rfl)
          try (simp only [Act.put, List.getElem_toArray, List.getElem_cons_succ, List.getElem_cons_zero, List.setIfInBounds_toArray, List.set_cons_zero, List.set_cons_succ])
          refine wpAnyH_take (i := 17) (v := ?_) rfl (by kernel_rfl) (by kernel_rfl) (by kernel_rfl) (fun _ _ _ h => h) (Or.inl ⟨by rfl, ?_⟩) hHeld ?_
          rotate_left 1
          focus (intro wq hSw; go_simp; try with_reducible rfl)
          try (simp only [Act.put, List.getElem_toArray, List.getElem_cons_succ, List.getElem_cons_zero, List.setIfInBounds_toArray, List.set_cons_zero, List.set_cons_succ])
          refine wpAnyH_take (i := 18) (v := ?_) rfl (by kernel_rfl) (by kernel_rfl) (by kernel_rfl) (fun _ _ _ h => h) (Or.inl ⟨by rfl, ?_⟩) hHeld ?_
          rotate_left 1
          focus (intro wq hSw; go_simp; try with_reducible rfl)
          try (simp only [Act.put, List.getElem_toArray, List.getElem_cons_succ, List.getElem_cons_zero, List.setIfInBounds_toArray, List.set_cons_zero, List.set_cons_succ])
          refine wpAnyH_take (i := 19) (v := .agg (bcs (x)).toArray) rfl (by kernel_rfl) (by kernel_rfl) (by kernel_rfl) (fun _ _ _ h => h) (yieldsIf_load_at (by rfl) 24 _ rfl (a.add (k * 32)) rfl (x) (fun wq hSw => ty.past hSw) _ _ u24 (hash_size _ LX.out)) hHeld ?_
          try (simp only [Act.put, List.getElem_toArray, List.getElem_cons_succ, List.getElem_cons_zero, List.setIfInBounds_toArray, List.set_cons_zero, List.set_cons_succ])
          refine wpAnyH_ready (rs := [11]) (by kernel_rfl) (by simp) ?_
          refine AllReadyH.cons rfl (fun K hK => ?_) AllReadyH.nil
          go_simp
          go_at_call 26
          (with_reducible refine (root_any (some a) m c (hsL m) _ ?_ ?_ ?_).mono ?_)
          · exact Ry.past c2
          · exact II.past c2
          · omega
          rintro e vc ⟨rfl, d3⟩
          rw [HT2'.out]
          have c3 := c2.trans (d3.mono c2.size)
          refine hK.out _ _ (c3) (fun hHeld => ?_)
          clear hK K
          try (simp only [Act.put, List.getElem_toArray, List.getElem_cons_succ, List.getElem_cons_zero, List.setIfInBounds_toArray, List.set_cons_zero, List.set_cons_succ])
          refine wpAnyH_ready (rs := [14]) (by kernel_rfl) (by simp) ?_
          refine AllReadyH.cons rfl (fun K hK => ?_) AllReadyH.nil
          go_simp
          go_at_call 34
          (with_reducible refine (rtwo_any ra rb _ ?_ ?_).mono ?_)
          · exact LA.out
          · exact LB.out
          rintro e vd ⟨rfl, d4⟩
          have c4 := c3.trans (d4.mono c3.size)
          refine hK.out _ _ (c4) (fun hHeld => ?_)
          clear hK K
          try (simp only [Act.put, List.getElem_toArray, List.getElem_cons_succ, List.getElem_cons_zero, List.setIfInBounds_toArray, List.set_cons_zero, List.set_cons_succ])
          refine wpAnyH_ready (rs := [20]) (by kernel_rfl) (by simp) ?_
          refine AllReadyH.cons rfl (fun K hK => ?_) AllReadyH.nil
          go_simp
          go_at_call 34
          (with_reducible refine (rtwo_any (two ra rb) x _ ?_ ?_).mono ?_)
          · exact two_length _ _
          · exact LX.out
          rintro e ve ⟨rfl, d5⟩
          have c5 := c4.trans (d5.mono c4.size)
          refine hK.out _ _ (c5) (fun hHeld => ?_)
          clear hK K
          try (simp only [Act.put, List.getElem_toArray, List.getElem_cons_succ, List.getElem_cons_zero, List.setIfInBounds_toArray, List.set_cons_zero, List.set_cons_succ])
          refine wpAnyH_take (i := 21) (v := ?_) rfl (by kernel_rfl) (by kernel_rfl) (by kernel_rfl) (fun _ _ _ h => h) (Or.inl ⟨by rfl, ?_⟩) hHeld ?_
          rotate_left 1
          focus (intro wq hSw; go_simp; try with_reducible rfl)
          try (simp only [Act.put, List.getElem_toArray, List.getElem_cons_succ, List.getElem_cons_zero, List.setIfInBounds_toArray, List.set_cons_zero, List.set_cons_succ])
          refine wpAnyH_take (i := 22) (v := ?_) rfl (by kernel_rfl) (by kernel_rfl) (by kernel_rfl) (fun _ _ _ h => h) (Or.inl ⟨by rfl, ?_⟩) hHeld ?_
          rotate_left 1
          focus (intro wq hSw; go_simp; try with_reducible rfl)
          try (simp only [Act.put, List.getElem_toArray, List.getElem_cons_succ, List.getElem_cons_zero, List.setIfInBounds_toArray, List.set_cons_zero, List.set_cons_succ])
          refine wpAnyH_take (i := 23) (v := ?_) rfl (by kernel_rfl) (by kernel_rfl) (by kernel_rfl) (fun _ _ _ h => h) (Or.inl ⟨by rfl, ?_⟩) hHeld ?_
          rotate_left 1
          focus (intro wq hSw; go_simp; try with_reducible rfl)
          try (simp only [Act.put, List.getElem_toArray, List.getElem_cons_succ, List.getElem_cons_zero, List.setIfInBounds_toArray, List.set_cons_zero, List.set_cons_succ])
          refine wpAnyH_done (by kernel_rfl) ?_ _
          have BF := By.trans (c5.mono By.size)
          go_wp2_with fail
          go_ret
          exact ⟨rfl, BF⟩
    · skip
      rw [if_pos (by rfl)]
      refine wp_alloc_blk 24 rfl _ zeroHash fun z2 gB RB2 b2 q2 => ?_
      have k2 := k1.trans (b2.mono k1.size)
      have RA2 : Hid (z2.heap[gA]? = some (.cells (bcs (List.replicate 32 0)).toArray 24 (0, 0))) := (b2.block gA (Array.getElem?_eq_some_iff.1 RA1.out).1).trans RA1.out
      have hgB : w2.heap.size ≤ gB := Nat.le_trans k1.size q2
      have hne : gA ≠ gB := by have := (Array.getElem?_eq_some_iff.1 RA1.out).1; omega
      refine hK.out _ _ k2 (fun hHeld => ?_)
      clear hK K
      try (simp only [Act.put, List.getElem_toArray, List.getElem_cons_succ, List.getElem_cons_zero, List.setIfInBounds_toArray, List.set_cons_zero, List.set_cons_succ])
      refine wpAnyH_ready (rs := [3]) (by kernel_rfl) (by simp) ?_
      refine (AllReadyH.cons rfl (fun K hK => ?_) AllReadyH.nil)
      · skip
        go_simp
        go_at_call 26
        (with_reducible refine (root_any aa n c ((hsL m).take n) _ ?_ ?_ ?_).mono ?_)
        · exact hR.past k2
        · exact hIA.past k2
        · omega
        rintro e z3 ⟨rfl, b3⟩
        rw [← HRA.out]
        have k3 := k2.trans (b3.mono k2.size)
        have RA3 : Hid (z3.heap[gA]? = some (.cells (bcs (List.replicate 32 0)).toArray 24 (0, 0))) := (b3.block gA (Array.getElem?_eq_some_iff.1 RA2.out).1).trans RA2.out
        have RB3 : Hid (z3.heap[gB]? = some (.cells (bcs (List.replicate 32 0)).toArray 24 (0, 0))) := (b3.block gB (Array.getElem?_eq_some_iff.1 RB2.out).1).trans RB2.out
        refine hK.out _ _ k3 (fun hHeld => ?_)
        clear hK K
        try (simp only [Act.put, List.getElem_toArray, List.getElem_cons_succ, List.getElem_cons_zero, List.setIfInBounds_toArray, List.set_cons_zero, List.set_cons_succ])
        refine wpAnyH_ready (rs := [9]) (by kernel_rfl) (by simp) ?_
        refine (AllReadyH.cons rfl (fun K hK => ?_) AllReadyH.nil)
        · skip
          go_simp
          go_at_call 26
          (with_reducible refine (root_any ab (k - n) (c - n) (((hsL m).drop n).take (k - n)) _ ?_ ?_ ?_).mono ?_)
          · exact hR.past k3
          · exact hIB.past k3
          · omega
          rintro e z4 ⟨rfl, b4⟩
          rw [← HRB.out]
          have k4 := k3.trans (b4.mono k3.size)
          have RA4 : Hid (z4.heap[gA]? = some (.cells (bcs (List.replicate 32 0)).toArray 24 (0, 0))) := (b4.block gA (Array.getElem?_eq_some_iff.1 RA3.out).1).trans RA3.out
          have RB4 : Hid (z4.heap[gB]? = some (.cells (bcs (List.replicate 32 0)).toArray 24 (0, 0))) := (b4.block gB (Array.getElem?_eq_some_iff.1 RB3.out).1).trans RB3.out
          refine hK.out _ _ k4 (fun hHeld => ?_)
          clear hK K
          try (simp only [Act.put, List.getElem_toArray, List.getElem_cons_succ, List.getElem_cons_zero, List.setIfInBounds_toArray, List.set_cons_zero, List.set_cons_succ])
          refine wpAnyH_ready (rs := [12]) (by kernel_rfl) (by simp) ?_
          refine AllReadyH.cons rfl (fun K hK => ?_) AllReadyH.nil
          rw [if_pos (by rfl)]
          refine wp_store_blk 24 _ _ rfl gA _ (bcs ra).toArray rfl rfl _ RA4 32 sizeHash (by simp [bcs_length]) (by simp [bcs_length, LA.out]) (bcs_all _) fun y1 S1 s1 => ?_
          have ky1 := k4.grown s1 k4.size (fun k hk => by cases hk; exact hgA)
          have RBy : Hid (y1.heap[gB]? = some (.cells (bcs (List.replicate 32 0)).toArray 24 (0, 0))) := (s1.block gB (Array.getElem?_eq_some_iff.1 RB4.out).1 (by simp; omega)).trans RB4.out
          refine hK.out _ _ ky1 (fun hHeld => ?_)
          clear hK K
          try (simp only [Act.put, List.getElem_toArray, List.getElem_cons_succ, List.getElem_cons_zero, List.setIfInBounds_toArray, List.set_cons_zero, List.set_cons_succ])
          refine wpAnyH_ready (rs := [13]) (by kernel_rfl) (by simp) ?_
          refine AllReadyH.cons rfl (fun K hK => ?_) AllReadyH.nil
          rw [if_pos (by rfl)]
          refine wp_store_blk 24 _ _ rfl gB _ (bcs rb).toArray rfl rfl _ RBy 32 sizeHash (by simp [bcs_length]) (by simp [bcs_length, LB.out]) (bcs_all _) fun y2 S2 s2 => ?_
          have ky := ky1.grown s2 ky1.size (fun k hk => by cases hk; exact hgB)
          have X1 : Hid (y2.heap[gA]? = some (.cells (bcs ra).toArray 24 (0, 0))) := (s2.block gA (Array.getElem?_eq_some_iff.1 S1.out).1 (by simp; omega)).trans S1.out
          refine hK.out _ _ ky (fun hHeld => ?_)
          clear hK K
          try (simp only [Act.put, List.getElem_toArray, List.getElem_cons_succ, List.getElem_cons_zero, List.setIfInBounds_toArray, List.set_cons_zero, List.set_cons_succ])
          refine wpAnyH_done (by kernel_rfl) ?_ _
          have t1 := blk_at X1.out
          have t2 := blk_at S2.out
          have By := B2.trans (ky.mono B2.size)
          have Ry := hR.past ky
          have IC := hIC.past ky
          have II := hI.past ky
          have ty := tx.past ky
          go_wp2_with fail
          refine wp_region_held_drew (S := fun w' => Below y2.heap.size y2 w') (by kernel_rfl) ((Below.refl _ _).drew) (fun hHeld => ?_)
          have c0 : Below y2.heap.size y2 y2.drew := (Below.refl _ _).drew
          refine wpAnyH_take (i := 0) (v := ?_) rfl (by kernel_rfl) (by kernel_rfl) (by kernel_rfl) (fun _ _ _ h => h) (Or.inl ⟨by rfl, ?_⟩) hHeld ?_
          rotate_left 1
          focus (intro wq hSw; go_simp; try with_reducible rfl)
          try (simp only [Act.put, List.getElem_toArray, List.getElem_cons_succ, List.getElem_cons_zero, List.setIfInBounds_toArray, List.set_cons_zero, List.set_cons_succ])
          refine wpAnyH_take (i := 1) (v := ?_) rfl (by kernel_rfl) (by kernel_rfl) (by kernel_rfl) (fun _ _ _ h => h) (Or.inl ⟨by rfl, ?_⟩) hHeld ?_
          rotate_left 1
          focus (intro wq hSw; go_simp; try with_reducible rfl)
          try (simp only [Act.put, List.getElem_toArray, List.getElem_cons_succ, List.getElem_cons_zero, List.setIfInBounds_toArray, List.set_cons_zero, List.set_cons_succ])
          refine wpAnyH_take (i := 2) (v := ?_) rfl (by kernel_rfl) (by kernel_rfl) (by kernel_rfl) (fun _ _ _ h => h) (Or.inl ⟨by rfl, ?_⟩) hHeld ?_
          rotate_left 1
          focus (intro wq hSw; go_simp; try with_reducible rfl)
          try (simp only [Act.put, List.getElem_toArray, List.getElem_cons_succ, List.getElem_cons_zero, List.setIfInBounds_toArray, List.set_cons_zero, List.set_cons_succ])
          refine wpAnyH_take (i := 3) (v := ?_) rfl (by kernel_rfl) (by kernel_rfl) (by kernel_rfl) (fun _ _ _ h => h) (Or.inl ⟨by rfl, ?_⟩) hHeld ?_
          rotate_left 1
          focus (intro wq hSw; have hcv := CC.out wq; go_simp; try with_reducible rfl)
          try (simp only [Act.put, List.getElem_toArray, List.getElem_cons_succ, List.getElem_cons_zero, List.setIfInBounds_toArray, List.set_cons_zero, List.set_cons_succ])
          refine wpAnyH_take (i := 5) (v := .agg (bcs (ra)).toArray) rfl (by kernel_rfl) (by kernel_rfl) (by kernel_rfl) (fun _ _ _ h => h) (yieldsIf_load_at (by rfl) 24 _ rfl ⟨gA, 0, none⟩ rfl (ra) (fun wq hSw => t1.past hSw) _ _ u24 (hash_size _ LA.out)) hHeld ?_
          try (simp only [Act.put, List.getElem_toArray, List.getElem_cons_succ, List.getElem_cons_zero, List.setIfInBounds_toArray, List.set_cons_zero, List.set_cons_succ])
          refine wpAnyH_take (i := 6) (v := .agg (bcs (rb)).toArray) rfl (by kernel_rfl) (by kernel_rfl) (by kernel_rfl) (fun _ _ _ h => h) (yieldsIf_load_at (by rfl) 24 _ rfl ⟨gB, 0, none⟩ rfl (rb) (fun wq hSw => t2.past hSw) _ _ u24 (hash_size _ LB.out)) hHeld ?_
          try (simp only [Act.put, List.getElem_toArray, List.getElem_cons_succ, List.getElem_cons_zero, List.setIfInBounds_toArray, List.set_cons_zero, List.set_cons_succ])
          refine wpAnyH_ready (rs := [4]) (by kernel_rfl) (by simp) ?_
          refine AllReadyH.cons rfl (fun K hK => ?_) AllReadyH.nil
          go_simp
          go_at_call 26
          (with_reducible refine (root_any ac k c ((hsL m).take k) _ ?_ ?_ ?_).mono ?_)
          · exact Ry.past c0
          · exact IC.past c0
          · omega
          rintro e va ⟨rfl, d1⟩
          rw [HT1'.out]
          have c1 := c0.trans (d1.mono c0.size)
          refine hK.out _ _ (c1) (fun hHeld => ?_)
          clear hK K
          try (simp only [Act.put, List.getElem_toArray, List.getElem_cons_succ, List.getElem_cons_zero, List.setIfInBounds_toArray, List.set_cons_zero, List.set_cons_succ])
          refine wpAnyH_ready (rs := [7]) (by kernel_rfl) (by simp) ?_
          refine AllReadyH.cons rfl (fun K hK => ?_) AllReadyH.nil
          go_simp
          go_at_call 34
          (with_reducible refine (rtwo_any ra rb _ ?_ ?_).mono ?_)
          · exact LA.out
          · exact LB.out
          rintro e vb ⟨rfl, d2⟩
          have c2 := c1.trans (d2.mono c1.size)
          refine hK.out _ _ (c2) (fun hHeld => ?_)
          clear hK K
          try (simp only [Act.put, List.getElem_toArray, List.getElem_cons_succ, List.getElem_cons_zero, List.setIfInBounds_toArray, List.set_cons_zero, List.set_cons_succ])
          refine wpAnyH_take (i := 8) (v := ?_) rfl (by kernel_rfl) (by kernel_rfl) (by kernel_rfl) (fun _ _ _ h => h) (Or.inl ⟨by rfl, ?_⟩) hHeld ?_
          rotate_left 1
          focus (intro wq hSw; go_simp; try with_reducible rfl)
          try (simp only [Act.put, List.getElem_toArray, List.getElem_cons_succ, List.getElem_cons_zero, List.setIfInBounds_toArray, List.set_cons_zero, List.set_cons_succ])
          refine wpAnyH_take (i := 9) (v := ?_) rfl (by kernel_rfl) (by kernel_rfl) (by kernel_rfl) (fun _ _ _ h => h) (Or.inl ⟨by rfl, ?_⟩) hHeld ?_
          rotate_left 1
          focus (intro wq hSw; go_simp; try with_reducible rfl)
          try (simp only [Act.put, List.getElem_toArray, List.getElem_cons_succ, List.getElem_cons_zero, List.setIfInBounds_toArray, List.set_cons_zero, List.set_cons_succ])
          refine wpAnyH_take (i := 10) (v := ?_) rfl (by kernel_rfl) (by kernel_rfl) (by kernel_rfl) (fun _ _ _ h => h) (Or.inl ⟨by rfl, ?_⟩) hHeld ?_
          rotate_left 1
          focus (intro wq hSw; go_simp; try with_reducible rfl)
          try (simp only [Act.put, List.getElem_toArray, List.getElem_cons_succ, List.getElem_cons_zero, List.setIfInBounds_toArray, List.set_cons_zero, List.set_cons_succ])
          refine wpAnyH_take (i := 12) (v := .agg (bcs (ra)).toArray) rfl (by kernel_rfl) (by kernel_rfl) (by kernel_rfl) (fun _ _ _ h => h) (yieldsIf_load_at (by rfl) 24 _ rfl ⟨gA, 0, none⟩ rfl (ra) (fun wq hSw => t1.past hSw) _ _ u24 (hash_size _ LA.out)) hHeld ?_
          try (simp only [Act.put, List.getElem_toArray, List.getElem_cons_succ, List.getElem_cons_zero, List.setIfInBounds_toArray, List.set_cons_zero, List.set_cons_succ])
          refine wpAnyH_take (i := 13) (v := .agg (bcs (rb)).toArray) rfl (by kernel_rfl) (by kernel_rfl) (by kernel_rfl) (fun _ _ _ h => h) (yieldsIf_load_at (by rfl) 24 _ rfl ⟨gB, 0, none⟩ rfl (rb) (fun wq hSw => t2.past hSw) _ _ u24 (hash_size _ LB.out)) hHeld ?_
          try (simp only [Act.put, List.getElem_toArray, List.getElem_cons_succ, List.getElem_cons_zero, List.setIfInBounds_toArray, List.set_cons_zero, List.set_cons_succ])
          refine wpAnyH_take (i := 15) (v := ?_) rfl (by kernel_rfl) (by kernel_rfl) (by kernel_rfl) (fun _ _ _ h => h) (Or.inl ⟨by rfl, ?_⟩) hHeld ?_
          rotate_left 1
          focus (intro wq hSw; go_simp; try with_reducible rfl)
          try (simp only [Act.put, List.getElem_toArray, List.getElem_cons_succ, List.getElem_cons_zero, List.setIfInBounds_toArray, List.set_cons_zero, List.set_cons_succ])
          refine wpAnyH_take (i := 16) (v := ?_) rfl (by kernel_rfl) (by kernel_rfl) (by kernel_rfl) (fun _ _ _ h => h) (Or.inl ⟨by rfl, ?_⟩) hHeld ?_
          rotate_left 1
          focus (intro wq hSw; go_simp; try with_reducible rfl)
          try (simp only [Act.put, List.getElem_toArray, List.getElem_cons_succ, List.getElem_cons_zero, List.setIfInBounds_toArray, List.set_cons_zero, List.set_cons_succ])
          refine wpAnyH_take (i := 17) (v := ?_) rfl (by kernel_rfl) (by kernel_rfl) (by kernel_rfl) (fun _ _ _ h => h) (Or.inl ⟨by rfl, ?_⟩) hHeld ?_
          rotate_left 1
          focus (intro wq hSw; go_simp; try with_reducible rfl)
          try (simp only [Act.put, List.getElem_toArray, List.getElem_cons_succ, List.getElem_cons_zero, List.setIfInBounds_toArray, List.set_cons_zero, List.set_cons_succ])
          refine wpAnyH_take (i := 18) (v := ?_) rfl (by kernel_rfl) (by kernel_rfl) (by kernel_rfl) (fun _ _ _ h => h) (Or.inl ⟨by rfl, ?_⟩) hHeld ?_
          rotate_left 1
          focus (intro wq hSw; go_simp; try with_reducible rfl)
          try (simp only [Act.put, List.getElem_toArray, List.getElem_cons_succ, List.getElem_cons_zero, List.setIfInBounds_toArray, List.set_cons_zero, List.set_cons_succ])
          refine wpAnyH_take (i := 19) (v := .agg (bcs (x)).toArray) rfl (by kernel_rfl) (by kernel_rfl) (by kernel_rfl) (fun _ _ _ h => h) (yieldsIf_load_at (by rfl) 24 _ rfl (a.add (k * 32)) rfl (x) (fun wq hSw => ty.past hSw) _ _ u24 (hash_size _ LX.out)) hHeld ?_
          try (simp only [Act.put, List.getElem_toArray, List.getElem_cons_succ, List.getElem_cons_zero, List.setIfInBounds_toArray, List.set_cons_zero, List.set_cons_succ])
          refine wpAnyH_ready (rs := [11]) (by kernel_rfl) (by simp) ?_
          refine AllReadyH.cons rfl (fun K hK => ?_) AllReadyH.nil
          go_simp
          go_at_call 26
          (with_reducible refine (root_any (some a) m c (hsL m) _ ?_ ?_ ?_).mono ?_)
          · exact Ry.past c2
          · exact II.past c2
          · omega
          rintro e vc ⟨rfl, d3⟩
          rw [HT2'.out]
          have c3 := c2.trans (d3.mono c2.size)
          refine hK.out _ _ (c3) (fun hHeld => ?_)
          clear hK K
          try (simp only [Act.put, List.getElem_toArray, List.getElem_cons_succ, List.getElem_cons_zero, List.setIfInBounds_toArray, List.set_cons_zero, List.set_cons_succ])
          refine wpAnyH_ready (rs := [14]) (by kernel_rfl) (by simp) ?_
          refine AllReadyH.cons rfl (fun K hK => ?_) AllReadyH.nil
          go_simp
          go_at_call 34
          (with_reducible refine (rtwo_any ra rb _ ?_ ?_).mono ?_)
          · exact LA.out
          · exact LB.out
          rintro e vd ⟨rfl, d4⟩
          have c4 := c3.trans (d4.mono c3.size)
          refine hK.out _ _ (c4) (fun hHeld => ?_)
          clear hK K
          try (simp only [Act.put, List.getElem_toArray, List.getElem_cons_succ, List.getElem_cons_zero, List.setIfInBounds_toArray, List.set_cons_zero, List.set_cons_succ])
          refine wpAnyH_ready (rs := [20]) (by kernel_rfl) (by simp) ?_
          refine AllReadyH.cons rfl (fun K hK => ?_) AllReadyH.nil
          go_simp
          go_at_call 34
          (with_reducible refine (rtwo_any (two ra rb) x _ ?_ ?_).mono ?_)
          · exact two_length _ _
          · exact LX.out
          rintro e ve ⟨rfl, d5⟩
          have c5 := c4.trans (d5.mono c4.size)
          refine hK.out _ _ (c5) (fun hHeld => ?_)
          clear hK K
          try (simp only [Act.put, List.getElem_toArray, List.getElem_cons_succ, List.getElem_cons_zero, List.setIfInBounds_toArray, List.set_cons_zero, List.set_cons_succ])
          refine wpAnyH_take (i := 21) (v := ?_) rfl (by kernel_rfl) (by kernel_rfl) (by kernel_rfl) (fun _ _ _ h => h) (Or.inl ⟨by rfl, ?_⟩) hHeld ?_
          rotate_left 1
          focus (intro wq hSw; go_simp; try with_reducible rfl)
          try (simp only [Act.put, List.getElem_toArray, List.getElem_cons_succ, List.getElem_cons_zero, List.setIfInBounds_toArray, List.set_cons_zero, List.set_cons_succ])
          refine wpAnyH_take (i := 22) (v := ?_) rfl (by kernel_rfl) (by kernel_rfl) (by kernel_rfl) (fun _ _ _ h => h) (Or.inl ⟨by rfl, ?_⟩) hHeld ?_
          rotate_left 1
          focus (intro wq hSw; go_simp; try with_reducible rfl)
          try (simp only [Act.put, List.getElem_toArray, List.getElem_cons_succ, List.getElem_cons_zero, List.setIfInBounds_toArray, List.set_cons_zero, List.set_cons_succ])
          refine wpAnyH_take (i := 23) (v := ?_) rfl (by kernel_rfl) (by kernel_rfl) (by kernel_rfl) (fun _ _ _ h => h) (Or.inl ⟨by rfl, ?_⟩) hHeld ?_
          rotate_left 1
          focus (intro wq hSw; go_simp; try with_reducible rfl)
          try (simp only [Act.put, List.getElem_toArray, List.getElem_cons_succ, List.getElem_cons_zero, List.setIfInBounds_toArray, List.set_cons_zero, List.set_cons_succ])
          refine wpAnyH_done (by kernel_rfl) ?_ _
          have BF := By.trans (c5.mono By.size)
          go_wp2_with fail
          go_ret
          exact ⟨rfl, BF⟩
  · skip
    rw [if_pos (by rfl)]
    refine wp_alloc_blk 24 rfl _ zeroHash fun z1 gB RB1 b1 q1 => ?_
    have k1 := k0.trans (b1.mono k0.size)
    have hgB : w2.heap.size ≤ gB := Nat.le_trans k0.size q1
    refine hK.out _ _ k1 (fun hHeld => ?_)
    clear hK K
    try (simp only [Act.put, List.getElem_toArray, List.getElem_cons_succ, List.getElem_cons_zero, List.setIfInBounds_toArray, List.set_cons_zero, List.set_cons_succ])
    refine wpAnyH_ready (rs := [3, 10]) (by kernel_rfl) (by simp) ?_
    refine (AllReadyH.cons rfl (fun K hK => ?_) (AllReadyH.cons rfl (fun K hK => ?_) AllReadyH.nil))
    · skip
      go_simp
      go_at_call 26
      (with_reducible refine (root_any aa n c ((hsL m).take n) _ ?_ ?_ ?_).mono ?_)
      · exact hR.past k1
      · exact hIA.past k1
      · omega
      rintro e z2 ⟨rfl, b2⟩
      rw [← HRA.out]
      have k2 := k1.trans (b2.mono k1.size)
      have RB2 : Hid (z2.heap[gB]? = some (.cells (bcs (List.replicate 32 0)).toArray 24 (0, 0))) := (b2.block gB (Array.getElem?_eq_some_iff.1 RB1.out).1).trans RB1.out
      refine hK.out _ _ k2 (fun hHeld => ?_)
      clear hK K
      try (simp only [Act.put, List.getElem_toArray, List.getElem_cons_succ, List.getElem_cons_zero, List.setIfInBounds_toArray, List.set_cons_zero, List.set_cons_succ])
      refine wpAnyH_ready (rs := [9, 10]) (by kernel_rfl) (by simp) ?_
      refine (AllReadyH.cons rfl (fun K hK => ?_) (AllReadyH.cons rfl (fun K hK => ?_) AllReadyH.nil))
      · skip
        go_simp
        go_at_call 26
        (with_reducible refine (root_any ab (k - n) (c - n) (((hsL m).drop n).take (k - n)) _ ?_ ?_ ?_).mono ?_)
        · exact hR.past k2
        · exact hIB.past k2
        · omega
        rintro e z3 ⟨rfl, b3⟩
        rw [← HRB.out]
        have k3 := k2.trans (b3.mono k2.size)
        have RB3 : Hid (z3.heap[gB]? = some (.cells (bcs (List.replicate 32 0)).toArray 24 (0, 0))) := (b3.block gB (Array.getElem?_eq_some_iff.1 RB2.out).1).trans RB2.out
        refine hK.out _ _ k3 (fun hHeld => ?_)
        clear hK K
        try (simp only [Act.put, List.getElem_toArray, List.getElem_cons_succ, List.getElem_cons_zero, List.setIfInBounds_toArray, List.set_cons_zero, List.set_cons_succ])
        refine wpAnyH_ready (rs := [10]) (by kernel_rfl) (by simp) ?_
        refine (AllReadyH.cons rfl (fun K hK => ?_) AllReadyH.nil)
        · skip
          rw [if_pos (by rfl)]
          refine wp_alloc_blk 24 rfl _ zeroHash fun z4 gA RA4 b4 q4 => ?_
          have k4 := k3.trans (b4.mono k3.size)
          have RB4 : Hid (z4.heap[gB]? = some (.cells (bcs (List.replicate 32 0)).toArray 24 (0, 0))) := (b4.block gB (Array.getElem?_eq_some_iff.1 RB3.out).1).trans RB3.out
          have hgA : w2.heap.size ≤ gA := Nat.le_trans k3.size q4
          have hne : gA ≠ gB := by have := (Array.getElem?_eq_some_iff.1 RB3.out).1; omega
          refine hK.out _ _ k4 (fun hHeld => ?_)
          clear hK K
          try (simp only [Act.put, List.getElem_toArray, List.getElem_cons_succ, List.getElem_cons_zero, List.setIfInBounds_toArray, List.set_cons_zero, List.set_cons_succ])
          refine wpAnyH_ready (rs := [12]) (by kernel_rfl) (by simp) ?_
          refine AllReadyH.cons rfl (fun K hK => ?_) AllReadyH.nil
          rw [if_pos (by rfl)]
          refine wp_store_blk 24 _ _ rfl gA _ (bcs ra).toArray rfl rfl _ RA4 32 sizeHash (by simp [bcs_length]) (by simp [bcs_length, LA.out]) (bcs_all _) fun y1 S1 s1 => ?_
          have ky1 := k4.grown s1 k4.size (fun k hk => by cases hk; exact hgA)
          have RBy : Hid (y1.heap[gB]? = some (.cells (bcs (List.replicate 32 0)).toArray 24 (0, 0))) := (s1.block gB (Array.getElem?_eq_some_iff.1 RB4.out).1 (by simp; omega)).trans RB4.out
          refine hK.out _ _ ky1 (fun hHeld => ?_)
          clear hK K
          try (simp only [Act.put, List.getElem_toArray, List.getElem_cons_succ, List.getElem_cons_zero, List.setIfInBounds_toArray, List.set_cons_zero, List.set_cons_succ])
          refine wpAnyH_ready (rs := [13]) (by kernel_rfl) (by simp) ?_
          refine AllReadyH.cons rfl (fun K hK => ?_) AllReadyH.nil
          rw [if_pos (by rfl)]
          refine wp_store_blk 24 _ _ rfl gB _ (bcs rb).toArray rfl rfl _ RBy 32 sizeHash (by simp [bcs_length]) (by simp [bcs_length, LB.out]) (bcs_all _) fun y2 S2 s2 => ?_
          have ky := ky1.grown s2 ky1.size (fun k hk => by cases hk; exact hgB)
          have X1 : Hid (y2.heap[gA]? = some (.cells (bcs ra).toArray 24 (0, 0))) := (s2.block gA (Array.getElem?_eq_some_iff.1 S1.out).1 (by simp; omega)).trans S1.out
          refine hK.out _ _ ky (fun hHeld => ?_)
          clear hK K
          try (simp only [Act.put, List.getElem_toArray, List.getElem_cons_succ, List.getElem_cons_zero, List.setIfInBounds_toArray, List.set_cons_zero, List.set_cons_succ])
          refine wpAnyH_done (by kernel_rfl) ?_ _
          have t1 := blk_at X1.out
          have t2 := blk_at S2.out
          have By := B2.trans (ky.mono B2.size)
          have Ry := hR.past ky
          have IC := hIC.past ky
          have II := hI.past ky
          have ty := tx.past ky
          go_wp2_with fail
          refine wp_region_held_drew (S := fun w' => Below y2.heap.size y2 w') (by kernel_rfl) ((Below.refl _ _).drew) (fun hHeld => ?_)
          have c0 : Below y2.heap.size y2 y2.drew := (Below.refl _ _).drew
          refine wpAnyH_take (i := 0) (v := ?_) rfl (by kernel_rfl) (by kernel_rfl) (by kernel_rfl) (fun _ _ _ h => h) (Or.inl ⟨by rfl, ?_⟩) hHeld ?_
          rotate_left 1
          focus (intro wq hSw; go_simp; try with_reducible rfl)
          try (simp only [Act.put, List.getElem_toArray, List.getElem_cons_succ, List.getElem_cons_zero, List.setIfInBounds_toArray, List.set_cons_zero, List.set_cons_succ])
          refine wpAnyH_take (i := 1) (v := ?_) rfl (by kernel_rfl) (by kernel_rfl) (by kernel_rfl) (fun _ _ _ h => h) (Or.inl ⟨by rfl, ?_⟩) hHeld ?_
          rotate_left 1
          focus (intro wq hSw; go_simp; try with_reducible rfl)
          try (simp only [Act.put, List.getElem_toArray, List.getElem_cons_succ, List.getElem_cons_zero, List.setIfInBounds_toArray, List.set_cons_zero, List.set_cons_succ])
          refine wpAnyH_take (i := 2) (v := ?_) rfl (by kernel_rfl) (by kernel_rfl) (by kernel_rfl) (fun _ _ _ h => h) (Or.inl ⟨by rfl, ?_⟩) hHeld ?_
          rotate_left 1
          focus (intro wq hSw; go_simp; try with_reducible rfl)
          try (simp only [Act.put, List.getElem_toArray, List.getElem_cons_succ, List.getElem_cons_zero, List.setIfInBounds_toArray, List.set_cons_zero, List.set_cons_succ])
          refine wpAnyH_take (i := 3) (v := ?_) rfl (by kernel_rfl) (by kernel_rfl) (by kernel_rfl) (fun _ _ _ h => h) (Or.inl ⟨by rfl, ?_⟩) hHeld ?_
          rotate_left 1
          focus (intro wq hSw; have hcv := CC.out wq; go_simp; try with_reducible rfl)
          try (simp only [Act.put, List.getElem_toArray, List.getElem_cons_succ, List.getElem_cons_zero, List.setIfInBounds_toArray, List.set_cons_zero, List.set_cons_succ])
          refine wpAnyH_take (i := 5) (v := .agg (bcs (ra)).toArray) rfl (by kernel_rfl) (by kernel_rfl) (by kernel_rfl) (fun _ _ _ h => h) (yieldsIf_load_at (by rfl) 24 _ rfl ⟨gA, 0, none⟩ rfl (ra) (fun wq hSw => t1.past hSw) _ _ u24 (hash_size _ LA.out)) hHeld ?_
          try (simp only [Act.put, List.getElem_toArray, List.getElem_cons_succ, List.getElem_cons_zero, List.setIfInBounds_toArray, List.set_cons_zero, List.set_cons_succ])
          refine wpAnyH_take (i := 6) (v := .agg (bcs (rb)).toArray) rfl (by kernel_rfl) (by kernel_rfl) (by kernel_rfl) (fun _ _ _ h => h) (yieldsIf_load_at (by rfl) 24 _ rfl ⟨gB, 0, none⟩ rfl (rb) (fun wq hSw => t2.past hSw) _ _ u24 (hash_size _ LB.out)) hHeld ?_
          try (simp only [Act.put, List.getElem_toArray, List.getElem_cons_succ, List.getElem_cons_zero, List.setIfInBounds_toArray, List.set_cons_zero, List.set_cons_succ])
          refine wpAnyH_ready (rs := [4]) (by kernel_rfl) (by simp) ?_
          refine AllReadyH.cons rfl (fun K hK => ?_) AllReadyH.nil
          go_simp
          go_at_call 26
          (with_reducible refine (root_any ac k c ((hsL m).take k) _ ?_ ?_ ?_).mono ?_)
          · exact Ry.past c0
          · exact IC.past c0
          · omega
          rintro e va ⟨rfl, d1⟩
          rw [HT1'.out]
          have c1 := c0.trans (d1.mono c0.size)
          refine hK.out _ _ (c1) (fun hHeld => ?_)
          clear hK K
          try (simp only [Act.put, List.getElem_toArray, List.getElem_cons_succ, List.getElem_cons_zero, List.setIfInBounds_toArray, List.set_cons_zero, List.set_cons_succ])
          refine wpAnyH_ready (rs := [7]) (by kernel_rfl) (by simp) ?_
          refine AllReadyH.cons rfl (fun K hK => ?_) AllReadyH.nil
          go_simp
          go_at_call 34
          (with_reducible refine (rtwo_any ra rb _ ?_ ?_).mono ?_)
          · exact LA.out
          · exact LB.out
          rintro e vb ⟨rfl, d2⟩
          have c2 := c1.trans (d2.mono c1.size)
          refine hK.out _ _ (c2) (fun hHeld => ?_)
          clear hK K
          try (simp only [Act.put, List.getElem_toArray, List.getElem_cons_succ, List.getElem_cons_zero, List.setIfInBounds_toArray, List.set_cons_zero, List.set_cons_succ])
          refine wpAnyH_take (i := 8) (v := ?_) rfl (by kernel_rfl) (by kernel_rfl) (by kernel_rfl) (fun _ _ _ h => h) (Or.inl ⟨by rfl, ?_⟩) hHeld ?_
          rotate_left 1
          focus (intro wq hSw; go_simp; try with_reducible rfl)
          try (simp only [Act.put, List.getElem_toArray, List.getElem_cons_succ, List.getElem_cons_zero, List.setIfInBounds_toArray, List.set_cons_zero, List.set_cons_succ])
          refine wpAnyH_take (i := 9) (v := ?_) rfl (by kernel_rfl) (by kernel_rfl) (by kernel_rfl) (fun _ _ _ h => h) (Or.inl ⟨by rfl, ?_⟩) hHeld ?_
          rotate_left 1
          focus (intro wq hSw; go_simp; try with_reducible rfl)
          try (simp only [Act.put, List.getElem_toArray, List.getElem_cons_succ, List.getElem_cons_zero, List.setIfInBounds_toArray, List.set_cons_zero, List.set_cons_succ])
          refine wpAnyH_take (i := 10) (v := ?_) rfl (by kernel_rfl) (by kernel_rfl) (by kernel_rfl) (fun _ _ _ h => h) (Or.inl ⟨by rfl, ?_⟩) hHeld ?_
          rotate_left 1
          focus (intro wq hSw; go_simp; try with_reducible rfl)
          try (simp only [Act.put, List.getElem_toArray, List.getElem_cons_succ, List.getElem_cons_zero, List.setIfInBounds_toArray, List.set_cons_zero, List.set_cons_succ])
          refine wpAnyH_take (i := 12) (v := .agg (bcs (ra)).toArray) rfl (by kernel_rfl) (by kernel_rfl) (by kernel_rfl) (fun _ _ _ h => h) (yieldsIf_load_at (by rfl) 24 _ rfl ⟨gA, 0, none⟩ rfl (ra) (fun wq hSw => t1.past hSw) _ _ u24 (hash_size _ LA.out)) hHeld ?_
          try (simp only [Act.put, List.getElem_toArray, List.getElem_cons_succ, List.getElem_cons_zero, List.setIfInBounds_toArray, List.set_cons_zero, List.set_cons_succ])
          refine wpAnyH_take (i := 13) (v := .agg (bcs (rb)).toArray) rfl (by kernel_rfl) (by kernel_rfl) (by kernel_rfl) (fun _ _ _ h => h) (yieldsIf_load_at (by rfl) 24 _ rfl ⟨gB, 0, none⟩ rfl (rb) (fun wq hSw => t2.past hSw) _ _ u24 (hash_size _ LB.out)) hHeld ?_
          try (simp only [Act.put, List.getElem_toArray, List.getElem_cons_succ, List.getElem_cons_zero, List.setIfInBounds_toArray, List.set_cons_zero, List.set_cons_succ])
          refine wpAnyH_take (i := 15) (v := ?_) rfl (by kernel_rfl) (by kernel_rfl) (by kernel_rfl) (fun _ _ _ h => h) (Or.inl ⟨by rfl, ?_⟩) hHeld ?_
          rotate_left 1
          focus (intro wq hSw; go_simp; try with_reducible rfl)
          try (simp only [Act.put, List.getElem_toArray, List.getElem_cons_succ, List.getElem_cons_zero, List.setIfInBounds_toArray, List.set_cons_zero, List.set_cons_succ])
          refine wpAnyH_take (i := 16) (v := ?_) rfl (by kernel_rfl) (by kernel_rfl) (by kernel_rfl) (fun _ _ _ h => h) (Or.inl ⟨by rfl, ?_⟩) hHeld ?_
          rotate_left 1
          focus (intro wq hSw; go_simp; try with_reducible rfl)
          try (simp only [Act.put, List.getElem_toArray, List.getElem_cons_succ, List.getElem_cons_zero, List.setIfInBounds_toArray, List.set_cons_zero, List.set_cons_succ])
          refine wpAnyH_take (i := 17) (v := ?_) rfl (by kernel_rfl) (by kernel_rfl) (by kernel_rfl) (fun _ _ _ h => h) (Or.inl ⟨by rfl, ?_⟩) hHeld ?_
          rotate_left 1
          focus (intro wq hSw; go_simp; try with_reducible rfl)
          try (simp only [Act.put, List.getElem_toArray, List.getElem_cons_succ, List.getElem_cons_zero, List.setIfInBounds_toArray, List.set_cons_zero, List.set_cons_succ])
          refine wpAnyH_take (i := 18) (v := ?_) rfl (by kernel_rfl) (by kernel_rfl) (by kernel_rfl) (fun _ _ _ h => h) (Or.inl ⟨by rfl, ?_⟩) hHeld ?_
          rotate_left 1
          focus (intro wq hSw; go_simp; try with_reducible rfl)
          try (simp only [Act.put, List.getElem_toArray, List.getElem_cons_succ, List.getElem_cons_zero, List.setIfInBounds_toArray, List.set_cons_zero, List.set_cons_succ])
          refine wpAnyH_take (i := 19) (v := .agg (bcs (x)).toArray) rfl (by kernel_rfl) (by kernel_rfl) (by kernel_rfl) (fun _ _ _ h => h) (yieldsIf_load_at (by rfl) 24 _ rfl (a.add (k * 32)) rfl (x) (fun wq hSw => ty.past hSw) _ _ u24 (hash_size _ LX.out)) hHeld ?_
          try (simp only [Act.put, List.getElem_toArray, List.getElem_cons_succ, List.getElem_cons_zero, List.setIfInBounds_toArray, List.set_cons_zero, List.set_cons_succ])
          refine wpAnyH_ready (rs := [11]) (by kernel_rfl) (by simp) ?_
          refine AllReadyH.cons rfl (fun K hK => ?_) AllReadyH.nil
          go_simp
          go_at_call 26
          (with_reducible refine (root_any (some a) m c (hsL m) _ ?_ ?_ ?_).mono ?_)
          · exact Ry.past c2
          · exact II.past c2
          · omega
          rintro e vc ⟨rfl, d3⟩
          rw [HT2'.out]
          have c3 := c2.trans (d3.mono c2.size)
          refine hK.out _ _ (c3) (fun hHeld => ?_)
          clear hK K
          try (simp only [Act.put, List.getElem_toArray, List.getElem_cons_succ, List.getElem_cons_zero, List.setIfInBounds_toArray, List.set_cons_zero, List.set_cons_succ])
          refine wpAnyH_ready (rs := [14]) (by kernel_rfl) (by simp) ?_
          refine AllReadyH.cons rfl (fun K hK => ?_) AllReadyH.nil
          go_simp
          go_at_call 34
          (with_reducible refine (rtwo_any ra rb _ ?_ ?_).mono ?_)
          · exact LA.out
          · exact LB.out
          rintro e vd ⟨rfl, d4⟩
          have c4 := c3.trans (d4.mono c3.size)
          refine hK.out _ _ (c4) (fun hHeld => ?_)
          clear hK K
          try (simp only [Act.put, List.getElem_toArray, List.getElem_cons_succ, List.getElem_cons_zero, List.setIfInBounds_toArray, List.set_cons_zero, List.set_cons_succ])
          refine wpAnyH_ready (rs := [20]) (by kernel_rfl) (by simp) ?_
          refine AllReadyH.cons rfl (fun K hK => ?_) AllReadyH.nil
          go_simp
          go_at_call 34
          (with_reducible refine (rtwo_any (two ra rb) x _ ?_ ?_).mono ?_)
          · exact two_length _ _
          · exact LX.out
          rintro e ve ⟨rfl, d5⟩
          have c5 := c4.trans (d5.mono c4.size)
          refine hK.out _ _ (c5) (fun hHeld => ?_)
          clear hK K
          try (simp only [Act.put, List.getElem_toArray, List.getElem_cons_succ, List.getElem_cons_zero, List.setIfInBounds_toArray, List.set_cons_zero, List.set_cons_succ])
          refine wpAnyH_take (i := 21) (v := ?_) rfl (by kernel_rfl) (by kernel_rfl) (by kernel_rfl) (fun _ _ _ h => h) (Or.inl ⟨by rfl, ?_⟩) hHeld ?_
          rotate_left 1
          focus (intro wq hSw; go_simp; try with_reducible rfl)
          try (simp only [Act.put, List.getElem_toArray, List.getElem_cons_succ, List.getElem_cons_zero, List.setIfInBounds_toArray, List.set_cons_zero, List.set_cons_succ])
          refine wpAnyH_take (i := 22) (v := ?_) rfl (by kernel_rfl) (by kernel_rfl) (by kernel_rfl) (fun _ _ _ h => h) (Or.inl ⟨by rfl, ?_⟩) hHeld ?_
          rotate_left 1
          focus (intro wq hSw; go_simp; try with_reducible rfl)
          try (simp only [Act.put, List.getElem_toArray, List.getElem_cons_succ, List.getElem_cons_zero, List.setIfInBounds_toArray, List.set_cons_zero, List.set_cons_succ])
          refine wpAnyH_take (i := 23) (v := ?_) rfl (by kernel_rfl) (by kernel_rfl) (by kernel_rfl) (fun _ _ _ h => h) (Or.inl ⟨by rfl, ?_⟩) hHeld ?_
          rotate_left 1
          focus (intro wq hSw; go_simp; try with_reducible rfl)
          try (simp only [Act.put, List.getElem_toArray, List.getElem_cons_succ, List.getElem_cons_zero, List.setIfInBounds_toArray, List.set_cons_zero, List.set_cons_succ])
          refine wpAnyH_done (by kernel_rfl) ?_ _
          have BF := By.trans (c5.mono By.size)
          go_wp2_with fail
          go_ret
          exact ⟨rfl, BF⟩
      · skip
        rw [if_pos (by rfl)]
        refine wp_alloc_blk 24 rfl _ zeroHash fun z3 gA RA3 b3 q3 => ?_
        have k3 := k2.trans (b3.mono k2.size)
        have RB3 : Hid (z3.heap[gB]? = some (.cells (bcs (List.replicate 32 0)).toArray 24 (0, 0))) := (b3.block gB (Array.getElem?_eq_some_iff.1 RB2.out).1).trans RB2.out
        have hgA : w2.heap.size ≤ gA := Nat.le_trans k2.size q3
        have hne : gA ≠ gB := by have := (Array.getElem?_eq_some_iff.1 RB2.out).1; omega
        refine hK.out _ _ k3 (fun hHeld => ?_)
        clear hK K
        try (simp only [Act.put, List.getElem_toArray, List.getElem_cons_succ, List.getElem_cons_zero, List.setIfInBounds_toArray, List.set_cons_zero, List.set_cons_succ])
        refine wpAnyH_ready (rs := [9]) (by kernel_rfl) (by simp) ?_
        refine (AllReadyH.cons rfl (fun K hK => ?_) AllReadyH.nil)
        · skip
          go_simp
          go_at_call 26
          (with_reducible refine (root_any ab (k - n) (c - n) (((hsL m).drop n).take (k - n)) _ ?_ ?_ ?_).mono ?_)
          · exact hR.past k3
          · exact hIB.past k3
          · omega
          rintro e z4 ⟨rfl, b4⟩
          rw [← HRB.out]
          have k4 := k3.trans (b4.mono k3.size)
          have RA4 : Hid (z4.heap[gA]? = some (.cells (bcs (List.replicate 32 0)).toArray 24 (0, 0))) := (b4.block gA (Array.getElem?_eq_some_iff.1 RA3.out).1).trans RA3.out
          have RB4 : Hid (z4.heap[gB]? = some (.cells (bcs (List.replicate 32 0)).toArray 24 (0, 0))) := (b4.block gB (Array.getElem?_eq_some_iff.1 RB3.out).1).trans RB3.out
          refine hK.out _ _ k4 (fun hHeld => ?_)
          clear hK K
          try (simp only [Act.put, List.getElem_toArray, List.getElem_cons_succ, List.getElem_cons_zero, List.setIfInBounds_toArray, List.set_cons_zero, List.set_cons_succ])
          refine wpAnyH_ready (rs := [12]) (by kernel_rfl) (by simp) ?_
          refine AllReadyH.cons rfl (fun K hK => ?_) AllReadyH.nil
          rw [if_pos (by rfl)]
          refine wp_store_blk 24 _ _ rfl gA _ (bcs ra).toArray rfl rfl _ RA4 32 sizeHash (by simp [bcs_length]) (by simp [bcs_length, LA.out]) (bcs_all _) fun y1 S1 s1 => ?_
          have ky1 := k4.grown s1 k4.size (fun k hk => by cases hk; exact hgA)
          have RBy : Hid (y1.heap[gB]? = some (.cells (bcs (List.replicate 32 0)).toArray 24 (0, 0))) := (s1.block gB (Array.getElem?_eq_some_iff.1 RB4.out).1 (by simp; omega)).trans RB4.out
          refine hK.out _ _ ky1 (fun hHeld => ?_)
          clear hK K
          try (simp only [Act.put, List.getElem_toArray, List.getElem_cons_succ, List.getElem_cons_zero, List.setIfInBounds_toArray, List.set_cons_zero, List.set_cons_succ])
          refine wpAnyH_ready (rs := [13]) (by kernel_rfl) (by simp) ?_
          refine AllReadyH.cons rfl (fun K hK => ?_) AllReadyH.nil
          rw [if_pos (by rfl)]
          refine wp_store_blk 24 _ _ rfl gB _ (bcs rb).toArray rfl rfl _ RBy 32 sizeHash (by simp [bcs_length]) (by simp [bcs_length, LB.out]) (bcs_all _) fun y2 S2 s2 => ?_
          have ky := ky1.grown s2 ky1.size (fun k hk => by cases hk; exact hgB)
          have X1 : Hid (y2.heap[gA]? = some (.cells (bcs ra).toArray 24 (0, 0))) := (s2.block gA (Array.getElem?_eq_some_iff.1 S1.out).1 (by simp; omega)).trans S1.out
          refine hK.out _ _ ky (fun hHeld => ?_)
          clear hK K
          try (simp only [Act.put, List.getElem_toArray, List.getElem_cons_succ, List.getElem_cons_zero, List.setIfInBounds_toArray, List.set_cons_zero, List.set_cons_succ])
          refine wpAnyH_done (by kernel_rfl) ?_ _
          have t1 := blk_at X1.out
          have t2 := blk_at S2.out
          have By := B2.trans (ky.mono B2.size)
          have Ry := hR.past ky
          have IC := hIC.past ky
          have II := hI.past ky
          have ty := tx.past ky
          go_wp2_with fail
          refine wp_region_held_drew (S := fun w' => Below y2.heap.size y2 w') (by kernel_rfl) ((Below.refl _ _).drew) (fun hHeld => ?_)
          have c0 : Below y2.heap.size y2 y2.drew := (Below.refl _ _).drew
          refine wpAnyH_take (i := 0) (v := ?_) rfl (by kernel_rfl) (by kernel_rfl) (by kernel_rfl) (fun _ _ _ h => h) (Or.inl ⟨by rfl, ?_⟩) hHeld ?_
          rotate_left 1
          focus (intro wq hSw; go_simp; try with_reducible rfl)
          try (simp only [Act.put, List.getElem_toArray, List.getElem_cons_succ, List.getElem_cons_zero, List.setIfInBounds_toArray, List.set_cons_zero, List.set_cons_succ])
          refine wpAnyH_take (i := 1) (v := ?_) rfl (by kernel_rfl) (by kernel_rfl) (by kernel_rfl) (fun _ _ _ h => h) (Or.inl ⟨by rfl, ?_⟩) hHeld ?_
          rotate_left 1
          focus (intro wq hSw; go_simp; try with_reducible rfl)
          try (simp only [Act.put, List.getElem_toArray, List.getElem_cons_succ, List.getElem_cons_zero, List.setIfInBounds_toArray, List.set_cons_zero, List.set_cons_succ])
          refine wpAnyH_take (i := 2) (v := ?_) rfl (by kernel_rfl) (by kernel_rfl) (by kernel_rfl) (fun _ _ _ h => h) (Or.inl ⟨by rfl, ?_⟩) hHeld ?_
          rotate_left 1
          focus (intro wq hSw; go_simp; try with_reducible rfl)
          try (simp only [Act.put, List.getElem_toArray, List.getElem_cons_succ, List.getElem_cons_zero, List.setIfInBounds_toArray, List.set_cons_zero, List.set_cons_succ])
          refine wpAnyH_take (i := 3) (v := ?_) rfl (by kernel_rfl) (by kernel_rfl) (by kernel_rfl) (fun _ _ _ h => h) (Or.inl ⟨by rfl, ?_⟩) hHeld ?_
          rotate_left 1
          focus (intro wq hSw; have hcv := CC.out wq; go_simp; try with_reducible rfl)
          try (simp only [Act.put, List.getElem_toArray, List.getElem_cons_succ, List.getElem_cons_zero, List.setIfInBounds_toArray, List.set_cons_zero, List.set_cons_succ])
          refine wpAnyH_take (i := 5) (v := .agg (bcs (ra)).toArray) rfl (by kernel_rfl) (by kernel_rfl) (by kernel_rfl) (fun _ _ _ h => h) (yieldsIf_load_at (by rfl) 24 _ rfl ⟨gA, 0, none⟩ rfl (ra) (fun wq hSw => t1.past hSw) _ _ u24 (hash_size _ LA.out)) hHeld ?_
          try (simp only [Act.put, List.getElem_toArray, List.getElem_cons_succ, List.getElem_cons_zero, List.setIfInBounds_toArray, List.set_cons_zero, List.set_cons_succ])
          refine wpAnyH_take (i := 6) (v := .agg (bcs (rb)).toArray) rfl (by kernel_rfl) (by kernel_rfl) (by kernel_rfl) (fun _ _ _ h => h) (yieldsIf_load_at (by rfl) 24 _ rfl ⟨gB, 0, none⟩ rfl (rb) (fun wq hSw => t2.past hSw) _ _ u24 (hash_size _ LB.out)) hHeld ?_
          try (simp only [Act.put, List.getElem_toArray, List.getElem_cons_succ, List.getElem_cons_zero, List.setIfInBounds_toArray, List.set_cons_zero, List.set_cons_succ])
          refine wpAnyH_ready (rs := [4]) (by kernel_rfl) (by simp) ?_
          refine AllReadyH.cons rfl (fun K hK => ?_) AllReadyH.nil
          go_simp
          go_at_call 26
          (with_reducible refine (root_any ac k c ((hsL m).take k) _ ?_ ?_ ?_).mono ?_)
          · exact Ry.past c0
          · exact IC.past c0
          · omega
          rintro e va ⟨rfl, d1⟩
          rw [HT1'.out]
          have c1 := c0.trans (d1.mono c0.size)
          refine hK.out _ _ (c1) (fun hHeld => ?_)
          clear hK K
          try (simp only [Act.put, List.getElem_toArray, List.getElem_cons_succ, List.getElem_cons_zero, List.setIfInBounds_toArray, List.set_cons_zero, List.set_cons_succ])
          refine wpAnyH_ready (rs := [7]) (by kernel_rfl) (by simp) ?_
          refine AllReadyH.cons rfl (fun K hK => ?_) AllReadyH.nil
          go_simp
          go_at_call 34
          (with_reducible refine (rtwo_any ra rb _ ?_ ?_).mono ?_)
          · exact LA.out
          · exact LB.out
          rintro e vb ⟨rfl, d2⟩
          have c2 := c1.trans (d2.mono c1.size)
          refine hK.out _ _ (c2) (fun hHeld => ?_)
          clear hK K
          try (simp only [Act.put, List.getElem_toArray, List.getElem_cons_succ, List.getElem_cons_zero, List.setIfInBounds_toArray, List.set_cons_zero, List.set_cons_succ])
          refine wpAnyH_take (i := 8) (v := ?_) rfl (by kernel_rfl) (by kernel_rfl) (by kernel_rfl) (fun _ _ _ h => h) (Or.inl ⟨by rfl, ?_⟩) hHeld ?_
          rotate_left 1
          focus (intro wq hSw; go_simp; try with_reducible rfl)
          try (simp only [Act.put, List.getElem_toArray, List.getElem_cons_succ, List.getElem_cons_zero, List.setIfInBounds_toArray, List.set_cons_zero, List.set_cons_succ])
          refine wpAnyH_take (i := 9) (v := ?_) rfl (by kernel_rfl) (by kernel_rfl) (by kernel_rfl) (fun _ _ _ h => h) (Or.inl ⟨by rfl, ?_⟩) hHeld ?_
          rotate_left 1
          focus (intro wq hSw; go_simp; try with_reducible rfl)
          try (simp only [Act.put, List.getElem_toArray, List.getElem_cons_succ, List.getElem_cons_zero, List.setIfInBounds_toArray, List.set_cons_zero, List.set_cons_succ])
          refine wpAnyH_take (i := 10) (v := ?_) rfl (by kernel_rfl) (by kernel_rfl) (by kernel_rfl) (fun _ _ _ h => h) (Or.inl ⟨by rfl, ?_⟩) hHeld ?_
          rotate_left 1
          focus (intro wq hSw; go_simp; try with_reducible rfl)
          try (simp only [Act.put, List.getElem_toArray, List.getElem_cons_succ, List.getElem_cons_zero, List.setIfInBounds_toArray, List.set_cons_zero, List.set_cons_succ])
          refine wpAnyH_take (i := 12) (v := .agg (bcs (ra)).toArray) rfl (by kernel_rfl) (by kernel_rfl) (by kernel_rfl) (fun _ _ _ h => h) (yieldsIf_load_at (by rfl) 24 _ rfl ⟨gA, 0, none⟩ rfl (ra) (fun wq hSw => t1.past hSw) _ _ u24 (hash_size _ LA.out)) hHeld ?_
          try (simp only [Act.put, List.getElem_toArray, List.getElem_cons_succ, List.getElem_cons_zero, List.setIfInBounds_toArray, List.set_cons_zero, List.set_cons_succ])
          refine wpAnyH_take (i := 13) (v := .agg (bcs (rb)).toArray) rfl (by kernel_rfl) (by kernel_rfl) (by kernel_rfl) (fun _ _ _ h => h) (yieldsIf_load_at (by rfl) 24 _ rfl ⟨gB, 0, none⟩ rfl (rb) (fun wq hSw => t2.past hSw) _ _ u24 (hash_size _ LB.out)) hHeld ?_
          try (simp only [Act.put, List.getElem_toArray, List.getElem_cons_succ, List.getElem_cons_zero, List.setIfInBounds_toArray, List.set_cons_zero, List.set_cons_succ])
          refine wpAnyH_take (i := 15) (v := ?_) rfl (by kernel_rfl) (by kernel_rfl) (by kernel_rfl) (fun _ _ _ h => h) (Or.inl ⟨by rfl, ?_⟩) hHeld ?_
          rotate_left 1
          focus (intro wq hSw; go_simp; try with_reducible rfl)
          try (simp only [Act.put, List.getElem_toArray, List.getElem_cons_succ, List.getElem_cons_zero, List.setIfInBounds_toArray, List.set_cons_zero, List.set_cons_succ])
          refine wpAnyH_take (i := 16) (v := ?_) rfl (by kernel_rfl) (by kernel_rfl) (by kernel_rfl) (fun _ _ _ h => h) (Or.inl ⟨by rfl, ?_⟩) hHeld ?_
          rotate_left 1
          focus (intro wq hSw; go_simp; try with_reducible rfl)
          try (simp only [Act.put, List.getElem_toArray, List.getElem_cons_succ, List.getElem_cons_zero, List.setIfInBounds_toArray, List.set_cons_zero, List.set_cons_succ])
          refine wpAnyH_take (i := 17) (v := ?_) rfl (by kernel_rfl) (by kernel_rfl) (by kernel_rfl) (fun _ _ _ h => h) (Or.inl ⟨by rfl, ?_⟩) hHeld ?_
          rotate_left 1
          focus (intro wq hSw; go_simp; try with_reducible rfl)
          try (simp only [Act.put, List.getElem_toArray, List.getElem_cons_succ, List.getElem_cons_zero, List.setIfInBounds_toArray, List.set_cons_zero, List.set_cons_succ])
          refine wpAnyH_take (i := 18) (v := ?_) rfl (by kernel_rfl) (by kernel_rfl) (by kernel_rfl) (fun _ _ _ h => h) (Or.inl ⟨by rfl, ?_⟩) hHeld ?_
          rotate_left 1
          focus (intro wq hSw; go_simp; try with_reducible rfl)
          try (simp only [Act.put, List.getElem_toArray, List.getElem_cons_succ, List.getElem_cons_zero, List.setIfInBounds_toArray, List.set_cons_zero, List.set_cons_succ])
          refine wpAnyH_take (i := 19) (v := .agg (bcs (x)).toArray) rfl (by kernel_rfl) (by kernel_rfl) (by kernel_rfl) (fun _ _ _ h => h) (yieldsIf_load_at (by rfl) 24 _ rfl (a.add (k * 32)) rfl (x) (fun wq hSw => ty.past hSw) _ _ u24 (hash_size _ LX.out)) hHeld ?_
          try (simp only [Act.put, List.getElem_toArray, List.getElem_cons_succ, List.getElem_cons_zero, List.setIfInBounds_toArray, List.set_cons_zero, List.set_cons_succ])
          refine wpAnyH_ready (rs := [11]) (by kernel_rfl) (by simp) ?_
          refine AllReadyH.cons rfl (fun K hK => ?_) AllReadyH.nil
          go_simp
          go_at_call 26
          (with_reducible refine (root_any (some a) m c (hsL m) _ ?_ ?_ ?_).mono ?_)
          · exact Ry.past c2
          · exact II.past c2
          · omega
          rintro e vc ⟨rfl, d3⟩
          rw [HT2'.out]
          have c3 := c2.trans (d3.mono c2.size)
          refine hK.out _ _ (c3) (fun hHeld => ?_)
          clear hK K
          try (simp only [Act.put, List.getElem_toArray, List.getElem_cons_succ, List.getElem_cons_zero, List.setIfInBounds_toArray, List.set_cons_zero, List.set_cons_succ])
          refine wpAnyH_ready (rs := [14]) (by kernel_rfl) (by simp) ?_
          refine AllReadyH.cons rfl (fun K hK => ?_) AllReadyH.nil
          go_simp
          go_at_call 34
          (with_reducible refine (rtwo_any ra rb _ ?_ ?_).mono ?_)
          · exact LA.out
          · exact LB.out
          rintro e vd ⟨rfl, d4⟩
          have c4 := c3.trans (d4.mono c3.size)
          refine hK.out _ _ (c4) (fun hHeld => ?_)
          clear hK K
          try (simp only [Act.put, List.getElem_toArray, List.getElem_cons_succ, List.getElem_cons_zero, List.setIfInBounds_toArray, List.set_cons_zero, List.set_cons_succ])
          refine wpAnyH_ready (rs := [20]) (by kernel_rfl) (by simp) ?_
          refine AllReadyH.cons rfl (fun K hK => ?_) AllReadyH.nil
          go_simp
          go_at_call 34
          (with_reducible refine (rtwo_any (two ra rb) x _ ?_ ?_).mono ?_)
          · exact two_length _ _
          · exact LX.out
          rintro e ve ⟨rfl, d5⟩
          have c5 := c4.trans (d5.mono c4.size)
          refine hK.out _ _ (c5) (fun hHeld => ?_)
          clear hK K
          try (simp only [Act.put, List.getElem_toArray, List.getElem_cons_succ, List.getElem_cons_zero, List.setIfInBounds_toArray, List.set_cons_zero, List.set_cons_succ])
          refine wpAnyH_take (i := 21) (v := ?_) rfl (by kernel_rfl) (by kernel_rfl) (by kernel_rfl) (fun _ _ _ h => h) (Or.inl ⟨by rfl, ?_⟩) hHeld ?_
          rotate_left 1
          focus (intro wq hSw; go_simp; try with_reducible rfl)
          try (simp only [Act.put, List.getElem_toArray, List.getElem_cons_succ, List.getElem_cons_zero, List.setIfInBounds_toArray, List.set_cons_zero, List.set_cons_succ])
          refine wpAnyH_take (i := 22) (v := ?_) rfl (by kernel_rfl) (by kernel_rfl) (by kernel_rfl) (fun _ _ _ h => h) (Or.inl ⟨by rfl, ?_⟩) hHeld ?_
          rotate_left 1
          focus (intro wq hSw; go_simp; try with_reducible rfl)
          try (simp only [Act.put, List.getElem_toArray, List.getElem_cons_succ, List.getElem_cons_zero, List.setIfInBounds_toArray, List.set_cons_zero, List.set_cons_succ])
          refine wpAnyH_take (i := 23) (v := ?_) rfl (by kernel_rfl) (by kernel_rfl) (by kernel_rfl) (fun _ _ _ h => h) (Or.inl ⟨by rfl, ?_⟩) hHeld ?_
          rotate_left 1
          focus (intro wq hSw; go_simp; try with_reducible rfl)
          try (simp only [Act.put, List.getElem_toArray, List.getElem_cons_succ, List.getElem_cons_zero, List.setIfInBounds_toArray, List.set_cons_zero, List.set_cons_succ])
          refine wpAnyH_done (by kernel_rfl) ?_ _
          have BF := By.trans (c5.mono By.size)
          go_wp2_with fail
          go_ret
          exact ⟨rfl, BF⟩
    · skip
      rw [if_pos (by rfl)]
      refine wp_alloc_blk 24 rfl _ zeroHash fun z2 gA RA2 b2 q2 => ?_
      have k2 := k1.trans (b2.mono k1.size)
      have RB2 : Hid (z2.heap[gB]? = some (.cells (bcs (List.replicate 32 0)).toArray 24 (0, 0))) := (b2.block gB (Array.getElem?_eq_some_iff.1 RB1.out).1).trans RB1.out
      have hgA : w2.heap.size ≤ gA := Nat.le_trans k1.size q2
      have hne : gA ≠ gB := by have := (Array.getElem?_eq_some_iff.1 RB1.out).1; omega
      refine hK.out _ _ k2 (fun hHeld => ?_)
      clear hK K
      try (simp only [Act.put, List.getElem_toArray, List.getElem_cons_succ, List.getElem_cons_zero, List.setIfInBounds_toArray, List.set_cons_zero, List.set_cons_succ])
      refine wpAnyH_ready (rs := [3]) (by kernel_rfl) (by simp) ?_
      refine (AllReadyH.cons rfl (fun K hK => ?_) AllReadyH.nil)
      · skip
        go_simp
        go_at_call 26
        (with_reducible refine (root_any aa n c ((hsL m).take n) _ ?_ ?_ ?_).mono ?_)
        · exact hR.past k2
        · exact hIA.past k2
        · omega
        rintro e z3 ⟨rfl, b3⟩
        rw [← HRA.out]
        have k3 := k2.trans (b3.mono k2.size)
        have RA3 : Hid (z3.heap[gA]? = some (.cells (bcs (List.replicate 32 0)).toArray 24 (0, 0))) := (b3.block gA (Array.getElem?_eq_some_iff.1 RA2.out).1).trans RA2.out
        have RB3 : Hid (z3.heap[gB]? = some (.cells (bcs (List.replicate 32 0)).toArray 24 (0, 0))) := (b3.block gB (Array.getElem?_eq_some_iff.1 RB2.out).1).trans RB2.out
        refine hK.out _ _ k3 (fun hHeld => ?_)
        clear hK K
        try (simp only [Act.put, List.getElem_toArray, List.getElem_cons_succ, List.getElem_cons_zero, List.setIfInBounds_toArray, List.set_cons_zero, List.set_cons_succ])
        refine wpAnyH_ready (rs := [9]) (by kernel_rfl) (by simp) ?_
        refine (AllReadyH.cons rfl (fun K hK => ?_) AllReadyH.nil)
        · skip
          go_simp
          go_at_call 26
          (with_reducible refine (root_any ab (k - n) (c - n) (((hsL m).drop n).take (k - n)) _ ?_ ?_ ?_).mono ?_)
          · exact hR.past k3
          · exact hIB.past k3
          · omega
          rintro e z4 ⟨rfl, b4⟩
          rw [← HRB.out]
          have k4 := k3.trans (b4.mono k3.size)
          have RA4 : Hid (z4.heap[gA]? = some (.cells (bcs (List.replicate 32 0)).toArray 24 (0, 0))) := (b4.block gA (Array.getElem?_eq_some_iff.1 RA3.out).1).trans RA3.out
          have RB4 : Hid (z4.heap[gB]? = some (.cells (bcs (List.replicate 32 0)).toArray 24 (0, 0))) := (b4.block gB (Array.getElem?_eq_some_iff.1 RB3.out).1).trans RB3.out
          refine hK.out _ _ k4 (fun hHeld => ?_)
          clear hK K
          try (simp only [Act.put, List.getElem_toArray, List.getElem_cons_succ, List.getElem_cons_zero, List.setIfInBounds_toArray, List.set_cons_zero, List.set_cons_succ])
          refine wpAnyH_ready (rs := [12]) (by kernel_rfl) (by simp) ?_
          refine AllReadyH.cons rfl (fun K hK => ?_) AllReadyH.nil
          rw [if_pos (by rfl)]
          refine wp_store_blk 24 _ _ rfl gA _ (bcs ra).toArray rfl rfl _ RA4 32 sizeHash (by simp [bcs_length]) (by simp [bcs_length, LA.out]) (bcs_all _) fun y1 S1 s1 => ?_
          have ky1 := k4.grown s1 k4.size (fun k hk => by cases hk; exact hgA)
          have RBy : Hid (y1.heap[gB]? = some (.cells (bcs (List.replicate 32 0)).toArray 24 (0, 0))) := (s1.block gB (Array.getElem?_eq_some_iff.1 RB4.out).1 (by simp; omega)).trans RB4.out
          refine hK.out _ _ ky1 (fun hHeld => ?_)
          clear hK K
          try (simp only [Act.put, List.getElem_toArray, List.getElem_cons_succ, List.getElem_cons_zero, List.setIfInBounds_toArray, List.set_cons_zero, List.set_cons_succ])
          refine wpAnyH_ready (rs := [13]) (by kernel_rfl) (by simp) ?_
          refine AllReadyH.cons rfl (fun K hK => ?_) AllReadyH.nil
          rw [if_pos (by rfl)]
          refine wp_store_blk 24 _ _ rfl gB _ (bcs rb).toArray rfl rfl _ RBy 32 sizeHash (by simp [bcs_length]) (by simp [bcs_length, LB.out]) (bcs_all _) fun y2 S2 s2 => ?_
          have ky := ky1.grown s2 ky1.size (fun k hk => by cases hk; exact hgB)
          have X1 : Hid (y2.heap[gA]? = some (.cells (bcs ra).toArray 24 (0, 0))) := (s2.block gA (Array.getElem?_eq_some_iff.1 S1.out).1 (by simp; omega)).trans S1.out
          refine hK.out _ _ ky (fun hHeld => ?_)
          clear hK K
          try (simp only [Act.put, List.getElem_toArray, List.getElem_cons_succ, List.getElem_cons_zero, List.setIfInBounds_toArray, List.set_cons_zero, List.set_cons_succ])
          refine wpAnyH_done (by kernel_rfl) ?_ _
          have t1 := blk_at X1.out
          have t2 := blk_at S2.out
          have By := B2.trans (ky.mono B2.size)
          have Ry := hR.past ky
          have IC := hIC.past ky
          have II := hI.past ky
          have ty := tx.past ky
          go_wp2_with fail
          refine wp_region_held_drew (S := fun w' => Below y2.heap.size y2 w') (by kernel_rfl) ((Below.refl _ _).drew) (fun hHeld => ?_)
          have c0 : Below y2.heap.size y2 y2.drew := (Below.refl _ _).drew
          refine wpAnyH_take (i := 0) (v := ?_) rfl (by kernel_rfl) (by kernel_rfl) (by kernel_rfl) (fun _ _ _ h => h) (Or.inl ⟨by rfl, ?_⟩) hHeld ?_
          rotate_left 1
          focus (intro wq hSw; go_simp; try with_reducible rfl)
          try (simp only [Act.put, List.getElem_toArray, List.getElem_cons_succ, List.getElem_cons_zero, List.setIfInBounds_toArray, List.set_cons_zero, List.set_cons_succ])
          refine wpAnyH_take (i := 1) (v := ?_) rfl (by kernel_rfl) (by kernel_rfl) (by kernel_rfl) (fun _ _ _ h => h) (Or.inl ⟨by rfl, ?_⟩) hHeld ?_
          rotate_left 1
          focus (intro wq hSw; go_simp; try with_reducible rfl)
          try (simp only [Act.put, List.getElem_toArray, List.getElem_cons_succ, List.getElem_cons_zero, List.setIfInBounds_toArray, List.set_cons_zero, List.set_cons_succ])
          refine wpAnyH_take (i := 2) (v := ?_) rfl (by kernel_rfl) (by kernel_rfl) (by kernel_rfl) (fun _ _ _ h => h) (Or.inl ⟨by rfl, ?_⟩) hHeld ?_
          rotate_left 1
          focus (intro wq hSw; go_simp; try with_reducible rfl)
          try (simp only [Act.put, List.getElem_toArray, List.getElem_cons_succ, List.getElem_cons_zero, List.setIfInBounds_toArray, List.set_cons_zero, List.set_cons_succ])
          refine wpAnyH_take (i := 3) (v := ?_) rfl (by kernel_rfl) (by kernel_rfl) (by kernel_rfl) (fun _ _ _ h => h) (Or.inl ⟨by rfl, ?_⟩) hHeld ?_
          rotate_left 1
          focus (intro wq hSw; have hcv := CC.out wq; go_simp; try with_reducible rfl)
          try (simp only [Act.put, List.getElem_toArray, List.getElem_cons_succ, List.getElem_cons_zero, List.setIfInBounds_toArray, List.set_cons_zero, List.set_cons_succ])
          refine wpAnyH_take (i := 5) (v := .agg (bcs (ra)).toArray) rfl (by kernel_rfl) (by kernel_rfl) (by kernel_rfl) (fun _ _ _ h => h) (yieldsIf_load_at (by rfl) 24 _ rfl ⟨gA, 0, none⟩ rfl (ra) (fun wq hSw => t1.past hSw) _ _ u24 (hash_size _ LA.out)) hHeld ?_
          try (simp only [Act.put, List.getElem_toArray, List.getElem_cons_succ, List.getElem_cons_zero, List.setIfInBounds_toArray, List.set_cons_zero, List.set_cons_succ])
          refine wpAnyH_take (i := 6) (v := .agg (bcs (rb)).toArray) rfl (by kernel_rfl) (by kernel_rfl) (by kernel_rfl) (fun _ _ _ h => h) (yieldsIf_load_at (by rfl) 24 _ rfl ⟨gB, 0, none⟩ rfl (rb) (fun wq hSw => t2.past hSw) _ _ u24 (hash_size _ LB.out)) hHeld ?_
          try (simp only [Act.put, List.getElem_toArray, List.getElem_cons_succ, List.getElem_cons_zero, List.setIfInBounds_toArray, List.set_cons_zero, List.set_cons_succ])
          refine wpAnyH_ready (rs := [4]) (by kernel_rfl) (by simp) ?_
          refine AllReadyH.cons rfl (fun K hK => ?_) AllReadyH.nil
          go_simp
          go_at_call 26
          (with_reducible refine (root_any ac k c ((hsL m).take k) _ ?_ ?_ ?_).mono ?_)
          · exact Ry.past c0
          · exact IC.past c0
          · omega
          rintro e va ⟨rfl, d1⟩
          rw [HT1'.out]
          have c1 := c0.trans (d1.mono c0.size)
          refine hK.out _ _ (c1) (fun hHeld => ?_)
          clear hK K
          try (simp only [Act.put, List.getElem_toArray, List.getElem_cons_succ, List.getElem_cons_zero, List.setIfInBounds_toArray, List.set_cons_zero, List.set_cons_succ])
          refine wpAnyH_ready (rs := [7]) (by kernel_rfl) (by simp) ?_
          refine AllReadyH.cons rfl (fun K hK => ?_) AllReadyH.nil
          go_simp
          go_at_call 34
          (with_reducible refine (rtwo_any ra rb _ ?_ ?_).mono ?_)
          · exact LA.out
          · exact LB.out
          rintro e vb ⟨rfl, d2⟩
          have c2 := c1.trans (d2.mono c1.size)
          refine hK.out _ _ (c2) (fun hHeld => ?_)
          clear hK K
          try (simp only [Act.put, List.getElem_toArray, List.getElem_cons_succ, List.getElem_cons_zero, List.setIfInBounds_toArray, List.set_cons_zero, List.set_cons_succ])
          refine wpAnyH_take (i := 8) (v := ?_) rfl (by kernel_rfl) (by kernel_rfl) (by kernel_rfl) (fun _ _ _ h => h) (Or.inl ⟨by rfl, ?_⟩) hHeld ?_
          rotate_left 1
          focus (intro wq hSw; go_simp; try with_reducible rfl)
          try (simp only [Act.put, List.getElem_toArray, List.getElem_cons_succ, List.getElem_cons_zero, List.setIfInBounds_toArray, List.set_cons_zero, List.set_cons_succ])
          refine wpAnyH_take (i := 9) (v := ?_) rfl (by kernel_rfl) (by kernel_rfl) (by kernel_rfl) (fun _ _ _ h => h) (Or.inl ⟨by rfl, ?_⟩) hHeld ?_
          rotate_left 1
          focus (intro wq hSw; go_simp; try with_reducible rfl)
          try (simp only [Act.put, List.getElem_toArray, List.getElem_cons_succ, List.getElem_cons_zero, List.setIfInBounds_toArray, List.set_cons_zero, List.set_cons_succ])
          refine wpAnyH_take (i := 10) (v := ?_) rfl (by kernel_rfl) (by kernel_rfl) (by kernel_rfl) (fun _ _ _ h => h) (Or.inl ⟨by rfl, ?_⟩) hHeld ?_
          rotate_left 1
          focus (intro wq hSw; go_simp; try with_reducible rfl)
          try (simp only [Act.put, List.getElem_toArray, List.getElem_cons_succ, List.getElem_cons_zero, List.setIfInBounds_toArray, List.set_cons_zero, List.set_cons_succ])
          refine wpAnyH_take (i := 12) (v := .agg (bcs (ra)).toArray) rfl (by kernel_rfl) (by kernel_rfl) (by kernel_rfl) (fun _ _ _ h => h) (yieldsIf_load_at (by rfl) 24 _ rfl ⟨gA, 0, none⟩ rfl (ra) (fun wq hSw => t1.past hSw) _ _ u24 (hash_size _ LA.out)) hHeld ?_
          try (simp only [Act.put, List.getElem_toArray, List.getElem_cons_succ, List.getElem_cons_zero, List.setIfInBounds_toArray, List.set_cons_zero, List.set_cons_succ])
          refine wpAnyH_take (i := 13) (v := .agg (bcs (rb)).toArray) rfl (by kernel_rfl) (by kernel_rfl) (by kernel_rfl) (fun _ _ _ h => h) (yieldsIf_load_at (by rfl) 24 _ rfl ⟨gB, 0, none⟩ rfl (rb) (fun wq hSw => t2.past hSw) _ _ u24 (hash_size _ LB.out)) hHeld ?_
          try (simp only [Act.put, List.getElem_toArray, List.getElem_cons_succ, List.getElem_cons_zero, List.setIfInBounds_toArray, List.set_cons_zero, List.set_cons_succ])
          refine wpAnyH_take (i := 15) (v := ?_) rfl (by kernel_rfl) (by kernel_rfl) (by kernel_rfl) (fun _ _ _ h => h) (Or.inl ⟨by rfl, ?_⟩) hHeld ?_
          rotate_left 1
          focus (intro wq hSw; go_simp; try with_reducible rfl)
          try (simp only [Act.put, List.getElem_toArray, List.getElem_cons_succ, List.getElem_cons_zero, List.setIfInBounds_toArray, List.set_cons_zero, List.set_cons_succ])
          refine wpAnyH_take (i := 16) (v := ?_) rfl (by kernel_rfl) (by kernel_rfl) (by kernel_rfl) (fun _ _ _ h => h) (Or.inl ⟨by rfl, ?_⟩) hHeld ?_
          rotate_left 1
          focus (intro wq hSw; go_simp; try with_reducible rfl)
          try (simp only [Act.put, List.getElem_toArray, List.getElem_cons_succ, List.getElem_cons_zero, List.setIfInBounds_toArray, List.set_cons_zero, List.set_cons_succ])
          refine wpAnyH_take (i := 17) (v := ?_) rfl (by kernel_rfl) (by kernel_rfl) (by kernel_rfl) (fun _ _ _ h => h) (Or.inl ⟨by rfl, ?_⟩) hHeld ?_
          rotate_left 1
          focus (intro wq hSw; go_simp; try with_reducible rfl)
          try (simp only [Act.put, List.getElem_toArray, List.getElem_cons_succ, List.getElem_cons_zero, List.setIfInBounds_toArray, List.set_cons_zero, List.set_cons_succ])
          refine wpAnyH_take (i := 18) (v := ?_) rfl (by kernel_rfl) (by kernel_rfl) (by kernel_rfl) (fun _ _ _ h => h) (Or.inl ⟨by rfl, ?_⟩) hHeld ?_
          rotate_left 1
          focus (intro wq hSw; go_simp; try with_reducible rfl)
          try (simp only [Act.put, List.getElem_toArray, List.getElem_cons_succ, List.getElem_cons_zero, List.setIfInBounds_toArray, List.set_cons_zero, List.set_cons_succ])
          refine wpAnyH_take (i := 19) (v := .agg (bcs (x)).toArray) rfl (by kernel_rfl) (by kernel_rfl) (by kernel_rfl) (fun _ _ _ h => h) (yieldsIf_load_at (by rfl) 24 _ rfl (a.add (k * 32)) rfl (x) (fun wq hSw => ty.past hSw) _ _ u24 (hash_size _ LX.out)) hHeld ?_
          try (simp only [Act.put, List.getElem_toArray, List.getElem_cons_succ, List.getElem_cons_zero, List.setIfInBounds_toArray, List.set_cons_zero, List.set_cons_succ])
          refine wpAnyH_ready (rs := [11]) (by kernel_rfl) (by simp) ?_
          refine AllReadyH.cons rfl (fun K hK => ?_) AllReadyH.nil
          go_simp
          go_at_call 26
          (with_reducible refine (root_any (some a) m c (hsL m) _ ?_ ?_ ?_).mono ?_)
          · exact Ry.past c2
          · exact II.past c2
          · omega
          rintro e vc ⟨rfl, d3⟩
          rw [HT2'.out]
          have c3 := c2.trans (d3.mono c2.size)
          refine hK.out _ _ (c3) (fun hHeld => ?_)
          clear hK K
          try (simp only [Act.put, List.getElem_toArray, List.getElem_cons_succ, List.getElem_cons_zero, List.setIfInBounds_toArray, List.set_cons_zero, List.set_cons_succ])
          refine wpAnyH_ready (rs := [14]) (by kernel_rfl) (by simp) ?_
          refine AllReadyH.cons rfl (fun K hK => ?_) AllReadyH.nil
          go_simp
          go_at_call 34
          (with_reducible refine (rtwo_any ra rb _ ?_ ?_).mono ?_)
          · exact LA.out
          · exact LB.out
          rintro e vd ⟨rfl, d4⟩
          have c4 := c3.trans (d4.mono c3.size)
          refine hK.out _ _ (c4) (fun hHeld => ?_)
          clear hK K
          try (simp only [Act.put, List.getElem_toArray, List.getElem_cons_succ, List.getElem_cons_zero, List.setIfInBounds_toArray, List.set_cons_zero, List.set_cons_succ])
          refine wpAnyH_ready (rs := [20]) (by kernel_rfl) (by simp) ?_
          refine AllReadyH.cons rfl (fun K hK => ?_) AllReadyH.nil
          go_simp
          go_at_call 34
          (with_reducible refine (rtwo_any (two ra rb) x _ ?_ ?_).mono ?_)
          · exact two_length _ _
          · exact LX.out
          rintro e ve ⟨rfl, d5⟩
          have c5 := c4.trans (d5.mono c4.size)
          refine hK.out _ _ (c5) (fun hHeld => ?_)
          clear hK K
          try (simp only [Act.put, List.getElem_toArray, List.getElem_cons_succ, List.getElem_cons_zero, List.setIfInBounds_toArray, List.set_cons_zero, List.set_cons_succ])
          refine wpAnyH_take (i := 21) (v := ?_) rfl (by kernel_rfl) (by kernel_rfl) (by kernel_rfl) (fun _ _ _ h => h) (Or.inl ⟨by rfl, ?_⟩) hHeld ?_
          rotate_left 1
          focus (intro wq hSw; go_simp; try with_reducible rfl)
          try (simp only [Act.put, List.getElem_toArray, List.getElem_cons_succ, List.getElem_cons_zero, List.setIfInBounds_toArray, List.set_cons_zero, List.set_cons_succ])
          refine wpAnyH_take (i := 22) (v := ?_) rfl (by kernel_rfl) (by kernel_rfl) (by kernel_rfl) (fun _ _ _ h => h) (Or.inl ⟨by rfl, ?_⟩) hHeld ?_
          rotate_left 1
          focus (intro wq hSw; go_simp; try with_reducible rfl)
          try (simp only [Act.put, List.getElem_toArray, List.getElem_cons_succ, List.getElem_cons_zero, List.setIfInBounds_toArray, List.set_cons_zero, List.set_cons_succ])
          refine wpAnyH_take (i := 23) (v := ?_) rfl (by kernel_rfl) (by kernel_rfl) (by kernel_rfl) (fun _ _ _ h => h) (Or.inl ⟨by rfl, ?_⟩) hHeld ?_
          rotate_left 1
          focus (intro wq hSw; go_simp; try with_reducible rfl)
          try (simp only [Act.put, List.getElem_toArray, List.getElem_cons_succ, List.getElem_cons_zero, List.setIfInBounds_toArray, List.set_cons_zero, List.set_cons_succ])
          refine wpAnyH_done (by kernel_rfl) ?_ _
          have BF := By.trans (c5.mono By.size)
          go_wp2_with fail
          go_ret
          exact ⟨rfl, BF⟩
end Go.Proofs.YtlcfjiiejmnghaaDoor
