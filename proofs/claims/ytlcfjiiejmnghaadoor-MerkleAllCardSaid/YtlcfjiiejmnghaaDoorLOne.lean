/-
  MerkleOne, walked.
-/
import Derived.Test.YtlcfjiiejmnghaaDoorRRoot
namespace Go.Proofs.YtlcfjiiejmnghaaDoor
open Go.RowKit
set_option linter.unusedSimpArgs false

theorem wpList_load_if {P : Program} {ops : Array Oper} {rest : List Oper} {o : Oper} {a : Act} {w : World} {Q : Exit → Act → World → Prop} (hgd : Region.wanted o (yielded ops a.tmps) = true) (ty : TypeId) (x : Operand) (ho : o.op = .load ty x)
    (p : Addr) (hx : a.eval x = .pointer (some p)) (l : List UInt8) (hc : AtA w p l) (n : Nat) (e : TypeId) (hu : P.underlying ty = some (.array n e)) (hi : (P.info? ty).map (·.size) = some l.length)
    (h : wpList P ops Q rest (a.put o.dst (.agg (bcs l).toArray)) w) : wpList P ops Q (o :: rest) a w :=
  wpList_step fun K hK => by
    rw [if_pos hgd]
    exact wp_load_at ty x ho p hx l hc n e hu hi (hK _ _ h)
set_option maxRecDepth 100000 in
set_option maxHeartbeats 1000000 in
theorem len_zero (w : World) : Calls Tryd.prog 45 #[.int .u64 0] w fun e w' => e = .returned (.int .i64 0) ∧ w = w' := by
  go_enter Tryd.func45, Tryd.ntmps45
  go_wp2_with fail
  have h64 : Calls Tryd.prog 50 #[.int .u64 0] w fun e w' => e = .returned (.int .i64 0) ∧ w = w' := by
    go_enter Tryd.func50, Tryd.ntmps50
    go_wp2_with fail
    go_ret
    exact ⟨by kernel_rfl, rfl⟩
  refine h64.mono ?_
  rintro e w' ⟨rfl, rfl⟩
  go_wp2_with fail
  go_ret
  exact ⟨rfl, rfl⟩
set_option maxRecDepth 100000 in
set_option maxHeartbeats 1000000 in
theorem check_none (l : List UInt8) (w : World) (hl : l.length = 32) : Calls Tryd.prog 32 #[.agg (bcs l).toArray, .agg (bcs l).toArray, .int .i64 0, .int .i64 0, .slice none 0 0] w fun e w' => e = .returned (.bool false) ∧ Below w.heap.size w w' := by
  have sa : Hid ((bcs l).toArray.size = 32) := by simp [Hid, bcs_length, hl]
  have b0 : Below w.heap.size w ((w.alloc (.cells (bcs l).toArray 24)).alloc (.cells (bcs l).toArray 24)) := ((Below.refl _ _).alloc (Nat.le_refl _) _).alloc (by simp) _
  clear hl
  go_enter Tryd.func32, Tryd.ntmps32
  go_wp2_with fail
  go_ret
  exact ⟨rfl, b0⟩
set_option maxRecDepth 100000 in
set_option maxHeartbeats 2000000 in
theorem check_one (l : List UInt8) (w : World) (hl : l.length = 32) : Calls Tryd.prog 32 #[.agg (bcs l).toArray, .agg (bcs l).toArray, .int .i64 0, .int .i64 1, .slice none 0 0] w fun e w' => e = .returned (.bool true) ∧ Below w.heap.size w w' := by
  have sa : Hid ((bcs l).toArray.size = 32) := by simp [Hid, bcs_length, hl]
  have HL := Lib.hid hl
  have heq := equal_hash l l hl hl
  simp only [beq_self_eq_true] at heq
  clear hl
  have u24 := Tryd.underlying24
  have t1 : AtA ((w.alloc (.cells (bcs l).toArray 24)).alloc (.cells (bcs l).toArray 24)) ⟨w.heap.size, 0, none⟩ l := (blk_at (t := 24) (heap_alloc_new w _)).past ((Below.refl _ _).alloc (Nat.le_refl _) _)
  have t2 : AtA ((w.alloc (.cells (bcs l).toArray 24)).alloc (.cells (bcs l).toArray 24)) ⟨w.heap.size + 1, 0, none⟩ l := by
    have := blk_at (t := 24) (heap_alloc_new (w.alloc (.cells (bcs l).toArray 24)) (.cells (bcs l).toArray 24))
    rw [World.size_alloc] at this
    exact this
  have b0 : Below w.heap.size w ((w.alloc (.cells (bcs l).toArray 24)).alloc (.cells (bcs l).toArray 24)) := ((Below.refl _ _).alloc (Nat.le_refl _) _).alloc (by simp) _
  go_enter Tryd.func32, Tryd.ntmps32
  go_wp2_with fail
  refine (len_zero _).mono ?_
  rintro e w' ⟨rfl, rfl⟩
  go_wp2_with fail
  obtain ⟨w2, hw2⟩ : ∃ w2, w2 = (w.alloc (.cells (bcs l).toArray 24)).alloc (.cells (bcs l).toArray 24) := ⟨_, rfl⟩
  rw [← hw2] at t1 t2 b0 ⊢
  clear hw2
  go_loopw [4, 29] (fun p v wq => p = .slice none 0 0 ∧ v = .int .i64 0 ∧ wq = w2) (fun _ _ _ => 0)
  case atStart => first | exact ⟨rfl, rfl, rfl⟩ | exact ⟨rfl, rfl⟩ | exact rfl | trivial
  case round =>
    obtain ⟨rfl, rfl, rfl⟩ := hrel
    go_wp2_with (first
      | ((with_reducible refine wpList_load_if ?_ 24 _ rfl ⟨w.heap.size + 1, 0, none⟩ ?_ l t2 _ _ u24 (hash_size _ HL.out) ?_); (rfl); (rfl))
      | ((with_reducible refine wpList_load_if ?_ 24 _ rfl ⟨w.heap.size, 0, none⟩ ?_ l t1 _ _ u24 (hash_size _ HL.out) ?_); (rfl); (rfl)))
    go_ret
    exact ⟨rfl, b0⟩
theorem rootS_one (l : List UInt8) : rootS [l] = l := Mk.root_one _ _ _ (by simp)
set_option maxRecDepth 100000 in
set_option maxHeartbeats 4000000 in
theorem merkleOne_walk (l : List UInt8) (a1 : Int) (w : World) (hC : RC w) (hl : l.length = 32) (_w1 : (Lit.int .i64 a1).wf = true) :
    Calls Tryd.prog 14 #[.agg (bcs l).toArray, .int .i64 a1] w fun e w' => e = .returned (.bool true) ∧ Below w.heap.size w w' := by
  have sa : Hid ((bcs l).toArray.size = 32) := by simp [Hid, bcs_length, hl]
  have HL := Lib.hid hl
  have heq := equal_hash l l hl hl
  simp only [beq_self_eq_true] at heq
  clear hl
  have u24 := Tryd.underlying24
  have t0 : AtA (w.alloc (.cells (bcs l).toArray 24)) ⟨w.heap.size, 0, none⟩ l := blk_at (t := 24) (heap_alloc_new w _)
  have b0 : Below w.heap.size w (w.alloc (.cells (bcs l).toArray 24)) := (Below.refl _ _).alloc (Nat.le_refl _) _
  go_enter Tryd.func14, Tryd.ntmps14
  go_wp2_with fail
  refine (known3 _ (hC.past b0)).mono ?_
  rintro e w1 ⟨rfl, b1⟩
  have t1 := t0.past b1
  have B1 := b0.trans (b1.mono b0.size)
  clear t0 b0 b1
  go_wp2_with (first
    | ((with_reducible refine wpList_load_at rfl 24 _ rfl ⟨w.heap.size, 0, none⟩ ?_ l t1 _ _ u24 (hash_size _ HL.out) ?_); (rfl))
    | ((with_reducible refine wpList_buildSlice_hs rfl 1 _ rfl [l] rfl ?_ (by omega) (by omega) ?_ ?_); (simp [HL.out]); (simp only [List.map_toArray, List.map_cons, List.map_nil]; rfl); (intro w2 _ I2 b2)))
  have t2 := t1.past b2
  have B2 := B1.trans (b2.mono B1.size)
  clear t1 b2
  refine Calls.mono (by have := proof_any (some ⟨w1.heap.size, 0, none⟩) 1 1 [l] 0 _ (hC.past B2) I2 (by omega) (by omega); simpa using this) ?_
  rintro e w3 ⟨v3, rfl, hO3, b3⟩
  have hpl : (proofS [l] 0).length = 0 := by
    unfold proofS
    rw [Mk.proof_one _ _ _ _ (by simp)]
    rfl
  rw [hpl] at hO3
  obtain ⟨ao, c3, rfl, -, -⟩ := hO3.isH
  have t3 := t2.past b3
  have B3 := B2.trans (b3.mono B2.size)
  clear hpl hO3 t2 b3 I2
  go_wp2_with fail
  refine (proof_none none 0 0 a1 _ (by omega)).mono ?_
  rintro e w' ⟨rfl, rfl⟩
  go_wp2_with fail
  refine wp_region_held_drew (S := fun w' => Below w3.heap.size w3 w') (by kernel_rfl) ((Below.refl _ _).drew) (fun hHeld => ?_)
  have k0 : Below w3.heap.size w3 w3.drew := (Below.refl _ _).drew
  refine wpAnyH_take (i := 0) (v := .agg (bcs (l)).toArray) rfl (by kernel_rfl) (by kernel_rfl) (by kernel_rfl) (fun _ _ _ h => h) (yieldsIf_load_at (by rfl) 24 _ rfl ⟨w.heap.size, 0, none⟩ rfl (l) (fun wq hSw => t3.past hSw) _ _ u24 (hash_size _ HL.out)) hHeld ?_
  try (simp only [Act.put, List.getElem_toArray, List.getElem_cons_succ, List.getElem_cons_zero, List.setIfInBounds_toArray, List.set_cons_zero, List.set_cons_succ])
  refine wpAnyH_take (i := 3) (v := .agg (bcs (l)).toArray) rfl (by kernel_rfl) (by kernel_rfl) (by kernel_rfl) (fun _ _ _ h => h) (yieldsIf_load_at (by rfl) 24 _ rfl ⟨w.heap.size, 0, none⟩ rfl (l) (fun wq hSw => t3.past hSw) _ _ u24 (hash_size _ HL.out)) hHeld ?_
  try (simp only [Act.put, List.getElem_toArray, List.getElem_cons_succ, List.getElem_cons_zero, List.setIfInBounds_toArray, List.set_cons_zero, List.set_cons_succ])
  refine wpAnyH_ready (rs := [1]) (by kernel_rfl) (by simp) ?_
  refine AllReadyH.cons rfl (fun K hK => ?_) AllReadyH.nil
  rw [if_pos (by rfl)]
  refine wp_buildSlice_hs 1 _ rfl [l] rfl (by simp [HL.out]) (by omega) (by omega) (by simp only [List.map_toArray, List.map_cons, List.map_nil]; rfl) fun w5 _ I5 b5 => ?_
  have k5 := k0.trans (b5.mono k0.size)
  refine hK.out _ _ (k5) (fun hHeld => ?_)
  clear hK K
  try (simp only [Act.put, List.getElem_toArray, List.getElem_cons_succ, List.getElem_cons_zero, List.setIfInBounds_toArray, List.set_cons_zero, List.set_cons_succ])
  refine wpAnyH_ready (rs := [2]) (by kernel_rfl) (by simp) ?_
  refine AllReadyH.cons rfl (fun K hK => ?_) AllReadyH.nil
  go_simp
  go_at_call 26
  (with_reducible refine (root_any _ 1 1 [l] _ ?_ ?_ ?_).mono ?_)
  · exact (hC.past B3).past k5
  · exact I5
  · omega
  rintro e wa ⟨rfl, ba⟩
  rw [rootS_one]
  have ka := k5.trans (ba.mono k5.size)
  refine hK.out _ _ (ka) (fun hHeld => ?_)
  clear hK K
  try (simp only [Act.put, List.getElem_toArray, List.getElem_cons_succ, List.getElem_cons_zero, List.setIfInBounds_toArray, List.set_cons_zero, List.set_cons_succ])
  refine wpAnyH_take (i := 4) (v := ?_) rfl (by kernel_rfl) (by kernel_rfl) (by kernel_rfl) (fun _ _ _ h => h) (Or.inl ⟨by rfl, ?_⟩) hHeld ?_
  rotate_left 1
  focus (intro wq hSw; go_simp; try with_reducible rfl)
  try (simp only [Act.put, List.getElem_toArray, List.getElem_cons_succ, List.getElem_cons_zero, List.setIfInBounds_toArray, List.set_cons_zero, List.set_cons_succ])
  refine wpAnyH_take (i := 5) (v := ?_) rfl (by kernel_rfl) (by kernel_rfl) (by kernel_rfl) (fun _ _ _ h => h) (Or.inl ⟨by rfl, ?_⟩) hHeld ?_
  rotate_left 1
  focus (intro wq hSw; go_simp; try with_reducible rfl)
  try (simp only [Act.put, List.getElem_toArray, List.getElem_cons_succ, List.getElem_cons_zero, List.setIfInBounds_toArray, List.set_cons_zero, List.set_cons_succ])
  refine wpAnyH_take (i := 6) (v := ?_) rfl (by kernel_rfl) (by kernel_rfl) (by kernel_rfl) (fun _ _ _ h => h) (Or.inl ⟨by rfl, ?_⟩) hHeld ?_
  rotate_left 1
  focus (intro wq hSw; go_simp; try with_reducible rfl)
  try (simp only [Act.put, List.getElem_toArray, List.getElem_cons_succ, List.getElem_cons_zero, List.setIfInBounds_toArray, List.set_cons_zero, List.set_cons_succ])
  refine wpAnyH_take (i := 7) (v := ?_) rfl (by kernel_rfl) (by kernel_rfl) (by kernel_rfl) (fun _ _ _ h => h) (Or.inl ⟨by rfl, ?_⟩) hHeld ?_
  rotate_left 1
  focus (intro wq hSw; go_simp; try with_reducible rfl)
  try (simp only [Act.put, List.getElem_toArray, List.getElem_cons_succ, List.getElem_cons_zero, List.setIfInBounds_toArray, List.set_cons_zero, List.set_cons_succ])
  refine wpAnyH_take (i := 8) (v := ?_) rfl (by kernel_rfl) (by kernel_rfl) (by kernel_rfl) (fun _ _ _ h => h) (Or.inl ⟨by rfl, ?_⟩) hHeld ?_
  rotate_left 1
  focus (intro wq hSw; go_simp; try with_reducible rfl)
  try (simp only [Act.put, List.getElem_toArray, List.getElem_cons_succ, List.getElem_cons_zero, List.setIfInBounds_toArray, List.set_cons_zero, List.set_cons_succ])
  refine wpAnyH_take (i := 9) (v := ?_) rfl (by kernel_rfl) (by kernel_rfl) (by kernel_rfl) (fun _ _ _ h => h) (Or.inl ⟨by rfl, ?_⟩) hHeld ?_
  rotate_left 1
  focus (intro wq hSw; go_simp; try with_reducible rfl)
  try (simp only [Act.put, List.getElem_toArray, List.getElem_cons_succ, List.getElem_cons_zero, List.setIfInBounds_toArray, List.set_cons_zero, List.set_cons_succ])
  refine wpAnyH_take (i := 10) (v := ?_) rfl (by kernel_rfl) (by kernel_rfl) (by kernel_rfl) (fun _ _ _ h => h) (Or.inl ⟨by rfl, ?_⟩) hHeld ?_
  rotate_left 1
  focus (intro wq hSw; go_simp; try with_reducible rfl)
  try (simp only [Act.put, List.getElem_toArray, List.getElem_cons_succ, List.getElem_cons_zero, List.setIfInBounds_toArray, List.set_cons_zero, List.set_cons_succ])
  refine wpAnyH_take (i := 11) (v := ?_) rfl (by kernel_rfl) (by kernel_rfl) (by kernel_rfl) (fun _ _ _ h => h) (Or.inl ⟨by rfl, ?_⟩) hHeld ?_
  rotate_left 1
  focus (intro wq hSw; go_simp; try with_reducible rfl)
  try (simp only [Act.put, List.getElem_toArray, List.getElem_cons_succ, List.getElem_cons_zero, List.setIfInBounds_toArray, List.set_cons_zero, List.set_cons_succ])
  refine wpAnyH_take (i := 12) (v := ?_) rfl (by kernel_rfl) (by kernel_rfl) (by kernel_rfl) (fun _ _ _ h => h) (Or.inl ⟨by rfl, ?_⟩) hHeld ?_
  rotate_left 1
  focus (intro wq hSw; go_simp; try with_reducible rfl)
  try (simp only [Act.put, List.getElem_toArray, List.getElem_cons_succ, List.getElem_cons_zero, List.setIfInBounds_toArray, List.set_cons_zero, List.set_cons_succ])
  refine wpAnyH_take (i := 13) (v := ?_) rfl (by kernel_rfl) (by kernel_rfl) (by kernel_rfl) (fun _ _ _ h => h) (Or.inl ⟨by rfl, ?_⟩) hHeld ?_
  rotate_left 1
  focus (intro wq hSw; go_simp; try with_reducible rfl)
  try (simp only [Act.put, List.getElem_toArray, List.getElem_cons_succ, List.getElem_cons_zero, List.setIfInBounds_toArray, List.set_cons_zero, List.set_cons_succ])
  refine wpAnyH_take (i := 14) (v := ?_) rfl (by kernel_rfl) (by kernel_rfl) (by kernel_rfl) (fun _ _ _ h => h) (Or.inl ⟨by rfl, ?_⟩) hHeld ?_
  rotate_left 1
  focus (intro wq hSw; go_simp; try with_reducible rfl)
  try (simp only [Act.put, List.getElem_toArray, List.getElem_cons_succ, List.getElem_cons_zero, List.setIfInBounds_toArray, List.set_cons_zero, List.set_cons_succ])
  refine wpAnyH_take (i := 15) (v := .agg (bcs (l)).toArray) rfl (by kernel_rfl) (by kernel_rfl) (by kernel_rfl) (fun _ _ _ h => h) (yieldsIf_load_at (by rfl) 24 _ rfl ⟨w.heap.size, 0, none⟩ rfl (l) (fun wq hSw => t3.past hSw) _ _ u24 (hash_size _ HL.out)) hHeld ?_
  try (simp only [Act.put, List.getElem_toArray, List.getElem_cons_succ, List.getElem_cons_zero, List.setIfInBounds_toArray, List.set_cons_zero, List.set_cons_succ])
  refine wpAnyH_take (i := 16) (v := .agg (bcs (l)).toArray) rfl (by kernel_rfl) (by kernel_rfl) (by kernel_rfl) (fun _ _ _ h => h) (yieldsIf_load_at (by rfl) 24 _ rfl ⟨w.heap.size, 0, none⟩ rfl (l) (fun wq hSw => t3.past hSw) _ _ u24 (hash_size _ HL.out)) hHeld ?_
  try (simp only [Act.put, List.getElem_toArray, List.getElem_cons_succ, List.getElem_cons_zero, List.setIfInBounds_toArray, List.set_cons_zero, List.set_cons_succ])
  refine wpAnyH_ready (rs := [17]) (by kernel_rfl) (by simp) ?_
  refine AllReadyH.cons rfl (fun K hK => ?_) AllReadyH.nil
  go_simp
  go_at_call 32
  (with_reducible refine (check_one l _ ?_).mono ?_)
  · exact HL.out
  rintro e wb ⟨rfl, bb⟩
  have kb := ka.trans (bb.mono ka.size)
  refine hK.out _ _ (kb) (fun hHeld => ?_)
  clear hK K
  try (simp only [Act.put, List.getElem_toArray, List.getElem_cons_succ, List.getElem_cons_zero, List.setIfInBounds_toArray, List.set_cons_zero, List.set_cons_succ])
  refine wpAnyH_take (i := 18) (v := ?_) rfl (by kernel_rfl) (by kernel_rfl) (by kernel_rfl) (fun _ _ _ h => h) (Or.inl ⟨by rfl, ?_⟩) hHeld ?_
  rotate_left 1
  focus (intro wq hSw; go_simp; try with_reducible rfl)
  try (simp only [Act.put, List.getElem_toArray, List.getElem_cons_succ, List.getElem_cons_zero, List.setIfInBounds_toArray, List.set_cons_zero, List.set_cons_succ])
  refine wpAnyH_take (i := 19) (v := ?_) rfl (by kernel_rfl) (by kernel_rfl) (by kernel_rfl) (fun _ _ _ h => h) (Or.inl ⟨by rfl, ?_⟩) hHeld ?_
  rotate_left 1
  focus (intro wq hSw; go_simp; try with_reducible rfl)
  try (simp only [Act.put, List.getElem_toArray, List.getElem_cons_succ, List.getElem_cons_zero, List.setIfInBounds_toArray, List.set_cons_zero, List.set_cons_succ])
  refine wpAnyH_take (i := 20) (v := ?_) rfl (by kernel_rfl) (by kernel_rfl) (by kernel_rfl) (fun _ _ _ h => h) (Or.inl ⟨by rfl, ?_⟩) hHeld ?_
  rotate_left 1
  focus (intro wq hSw; go_simp; try with_reducible rfl)
  try (simp only [Act.put, List.getElem_toArray, List.getElem_cons_succ, List.getElem_cons_zero, List.setIfInBounds_toArray, List.set_cons_zero, List.set_cons_succ])
  refine wpAnyH_take (i := 21) (v := ?_) rfl (by kernel_rfl) (by kernel_rfl) (by kernel_rfl) (fun _ _ _ h => h) (Or.inl ⟨by rfl, ?_⟩) hHeld ?_
  rotate_left 1
  focus (intro wq hSw; go_simp; try with_reducible rfl)
  try (simp only [Act.put, List.getElem_toArray, List.getElem_cons_succ, List.getElem_cons_zero, List.setIfInBounds_toArray, List.set_cons_zero, List.set_cons_succ])
  refine wpAnyH_take (i := 22) (v := ?_) rfl (by kernel_rfl) (by kernel_rfl) (by kernel_rfl) (fun _ _ _ h => h) (Or.inl ⟨by rfl, ?_⟩) hHeld ?_
  rotate_left 1
  focus (intro wq hSw; go_simp; try with_reducible rfl)
  try (simp only [Act.put, List.getElem_toArray, List.getElem_cons_succ, List.getElem_cons_zero, List.setIfInBounds_toArray, List.set_cons_zero, List.set_cons_succ])
  refine wpAnyH_take (i := 23) (v := ?_) rfl (by kernel_rfl) (by kernel_rfl) (by kernel_rfl) (fun _ _ _ h => h) (Or.inl ⟨by rfl, ?_⟩) hHeld ?_
  rotate_left 1
  focus (intro wq hSw; go_simp; try with_reducible rfl)
  try (simp only [Act.put, List.getElem_toArray, List.getElem_cons_succ, List.getElem_cons_zero, List.setIfInBounds_toArray, List.set_cons_zero, List.set_cons_succ])
  refine wpAnyH_take (i := 24) (v := .agg (bcs (l)).toArray) rfl (by kernel_rfl) (by kernel_rfl) (by kernel_rfl) (fun _ _ _ h => h) (yieldsIf_load_at (by rfl) 24 _ rfl ⟨w.heap.size, 0, none⟩ rfl (l) (fun wq hSw => t3.past hSw) _ _ u24 (hash_size _ HL.out)) hHeld ?_
  try (simp only [Act.put, List.getElem_toArray, List.getElem_cons_succ, List.getElem_cons_zero, List.setIfInBounds_toArray, List.set_cons_zero, List.set_cons_succ])
  refine wpAnyH_take (i := 25) (v := .agg (bcs (l)).toArray) rfl (by kernel_rfl) (by kernel_rfl) (by kernel_rfl) (fun _ _ _ h => h) (yieldsIf_load_at (by rfl) 24 _ rfl ⟨w.heap.size, 0, none⟩ rfl (l) (fun wq hSw => t3.past hSw) _ _ u24 (hash_size _ HL.out)) hHeld ?_
  try (simp only [Act.put, List.getElem_toArray, List.getElem_cons_succ, List.getElem_cons_zero, List.setIfInBounds_toArray, List.set_cons_zero, List.set_cons_succ])
  refine wpAnyH_ready (rs := [26]) (by kernel_rfl) (by simp) ?_
  refine AllReadyH.cons rfl (fun K hK => ?_) AllReadyH.nil
  go_simp
  go_at_call 32
  (with_reducible refine (check_none l _ ?_).mono ?_)
  · exact HL.out
  rintro e wd ⟨rfl, bd⟩
  have kd := kb.trans (bd.mono kb.size)
  refine hK.out _ _ (kd) (fun hHeld => ?_)
  clear hK K
  try (simp only [Act.put, List.getElem_toArray, List.getElem_cons_succ, List.getElem_cons_zero, List.setIfInBounds_toArray, List.set_cons_zero, List.set_cons_succ])
  refine wpAnyH_take (i := 27) (v := ?_) rfl (by kernel_rfl) (by kernel_rfl) (by kernel_rfl) (fun _ _ _ h => h) (Or.inl ⟨by rfl, ?_⟩) hHeld ?_
  rotate_left 1
  focus (intro wq hSw; go_simp; try with_reducible rfl)
  try (simp only [Act.put, List.getElem_toArray, List.getElem_cons_succ, List.getElem_cons_zero, List.setIfInBounds_toArray, List.set_cons_zero, List.set_cons_succ])
  refine wpAnyH_take (i := 28) (v := ?_) rfl (by kernel_rfl) (by kernel_rfl) (by kernel_rfl) (fun _ _ _ h => h) (Or.inl ⟨by rfl, ?_⟩) hHeld ?_
  rotate_left 1
  focus (intro wq hSw; go_simp; try with_reducible rfl)
  try (simp only [Act.put, List.getElem_toArray, List.getElem_cons_succ, List.getElem_cons_zero, List.setIfInBounds_toArray, List.set_cons_zero, List.set_cons_succ])
  refine wpAnyH_take (i := 29) (v := ?_) rfl (by kernel_rfl) (by kernel_rfl) (by kernel_rfl) (fun _ _ _ h => h) (Or.inl ⟨by rfl, ?_⟩) hHeld ?_
  rotate_left 1
  focus (intro wq hSw; go_simp; try with_reducible rfl)
  try (simp only [Act.put, List.getElem_toArray, List.getElem_cons_succ, List.getElem_cons_zero, List.setIfInBounds_toArray, List.set_cons_zero, List.set_cons_succ])
  refine wpAnyH_done (by kernel_rfl) ?_ _
  have BF := B3.trans (kd.mono B3.size)
  go_wp2_with fail
  go_ret
  exact ⟨rfl, BF⟩
end Go.Proofs.YtlcfjiiejmnghaaDoor
