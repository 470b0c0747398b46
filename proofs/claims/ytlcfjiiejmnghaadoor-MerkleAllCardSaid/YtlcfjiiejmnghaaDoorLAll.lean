/-
  MerkleAll, walked.
-/
import Derived.Test.YtlcfjiiejmnghaaDoorCheck
namespace Go.Proofs.YtlcfjiiejmnghaaDoor
open Go.RowKit
set_option linter.unusedSimpArgs false
set_option linter.unusedVariables false
theorem pow_small6 (q : Nat) (h : q ≤ 6) : wrap64 ((2 : Int) ^ q) = ((2 ^ q : Nat) : Int) ∧ 1 ≤ 2 ^ q ∧ 2 ^ q ≤ 64 := by
  have : q = 0 ∨ q = 1 ∨ q = 2 ∨ q = 3 ∨ q = 4 ∨ q = 5 ∨ q = 6 := by omega
  rcases this with rfl | rfl | rfl | rfl | rfl | rfl | rfl <;> (refine ⟨?_, ?_, ?_⟩ <;> decide +kernel)
set_option maxRecDepth 100000 in
set_option maxHeartbeats 8000000 in
theorem merkleAll_walk (a0 : Int) (w : World) (hC : RC w) (_w0 : (Lit.int .i64 a0).wf = true) :
    Calls Tryd.prog 13 #[.int .i64 a0] w fun e w' => e = .returned (.bool true) ∧ Below w.heap.size w w' := by
  obtain ⟨N, hN, hN3⟩ := wth_nat a0 33 (by omega)
  have HN := Lib.hid hN
  clear hN
  obtain ⟨n, hn⟩ : ∃ n, n = N + 1 := ⟨_, rfl⟩
  have e1 : (1 : Int) + (N : Int) = (n : Int) := by omega
  have hn1 : 1 ≤ n := by omega
  have hn2 : n ≤ 33 := by omega
  clear hn hN3
  go_enter Tryd.func13, Tryd.ntmps13
  go_wp2_with fail
  refine (known3 _ hC).mono ?_
  rintro e w1 ⟨rfl, B1⟩
  go_wp2_with fail
  refine (within3_any a0 33 _ (by omega) (by omega)).mono ?_
  rintro e w' ⟨rfl, rfl⟩
  rw [show wth a0 (33 : Int) = (N : Int) from HN.out]
  go_wp2_with fail
  refine (lHashes_any n _ (by omega)).mono ?_
  rintro e w2 ⟨v2, rfl, hO2, b2⟩
  obtain ⟨ao, c, rfl, hI2, -⟩ := hO2.isH
  have B2 := B1.trans (b2.mono B1.size)
  clear hO2 b2 B1
  obtain ⟨a, rfl⟩ := hI2.has (by omega)
  go_wp2_with fail
  refine (root_any (some a) n c (hsL n) _ (hC.past B2) hI2 (by omega)).mono ?_
  rintro e w3 ⟨rfl, b3⟩
  have I3 := hI2.past b3
  have B3 := B2.trans (b3.mono B2.size)
  have hr32 := rootS_length (hsL n) hI2.all
  have HR := Lib.hid hr32
  obtain ⟨r, hr⟩ : ∃ r, r = rootS (hsL n) := ⟨_, rfl⟩
  rw [← hr] at HR ⊢
  have HRR := Lib.hid hr
  clear b3 B2 hI2 hr32 hr
  go_wp2_with (first
    | ((with_reducible refine wpList_alloc_blk (o := ⟨some 4, _, _, _, _, _⟩) rfl 24 rfl _ zeroHash ?_); intro w4 g h4 b4 q4)
    | ((with_reducible refine wpList_store_blk rfl 24 _ _ rfl g _ (bcs r).toArray ?_ ?_ _ h4 32 sizeHash (by simp [bcs_length]) (by simp [bcs_length, HR.out]) (bcs_all _) ?_); (rfl); (rfl); (intro w5 h5 b5)))
  have hs3 := B3.size
  have I5 : IsH w5 (some a) n c (hsL n) := (I3.past b4).grown b5 (fun a' ha' e => by
    obtain rfl := Option.some.inj ha'
    have hlt : a.block < w3.heap.size := by
      have := I3.at_ a rfl 0 (by omega)
      have h32 := I3.one 0 (by omega)
      match hx : (hsL n).getD 0 [], h32 with
      | u :: t, _ =>
        have hc := this 0 u (by rw [hx]; rfl)
        have := World.block_lt_of_cell? w3 _ hc
        rw [block_add, block_add] at this
        exact this
    simp at e
    omega)
  have B5 : Below w.heap.size w w5 := (B3.trans (b4.mono hs3)).grown b5 (by have := b4.size; omega) (fun k hk => by cases hk; omega)
  clear h4 b4 b5 B3 I3 q4
  go_loopw [5] (fun v wq => ∃ d : Nat, v = .int .i64 d ∧ d ≤ 6 ∧ w5 = wq) (fun v _ => 7 - (intOf v).toNat)
  case atStart => exact ⟨0, rfl, by omega, by first | rfl | trivial⟩
  case round =>
    obtain ⟨d, rfl, hd, rfl⟩ := hrel
    obtain ⟨e0, hp1, hp2⟩ := pow_small6 d hd
    have hd6 : d = 6 → 2 ^ d = 64 := by rintro rfl; rfl
    obtain ⟨P, hP⟩ : ∃ P, P = 2 ^ d := ⟨_, rfl⟩
    rw [← hP] at e0 hp1 hp2 hd6
    have HP := Lib.hid hP
    have c0 : 0 ≤ (d : Int) := by omega
    clear hP
    by_cases hPn : P < n
    · have g1 : decide ((P : Int) < (n : Int)) = true := by simp; omega
      have g2 : decide (P < n) = true := by simp; omega
      go_wp2_with fail
      go_roundw
      case rel => exact ⟨d + 1, by go_num, by omega, by first | rfl | trivial⟩
      case measure => simp [intOf]; omega
    · have g1 : decide ((P : Int) < (n : Int)) = false := by simp; omega
      have g2 : decide (P < n) = false := by simp; omega
      go_wp2_with fail
      obtain ⟨wo, rfl⟩ : ∃ wo, wo = w5 := ⟨_, rfl⟩
      clear e0
      go_loopw [6] (fun v wq => ∃ k : Nat, k ≤ n ∧ v = .int .i64 k ∧ Below wo.heap.size wo wq) (fun v _ => n - (intOf v).toNat)
      case atStart => exact ⟨0, by omega, rfl, Below.refl _ _⟩
      case round =>
        obtain ⟨k, hk, rfl, hB⟩ := hrel
        have Br : Below w.heap.size w wr := B5.trans (hB.mono B5.size)
        by_cases hkn : k < n
        · have hkn' : (k : Int) < (n : Int) := by omega
          go_wp2_with fail
          refine (proof_any (some a) n c (hsL n) k _ (hC.past Br) (I5.past hB) (by omega) hkn).mono ?_
          rintro e w7 ⟨v7, rfl, hO7, b7⟩
          obtain ⟨ap, cp, rfl, hIp, -⟩ := hO7.isH
          have k7 : Below wo.heap.size wo w7 := hB.trans (b7.mono hB.size)
          have B7 := B5.trans (k7.mono B5.size)
          have hml : (proofS (hsL n) k).length ≤ d := by
            unfold proofS
            rw [Mk.proof_length two (sha []) _ _ k (hsL_length n)]
            exact Mk.dirs_short d n k (by rw [← HP.out]; omega) hkn
          have hck := chk_proof (hsL n) k (by rw [hsL_length]; exact hkn)
          rw [hsL_length, ← HRR.out] at hck
          have HCK : Hid (chk r ((hsL n).getD k []) (n : Int).toNat (k : Int).toNat (proofS (hsL n) k) = true) := by
            unfold Hid
            rw [show (n : Int).toNat = n by omega, show (k : Int).toNat = k by omega]
            exact hck
          have tx := (I5.past k7).at_ a rfl k hkn
          have lx := I5.one k hkn
          have tr : AtA w7 ⟨g, 0, none⟩ r := (blk_at h5.out).past k7
          generalize (hsL n).getD k [] = x at tx lx HCK
          generalize proofS (hsL n) k = pk at hIp hml HCK
          generalize pk.length = m at hIp hml
          have LX := Lib.hid lx
          have HIp := Lib.hid hIp
          have u24 := Tryd.underlying24
          have hRC := hC.past B7
          have d1 : decide ((d : Int) < (m : Int)) = false := by simp; omega
          have d2 : decide (d < m) = false := by simp; omega
          clear hck hO7 b7 hB Br lx hIp
          go_wp2_with fail
          refine wp_region_held_drew (S := fun w' => Below w7.heap.size w7 w') (by kernel_rfl) ((Below.refl _ _).drew) (fun hHeld => ?_)
          have k0 : Below w7.heap.size w7 w7.drew := (Below.refl _ _).drew
          refine wpAnyH_take (i := 0) (v := ?_) rfl (by kernel_rfl) (by kernel_rfl) (by kernel_rfl) (fun _ _ _ h => h) (Or.inl ⟨by rfl, ?_⟩) hHeld ?_
          rotate_left 1
          focus (intro wq hSw; go_simp; try with_reducible rfl)
          try (simp only [Act.put, List.getElem_toArray, List.getElem_cons_succ, List.getElem_cons_zero, List.setIfInBounds_toArray, List.set_cons_zero, List.set_cons_succ])
          refine wpAnyH_take (i := 1) (v := ?_) rfl (by kernel_rfl) (by kernel_rfl) (by kernel_rfl) (fun _ _ _ h => h) (Or.inl ⟨by rfl, ?_⟩) hHeld ?_
          rotate_left 1
          focus (intro wq hSw; go_simp; try with_reducible rfl)
          try (simp only [Act.put, List.getElem_toArray, List.getElem_cons_succ, List.getElem_cons_zero, List.setIfInBounds_toArray, List.set_cons_zero, List.set_cons_succ])
          refine wpAnyH_take (i := 2) (v := ?_) rfl (by kernel_rfl) (by kernel_rfl) (by kernel_rfl) (fun _ _ _ h => h) (Or.inl ⟨by rfl, ?_⟩) hHeld ?_
          rotate_left 1
          focus (intro wq hSw; go_simp; try with_reducible rfl)
          try (simp only [Act.put, List.getElem_toArray, List.getElem_cons_succ, List.getElem_cons_zero, List.setIfInBounds_toArray, List.set_cons_zero, List.set_cons_succ])
          refine wpAnyH_take (i := 3) (v := ?_) rfl (by kernel_rfl) (by kernel_rfl) (by kernel_rfl) (fun _ _ _ h => h) (Or.inl ⟨by rfl, ?_⟩) hHeld ?_
          rotate_left 1
          focus (intro wq hSw; go_simp; try with_reducible rfl)
          try (simp only [Act.put, List.getElem_toArray, List.getElem_cons_succ, List.getElem_cons_zero, List.setIfInBounds_toArray, List.set_cons_zero, List.set_cons_succ])
          refine wpAnyH_take (i := 4) (v := ?_) rfl (by kernel_rfl) (by kernel_rfl) (by kernel_rfl) (fun _ _ _ h => h) (Or.inl ⟨by rfl, ?_⟩) hHeld ?_
          rotate_left 1
          focus (intro wq hSw; go_simp; try with_reducible rfl)
          try (simp only [Act.put, List.getElem_toArray, List.getElem_cons_succ, List.getElem_cons_zero, List.setIfInBounds_toArray, List.set_cons_zero, List.set_cons_succ])
          refine wpAnyH_take (i := 5) (v := ?_) rfl (by kernel_rfl) (by kernel_rfl) (by kernel_rfl) (fun _ _ _ h => h) (Or.inl ⟨by rfl, ?_⟩) hHeld ?_
          rotate_left 1
          focus (intro wq hSw; go_simp; try with_reducible rfl)
          try (simp only [Act.put, List.getElem_toArray, List.getElem_cons_succ, List.getElem_cons_zero, List.setIfInBounds_toArray, List.set_cons_zero, List.set_cons_succ])
          refine wpAnyH_take (i := 6) (v := ?_) rfl (by kernel_rfl) (by kernel_rfl) (by kernel_rfl) (fun _ _ _ h => h) (Or.inl ⟨by rfl, ?_⟩) hHeld ?_
          rotate_left 1
          focus (intro wq hSw; go_simp; try with_reducible rfl)
          try (simp only [Act.put, List.getElem_toArray, List.getElem_cons_succ, List.getElem_cons_zero, List.setIfInBounds_toArray, List.set_cons_zero, List.set_cons_succ])
          refine wpAnyH_take (i := 7) (v := ?_) rfl (by kernel_rfl) (by kernel_rfl) (by kernel_rfl) (fun _ _ _ h => h) (Or.inl ⟨by rfl, ?_⟩) hHeld ?_
          rotate_left 1
          focus (intro wq hSw; go_simp; try with_reducible rfl)
          try (simp only [Act.put, List.getElem_toArray, List.getElem_cons_succ, List.getElem_cons_zero, List.setIfInBounds_toArray, List.set_cons_zero, List.set_cons_succ])
          refine wpAnyH_take (i := 8) (v := ?_) rfl (by kernel_rfl) (by kernel_rfl) (by kernel_rfl) (fun _ _ _ h => h) (Or.inl ⟨by rfl, ?_⟩) hHeld ?_
          rotate_left 1
          focus (intro wq hSw; go_simp; try with_reducible rfl)
          try (simp only [Act.put, List.getElem_toArray, List.getElem_cons_succ, List.getElem_cons_zero, List.setIfInBounds_toArray, List.set_cons_zero, List.set_cons_succ])
          refine wpAnyH_take (i := 9) (v := .agg (bcs (r)).toArray) rfl (by kernel_rfl) (by kernel_rfl) (by kernel_rfl) (fun _ _ _ h => h) (yieldsIf_load_at (by rfl) 24 _ rfl ⟨g, 0, none⟩ rfl (r) (fun wq hSw => tr.past hSw) _ _ u24 (hash_size _ HR.out)) hHeld ?_
          try (simp only [Act.put, List.getElem_toArray, List.getElem_cons_succ, List.getElem_cons_zero, List.setIfInBounds_toArray, List.set_cons_zero, List.set_cons_succ])
          refine wpAnyH_take (i := 10) (v := ?_) rfl (by kernel_rfl) (by kernel_rfl) (by kernel_rfl) (fun _ _ _ h => h) (Or.inl ⟨by rfl, ?_⟩) hHeld ?_
          rotate_left 1
          focus (intro wq hSw; go_simp; try with_reducible rfl)
          try (simp only [Act.put, List.getElem_toArray, List.getElem_cons_succ, List.getElem_cons_zero, List.setIfInBounds_toArray, List.set_cons_zero, List.set_cons_succ])
          refine wpAnyH_take (i := 11) (v := ?_) rfl (by kernel_rfl) (by kernel_rfl) (by kernel_rfl) (fun _ _ _ h => h) (Or.inl ⟨by rfl, ?_⟩) hHeld ?_
          rotate_left 1
          focus (intro wq hSw; go_simp; try with_reducible rfl)
          try (simp only [Act.put, List.getElem_toArray, List.getElem_cons_succ, List.getElem_cons_zero, List.setIfInBounds_toArray, List.set_cons_zero, List.set_cons_succ])
          refine wpAnyH_take (i := 12) (v := ?_) rfl (by kernel_rfl) (by kernel_rfl) (by kernel_rfl) (fun _ _ _ h => h) (Or.inl ⟨by rfl, ?_⟩) hHeld ?_
          rotate_left 1
          focus (intro wq hSw; go_simp; try with_reducible rfl)
          try (simp only [Act.put, List.getElem_toArray, List.getElem_cons_succ, List.getElem_cons_zero, List.setIfInBounds_toArray, List.set_cons_zero, List.set_cons_succ])
          refine wpAnyH_take (i := 13) (v := .agg (bcs (x)).toArray) rfl (by kernel_rfl) (by kernel_rfl) (by kernel_rfl) (fun _ _ _ h => h) (yieldsIf_load_at (by rfl) 24 _ rfl (a.add (k * 32)) rfl (x) (fun wq hSw => tx.past hSw) _ _ u24 (hash_size _ LX.out)) hHeld ?_
          try (simp only [Act.put, List.getElem_toArray, List.getElem_cons_succ, List.getElem_cons_zero, List.setIfInBounds_toArray, List.set_cons_zero, List.set_cons_succ])
          refine wpAnyH_take (i := 14) (v := ?_) rfl (by kernel_rfl) (by kernel_rfl) (by kernel_rfl) (fun _ _ _ h => h) (Or.inl ⟨by rfl, ?_⟩) hHeld ?_
          rotate_left 1
          focus (intro wq hSw; go_simp; try with_reducible rfl)
          try (simp only [Act.put, List.getElem_toArray, List.getElem_cons_succ, List.getElem_cons_zero, List.setIfInBounds_toArray, List.set_cons_zero, List.set_cons_succ])
          refine wpAnyH_take (i := 15) (v := ?_) rfl (by kernel_rfl) (by kernel_rfl) (by kernel_rfl) (fun _ _ _ h => h) (Or.inl ⟨by rfl, ?_⟩) hHeld ?_
          rotate_left 1
          focus (intro wq hSw; go_simp; try with_reducible rfl)
          try (simp only [Act.put, List.getElem_toArray, List.getElem_cons_succ, List.getElem_cons_zero, List.setIfInBounds_toArray, List.set_cons_zero, List.set_cons_succ])
          refine wpAnyH_take (i := 16) (v := ?_) rfl (by kernel_rfl) (by kernel_rfl) (by kernel_rfl) (fun _ _ _ h => h) (Or.inl ⟨by rfl, ?_⟩) hHeld ?_
          rotate_left 1
          focus (intro wq hSw; go_simp; try with_reducible rfl)
          try (simp only [Act.put, List.getElem_toArray, List.getElem_cons_succ, List.getElem_cons_zero, List.setIfInBounds_toArray, List.set_cons_zero, List.set_cons_succ])
          refine wpAnyH_ready (rs := [17]) (by kernel_rfl) (by simp) ?_
          refine AllReadyH.cons rfl (fun K hK => ?_) AllReadyH.nil
          go_simp
          go_at_call 32
          (with_reducible refine (check_int r x (k : Int) (n : Int) ap m cp pk _ ?_ ?_ ?_ ?_ ?_ ?_ ?_ ?_).mono ?_)
          · exact hRC.past k0
          · exact HR.out
          · exact LX.out
          · exact HIp.out.past k0
          · omega
          · omega
          · omega
          · omega
          rintro e wz ⟨rfl, bz⟩
          rw [HCK.out]
          have kz := k0.trans (bz.mono k0.size)
          refine hK.out _ _ (kz) (fun hHeld => ?_)
          clear hK K
          try (simp only [Act.put, List.getElem_toArray, List.getElem_cons_succ, List.getElem_cons_zero, List.setIfInBounds_toArray, List.set_cons_zero, List.set_cons_succ])
          refine wpAnyH_take (i := 18) (v := ?_) rfl (by kernel_rfl) (by kernel_rfl) (by kernel_rfl) (fun _ _ _ h => h) (Or.inl ⟨by rfl, ?_⟩) hHeld ?_
          rotate_left 1
          focus (intro wq hSw; go_simp; try with_reducible rfl)
          try (simp only [Act.put, List.getElem_toArray, List.getElem_cons_succ, List.getElem_cons_zero, List.setIfInBounds_toArray, List.set_cons_zero, List.set_cons_succ])
          refine wpAnyH_take (i := 19) (v := ?_) rfl (by kernel_rfl) (by kernel_rfl) (by kernel_rfl) (fun _ _ _ h => h) (Or.inl ⟨by rfl, ?_⟩) hHeld ?_
          rotate_left 1
          focus (intro wq hSw; go_simp; try with_reducible rfl)
          try (simp only [Act.put, List.getElem_toArray, List.getElem_cons_succ, List.getElem_cons_zero, List.setIfInBounds_toArray, List.set_cons_zero, List.set_cons_succ])
          refine wpAnyH_done (by kernel_rfl) ?_ _
          have BF : Below wo.heap.size wo wz := k7.trans (kz.mono k7.size)
          go_wp2_with fail
          go_roundw
          case rel => exact ⟨k + 1, by omega, by go_num, BF⟩
          case measure => simp [intOf]; omega
        · obtain rfl : k = n := by omega
          go_wp2_with fail
          go_ret
          exact ⟨rfl, Br⟩
end Go.Proofs.YtlcfjiiejmnghaaDoor
