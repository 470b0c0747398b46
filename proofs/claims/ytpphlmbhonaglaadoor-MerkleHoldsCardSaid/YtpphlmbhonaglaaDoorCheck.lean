/-
  merkle.Check.
-/
import Derived.Test.YtpphlmbhonaglaaDoorRPart
import Derived.Test.YtpphlmbhonaglaaDoorChk
namespace Go.Proofs.YtpphlmbhonaglaaDoor
open Go.RowKit
set_option linter.unusedSimpArgs false

theorem wpList_load_if {P : Program} {ops : Array Oper} {rest : List Oper} {o : Oper} {a : Act} {w : World} {Q : Exit → Act → World → Prop} (hgd : Region.wanted o (yielded ops a.tmps) = true) (ty : TypeId) (x : Operand) (ho : o.op = .load ty x)
    (p : Addr) (hx : a.eval x = .pointer (some p)) (l : List UInt8) (hc : AtA w p l) (n : Nat) (e : TypeId) (hu : P.underlying ty = some (.array n e)) (hi : (P.info? ty).map (·.size) = some l.length)
    (h : wpList P ops Q rest (a.put o.dst (.agg (bcs l).toArray)) w) : wpList P ops Q (o :: rest) a w :=
  wpList_step fun K hK => by
    rw [if_pos hgd]
    exact wp_load_at ty x ho p hx l hc n e hu hi (hK _ _ h)
set_option maxRecDepth 100000 in
set_option maxHeartbeats 1000000 in
theorem len_zero (w : World) : Calls Tryd.prog 16 #[.int .u64 0] w fun e w' => e = .returned (.int .i64 0) ∧ w = w' := by
  go_enter Tryd.func16, Tryd.ntmps16
  go_wp2_with fail
  have h64 : Calls Tryd.prog 27 #[.int .u64 0] w fun e w' => e = .returned (.int .i64 0) ∧ w = w' := by
    go_enter Tryd.func27, Tryd.ntmps27
    go_wp2_with fail
    go_ret
    exact ⟨by kernel_rfl, rfl⟩
  refine h64.mono ?_
  rintro e w' ⟨rfl, rfl⟩
  go_wp2_with fail
  go_ret
  exact ⟨rfl, rfl⟩
set_option maxRecDepth 100000 in
set_option maxHeartbeats 1000000 in
theorem check_none (l : List UInt8) (w : World) (hl : l.length = 32) : Calls Tryd.prog 9 #[.agg (bcs l).toArray, .agg (bcs l).toArray, .int .i64 0, .int .i64 0, .slice none 0 0] w fun e w' => e = .returned (.bool false) ∧ Below w.heap.size w w' := by
  have sa : Hid ((bcs l).toArray.size = 32) := by simp [Hid, bcs_length, hl]
  have b0 : Below w.heap.size w ((w.alloc (.cells (bcs l).toArray 27)).alloc (.cells (bcs l).toArray 27)) := ((Below.refl _ _).alloc (Nat.le_refl _) _).alloc (by simp) _
  clear hl
  go_enter Tryd.func9, Tryd.ntmps9
  go_wp2_with fail
  go_ret
  exact ⟨rfl, b0⟩
set_option maxRecDepth 100000 in
set_option maxHeartbeats 2000000 in
theorem check_one (l : List UInt8) (w : World) (hl : l.length = 32) : Calls Tryd.prog 9 #[.agg (bcs l).toArray, .agg (bcs l).toArray, .int .i64 0, .int .i64 1, .slice none 0 0] w fun e w' => e = .returned (.bool true) ∧ Below w.heap.size w w' := by
  have sa : Hid ((bcs l).toArray.size = 32) := by simp [Hid, bcs_length, hl]
  have HL := Lib.hid hl
  have heq := equal_hash l l hl hl
  simp only [beq_self_eq_true] at heq
  clear hl
  have u24 := Tryd.underlying27
  have t1 : AtA ((w.alloc (.cells (bcs l).toArray 27)).alloc (.cells (bcs l).toArray 27)) ⟨w.heap.size, 0, none⟩ l := (blk_at (t := 27) (heap_alloc_new w _)).past ((Below.refl _ _).alloc (Nat.le_refl _) _)
  have t2 : AtA ((w.alloc (.cells (bcs l).toArray 27)).alloc (.cells (bcs l).toArray 27)) ⟨w.heap.size + 1, 0, none⟩ l := by
    have := blk_at (t := 27) (heap_alloc_new (w.alloc (.cells (bcs l).toArray 27)) (.cells (bcs l).toArray 27))
    rw [World.size_alloc] at this
    exact this
  have b0 : Below w.heap.size w ((w.alloc (.cells (bcs l).toArray 27)).alloc (.cells (bcs l).toArray 27)) := ((Below.refl _ _).alloc (Nat.le_refl _) _).alloc (by simp) _
  go_enter Tryd.func9, Tryd.ntmps9
  go_wp2_with fail
  refine (len_zero _).mono ?_
  rintro e w' ⟨rfl, rfl⟩
  go_wp2_with fail
  obtain ⟨w2, hw2⟩ : ∃ w2, w2 = (w.alloc (.cells (bcs l).toArray 27)).alloc (.cells (bcs l).toArray 27) := ⟨_, rfl⟩
  rw [← hw2] at t1 t2 b0 ⊢
  clear hw2
  go_loopw [4, 29] (fun p v wq => p = .slice none 0 0 ∧ v = .int .i64 0 ∧ wq = w2) (fun _ _ _ => 0)
  case atStart => first | exact ⟨rfl, rfl, rfl⟩ | exact ⟨rfl, rfl⟩ | exact rfl | trivial
  case round =>
    obtain ⟨rfl, rfl, rfl⟩ := hrel
    go_wp2_with (first
      | ((with_reducible refine wpList_load_if ?_ 27 _ rfl ⟨w.heap.size + 1, 0, none⟩ ?_ l t2 _ _ u24 (hash_size _ HL.out) ?_); (rfl); (rfl))
      | ((with_reducible refine wpList_load_if ?_ 27 _ rfl ⟨w.heap.size, 0, none⟩ ?_ l t1 _ _ u24 (hash_size _ HL.out) ?_); (rfl); (rfl)))
    go_ret
    exact ⟨rfl, b0⟩
theorem rootS_one (l : List UInt8) : rootS [l] = l := Mk.root_one _ _ _ (by simp)
end Go.Proofs.YtpphlmbhonaglaaDoor

namespace Go.Proofs.YtpphlmbhonaglaaDoor
open Go.RowKit
set_option linter.unusedSimpArgs false
set_option linter.unusedVariables false
theorem nb_20 (x : Nat) (h : x < 1048576) : nb x ≤ 20 := by
  unfold nb
  split
  · omega
  · have := (Nat.log2_lt (n := x) (k := 20) (by omega)).2 (by omega)
    omega
theorem shr_half (x : Int) (L : Nat) (y : Int) (h : x / 2 ^ L = y) : x / 2 ^ (L + 1) = y / 2 := by
  rw [Int.pow_succ, ← Int.ediv_ediv_of_nonneg (Int.le_of_lt (Int.pow_pos (by omega))), h]
set_option maxRecDepth 100000 in
set_option maxHeartbeats 8000000 in
theorem check_int (root lf : List UInt8) (I N : Int) (a0 : Option Addr) (n0 c0 : Nat) (p : List (List UInt8)) (w : World) (hC : RC w) (hr : root.length = 32) (hf : lf.length = 32) (hI : IsH w a0 n0 c0 p) (h0 : 0 ≤ I) (hin : I < N) (hn : N ≤ 1048576) (hn0 : n0 ≤ 1000) :
    Calls Tryd.prog 9 #[.agg (bcs root).toArray, .agg (bcs lf).toArray, .int .i64 I, .int .i64 N, .slice a0 n0 c0] w fun e w' => e = .returned (.bool (chk root lf N.toNat I.toNat p)) ∧ Below w.heap.size w w' := by
  have sr : Hid ((bcs root).toArray.size = 32) := by simp [Hid, bcs_length, hr]
  have sf : Hid ((bcs lf).toArray.size = 32) := by simp [Hid, bcs_length, hf]
  have HR := Lib.hid hr
  have HF := Lib.hid hf
  have c1 : decide ((1048576 : Int) < N) = false := decide_eq_false (by omega)
  have X1 : Hid (((w.alloc (.cells (bcs root).toArray 27)).alloc (.cells (bcs lf).toArray 27)).heap[w.heap.size]? = some (.cells (bcs root).toArray 27 (0, 0))) := by
    unfold Hid
    rw [Below.heap_alloc _ _ _ (by simp)]
    exact heap_alloc_new w _
  have X2 : Hid (((w.alloc (.cells (bcs root).toArray 27)).alloc (.cells (bcs lf).toArray 27)).heap[w.heap.size + 1]? = some (.cells (bcs lf).toArray 27 (0, 0))) := by
    have := heap_alloc_new (w.alloc (.cells (bcs root).toArray 27)) (.cells (bcs lf).toArray 27)
    rw [World.size_alloc] at this
    exact this
  have b0 : Below w.heap.size w ((w.alloc (.cells (bcs root).toArray 27)).alloc (.cells (bcs lf).toArray 27)) := ((Below.refl _ _).alloc (Nat.le_refl _) _).alloc (by simp) _
  have m1 : 0 ≤ N - 1 := by omega
  have m2 : N - 1 < 16777216 := by omega
  have u24 := Tryd.underlying27
  have ik := IntWalk.i64_in (N - 1) (by omega)
  clear hr hf
  go_enter Tryd.func9, Tryd.ntmps9
  go_wp2_with fail
  refine (len_int (N - 1) _ m1 m2).mono ?_
  rintro e w' ⟨rfl, rfl⟩
  obtain ⟨K, hK⟩ : ∃ K, K = nb (N - 1).toNat := ⟨_, rfl⟩
  have hK20 : K ≤ 20 := by rw [hK]; exact nb_20 _ (by omega)
  rw [← hK]
  have HK := Lib.hid hK
  clear hK
  obtain ⟨w2, hw2⟩ : ∃ w2, w2 = (w.alloc (.cells (bcs root).toArray 27)).alloc (.cells (bcs lf).toArray 27) := ⟨_, rfl⟩
  go_wp2_with fail
  rw [← hw2] at X1 X2 b0 ⊢
  clear hw2
  go_loopw [4, 29] (fun v l wq => ∃ (ao : Option Addr) (n c L j q : Nat) (lc : List UInt8) (pl : List (List UInt8)), v = .slice ao n c ∧ l = .int .i64 L ∧ n ≤ 1000 ∧ j ≤ q ∧ L ≤ K ∧ q < 1048576 ∧ Hid (IsH w ao n c pl) ∧ Hid (L + nb q = K) ∧ Hid (I / 2 ^ L = j) ∧ Hid ((N - 1) / 2 ^ L = q) ∧ Hid (wq.heap[w.heap.size + 1]? = some (.cells (bcs lc).toArray 27 (0, 0))) ∧ Hid (wq.heap[w.heap.size]? = some (.cells (bcs root).toArray 27 (0, 0))) ∧ Hid (lc.length = 32) ∧ Hid (chk root lf N.toNat I.toNat p = chk root lc (q + 1) j pl) ∧ Below w.heap.size w wq) (fun _ l _ => K - (intOf l).toNat)
  case atStart => exact ⟨a0, n0, c0, 0, I.toNat, (N - 1).toNat, lf, p, rfl, rfl, hn0, by omega, by omega, by omega, hI, (by show 0 + nb (N - 1).toNat = K; rw [HK.out]; omega), (by show I / 2 ^ 0 = (I.toNat : Int); rw [Int.pow_zero, Int.ediv_one]; omega), (by show (N - 1) / 2 ^ 0 = ((N - 1).toNat : Int); rw [Int.pow_zero, Int.ediv_one]; omega), X2, X1, HF, (by show chk root lf N.toNat I.toNat p = chk root lf ((N - 1).toNat + 1) I.toNat p; rw [show (N - 1).toNat + 1 = N.toNat by omega]), b0⟩
  case round =>
    obtain ⟨ao, n, c, L, j, q, lc, pl, rfl, rfl, hnn, hjq, hLK', hq20, HI, HL, EI, EN, R2, R1, LC, HCK, hB⟩ := hrel
    have eI := EI.out
    have eN := EN.out
    have hsb := sib_le j
    by_cases hLK : L < K
    · have hq1 : 1 ≤ q := by
        have := HL.out
        rcases Nat.eq_zero_or_pos q with h | h
        · rw [h, nb_zero] at this; omega
        · exact h
      have nL : L + 1 + nb (q / 2) = K := by have := HL.out; have := nb_half q hq1; omega
      have nI : I / 2 ^ (L + 1) = ((j / 2 : Nat) : Int) := by rw [shr_half I L _ eI]; omega
      have nN : (N - 1) / 2 ^ (L + 1) = ((q / 2 : Nat) : Int) := by rw [shr_half _ L _ eN]; omega
      have NL := Lib.hid nL
      have NI := Lib.hid nI
      have NN := Lib.hid nN
      have hLK2 : (L : Int) < (K : Int) := by omega
      clear nL nI nN HL EI EN
      go_wp2_with fail
      refine wp_region_held_drew (S := fun w' => Below w.heap.size w w') (by kernel_rfl) hB.drew (fun hHeld => ?_)
      refine wpAnyH_take (i := 0) (v := ?_) rfl (by kernel_rfl) (by kernel_rfl) (by kernel_rfl) (fun _ _ _ h => h) (Or.inl ⟨by rfl, ?_⟩) hHeld ?_
      rotate_left 1
      focus (intro wq hSw; go_simp; try with_reducible rfl)
      try (simp only [Act.put, List.getElem_toArray, List.getElem_cons_succ, List.getElem_cons_zero, List.setIfInBounds_toArray, List.set_cons_zero, List.set_cons_succ])
      refine wpAnyH_take (i := 1) (v := ?_) rfl (by kernel_rfl) (by kernel_rfl) (by kernel_rfl) (fun _ _ _ h => h) (Or.inl ⟨by rfl, ?_⟩) hHeld ?_
      rotate_left 1
      focus (intro wq hSw; go_simp; try with_reducible rfl)
      try (simp only [Act.put, List.getElem_toArray, List.getElem_cons_succ, List.getElem_cons_zero, List.setIfInBounds_toArray, List.set_cons_zero, List.set_cons_succ])
      refine wpAnyH_take (i := 2) (v := ?_) rfl (by kernel_rfl) (by kernel_rfl) (by kernel_rfl) (fun _ _ _ h => h) (Or.inl ⟨by rfl, ?_⟩) hHeld ?_
      rotate_left 1
      focus (intro wq hSw; go_simp; try with_reducible rfl)
      try (simp only [Act.put, List.getElem_toArray, List.getElem_cons_succ, List.getElem_cons_zero, List.setIfInBounds_toArray, List.set_cons_zero, List.set_cons_succ])
      refine wpAnyH_take (i := 3) (v := ?_) rfl (by kernel_rfl) (by kernel_rfl) (by kernel_rfl) (fun _ _ _ h => h) (Or.inl ⟨by rfl, ?_⟩) hHeld ?_
      rotate_left 1
      focus (intro wq hSw; go_simp; try with_reducible rfl)
      try (simp only [Act.put, List.getElem_toArray, List.getElem_cons_succ, List.getElem_cons_zero, List.setIfInBounds_toArray, List.set_cons_zero, List.set_cons_succ])
      refine wpAnyH_take (i := 4) (v := ?_) rfl (by kernel_rfl) (by kernel_rfl) (by kernel_rfl) (fun _ _ _ h => h) (Or.inl ⟨by rfl, ?_⟩) hHeld ?_
      rotate_left 1
      focus (intro wq hSw; go_simp; try with_reducible rfl)
      try (simp only [Act.put, List.getElem_toArray, List.getElem_cons_succ, List.getElem_cons_zero, List.setIfInBounds_toArray, List.set_cons_zero, List.set_cons_succ])
      refine wpAnyH_take (i := 5) (v := ?_) rfl (by kernel_rfl) (by kernel_rfl) (by kernel_rfl) (fun _ _ _ h => h) (Or.inl ⟨by rfl, ?_⟩) hHeld ?_
      rotate_left 1
      focus (intro wq hSw; go_simp; try with_reducible rfl)
      try (simp only [Act.put, List.getElem_toArray, List.getElem_cons_succ, List.getElem_cons_zero, List.setIfInBounds_toArray, List.set_cons_zero, List.set_cons_succ])
      refine wpAnyH_take (i := 6) (v := ?_) rfl (by kernel_rfl) (by kernel_rfl) (by kernel_rfl) (fun _ _ _ h => h) (Or.inl ⟨by rfl, ?_⟩) hHeld ?_
      rotate_left 1
      focus (intro wq hSw; go_simp; try with_reducible rfl)
      try (simp only [Act.put, List.getElem_toArray, List.getElem_cons_succ, List.getElem_cons_zero, List.setIfInBounds_toArray, List.set_cons_zero, List.set_cons_succ])
      refine wpAnyH_take (i := 7) (v := ?_) rfl (by kernel_rfl) (by kernel_rfl) (by kernel_rfl) (fun _ _ _ h => h) (Or.inl ⟨by rfl, ?_⟩) hHeld ?_
      rotate_left 1
      focus (intro wq hSw; go_simp; try with_reducible rfl)
      try (simp only [Act.put, List.getElem_toArray, List.getElem_cons_succ, List.getElem_cons_zero, List.setIfInBounds_toArray, List.set_cons_zero, List.set_cons_succ])
      refine wpAnyH_take (i := 8) (v := ?_) rfl (by kernel_rfl) (by kernel_rfl) (by kernel_rfl) (fun _ _ _ h => h) (Or.inl ⟨by rfl, ?_⟩) hHeld ?_
      rotate_left 1
      focus (intro wq hSw; go_simp; try with_reducible rfl)
      try (simp only [Act.put, List.getElem_toArray, List.getElem_cons_succ, List.getElem_cons_zero, List.setIfInBounds_toArray, List.set_cons_zero, List.set_cons_succ])
      refine wpAnyH_done (by kernel_rfl) ?_ _
      have R1d : Hid (wr.drew.heap[w.heap.size]? = some (.cells (bcs root).toArray 27 (0, 0))) := R1
      have R2d : Hid (wr.drew.heap[w.heap.size + 1]? = some (.cells (bcs lc).toArray 27 (0, 0))) := R2
      clear eI eN
      go_wp2_with fail
      refine (beside_any j _ (by omega)).mono ?_
      rintro e w' ⟨rfl, rfl⟩
      by_cases hs : Mk.sib j ≤ q
      · skip
        have hs1 : Mk.sib j < q + 1 := by omega
        cases pl with
        | nil =>
          have hn0' : n = 0 := HI.out.len.symm
          subst hn0'
          have hck : chk root lf N.toNat I.toNat p = false := HCK.out.trans (chk_none root lc (q + 1) j (by omega) (by omega) hs1)
          have HCF := Lib.hid hck
          clear hck HCK hs1
          generalize Mk.sib j = sb at hs ⊢
          have d1 : decide ((q : Int) < (sb : Int)) = false := by simp; omega
          have d2 : decide (q < sb) = false := by simp; omega
          go_wp2_with fail
          go_ret
          exact ⟨by rw [HCF.out]; rfl, hB.drew⟩
        | cons x pl' =>
          have hlen := HI.out.len
          simp only [List.length_cons] at hlen
          obtain ⟨a, rfl⟩ := HI.out.has (by omega)
          have tp0 : AtA w a x := by
            have := HI.out.at_ a rfl 0 (by omega)
            rw [Nat.zero_mul] at this
            exact this
          have lx : x.length = 32 := HI.out.all x (by simp)
          have LX := Lib.hid lx
          obtain ⟨ao2, hcut, hI2, -⟩ := IsH_cut HI.out 1 (by omega)
          have HI2 : Hid (IsH w ao2 (n - 1) (c - 1) pl') := hI2
          have hcut' : ∀ w' : World, (Instr.slice 24 (.slice (some a) n c) (some (.int .i64 1)) none none).run Tryd.prog w' = .ok (.slice ao2 (n - 1) (c - 1)) w' := hcut
          have htk := chk_take root lc x (q + 1) j pl' (by omega) (by omega) hs1
          rw [show (q + 1 + 1) / 2 = q / 2 + 1 by omega] at htk
          have hside := sib_side j
          have hnz : ((n : Int) == 0) = false := by simp; omega
          have hpos : 0 < n := by omega
          clear hcut hI2 lx hs1
          by_cases hj2 : j % 2 = 0
          · have HS : Hid (chk root lf N.toNat I.toNat p = chk root (two lc x) (q / 2 + 1) (j / 2) pl') := by
              have e : (j % 2 == 0) = true := by simp [hj2]
              rw [e, if_pos rfl] at htk
              exact HCK.out.trans htk
            have hlt : j < Mk.sib j := by rw [hside]; exact hj2
            clear htk HCK hside
            have hbs := beside_any j
            generalize Mk.sib j = sb at hs hsb hlt hbs ⊢
            have d1 : decide ((q : Int) < (sb : Int)) = false := by simp; omega
            have d2 : decide (q < sb) = false := by simp; omega
            have d3 : decide ((j : Int) < (sb : Int)) = true := by simp; omega
            have d4 : decide (j < sb) = true := by simp; omega
            go_wp2_with fail
            refine (hbs _ (by omega)).mono ?_
            rintro e w' ⟨rfl, rfl⟩
            go_wp2_with fail
            refine region_tail 4 (by kernel_rfl) (by kernel_rfl) ?_
            intro wx hx bx
            have tl : AtA wx ⟨w.heap.size + 1, 0, none⟩ lc := blk_at ((heap_hid hx _).trans R2d.out)
            have Bx : Below w.heap.size w wx := hB.drew.trans (bx.mono hB.size)
            have tp : AtA wx a x := tp0.past Bx
            have RX : Hid (wx.heap[w.heap.size + 1]? = some (.cells (bcs lc).toArray 27 (0, 0))) := (heap_hid hx _).trans R2d.out
            have RY : Hid (wx.heap[w.heap.size]? = some (.cells (bcs root).toArray 27 (0, 0))) := (heap_hid hx _).trans R1d.out
            clear hx bx
            simp only [List.take_succ_cons, List.take_zero, List.drop_succ_cons, List.drop_zero]
            iterate 4 (first | (refine wpStill_load_at (by rfl) 27 _ rfl ⟨w.heap.size + 1, 0, none⟩ rfl lc tl _ _ u24 (hash_size _ LC.out) ?_) | (refine wpStill_load_at (by rfl) 27 _ rfl a rfl x tp _ _ u24 (hash_size _ LX.out) ?_) | still_step)
            refine wpStill_nil ?_
            go_wp2_with fail
            refine (pair_any lc x _ (hC.past Bx) LC.out LX.out).mono ?_
            rintro e w5 ⟨rfl, b5⟩
            have R5 : Hid (w5.heap[w.heap.size + 1]? = some (.cells (bcs lc).toArray 27 (0, 0))) := (b5.block _ (Array.getElem?_eq_some_iff.1 RX.out).1).trans RX.out
            have R6 : Hid (w5.heap[w.heap.size]? = some (.cells (bcs root).toArray 27 (0, 0))) := (b5.block _ (Array.getElem?_eq_some_iff.1 RY.out).1).trans RY.out
            have B5 : Below w.heap.size w w5 := Bx.trans (b5.mono Bx.size)
            clear b5 RX RY tl tp
            go_wp2_with ((with_reducible refine wpList_store_blk rfl 27 _ _ rfl (w.heap.size + 1) _ (bcs (two lc x)).toArray ?_ ?_ _ R5 32 sizeHash (by simp [bcs_length, LC.out]) (by simp [bcs_length, two_length]) (bcs_all _) ?_); (rfl); (rfl); (intro w8 h8 b8))
            have B8 := B5.grown b8 B5.size (fun k hk => by cases hk; omega)
            have R8 : Hid (w8.heap[w.heap.size]? = some (.cells (bcs root).toArray 27 (0, 0))) := (b8.block _ (Array.getElem?_eq_some_iff.1 R6.out).1 (by simp)).trans R6.out
            clear b8 R5 R6 B5
            go_roundw
            case rel => exact ⟨ao2, n - 1, c - 1, L + 1, j / 2, q / 2, _, pl', rfl, by go_num, by omega, by omega, by omega, by omega, HI2, NL, NI, NN, h8, R8, two_length _ _, HS, B8⟩
            case measure => simp [intOf]; omega
          · have HS : Hid (chk root lf N.toNat I.toNat p = chk root (two x lc) (q / 2 + 1) (j / 2) pl') := by
              have e : (j % 2 == 0) = false := by simp; omega
              rw [e, if_neg (by simp)] at htk
              exact HCK.out.trans htk
            have hlt : ¬ (j < Mk.sib j) := by rw [hside]; exact hj2
            clear htk HCK hside
            have hbs := beside_any j
            generalize Mk.sib j = sb at hs hsb hlt hbs ⊢
            have d1 : decide ((q : Int) < (sb : Int)) = false := by simp; omega
            have d2 : decide (q < sb) = false := by simp; omega
            have d3 : decide ((j : Int) < (sb : Int)) = false := by simp; omega
            have d4 : decide (j < sb) = false := by simp; omega
            go_wp2_with fail
            refine (hbs _ (by omega)).mono ?_
            rintro e w' ⟨rfl, rfl⟩
            go_wp2_with fail
            refine region_tail 4 (by kernel_rfl) (by kernel_rfl) ?_
            intro wx hx bx
            have tl : AtA wx ⟨w.heap.size + 1, 0, none⟩ lc := blk_at ((heap_hid hx _).trans R2d.out)
            have Bx : Below w.heap.size w wx := hB.drew.trans (bx.mono hB.size)
            have tp : AtA wx a x := tp0.past Bx
            have RX : Hid (wx.heap[w.heap.size + 1]? = some (.cells (bcs lc).toArray 27 (0, 0))) := (heap_hid hx _).trans R2d.out
            have RY : Hid (wx.heap[w.heap.size]? = some (.cells (bcs root).toArray 27 (0, 0))) := (heap_hid hx _).trans R1d.out
            clear hx bx
            simp only [List.take_succ_cons, List.take_zero, List.drop_succ_cons, List.drop_zero]
            iterate 4 (first | (refine wpStill_load_at (by rfl) 27 _ rfl ⟨w.heap.size + 1, 0, none⟩ rfl lc tl _ _ u24 (hash_size _ LC.out) ?_) | (refine wpStill_load_at (by rfl) 27 _ rfl a rfl x tp _ _ u24 (hash_size _ LX.out) ?_) | still_step)
            refine wpStill_nil ?_
            go_wp2_with fail
            refine (pair_any x lc _ (hC.past Bx) LX.out LC.out).mono ?_
            rintro e w5 ⟨rfl, b5⟩
            have R5 : Hid (w5.heap[w.heap.size + 1]? = some (.cells (bcs lc).toArray 27 (0, 0))) := (b5.block _ (Array.getElem?_eq_some_iff.1 RX.out).1).trans RX.out
            have R6 : Hid (w5.heap[w.heap.size]? = some (.cells (bcs root).toArray 27 (0, 0))) := (b5.block _ (Array.getElem?_eq_some_iff.1 RY.out).1).trans RY.out
            have B5 : Below w.heap.size w w5 := Bx.trans (b5.mono Bx.size)
            clear b5 RX RY tl tp
            go_wp2_with ((with_reducible refine wpList_store_blk rfl 27 _ _ rfl (w.heap.size + 1) _ (bcs (two x lc)).toArray ?_ ?_ _ R5 32 sizeHash (by simp [bcs_length, LC.out]) (by simp [bcs_length, two_length]) (bcs_all _) ?_); (rfl); (rfl); (intro w8 h8 b8))
            have B8 := B5.grown b8 B5.size (fun k hk => by cases hk; omega)
            have R8 : Hid (w8.heap[w.heap.size]? = some (.cells (bcs root).toArray 27 (0, 0))) := (b8.block _ (Array.getElem?_eq_some_iff.1 R6.out).1 (by simp)).trans R6.out
            clear b8 R5 R6 B5
            go_roundw
            case rel => exact ⟨ao2, n - 1, c - 1, L + 1, j / 2, q / 2, _, pl', rfl, by go_num, by omega, by omega, by omega, by omega, HI2, NL, NI, NN, h8, R8, two_length _ _, HS, B8⟩
            case measure => simp [intOf]; omega
      · have hskip := chk_skip root lc (q + 1) j pl (by omega) (by omega) (by omega)
        rw [show (q + 1 + 1) / 2 = q / 2 + 1 by omega] at hskip
        have HS : Hid (chk root lf N.toNat I.toNat p = chk root lc (q / 2 + 1) (j / 2) pl) := HCK.out.trans hskip
        clear hskip HCK
        have hs' : q < Mk.sib j := by omega
        generalize Mk.sib j = sb at hs hs' ⊢
        have d1 : decide ((q : Int) < (sb : Int)) = true := by simp; omega
        have d2 : decide (q < sb) = true := by simp; omega
        go_wp2_with fail
        go_roundw
        case rel => exact ⟨ao, n, c, L + 1, j / 2, q / 2, lc, pl, rfl, by go_num, hnn, by omega, by omega, by omega, HI, NL, NI, NN, R2d, R1d, LC, HS, hB.drew⟩
        case measure => simp [intOf]; omega
    · have hLe : L = K := by omega
      subst hLe
      have hq0 : q = 0 := by
        have := HL.out
        rcases Nat.eq_zero_or_pos q with h | h
        · exact h
        · have := nb_half q h; omega
      subst hq0
      have hj0 : j = 0 := by omega
      subst hj0
      have hck := HCK.out
      rw [chk_one] at hck
      have hlen := HI.out.len
      rw [hlen] at hck
      have HCF := Lib.hid hck
      have tl : AtA wr ⟨w.heap.size + 1, 0, none⟩ lc := blk_at R2.out
      have tr : AtA wr ⟨w.heap.size, 0, none⟩ root := blk_at R1.out
      have heq := equal_hash lc root LC.out HR.out
      clear hck HCK HL EI EN eI eN hlen HI
      by_cases hn0' : n = 0
      · subst hn0'
        go_wp2_with (first
          | ((with_reducible refine wpList_load_if ?_ 27 _ rfl ⟨w.heap.size + 1, 0, none⟩ ?_ lc tl _ _ u24 (hash_size _ LC.out) ?_); (rfl); (rfl))
          | ((with_reducible refine wpList_load_if ?_ 27 _ rfl ⟨w.heap.size, 0, none⟩ ?_ root tr _ _ u24 (hash_size _ HR.out) ?_); (rfl); (rfl)))
        go_ret
        exact ⟨by rw [HCF.out]; rfl, hB⟩
      · have hnz : ((n : Int) == 0) = false := by simp; omega
        have hnz2 : (n == 0) = false := by simp; omega
        go_wp2_with fail
        go_ret
        exact ⟨by rw [HCF.out, hnz2]; rfl, hB⟩
end Go.Proofs.YtpphlmbhonaglaaDoor
