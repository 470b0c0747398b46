/-
  What the statements of stage 3 share: their example, a number below another one, lists of sums.
-/
import Derived.Test.YtpphlmbhonaglaaDoorRootP
import Derived.Test.YtpphlmbhonaglaaDoorGen
import Derived.Deep.RegionHeld3
namespace Go.Proofs.YtpphlmbhonaglaaDoor
open Go.RowKit
set_option linter.unusedSimpArgs false

theorem within3_any (a n : Int) (w : World) (hn : 0 < n) (hn2 : n ≤ 1000000) :
    Calls Tryd.prog 5 #[.int .i64 a, .int .i64 n] w fun e w' => e = .returned (.int .i64 (wth a n)) ∧ w = w' := by
  have h1 := Int.lt_tmod_of_pos a hn
  have h2 := Int.tmod_lt_of_pos a hn
  have hz : (n == 0) = false := by simp; omega
  by_cases h3 : a.tmod n < 0
  · go_enter Tryd.func5, Tryd.ntmps5
    go_wp2_with fail
    go_ret
    exact ⟨ret_int (by unfold wth; rw [if_pos h3]), rfl⟩
  · go_enter Tryd.func5, Tryd.ntmps5
    go_wp2_with fail
    go_ret
    exact ⟨ret_int (by unfold wth; rw [if_neg (by omega)]), rfl⟩

/-- THE k-TH SUM THAT A LIST OF SUMS HAS. -/
def hsh (k : Nat) : List UInt8 := UInt8.ofNat k :: 0 :: 5 :: List.replicate 29 0
def hsL (n : Nat) : List (List UInt8) := (List.range n).map hsh
theorem hsh_length (k : Nat) : (hsh k).length = 32 := by simp [hsh]
theorem hsL_length (n : Nat) : (hsL n).length = n := by simp [hsL]
theorem hsL_succ (n : Nat) : hsL (n + 1) = hsL n ++ [hsh n] := by simp [hsL, List.range_succ]
theorem hsL_get (n i : Nat) (h : i < n) (d : List UInt8) : (hsL n).getD i d = hsh i := by simp [hsL, List.getD, h]
theorem hsh_inj {i j : Nat} (hi : i < 256) (hj : j < 256) (h : hsh i = hsh j) : i = j := by
  unfold hsh at h
  have h1 := (List.cons.inj h).1
  have h2 := congrArg UInt8.toNat h1
  simp only [UInt8.toNat_ofNat'] at h2
  omega
theorem bc_ofNat (k : Nat) (h : k < 256) : bc (UInt8.ofNat k) = .int .u8 (k : Int) := by
  show Value.int .u8 ((UInt8.ofNat k).toNat : Int) = _
  rw [UInt8.toNat_ofNat', Nat.mod_eq_of_lt h]
theorem hsh_agg (k : Nat) (h : k < 256) : Value.agg (bcs (hsh k)).toArray = .agg #[.int .u8 (k : Int), .int .u8 0, .int .u8 5, .int .u8 0, .int .u8 0, .int .u8 0, .int .u8 0, .int .u8 0, .int .u8 0, .int .u8 0, .int .u8 0, .int .u8 0, .int .u8 0, .int .u8 0, .int .u8 0, .int .u8 0, .int .u8 0, .int .u8 0, .int .u8 0, .int .u8 0, .int .u8 0, .int .u8 0, .int .u8 0, .int .u8 0, .int .u8 0, .int .u8 0, .int .u8 0, .int .u8 0, .int .u8 0, .int .u8 0, .int .u8 0, .int .u8 0] := by
  rw [← bc_ofNat k h]
  kernel_rfl
set_option maxRecDepth 100000 in
set_option maxHeartbeats 2000000 in
theorem lHashes_any (n : Nat) (w : World) (hn : n ≤ 200) :
    Calls Tryd.prog 6 #[.int .i64 (n : Int)] w (HsOut w n (hsL n)) := by
  go_enter Tryd.func6, Tryd.ntmps6
  go_wp2_with fail
  go_loopw [3, 4] (fun v i wq => ∃ k : Nat, k ≤ n ∧ i = .int .i64 k ∧ OwnH wq w.heap.size v k (hsL k) ∧ Below w.heap.size w wq) (fun _ i _ => n - (intOf i).toNat)
  case atStart => exact ⟨0, by omega, rfl, OwnH.nil _ _, Below.refl _ _⟩
  case round =>
    obtain ⟨k, hk, rfl, hO, hB⟩ := hrel
    have hs1 := hB.size
    by_cases hkn : k < n
    · have e1 : IntKind.u8.wrap (k : Int) = (k : Int) := by show (k : Int) % 256 = k; omega
      have e2 : ((k : Int) / 256) = 0 := by omega
      have e3 := hsh_agg k (by omega)
      have E3 := Lib.hid e3
      clear e3
      go_wp2_with (first
        | ((with_reducible refine wpList_buildSlice_hs rfl 1 _ rfl [hsh k] rfl ?_ (by omega) (by omega) ?_ ?_); (simp [hsh_length]); (simp only [List.map_toArray, List.map_cons, List.map_nil]; show _ = [(0, Value.agg (bcs (hsh k)).toArray)]; rw [E3.out]; rfl); (intro w5 _ I5 b5; have O5 := hO.past b5; have hs5 := b5.size))
        | (at_builtin; refine wpList_append_hs rfl (.tmp 10) (.tmp 17) rfl w.heap.size (by omega) _ k _ rfl O5 ⟨wr.heap.size, 0, none⟩ 1 1 [hsh k] rfl I5 (by omega) ?_; intro v2 w4 hO4 g4))
      rw [← hsL_succ] at hO4
      have B4 := O5.step (hB.trans (b5.mono hs1)) (by omega) (Nat.le_refl _) g4
      clear g4 O5 I5 b5
      go_roundw
      case rel => exact ⟨k + 1, by omega, by go_num, hO4, B4⟩
      case measure => simp [intOf]; omega
    · obtain rfl : k = n := by omega
      go_wp2_with fail
      go_ret
      exact ⟨_, rfl, hO, hB⟩

theorem wp_append_ob {P : Program} {w : World} {o : Oper} {a : Act} {K : Act → World → Prop} {Q : Exit → Act → World → Prop} (s x : Operand) (t tx : TypeId)
    (ho : o.op = .call { callee := .builtin .append, args := #[s, x], argTypes := #[t, tx] }) (e : TypeId) (hB : ByteTy P t e) (g n cap : Nat) (l : List UInt8) (hsv : a.eval s = .slice (some ⟨g, 0, none⟩) n cap) (h : OwnB w e g n cap l)
    (X : Value) (hx : a.eval x = X) (m : Nat) (cs : List UInt8) (hs : Src P 1 tx X m (bcs cs) w) (N : Nat) (hN : n + m = N) (L : List UInt8) (hL : l ++ cs = L) (hmax : N ≤ 70368744177664)
    (hK : ∀ g' cap' w', OwnB w' e g' N cap' L → Puts w w' g n → (g' = g ∨ w.heap.size ≤ g') → K (a.put o.dst (.slice (some ⟨g', 0, none⟩) N cap')) w') : o.wp P a w K Q := by
  subst hN
  subst hL
  obtain ⟨g', cap', w', hr, h1, h2, h3⟩ := run_append_ob (P := P) w t tx o.type e hB g n cap l h X m cs hs hmax
  unfold Oper.wp execOp
  simp only [ho, resolve, invoke, builtin, Sem.run_bind, Sem.run_pure, Result.andThen_ok, List.map_toArray, List.map_cons, List.map_nil, hsv, hx, hr]
  exact hK g' cap' w' h1 h2 h3
theorem blk_at {w : World} {g : Nat} {l : List UInt8} {t : TypeId} (h : w.heap[g]? = some (.cells (bcs l).toArray t (0, 0))) : AtA w ⟨g, 0, none⟩ l := fun j u hu => by
  rw [Addr.add_lit, Nat.zero_add, cell_of_row w g _ _ t (0, 0) h]
  simp [bcs, hu]
theorem blk_isB {w : World} {g n : Nat} {l : List UInt8} {t : TypeId} (h : w.heap[g]? = some (.cells (bcs l).toArray t (0, 0))) (hl : l.length = n) (hn : n ≤ 1000000) : IsB w (some ⟨g, 0, none⟩) n n l :=
  ⟨hl, Nat.le_refl _, by unfold maxLen; omega, (fun h => by cases h), fun a ha j u hu => by
    obtain rfl := Option.some.inj ha
    exact blk_at h j u hu⟩
theorem rootS_two (x y : List UInt8) : rootS [x, y] = two x y := by
  unfold rootS
  rw [Mk.root_more _ _ _ (by simp)]
  simp only [List.length_cons, List.length_nil, Nat.zero_add, Mk.part_two, List.take_succ_cons, List.take_zero, List.drop_succ_cons, List.drop_zero]
  rw [Mk.root_one _ _ _ (by simp [Mk.part_two]), Mk.root_one _ _ _ (by simp [Mk.part_two])]
  rfl
theorem rootS_nil : rootS [] = sha [] := Mk.root_one _ _ _ (by simp)
set_option maxRecDepth 100000 in
set_option maxHeartbeats 4000000 in
theorem known3 (w : World) (hC : RC w) : Calls Tryd.prog 4 #[] w fun e w' => e = .returned (.bool true) ∧ Below w.heap.size w w' := by
  obtain ⟨x, hx⟩ : ∃ x, x = leafS [1] := ⟨_, rfl⟩
  obtain ⟨y, hy⟩ : ∃ y, y = leafS [2] := ⟨_, rfl⟩
  have hlx : x.length = 32 := by rw [hx]; exact leafS_length _
  have hly : y.length = 32 := by rw [hy]; exact leafS_length _
  have LX := Lib.hid hlx
  have LY := Lib.hid hly
  have HX := Lib.hid hx
  have HY := Lib.hid hy
  clear hlx hly hx hy
  go_enter Tryd.func4, Tryd.ntmps4
  go_wp2_with fail
  have hl0 := leaf_any (some ⟨w.heap.size, 0, none⟩) 1 1 [1] _ (hC.alloc _) (isB_lit w _ 5 [1] 1 rfl rfl (by omega)) (by omega)
  rw [← HX.out] at hl0
  refine hl0.mono ?_
  rintro e w1 ⟨rfl, b1⟩
  clear hl0
  have B1 : Below w.heap.size w w1 := ((Below.refl _ _).alloc (Nat.le_refl _) _).trans (b1.mono (by simp))
  clear b1
  go_wp2_with fail
  have hl1 := leaf_any (some ⟨w1.heap.size, 0, none⟩) 1 1 [2] _ ((hC.past B1).alloc _) (isB_lit w1 _ 5 [2] 1 rfl rfl (by omega)) (by omega)
  rw [← HY.out] at hl1
  refine hl1.mono ?_
  rintro e w2 ⟨rfl, b2⟩
  clear hl1
  have B2 : Below w.heap.size w w2 := B1.trans (((Below.refl _ _).alloc (Nat.le_refl _) _).trans (b2.mono (by simp)) |>.mono B1.size)
  clear b2 B1 HX HY
  have hs2 := B2.size
  go_wp2_with (first
    | ((with_reducible refine wpList_alloc_blk (o := ⟨some 1, _, _, _, _, _⟩) rfl 27 rfl _ zeroHash ?_); intro w3 g1 h1 b3 q3)
    | ((with_reducible refine wpList_alloc_blk (o := ⟨some 2, _, _, _, _, _⟩) rfl 27 rfl _ zeroHash ?_); intro w4 g2 h2 b4 q4; have R1 : Hid (w4.heap[g1]? = some (.cells (bcs (List.replicate 32 0)).toArray 27 (0, 0))) := (b4.block g1 (Array.getElem?_eq_some_iff.1 h1.out).1).trans h1.out)
    | ((with_reducible refine wpList_store_blk rfl 27 _ _ rfl g1 _ (bcs x).toArray ?_ ?_ _ R1 32 sizeHash (by simp [bcs_length]) (by simp [bcs_length, LX.out]) (bcs_all _) ?_); (rfl); (rfl); (intro w5 h5 b5))
    | (have R2 : Hid (w5.heap[g2]? = some (.cells (bcs (List.replicate 32 0)).toArray 27 (0, 0))) := (b5.block g2 (Array.getElem?_eq_some_iff.1 h2.out).1 (by have := (Array.getElem?_eq_some_iff.1 h1.out).1; simp; omega)).trans h2.out; (with_reducible refine wpList_store_blk rfl 27 _ _ rfl g2 _ (bcs y).toArray ?_ ?_ _ R2 32 sizeHash (by simp [bcs_length]) (by simp [bcs_length, LY.out]) (bcs_all _) ?_); (rfl); (rfl); (intro w6 h6 b6)))
  have hg1 : g1 < w3.heap.size := (Array.getElem?_eq_some_iff.1 h1.out).1
  have hg2 : g2 < w4.heap.size := (Array.getElem?_eq_some_iff.1 h2.out).1
  have X1 : Hid (w6.heap[g1]? = some (.cells (bcs x).toArray 27 (0, 0))) := (b6.block g1 (by have := b5.size; have := b4.size; omega) (by simp; omega)).trans h5.out
  have X2 : Hid (w6.heap[g2]? = some (.cells (bcs y).toArray 27 (0, 0))) := h6.out
  have B4 : Below w.heap.size w w4 := B2.trans ((b3.trans (b4.mono b3.size)).mono hs2)
  have B6 : Below w.heap.size w w6 := (B4.grown b5 B4.size (fun k hk => by cases hk; omega)).grown b6 (by have := b5.size; have := B4.size; omega) (fun k hk => by cases hk; have := b3.size; omega)
  clear h1 h2 h5 h6 b3 b4 b5 b6 hg1 hg2 q3 q4 B2 B4 R1
  have t1 := blk_at X1.out
  have t2 := blk_at X2.out
  have I1 := blk_isB X1.out LX.out (by omega)
  have I2 := blk_isB X2.out LY.out (by omega)
  have hR : RC w6 := hC.past B6
  clear X1 X2
  have u24 := Tryd.underlying27
  have hsl := slice_all
  have heq1 := equal_hash (two x y) (two x y) (two_length x y) (two_length x y)
  have heq2 := equal_sha []
  simp only [beq_self_eq_true] at heq1
  go_wp2_with fail
  refine wp_region_held_drew (S := fun w' => Below w6.heap.size w6 w') (by kernel_rfl) ((Below.refl _ _).drew) (fun hHeld => ?_)
  have k0 : Below w6.heap.size w6 w6.drew := (Below.refl _ _).drew
  refine wpAnyH_take (i := 0) (v := .agg (bcs (x)).toArray) rfl (by kernel_rfl) (by kernel_rfl) (by kernel_rfl) (fun _ _ _ h => h) (yieldsIf_load_at (by rfl) 27 _ rfl ⟨g1, 0, none⟩ rfl (x) (fun wq hSw => t1.past hSw) _ _ u24 (hash_size _ LX.out)) hHeld ?_
  try (simp only [Act.put, List.getElem_toArray, List.getElem_cons_succ, List.getElem_cons_zero, List.setIfInBounds_toArray, List.set_cons_zero, List.set_cons_succ])
  refine wpAnyH_take (i := 1) (v := .agg (bcs (y)).toArray) rfl (by kernel_rfl) (by kernel_rfl) (by kernel_rfl) (fun _ _ _ h => h) (yieldsIf_load_at (by rfl) 27 _ rfl ⟨g2, 0, none⟩ rfl (y) (fun wq hSw => t2.past hSw) _ _ u24 (hash_size _ LY.out)) hHeld ?_
  try (simp only [Act.put, List.getElem_toArray, List.getElem_cons_succ, List.getElem_cons_zero, List.setIfInBounds_toArray, List.set_cons_zero, List.set_cons_succ])
  refine wpAnyH_take (i := 5) (v := ?_) rfl (by kernel_rfl) (by kernel_rfl) (by kernel_rfl) (fun _ _ _ h => h) (Or.inl ⟨by rfl, ?_⟩) hHeld ?_
  rotate_left 1
  focus (intro wq hSw; have hcv := hsl g1 wq; go_simp; try with_reducible rfl)
  try (simp only [Act.put, List.getElem_toArray, List.getElem_cons_succ, List.getElem_cons_zero, List.setIfInBounds_toArray, List.set_cons_zero, List.set_cons_succ])
  refine wpAnyH_take (i := 7) (v := ?_) rfl (by kernel_rfl) (by kernel_rfl) (by kernel_rfl) (fun _ _ _ h => h) (Or.inl ⟨by rfl, ?_⟩) hHeld ?_
  rotate_left 1
  focus (intro wq hSw; have hcv := hsl g2 wq; go_simp; try with_reducible rfl)
  try (simp only [Act.put, List.getElem_toArray, List.getElem_cons_succ, List.getElem_cons_zero, List.setIfInBounds_toArray, List.set_cons_zero, List.set_cons_succ])
  refine wpAnyH_ready (rs := [2, 4]) (by kernel_rfl) (by simp) ?_
  refine AllReadyH.cons rfl (fun K hK => ?_) (AllReadyH.cons rfl (fun K hK => ?_) AllReadyH.nil)
  · skip
    rw [if_pos (by rfl)]
    refine wp_buildSlice_hs 2 _ rfl [x, y] rfl (by simp [LX.out, LY.out]) (by omega) (by omega) (by simp only [List.map_toArray, List.map_cons, List.map_nil]; rfl) fun w5 _ I5 b5 => ?_
    have k5 := k0.trans (b5.mono k0.size)
    refine hK.out _ _ (k5) (fun hHeld => ?_)
    clear hK K
    try (simp only [Act.put, List.getElem_toArray, List.getElem_cons_succ, List.getElem_cons_zero, List.setIfInBounds_toArray, List.set_cons_zero, List.set_cons_succ])
    refine wpAnyH_ready (rs := [3, 4]) (by kernel_rfl) (by simp) ?_
    refine AllReadyH.cons rfl (fun K hK => ?_) (AllReadyH.cons rfl (fun K hK => ?_) AllReadyH.nil)
    · skip
      go_simp
      go_at_call 7
      (with_reducible refine (root_any _ 2 2 [x, y] _ ?_ ?_ ?_).mono ?_)
      · exact hR.past k5
      · exact I5
      · omega
      rintro e w7 ⟨rfl, b7⟩
      rw [rootS_two]
      have k7 := k5.trans (b7.mono k5.size)
      refine hK.out _ _ (k7) (fun hHeld => ?_)
      clear hK K
      try (simp only [Act.put, List.getElem_toArray, List.getElem_cons_succ, List.getElem_cons_zero, List.setIfInBounds_toArray, List.set_cons_zero, List.set_cons_succ])
      refine wpAnyH_ready (rs := [4]) (by kernel_rfl) (by simp) ?_
      refine AllReadyH.cons rfl (fun K hK => ?_) AllReadyH.nil
      have O1 := own_lit w7 (.int .u8 1) 1 rfl
      go_simp
      refine hK.out _ _ (k7.alloc k7.size _) (fun hHeld => ?_)
      clear hK K
      try (simp only [Act.put, List.getElem_toArray, List.getElem_cons_succ, List.getElem_cons_zero, List.setIfInBounds_toArray, List.set_cons_zero, List.set_cons_succ])
      have k77 := k7.alloc k7.size (.cells #[.int .u8 1] 5)
      have hgz := k7.size
      refine wpAnyH_ready (rs := [6]) (by kernel_rfl) (by simp) ?_
      refine AllReadyH.cons rfl (fun K hK => ?_) AllReadyH.nil
      rw [if_pos (by rfl)]
      refine wp_append_ob (.tmp 11) (.tmp 12) 36 36 rfl 5 byteTy w7.heap.size 1 1 [1] rfl (O1) _ rfl 32 x ((I1.past k77).src byteTy.ht) 33 rfl (1 :: x) rfl (by omega) fun g3 c3 w8 o3 p3 q3 => ?_
      have k8 := k77.trans (p3.below (by omega) k77.size)
      refine hK.out _ _ (k8) (fun hHeld => ?_)
      clear hK K
      try (simp only [Act.put, List.getElem_toArray, List.getElem_cons_succ, List.getElem_cons_zero, List.setIfInBounds_toArray, List.set_cons_zero, List.set_cons_succ])
      refine wpAnyH_ready (rs := [8]) (by kernel_rfl) (by simp) ?_
      refine AllReadyH.cons rfl (fun K hK => ?_) AllReadyH.nil
      rw [if_pos (by rfl)]
      refine wp_append_ob (.tmp 13) (.tmp 14) 36 36 rfl 5 byteTy g3 33 c3 (1 :: x) rfl (o3) _ rfl 32 y ((I2.past k8).src byteTy.ht) 65 rfl (1 :: x ++ y) rfl (by omega) fun g4 c4 w9 o4 p4 q4 => ?_
      have k9 := k8.trans (p4.below (by have := k8.size; have := k77.size; have := (OwnB.lt O1); rcases q3 with rfl | q3 <;> omega) k8.size)
      refine hK.out _ _ (k9) (fun hHeld => ?_)
      clear hK K
      try (simp only [Act.put, List.getElem_toArray, List.getElem_cons_succ, List.getElem_cons_zero, List.setIfInBounds_toArray, List.set_cons_zero, List.set_cons_succ])
      refine wpAnyH_ready (rs := [9]) (by kernel_rfl) (by simp) ?_
      refine AllReadyH.cons rfl (fun K hK => ?_) AllReadyH.nil
      go_simp
      go_at_call 12
      (with_reducible refine (rsum_any _ 65 c4 (1 :: x ++ y) _ ?_ ?_).mono ?_)
      · exact o4.isB
      · omega
      rintro e wa ⟨rfl, ba⟩
      rw [show sha (1 :: x ++ y) = two x y from rfl]
      have ka := k9.trans (ba.mono k9.size)
      refine hK.out _ _ (ka) (fun hHeld => ?_)
      clear hK K
      try (simp only [Act.put, List.getElem_toArray, List.getElem_cons_succ, List.getElem_cons_zero, List.setIfInBounds_toArray, List.set_cons_zero, List.set_cons_succ])
      refine wpAnyH_take (i := 10) (v := ?_) rfl (by kernel_rfl) (by kernel_rfl) (by kernel_rfl) (fun _ _ _ h => h) (Or.inl ⟨by rfl, ?_⟩) hHeld ?_
      rotate_left 1
      focus (intro wq hSw; go_simp; try with_reducible rfl)
      try (simp only [Act.put, List.getElem_toArray, List.getElem_cons_succ, List.getElem_cons_zero, List.setIfInBounds_toArray, List.set_cons_zero, List.set_cons_succ])
      refine wpAnyH_take (i := 11) (v := ?_) rfl (by kernel_rfl) (by kernel_rfl) (by kernel_rfl) (fun _ _ _ h => h) (Or.inl ⟨by rfl, ?_⟩) hHeld ?_
      rotate_left 1
      focus (intro wq hSw; go_simp; try with_reducible rfl)
      try (simp only [Act.put, List.getElem_toArray, List.getElem_cons_succ, List.getElem_cons_zero, List.setIfInBounds_toArray, List.set_cons_zero, List.set_cons_succ])
      refine wpAnyH_ready (rs := [12]) (by kernel_rfl) (by simp) ?_
      refine AllReadyH.cons rfl (fun K hK => ?_) AllReadyH.nil
      go_simp
      go_at_call 7
      (with_reducible refine (root_any none 0 0 [] _ ?_ ?_ ?_).mono ?_)
      · exact hR.past ka
      · exact IsH.nilH _
      · omega
      rintro e wb ⟨rfl, bb⟩
      rw [rootS_nil]
      have kb := ka.trans (bb.mono ka.size)
      refine hK.out _ _ (kb) (fun hHeld => ?_)
      clear hK K
      try (simp only [Act.put, List.getElem_toArray, List.getElem_cons_succ, List.getElem_cons_zero, List.setIfInBounds_toArray, List.set_cons_zero, List.set_cons_succ])
      refine wpAnyH_ready (rs := [13]) (by kernel_rfl) (by simp) ?_
      refine AllReadyH.cons rfl (fun K hK => ?_) AllReadyH.nil
      go_simp
      go_at_call 12
      (with_reducible refine (rsum_any none 0 0 [] _ ?_ ?_).mono ?_)
      · exact IsB.nilB _
      · omega
      rintro e wc ⟨rfl, bc3⟩
      have kc := kb.trans (bc3.mono kb.size)
      refine hK.out _ _ (kc) (fun hHeld => ?_)
      clear hK K
      try (simp only [Act.put, List.getElem_toArray, List.getElem_cons_succ, List.getElem_cons_zero, List.setIfInBounds_toArray, List.set_cons_zero, List.set_cons_succ])
      refine wpAnyH_take (i := 14) (v := ?_) rfl (by kernel_rfl) (by kernel_rfl) (by kernel_rfl) (fun _ _ _ h => h) (Or.inl ⟨by rfl, ?_⟩) hHeld ?_
      rotate_left 1
      focus (intro wq hSw; go_simp; try with_reducible rfl)
      try (simp only [Act.put, List.getElem_toArray, List.getElem_cons_succ, List.getElem_cons_zero, List.setIfInBounds_toArray, List.set_cons_zero, List.set_cons_succ])
      refine wpAnyH_take (i := 15) (v := ?_) rfl (by kernel_rfl) (by kernel_rfl) (by kernel_rfl) (fun _ _ _ h => h) (Or.inl ⟨by rfl, ?_⟩) hHeld ?_
      rotate_left 1
      focus (intro wq hSw; go_simp; try with_reducible rfl)
      try (simp only [Act.put, List.getElem_toArray, List.getElem_cons_succ, List.getElem_cons_zero, List.setIfInBounds_toArray, List.set_cons_zero, List.set_cons_succ])
      refine wpAnyH_take (i := 16) (v := ?_) rfl (by kernel_rfl) (by kernel_rfl) (by kernel_rfl) (fun _ _ _ h => h) (Or.inl ⟨by rfl, ?_⟩) hHeld ?_
      rotate_left 1
      focus (intro wq hSw; go_simp; try with_reducible rfl)
      try (simp only [Act.put, List.getElem_toArray, List.getElem_cons_succ, List.getElem_cons_zero, List.setIfInBounds_toArray, List.set_cons_zero, List.set_cons_succ])
      refine wpAnyH_done (by kernel_rfl) ?_ _
      have BF := B6.trans (kc.mono B6.size)
      go_wp2_with fail
      go_ret
      exact ⟨rfl, BF⟩
    · skip
      have O0 := own_lit w5 (.int .u8 1) 1 rfl
      have hgz := k5.size
      go_simp
      refine hK.out _ _ (k5.alloc k5.size _) (fun hHeld => ?_)
      clear hK K
      try (simp only [Act.put, List.getElem_toArray, List.getElem_cons_succ, List.getElem_cons_zero, List.setIfInBounds_toArray, List.set_cons_zero, List.set_cons_succ])
      have k55 := k5.alloc k5.size (.cells #[.int .u8 1] 5)
      refine wpAnyH_ready (rs := [3]) (by kernel_rfl) (by simp) ?_
      refine AllReadyH.cons rfl (fun K hK => ?_) AllReadyH.nil
      go_simp
      go_at_call 7
      (with_reducible refine (root_any _ 2 2 [x, y] _ ?_ ?_ ?_).mono ?_)
      · exact hR.past k55
      · exact I5.past ((Below.refl _ _).alloc (Nat.le_refl _) _)
      · omega
      rintro e w7 ⟨rfl, b7⟩
      rw [rootS_two]
      have k7 := k55.trans (b7.mono k55.size)
      refine hK.out _ _ (k7) (fun hHeld => ?_)
      clear hK K
      try (simp only [Act.put, List.getElem_toArray, List.getElem_cons_succ, List.getElem_cons_zero, List.setIfInBounds_toArray, List.set_cons_zero, List.set_cons_succ])
      have O1 := O0.below b7 O0.lt
      refine wpAnyH_ready (rs := [6]) (by kernel_rfl) (by simp) ?_
      refine AllReadyH.cons rfl (fun K hK => ?_) AllReadyH.nil
      rw [if_pos (by rfl)]
      refine wp_append_ob (.tmp 11) (.tmp 12) 36 36 rfl 5 byteTy w5.heap.size 1 1 [1] rfl (O1) _ rfl 32 x ((I1.past k7).src byteTy.ht) 33 rfl (1 :: x) rfl (by omega) fun g3 c3 w8 o3 p3 q3 => ?_
      have k8 := k7.trans (p3.below (by omega) k7.size)
      refine hK.out _ _ (k8) (fun hHeld => ?_)
      clear hK K
      try (simp only [Act.put, List.getElem_toArray, List.getElem_cons_succ, List.getElem_cons_zero, List.setIfInBounds_toArray, List.set_cons_zero, List.set_cons_succ])
      refine wpAnyH_ready (rs := [8]) (by kernel_rfl) (by simp) ?_
      refine AllReadyH.cons rfl (fun K hK => ?_) AllReadyH.nil
      rw [if_pos (by rfl)]
      refine wp_append_ob (.tmp 13) (.tmp 14) 36 36 rfl 5 byteTy g3 33 c3 (1 :: x) rfl (o3) _ rfl 32 y ((I2.past k8).src byteTy.ht) 65 rfl (1 :: x ++ y) rfl (by omega) fun g4 c4 w9 o4 p4 q4 => ?_
      have k9 := k8.trans (p4.below (by have := k8.size; have := k7.size; have := (OwnB.lt O1); rcases q3 with rfl | q3 <;> omega) k8.size)
      refine hK.out _ _ (k9) (fun hHeld => ?_)
      clear hK K
      try (simp only [Act.put, List.getElem_toArray, List.getElem_cons_succ, List.getElem_cons_zero, List.setIfInBounds_toArray, List.set_cons_zero, List.set_cons_succ])
      refine wpAnyH_ready (rs := [9]) (by kernel_rfl) (by simp) ?_
      refine AllReadyH.cons rfl (fun K hK => ?_) AllReadyH.nil
      go_simp
      go_at_call 12
      (with_reducible refine (rsum_any _ 65 c4 (1 :: x ++ y) _ ?_ ?_).mono ?_)
      · exact o4.isB
      · omega
      rintro e wa ⟨rfl, ba⟩
      rw [show sha (1 :: x ++ y) = two x y from rfl]
      have ka := k9.trans (ba.mono k9.size)
      refine hK.out _ _ (ka) (fun hHeld => ?_)
      clear hK K
      try (simp only [Act.put, List.getElem_toArray, List.getElem_cons_succ, List.getElem_cons_zero, List.setIfInBounds_toArray, List.set_cons_zero, List.set_cons_succ])
      refine wpAnyH_take (i := 10) (v := ?_) rfl (by kernel_rfl) (by kernel_rfl) (by kernel_rfl) (fun _ _ _ h => h) (Or.inl ⟨by rfl, ?_⟩) hHeld ?_
      rotate_left 1
      focus (intro wq hSw; go_simp; try with_reducible rfl)
      try (simp only [Act.put, List.getElem_toArray, List.getElem_cons_succ, List.getElem_cons_zero, List.setIfInBounds_toArray, List.set_cons_zero, List.set_cons_succ])
      refine wpAnyH_take (i := 11) (v := ?_) rfl (by kernel_rfl) (by kernel_rfl) (by kernel_rfl) (fun _ _ _ h => h) (Or.inl ⟨by rfl, ?_⟩) hHeld ?_
      rotate_left 1
      focus (intro wq hSw; go_simp; try with_reducible rfl)
      try (simp only [Act.put, List.getElem_toArray, List.getElem_cons_succ, List.getElem_cons_zero, List.setIfInBounds_toArray, List.set_cons_zero, List.set_cons_succ])
      refine wpAnyH_ready (rs := [12]) (by kernel_rfl) (by simp) ?_
      refine AllReadyH.cons rfl (fun K hK => ?_) AllReadyH.nil
      go_simp
      go_at_call 7
      (with_reducible refine (root_any none 0 0 [] _ ?_ ?_ ?_).mono ?_)
      · exact hR.past ka
      · exact IsH.nilH _
      · omega
      rintro e wb ⟨rfl, bb⟩
      rw [rootS_nil]
      have kb := ka.trans (bb.mono ka.size)
      refine hK.out _ _ (kb) (fun hHeld => ?_)
      clear hK K
      try (simp only [Act.put, List.getElem_toArray, List.getElem_cons_succ, List.getElem_cons_zero, List.setIfInBounds_toArray, List.set_cons_zero, List.set_cons_succ])
      refine wpAnyH_ready (rs := [13]) (by kernel_rfl) (by simp) ?_
      refine AllReadyH.cons rfl (fun K hK => ?_) AllReadyH.nil
      go_simp
      go_at_call 12
      (with_reducible refine (rsum_any none 0 0 [] _ ?_ ?_).mono ?_)
      · exact IsB.nilB _
      · omega
      rintro e wc ⟨rfl, bc3⟩
      have kc := kb.trans (bc3.mono kb.size)
      refine hK.out _ _ (kc) (fun hHeld => ?_)
      clear hK K
      try (simp only [Act.put, List.getElem_toArray, List.getElem_cons_succ, List.getElem_cons_zero, List.setIfInBounds_toArray, List.set_cons_zero, List.set_cons_succ])
      refine wpAnyH_take (i := 14) (v := ?_) rfl (by kernel_rfl) (by kernel_rfl) (by kernel_rfl) (fun _ _ _ h => h) (Or.inl ⟨by rfl, ?_⟩) hHeld ?_
      rotate_left 1
      focus (intro wq hSw; go_simp; try with_reducible rfl)
      try (simp only [Act.put, List.getElem_toArray, List.getElem_cons_succ, List.getElem_cons_zero, List.setIfInBounds_toArray, List.set_cons_zero, List.set_cons_succ])
      refine wpAnyH_take (i := 15) (v := ?_) rfl (by kernel_rfl) (by kernel_rfl) (by kernel_rfl) (fun _ _ _ h => h) (Or.inl ⟨by rfl, ?_⟩) hHeld ?_
      rotate_left 1
      focus (intro wq hSw; go_simp; try with_reducible rfl)
      try (simp only [Act.put, List.getElem_toArray, List.getElem_cons_succ, List.getElem_cons_zero, List.setIfInBounds_toArray, List.set_cons_zero, List.set_cons_succ])
      refine wpAnyH_take (i := 16) (v := ?_) rfl (by kernel_rfl) (by kernel_rfl) (by kernel_rfl) (fun _ _ _ h => h) (Or.inl ⟨by rfl, ?_⟩) hHeld ?_
      rotate_left 1
      focus (intro wq hSw; go_simp; try with_reducible rfl)
      try (simp only [Act.put, List.getElem_toArray, List.getElem_cons_succ, List.getElem_cons_zero, List.setIfInBounds_toArray, List.set_cons_zero, List.set_cons_succ])
      refine wpAnyH_done (by kernel_rfl) ?_ _
      have BF := B6.trans (kc.mono B6.size)
      go_wp2_with fail
      go_ret
      exact ⟨rfl, BF⟩
  · skip
    have O0 := own_lit w6.drew (.int .u8 1) 1 rfl
    have hgz := k0.size
    go_simp
    refine hK.out _ _ (k0.alloc k0.size _) (fun hHeld => ?_)
    clear hK K
    try (simp only [Act.put, List.getElem_toArray, List.getElem_cons_succ, List.getElem_cons_zero, List.setIfInBounds_toArray, List.set_cons_zero, List.set_cons_succ])
    have k00 := k0.alloc k0.size (.cells #[.int .u8 1] 5)
    refine wpAnyH_ready (rs := [2]) (by kernel_rfl) (by simp) ?_
    refine AllReadyH.cons rfl (fun K hK => ?_) AllReadyH.nil
    rw [if_pos (by rfl)]
    refine wp_buildSlice_hs 2 _ rfl [x, y] rfl (by simp [LX.out, LY.out]) (by omega) (by omega) (by simp only [List.map_toArray, List.map_cons, List.map_nil]; rfl) fun w5 _ I5 b5 => ?_
    have k5 := k00.trans (b5.mono k00.size)
    refine hK.out _ _ (k5) (fun hHeld => ?_)
    clear hK K
    try (simp only [Act.put, List.getElem_toArray, List.getElem_cons_succ, List.getElem_cons_zero, List.setIfInBounds_toArray, List.set_cons_zero, List.set_cons_succ])
    refine wpAnyH_ready (rs := [3]) (by kernel_rfl) (by simp) ?_
    refine AllReadyH.cons rfl (fun K hK => ?_) AllReadyH.nil
    go_simp
    go_at_call 7
    (with_reducible refine (root_any _ 2 2 [x, y] _ ?_ ?_ ?_).mono ?_)
    · exact hR.past k5
    · exact (by simpa using I5)
    · omega
    rintro e w7 ⟨rfl, b7⟩
    rw [rootS_two]
    have k7 := k5.trans (b7.mono k5.size)
    refine hK.out _ _ (k7) (fun hHeld => ?_)
    clear hK K
    try (simp only [Act.put, List.getElem_toArray, List.getElem_cons_succ, List.getElem_cons_zero, List.setIfInBounds_toArray, List.set_cons_zero, List.set_cons_succ])
    have O1 := (O0.below b5 O0.lt).below b7 (Nat.lt_of_lt_of_le O0.lt b5.size)
    refine wpAnyH_ready (rs := [6]) (by kernel_rfl) (by simp) ?_
    refine AllReadyH.cons rfl (fun K hK => ?_) AllReadyH.nil
    rw [if_pos (by rfl)]
    refine wp_append_ob (.tmp 11) (.tmp 12) 36 36 rfl 5 byteTy w6.drew.heap.size 1 1 [1] rfl (O1) _ rfl 32 x ((I1.past k7).src byteTy.ht) 33 rfl (1 :: x) rfl (by omega) fun g3 c3 w8 o3 p3 q3 => ?_
    have k8 := k7.trans (p3.below (by omega) k7.size)
    refine hK.out _ _ (k8) (fun hHeld => ?_)
    clear hK K
    try (simp only [Act.put, List.getElem_toArray, List.getElem_cons_succ, List.getElem_cons_zero, List.setIfInBounds_toArray, List.set_cons_zero, List.set_cons_succ])
    refine wpAnyH_ready (rs := [8]) (by kernel_rfl) (by simp) ?_
    refine AllReadyH.cons rfl (fun K hK => ?_) AllReadyH.nil
    rw [if_pos (by rfl)]
    refine wp_append_ob (.tmp 13) (.tmp 14) 36 36 rfl 5 byteTy g3 33 c3 (1 :: x) rfl (o3) _ rfl 32 y ((I2.past k8).src byteTy.ht) 65 rfl (1 :: x ++ y) rfl (by omega) fun g4 c4 w9 o4 p4 q4 => ?_
    have k9 := k8.trans (p4.below (by have := k8.size; have := k7.size; have := (OwnB.lt O1); rcases q3 with rfl | q3 <;> omega) k8.size)
    refine hK.out _ _ (k9) (fun hHeld => ?_)
    clear hK K
    try (simp only [Act.put, List.getElem_toArray, List.getElem_cons_succ, List.getElem_cons_zero, List.setIfInBounds_toArray, List.set_cons_zero, List.set_cons_succ])
    refine wpAnyH_ready (rs := [9]) (by kernel_rfl) (by simp) ?_
    refine AllReadyH.cons rfl (fun K hK => ?_) AllReadyH.nil
    go_simp
    go_at_call 12
    (with_reducible refine (rsum_any _ 65 c4 (1 :: x ++ y) _ ?_ ?_).mono ?_)
    · exact o4.isB
    · omega
    rintro e wa ⟨rfl, ba⟩
    rw [show sha (1 :: x ++ y) = two x y from rfl]
    have ka := k9.trans (ba.mono k9.size)
    refine hK.out _ _ (ka) (fun hHeld => ?_)
    clear hK K
    try (simp only [Act.put, List.getElem_toArray, List.getElem_cons_succ, List.getElem_cons_zero, List.setIfInBounds_toArray, List.set_cons_zero, List.set_cons_succ])
    refine wpAnyH_take (i := 10) (v := ?_) rfl (by kernel_rfl) (by kernel_rfl) (by kernel_rfl) (fun _ _ _ h => h) (Or.inl ⟨by rfl, ?_⟩) hHeld ?_
    rotate_left 1
    focus (intro wq hSw; go_simp; try with_reducible rfl)
    try (simp only [Act.put, List.getElem_toArray, List.getElem_cons_succ, List.getElem_cons_zero, List.setIfInBounds_toArray, List.set_cons_zero, List.set_cons_succ])
    refine wpAnyH_take (i := 11) (v := ?_) rfl (by kernel_rfl) (by kernel_rfl) (by kernel_rfl) (fun _ _ _ h => h) (Or.inl ⟨by rfl, ?_⟩) hHeld ?_
    rotate_left 1
    focus (intro wq hSw; go_simp; try with_reducible rfl)
    try (simp only [Act.put, List.getElem_toArray, List.getElem_cons_succ, List.getElem_cons_zero, List.setIfInBounds_toArray, List.set_cons_zero, List.set_cons_succ])
    refine wpAnyH_ready (rs := [12]) (by kernel_rfl) (by simp) ?_
    refine AllReadyH.cons rfl (fun K hK => ?_) AllReadyH.nil
    go_simp
    go_at_call 7
    (with_reducible refine (root_any none 0 0 [] _ ?_ ?_ ?_).mono ?_)
    · exact hR.past ka
    · exact IsH.nilH _
    · omega
    rintro e wb ⟨rfl, bb⟩
    rw [rootS_nil]
    have kb := ka.trans (bb.mono ka.size)
    refine hK.out _ _ (kb) (fun hHeld => ?_)
    clear hK K
    try (simp only [Act.put, List.getElem_toArray, List.getElem_cons_succ, List.getElem_cons_zero, List.setIfInBounds_toArray, List.set_cons_zero, List.set_cons_succ])
    refine wpAnyH_ready (rs := [13]) (by kernel_rfl) (by simp) ?_
    refine AllReadyH.cons rfl (fun K hK => ?_) AllReadyH.nil
    go_simp
    go_at_call 12
    (with_reducible refine (rsum_any none 0 0 [] _ ?_ ?_).mono ?_)
    · exact IsB.nilB _
    · omega
    rintro e wc ⟨rfl, bc3⟩
    have kc := kb.trans (bc3.mono kb.size)
    refine hK.out _ _ (kc) (fun hHeld => ?_)
    clear hK K
    try (simp only [Act.put, List.getElem_toArray, List.getElem_cons_succ, List.getElem_cons_zero, List.setIfInBounds_toArray, List.set_cons_zero, List.set_cons_succ])
    refine wpAnyH_take (i := 14) (v := ?_) rfl (by kernel_rfl) (by kernel_rfl) (by kernel_rfl) (fun _ _ _ h => h) (Or.inl ⟨by rfl, ?_⟩) hHeld ?_
    rotate_left 1
    focus (intro wq hSw; go_simp; try with_reducible rfl)
    try (simp only [Act.put, List.getElem_toArray, List.getElem_cons_succ, List.getElem_cons_zero, List.setIfInBounds_toArray, List.set_cons_zero, List.set_cons_succ])
    refine wpAnyH_take (i := 15) (v := ?_) rfl (by kernel_rfl) (by kernel_rfl) (by kernel_rfl) (fun _ _ _ h => h) (Or.inl ⟨by rfl, ?_⟩) hHeld ?_
    rotate_left 1
    focus (intro wq hSw; go_simp; try with_reducible rfl)
    try (simp only [Act.put, List.getElem_toArray, List.getElem_cons_succ, List.getElem_cons_zero, List.setIfInBounds_toArray, List.set_cons_zero, List.set_cons_succ])
    refine wpAnyH_take (i := 16) (v := ?_) rfl (by kernel_rfl) (by kernel_rfl) (by kernel_rfl) (fun _ _ _ h => h) (Or.inl ⟨by rfl, ?_⟩) hHeld ?_
    rotate_left 1
    focus (intro wq hSw; go_simp; try with_reducible rfl)
    try (simp only [Act.put, List.getElem_toArray, List.getElem_cons_succ, List.getElem_cons_zero, List.setIfInBounds_toArray, List.set_cons_zero, List.set_cons_succ])
    refine wpAnyH_done (by kernel_rfl) ?_ _
    have BF := B6.trans (kc.mono B6.size)
    go_wp2_with fail
    go_ret
    exact ⟨rfl, BF⟩
end Go.Proofs.YtpphlmbhonaglaaDoor
