/-
  The reference's part and Root.
-/
import Derived.Test.YtgjjpejimpiikaaDoorLaw3
namespace Go.Proofs.YtgjjpejimpiikaaDoor
open Go.RowKit
set_option linter.unusedSimpArgs false

theorem wp_store_blk {P : Program} {w : World} {o : Oper} {a : Act} {K : Act → World → Prop} {Q : Exit → Act → World → Prop} (ty : TypeId) (x y : Operand) (ho : o.op = .store ty x y)
    (g : Nat) (old cs : Array Value) (hx : a.eval x = .pointer (some ⟨g, 0, none⟩)) (hy : a.eval y = .agg cs) (t : TypeId) (hg : Hid (w.heap[g]? = some (.cells old t (0, 0)))) (N : Nat) (hi : (P.info? ty).map (·.size) = some N) (hl : old.size = N) (hm : cs.size = N) (h1 : cs.all (·.oneCell') = true)
    (hK : ∀ w', Hid (w'.heap[g]? = some (.cells cs t (0, 0))) → w.grownBy w' (some g) → K (a.put o.dst undef) w') : o.wp P a w K Q := by
  refine wp_store_row ty x y ho g cs hx hy t old hg.out (by rw [hi, hm]) (by rw [hl, hm]) h1 (hK _ (setRow_heap w g _ _ _ _ hg.out) ⟨rfl, rfl, rfl, by simp, fun k _ hk => setRow_other w g k _ (fun e => hk (by rw [e]))⟩)
set_option maxHeartbeats 1000000 in
theorem part_any (n : Nat) (w : World) (h2 : 2 ≤ n) (hn : n ≤ 1048576) : Calls Tryd.prog 30 #[.int .i64 (n : Int)] w fun e w' => e = .returned (.int .i64 (Mk.part n : Int)) ∧ w = w' := by
  go_enter Tryd.func30, Tryd.ntmps30
  go_wp2_with fail
  go_loopw [3] (fun v wq => ∃ k : Nat, v = .int .i64 k ∧ 1 ≤ k ∧ k < n ∧ Hid (∃ j, k = 2 ^ j) ∧ w = wq) (fun v _ => n - (intOf v).toNat)
  case atStart => exact ⟨1, rfl, by omega, by omega, by first | exact ⟨0, rfl⟩ | trivial, by first | rfl | trivial⟩
  case round =>
    obtain ⟨k, rfl, hk1, hkn, HJ, rfl⟩ := hrel
    by_cases hk : 2 * k < n
    · have g1 : 2 * (k : Int) < (n : Int) := by omega
      go_wp2_with fail
      go_roundw
      case rel => exact ⟨2 * k, by go_num, by omega, by omega, by obtain ⟨j, hj⟩ := HJ.out; exact ⟨j + 1, by rw [hj, Nat.pow_succ]; omega⟩, by first | rfl | trivial⟩
      case measure => simp [intOf]; omega
    · have g1 : ¬ (2 * (k : Int) < (n : Int)) := by omega
      have hp : k = Mk.part n := by
        obtain ⟨j, hj⟩ := HJ.out
        subst hj
        exact (Mk.part_eq hkn (by omega)).symm
      have HP := Lib.hid hp
      clear hp
      go_wp2_with fail
      go_ret
      exact ⟨ret_int (by rw [← HP.out]), rfl⟩
set_option maxRecDepth 100000 in
set_option maxHeartbeats 4000000 in
theorem rroot_n : ∀ N, ∀ (a0 : Option Addr) (n0 c0 : Nat) (hs : List (List UInt8)) (w : World), n0 ≤ N → IsH w a0 n0 c0 hs → n0 ≤ 1000 →
    Calls Tryd.prog 31 #[.slice a0 n0 c0] w fun e w' => e = .returned (.agg (bcs (rootS hs)).toArray) ∧ Below w.heap.size w w' := by
  intro N
  induction N with
  | zero =>
    intro a0 n0 c0 hs w hN h hn
    obtain rfl : n0 = 0 := by omega
    have e0 : hs = [] := List.eq_nil_of_length_eq_zero h.len
    subst e0
    rw [rootS_nil]
    clear h hN hn
    go_enter Tryd.func31, Tryd.ntmps31
    go_wp2_with (first | (with_reducible refine wpList_alloc_blk (o := ⟨some 2, _, _, _, _, _⟩) rfl 23 rfl _ zeroHash ?_; intro w1 gr h1 b1 q1))
    refine (rsum_any none 0 0 [] _ (IsB.nilB _) (by omega)).mono ?_
    rintro e w4 ⟨rfl, b4⟩
    have R4 : Hid (w4.heap[gr]? = some (.cells (bcs (List.replicate 32 0)).toArray 23 (0, 0))) := (b4.block gr (Array.getElem?_eq_some_iff.1 h1.out).1).trans h1.out
    have B4 := b1.trans (b4.mono b1.size)
    clear b4 h1 b1
    go_wp2_with ((with_reducible refine wpList_store_blk rfl 23 _ _ rfl gr _ (bcs (sha [])).toArray ?_ ?_ _ R4 32 sizeHash (by simp [bcs_length]) (by simp [bcs_length, sha_length]) (bcs_all _) ?_); (rfl); (rfl); (intro w8 h8 b8))
    refine bodyPost_ret (v := .agg (bcs (sha [])).toArray) (results_cell_row rfl _ _ gr _ _ (0, 0) _ rfl h8.out Tryd.underlying23 rfl (by rw [sizeHash]; simp [bcs_length, sha_length])) rfl ⟨rfl, ?_⟩
    exact B4.grown b8 B4.size (fun k hk => by cases hk; omega)
  | succ N ih =>
    intro a0 n0 c0 hs w hN h hn
    rcases Nat.eq_zero_or_pos n0 with h0 | h0
    · subst h0
      have e0 : hs = [] := List.eq_nil_of_length_eq_zero h.len
      subst e0
      rw [rootS_nil]
      clear h hN hn ih
      go_enter Tryd.func31, Tryd.ntmps31
      go_wp2_with (first | (with_reducible refine wpList_alloc_blk (o := ⟨some 2, _, _, _, _, _⟩) rfl 23 rfl _ zeroHash ?_; intro w1 gr h1 b1 q1))
      refine (rsum_any none 0 0 [] _ (IsB.nilB _) (by omega)).mono ?_
      rintro e w4 ⟨rfl, b4⟩
      have R4 : Hid (w4.heap[gr]? = some (.cells (bcs (List.replicate 32 0)).toArray 23 (0, 0))) := (b4.block gr (Array.getElem?_eq_some_iff.1 h1.out).1).trans h1.out
      have B4 := b1.trans (b4.mono b1.size)
      clear b4 h1 b1
      go_wp2_with ((with_reducible refine wpList_store_blk rfl 23 _ _ rfl gr _ (bcs (sha [])).toArray ?_ ?_ _ R4 32 sizeHash (by simp [bcs_length]) (by simp [bcs_length, sha_length]) (bcs_all _) ?_); (rfl); (rfl); (intro w8 h8 b8))
      refine bodyPost_ret (v := .agg (bcs (sha [])).toArray) (results_cell_row rfl _ _ gr _ _ (0, 0) _ rfl h8.out Tryd.underlying23 rfl (by rw [sizeHash]; simp [bcs_length, sha_length])) rfl ⟨rfl, ?_⟩
      exact B4.grown b8 B4.size (fun k hk => by cases hk; omega)
    · have hl := h.len
      have H32 := Lib.hid (rootS_length hs h.all)
      have HL := Lib.hid hl
      have IH := Lib.hid ih
      clear hl ih
      by_cases hn1 : n0 = 1
      · subst hn1
        obtain ⟨a, rfl⟩ := h.has (by omega)
        have hat := h.at_ a rfl 0 (by omega)
        have hd : hs.getD 0 [] = rootS hs := by
          have hl' := h.len
          unfold rootS
          rw [Mk.root_one _ _ _ (by omega)]
          match hs, hl' with
          | [x], _ => rfl
        rw [hd] at hat
        have u24 := Tryd.underlying23
        have hat0 : AtA w a (rootS hs) := by
          have := hat
          rw [Nat.zero_mul] at this
          exact this
        clear hat hd h hN
        generalize rootS hs = r at hat0 H32
        go_enter Tryd.func31, Tryd.ntmps31
        go_wp2_with (first
          | (with_reducible refine wpList_alloc_blk (o := ⟨some 2, _, _, _, _, _⟩) rfl 23 rfl _ zeroHash ?_; intro w1 gr h1 b1 q1)
          | ((with_reducible refine wpList_load_at rfl 23 _ rfl a ?_ r (hat0.past b1) _ _ u24 (hash_size _ H32.out) ?_); (rfl))
          | ((with_reducible refine wpList_store_blk rfl 23 _ _ rfl gr _ (bcs r).toArray ?_ ?_ _ h1 32 sizeHash (by simp [bcs_length]) (by simp [bcs_length, H32.out]) (bcs_all _) ?_); (rfl); (rfl); (intro w8 h8 b8)))
        refine bodyPost_ret (v := .agg (bcs r).toArray) (results_cell_row rfl _ _ gr _ _ (0, 0) _ rfl h8.out Tryd.underlying23 rfl (by rw [sizeHash]; simp [bcs_length, H32.out])) rfl ⟨rfl, ?_⟩
        exact b1.grown b8 b1.size (fun k hk => by cases hk; omega)
      · obtain ⟨p, hp⟩ : ∃ p, p = Mk.part n0 := ⟨_, rfl⟩
        have hp1 : 1 ≤ p := by rw [hp]; exact Mk.part_pos n0
        have hp2 : p < n0 := by rw [hp]; exact Mk.part_lt (by omega)
        have hR : rootS hs = two (rootS (hs.take p)) (rootS (hs.drop p)) := by
          unfold rootS
          rw [Mk.root_more _ _ hs (by rw [HL.out]; omega), HL.out, ← hp]
        rw [hR]
        have HP := Lib.hid hp
        have LA := Lib.hid (rootS_length (hs.take p) (fun x hx => h.all x (List.mem_of_mem_take hx)))
        have LB := Lib.hid (rootS_length (hs.drop p) (fun x hx => h.all x (List.mem_of_mem_drop hx)))
        obtain ⟨aa, hcA, hIA⟩ := IsH_head h p (by omega)
        obtain ⟨ab, hcB, hIB, -⟩ := IsH_cut h p (by omega)
        have hnz : ((n0 : Int) == 0) = false := by simp; omega
        have hn1' : ((n0 : Int) == 1) = false := by simp; omega
        have CA := Lib.hid hcA
        have CB := Lib.hid hcB
        clear hp hR h
        clear hcA hcB
        go_enter Tryd.func31, Tryd.ntmps31
        go_wp2_with (first | (with_reducible refine wpList_alloc_blk (o := ⟨some 2, _, _, _, _, _⟩) rfl 23 rfl _ zeroHash ?_; intro w1 gr h1 b1 q1))
        refine (part_any n0 _ (by omega) (by omega)).mono ?_
        rintro e w' ⟨rfl, rfl⟩
        rw [← HP.out]
        go_wp2_with fail
        have hl1 : gr < w1.heap.size := (Array.getElem?_eq_some_iff.1 h1.out).1
        refine wp_region_held_drew (S := fun w' => Below w.heap.size w w') (by kernel_rfl) b1.drew (fun hHeld => ?_)
        have k0 : Below w1.heap.size w1 w1.drew := (Below.refl _ _).drew
        refine wpAnyH_take (i := 0) (v := ?_) rfl (by kernel_rfl) (by kernel_rfl) (by kernel_rfl) (fun _ _ _ h => h) (Or.inl ⟨by rfl, ?_⟩) hHeld ?_
        rotate_left 1
        focus (intro wq hSw; go_simp; try with_reducible rfl)
        try (simp only [Act.put, List.getElem_toArray, List.getElem_cons_succ, List.getElem_cons_zero, List.setIfInBounds_toArray, List.set_cons_zero, List.set_cons_succ])
        refine wpAnyH_take (i := 1) (v := ?_) rfl (by kernel_rfl) (by kernel_rfl) (by kernel_rfl) (fun _ _ _ h => h) (Or.inl ⟨by rfl, ?_⟩) hHeld ?_
        rotate_left 1
        focus (intro wq hSw; go_simp; try with_reducible rfl)
        try (simp only [Act.put, List.getElem_toArray, List.getElem_cons_succ, List.getElem_cons_zero, List.setIfInBounds_toArray, List.set_cons_zero, List.set_cons_succ])
        refine wpAnyH_take (i := 2) (v := ?_) rfl (by kernel_rfl) (by kernel_rfl) (by kernel_rfl) (fun _ _ _ h => h) (Or.inl ⟨by rfl, ?_⟩) hHeld ?_
        rotate_left 1
        focus (intro wq hSw; have hcv := CA.out wq; go_simp; try with_reducible rfl)
        try (simp only [Act.put, List.getElem_toArray, List.getElem_cons_succ, List.getElem_cons_zero, List.setIfInBounds_toArray, List.set_cons_zero, List.set_cons_succ])
        refine wpAnyH_take (i := 4) (v := ?_) rfl (by kernel_rfl) (by kernel_rfl) (by kernel_rfl) (fun _ _ _ h => h) (Or.inl ⟨by rfl, ?_⟩) hHeld ?_
        rotate_left 1
        focus (intro wq hSw; go_simp; try with_reducible rfl)
        try (simp only [Act.put, List.getElem_toArray, List.getElem_cons_succ, List.getElem_cons_zero, List.setIfInBounds_toArray, List.set_cons_zero, List.set_cons_succ])
        refine wpAnyH_take (i := 5) (v := ?_) rfl (by kernel_rfl) (by kernel_rfl) (by kernel_rfl) (fun _ _ _ h => h) (Or.inl ⟨by rfl, ?_⟩) hHeld ?_
        rotate_left 1
        focus (intro wq hSw; go_simp; try with_reducible rfl)
        try (simp only [Act.put, List.getElem_toArray, List.getElem_cons_succ, List.getElem_cons_zero, List.setIfInBounds_toArray, List.set_cons_zero, List.set_cons_succ])
        refine wpAnyH_take (i := 6) (v := ?_) rfl (by kernel_rfl) (by kernel_rfl) (by kernel_rfl) (fun _ _ _ h => h) (Or.inl ⟨by rfl, ?_⟩) hHeld ?_
        rotate_left 1
        focus (intro wq hSw; have hcv := CB.out wq; go_simp; try with_reducible rfl)
        try (simp only [Act.put, List.getElem_toArray, List.getElem_cons_succ, List.getElem_cons_zero, List.setIfInBounds_toArray, List.set_cons_zero, List.set_cons_succ])
        refine wpAnyH_ready (rs := [3]) (by kernel_rfl) (by simp) ?_
        refine AllReadyH.cons rfl (fun K hK => ?_) AllReadyH.nil
        go_simp
        go_at_call 31
        (with_reducible refine (IH.out aa p c0 (hs.take p) _ ?_ ?_ ?_).mono ?_)
        · omega
        · exact (hIA.past b1).past k0
        · omega
        rintro e wa ⟨rfl, ba⟩
        have ka := k0.trans (ba.mono k0.size)
        refine hK.out _ _ (b1.trans (ka.mono b1.size)) (fun hHeld => ?_)
        clear hK K
        try (simp only [Act.put, List.getElem_toArray, List.getElem_cons_succ, List.getElem_cons_zero, List.setIfInBounds_toArray, List.set_cons_zero, List.set_cons_succ])
        refine wpAnyH_ready (rs := [7]) (by kernel_rfl) (by simp) ?_
        refine AllReadyH.cons rfl (fun K hK => ?_) AllReadyH.nil
        go_simp
        go_at_call 31
        (with_reducible refine (IH.out ab (n0 - p) (c0 - p) (hs.drop p) _ ?_ ?_ ?_).mono ?_)
        · omega
        · exact (hIB.past b1).past ka
        · omega
        rintro e wb ⟨rfl, bb⟩
        have kb := ka.trans (bb.mono ka.size)
        refine hK.out _ _ (b1.trans (kb.mono b1.size)) (fun hHeld => ?_)
        clear hK K
        try (simp only [Act.put, List.getElem_toArray, List.getElem_cons_succ, List.getElem_cons_zero, List.setIfInBounds_toArray, List.set_cons_zero, List.set_cons_succ])
        refine wpAnyH_ready (rs := [8]) (by kernel_rfl) (by simp) ?_
        refine AllReadyH.cons rfl (fun K hK => ?_) AllReadyH.nil
        go_simp
        go_at_call 49
        (with_reducible refine (rtwo_any _ _ _ ?_ ?_).mono ?_)
        · exact LA.out
        · exact LB.out
        rintro e wc ⟨rfl, bc3⟩
        have kc := kb.trans (bc3.mono kb.size)
        refine hK.out _ _ (b1.trans (kc.mono b1.size)) (fun hHeld => ?_)
        clear hK K
        try (simp only [Act.put, List.getElem_toArray, List.getElem_cons_succ, List.getElem_cons_zero, List.setIfInBounds_toArray, List.set_cons_zero, List.set_cons_succ])
        have R4 : Hid (wc.heap[gr]? = some (.cells (bcs (List.replicate 32 0)).toArray 23 (0, 0))) := (kc.block gr hl1).trans h1.out
        have B4 := b1.trans (kc.mono b1.size)
        refine wpAnyH_ready (rs := [9]) (by kernel_rfl) (by simp) ?_
        refine AllReadyH.cons rfl (fun K hK => ?_) AllReadyH.nil
        rw [if_pos (by rfl)]
        refine wp_store_blk 23 _ _ rfl gr _ (bcs (two (rootS (hs.take p)) (rootS (hs.drop p)))).toArray rfl rfl _ R4 32 sizeHash (by simp [bcs_length]) (by simp [bcs_length, two_length]) (bcs_all _) fun w8 h8 b8 => ?_
        have B8 := B4.grown b8 B4.size (fun k hk => by cases hk; omega)
        refine hK.out _ _ B8 (fun hHeld => ?_)
        clear hK K
        try (simp only [Act.put, List.getElem_toArray, List.getElem_cons_succ, List.getElem_cons_zero, List.setIfInBounds_toArray, List.set_cons_zero, List.set_cons_succ])
        refine wpAnyH_done (by kernel_rfl) ?_ _
        go_wp2_with fail
        refine bodyPost_ret (v := .agg (bcs (two (rootS (hs.take p)) (rootS (hs.drop p)))).toArray) (results_cell_row rfl _ _ gr _ _ (0, 0) _ rfl h8.out Tryd.underlying23 rfl (by rw [sizeHash]; simp [bcs_length, two_length])) rfl ⟨rfl, B8⟩
theorem rroot_any (a0 : Option Addr) (n0 c0 : Nat) (hs : List (List UInt8)) (w : World) (h : IsH w a0 n0 c0 hs) (hn : n0 ≤ 1000) :
    Calls Tryd.prog 31 #[.slice a0 n0 c0] w fun e w' => e = .returned (.agg (bcs (rootS hs)).toArray) ∧ Below w.heap.size w w' := rroot_n n0 a0 n0 c0 hs w (Nat.le_refl _) h hn
end Go.Proofs.YtgjjpejimpiikaaDoor
