/-
  ShaSums, walked.
-/
import Derived.Test.YtlcfjiiejmnghaaDoorPieces
import Derived.Test.YtlcfjiiejmnghaaDoorOpen2
import Derived.Test.YtlcfjiiejmnghaaDoorLHex
import Derived.Test.YtlcfjiiejmnghaaDoorAppN
import Derived.Deep.RegionHeld3
namespace Go.Proofs.YtlcfjiiejmnghaaDoor
open Go.RowKit
set_option linter.unusedSimpArgs false

set_option maxRecDepth 100000 in
set_option maxHeartbeats 4000000 in
theorem sums_short (a0 : Option Addr) (n0 c0 : Nat) (ps : List (List UInt8)) (a1 : Int) (l2 : List UInt8) (w : World) (hC : RC w) (w0 : IsP w a0 n0 ps) (w2 : l2.length = 32) (h0 : n0 ≤ 10) :
    Calls Tryd.prog 3 #[.slice a0 n0 c0, .int .i64 a1, .agg (bcs l2).toArray] w fun e w' => e = .returned (.bool true) ∧ Below w.heap.size w w' := by
  have g0 : decide ((10 : Int) < (n0 : Int)) = false := by simp; omega
  have szl : Hid ((bcs l2).toArray.size = 32) := by simp [Hid, bcs_length, w2]
  have HL2 := Lib.hid w2
  have hps := w0.len
  have HPS := Lib.hid hps
  clear w2 hps
  have x0 : Hid ((w.alloc (.cells (bcs l2).toArray 24)).heap[w.heap.size]? = some (.cells (bcs l2).toArray 24 (0, 0))) := heap_alloc_new w _
  have b0 : Below w.heap.size w (w.alloc (.cells (bcs l2).toArray 24)) := (Below.refl _ _).alloc (Nat.le_refl _) _
  have r0 := hC.alloc (.cells (bcs l2).toArray 24)
  go_enter Tryd.func3, Tryd.ntmps3
  go_wp2_with fail
  refine (known2 _ r0).mono ?_
  rintro e w1 ⟨rfl, b1⟩
  have x1 : Hid (w1.heap[w.heap.size]? = some (.cells (bcs l2).toArray 24 (0, 0))) := (b1.block _ (by simp)).trans x0.out
  have B1 : Below w.heap.size w w1 := b0.trans (b1.mono (by simp))
  have hg1 : w.heap.size < w1.heap.size := (Array.getElem?_eq_some_iff.1 x1.out).1
  clear b1 b0 x0 r0
  go_wp2_with fail
  clear g0
  go_loopw [7, 8] (fun v i wq => ∃ (k m : Nat), k ≤ n0 ∧ i = .int .i64 k ∧ m ≤ k * 200 ∧ OwnN wq 5 w1.heap.size v m (ps.take k).flatten ∧ Below w1.heap.size w1 wq) (fun _ i _ => n0 - (intOf i).toNat)
  case atStart => exact ⟨0, 0, by omega, rfl, by omega, OwnN.nil _ _ _, Below.refl _ _⟩
  case round =>
    obtain ⟨k, m, hk, rfl, hm, hO, hB⟩ := hrel
    have hwr : Below w.heap.size w wr := B1.trans (hB.mono B1.size)
    have hs1 := hB.size
    by_cases hkn : k < n0
    · obtain ⟨a, rfl⟩ := w0.has (by omega)
      obtain ⟨bo, bn, bc, hc0, hB0⟩ := w0.cell a rfl k hkn
      have hc : wr.cell? (a.add k) = some (.slice bo bn bc) := by
        rw [hwr.cell (World.block_lt_of_cell? w _ hc0)]
        exact hc0
      have hI := hB0.past hwr
      have HF : Hid ((ps.take (k + 1)).flatten = (ps.take k).flatten ++ ps.getD k []) := flatten_snoc ps k (by rw [HPS.out]; omega)
      clear hc0 hB0
      generalize ps.getD k [] = p at HF hI
      by_cases hbn : bn ≤ 200
      · have g2 : decide ((200 : Int) < (bn : Int)) = false := by simp; omega
        go_wp2_with (at_builtin; refine wpList_append_on rfl (.tmp 27) (.tmp 31) 26 26 rfl 5 byteTy w1.heap.size _ m _ rfl hO hs1 _ rfl bn p (hI.src byteTy.ht) (by omega) ?_; intro v2 w3 hO3 g3)
        rw [← HF.out] at hO3
        go_roundw
        case rel => exact ⟨k + 1, m + bn, by omega, by go_num, by omega, hO3, hB.trans g3⟩
        case measure => simp [intOf]; omega
      · have g2 : decide ((200 : Int) < (bn : Int)) = true := by simp; omega
        go_wp2_with fail
        go_ret
        exact ⟨rfl, hwr⟩
    · obtain rfl : k = n0 := by omega
      have hall : (ps.take k).flatten = ps.flatten := by rw [List.take_of_length_le (by rw [HPS.out]; omega)]
      rw [hall] at hO
      obtain ⟨ao, cap, rfl, hI⟩ := hO.isB
      have hlen := hI.len
      have HL := Lib.hid hlen
      clear hall hlen hO
      obtain ⟨q, hq, hqm⟩ := wth_nat a1 (m + 1) (by omega)
      have HQ : Hid (wth a1 ((m : Int) + 1) = q) := by unfold Hid; rw [← hq]; congr 1
      clear hq
      have rng : ∀ w', Below wr.heap.size wr w' → w'.rangeAt w.heap.size 0 (bcs l2) := fun w' hb j v hv => by
        have e : w'.heap[w.heap.size]? = some (.cells (bcs l2).toArray 24 (0, 0)) := by
          rw [hb.block _ (by omega), hB.block _ hg1]
          exact x1.out
        rw [cell_of_row w' _ _ _ _ (0, 0) e, Nat.zero_add]
        simpa using hv
      have RNG := Lib.hid rng
      clear rng
      have hle : q ≤ m := by omega
      obtain ⟨aoA, hcutA, hIA⟩ := IsB_head (P := Tryd.prog) (t := 26) hI (by kernel_rfl) (fun w' => by kernel_rfl) q hle
      obtain ⟨aoB, hcutB, hIB, _⟩ := IsB_cut (P := Tryd.prog) (t := 26) hI (by kernel_rfl) (fun w' => by kernel_rfl) q hle
      have HAB : Hid ([ps.flatten.take q, ps.flatten.drop q].flatten = ps.flatten) := by unfold Hid; simp
      have HN : Hid ([ps.flatten, []].flatten = ps.flatten) := by unfold Hid; simp
      have hR0 : ∀ w', Below wr.heap.size wr w' → RC w' := fun w' hb => hC.past (hwr.trans (hb.mono hwr.size))
      have HR0 := Lib.hid hR0
      clear hR0
      have heq := equal_sha
      have u24 := Tryd.underlying24
      have sz24 : (Tryd.prog.info? 24).map (·.size) = some (bcs l2).length := by rw [bcs_length, HL2.out]; exact sizeHash
      have on24 : ∀ v ∈ bcs l2, v.oneCell' = true := bcs_one l2
      go_wp2_with fail
      refine (within2_any a1 ((m : Int) + 1) _ (by omega) (by omega)).mono ?_
      rintro e w' ⟨rfl, rfl⟩
      rw [HQ.out]
      go_wp2_with fail
      have k0 : Below wr.heap.size wr wr.drew := (Below.refl _ _).drew
      have z0 := RNG.out _ k0
      refine wp_region_held_drew (S := fun w' => w'.rangeAt w.heap.size 0 (bcs l2)) (by kernel_rfl) z0 (fun hHeld => ?_)
      refine wpAnyH_take (i := 0) (v := ?_) rfl (by kernel_rfl) (by kernel_rfl) (by kernel_rfl) (fun _ _ _ h => h) (Or.inl ⟨by rfl, ?_⟩) hHeld ?_
      rotate_left 1
      focus (intro wq hSw; go_simp; try with_reducible rfl)
      try (simp only [Act.put, List.getElem_toArray, List.getElem_cons_succ, List.getElem_cons_zero, List.setIfInBounds_toArray, List.set_cons_zero, List.set_cons_succ])
      refine wpAnyH_take (i := 2) (v := ?_) rfl (by kernel_rfl) (by kernel_rfl) (by kernel_rfl) (fun _ _ _ h => h) (Or.inl ⟨by rfl, ?_⟩) hHeld ?_
      rotate_left 1
      focus (intro wq hSw; go_simp; try with_reducible rfl)
      try (simp only [Act.put, List.getElem_toArray, List.getElem_cons_succ, List.getElem_cons_zero, List.setIfInBounds_toArray, List.set_cons_zero, List.set_cons_succ])
      refine wpAnyH_ready (rs := [1]) (by kernel_rfl) (by simp) ?_
      refine AllReadyH.cons rfl (fun K hK => ?_) AllReadyH.nil
      go_simp
      go_at_call 18
      (with_reducible refine (sum_any a0 k c0 ps _ ?_ ?_ ?_ ?_).mono ?_)
      · exact HR0.out _ k0
      · exact w0.past (hwr.trans (k0.mono hwr.size))
      · omega
      · rw [HL.out]; omega
      rintro e wa ⟨rfl, ba⟩
      have k1 := k0.trans (ba.mono k0.size)
      refine hK.out _ _ (RNG.out _ k1) (fun hHeld => ?_)
      clear hK K
      try (simp only [Act.put, List.getElem_toArray, List.getElem_cons_succ, List.getElem_cons_zero, List.setIfInBounds_toArray, List.set_cons_zero, List.set_cons_succ])
      refine wpAnyH_ready (rs := [3]) (by kernel_rfl) (by simp) ?_
      refine AllReadyH.cons rfl (fun K hK => ?_) AllReadyH.nil
      go_simp
      go_at_call 19
      (with_reducible refine (rsum_any ao m cap ps.flatten _ ?_ ?_).mono ?_)
      · exact hI.past k1
      · omega
      rintro e wb ⟨rfl, bb⟩
      have k2 := k1.trans (bb.mono k1.size)
      refine hK.out _ _ (RNG.out _ k2) (fun hHeld => ?_)
      clear hK K
      try (simp only [Act.put, List.getElem_toArray, List.getElem_cons_succ, List.getElem_cons_zero, List.setIfInBounds_toArray, List.set_cons_zero, List.set_cons_succ])
      refine wpAnyH_take (i := 4) (v := ?_) rfl (by kernel_rfl) (by kernel_rfl) (by kernel_rfl) (fun _ _ _ h => h) (Or.inl ⟨by rfl, ?_⟩) hHeld ?_
      rotate_left 1
      focus (intro wq hSw; go_simp; try with_reducible rfl)
      try (simp only [Act.put, List.getElem_toArray, List.getElem_cons_succ, List.getElem_cons_zero, List.setIfInBounds_toArray, List.set_cons_zero, List.set_cons_succ])
      refine wpAnyH_take (i := 5) (v := ?_) rfl (by kernel_rfl) (by kernel_rfl) (by kernel_rfl) (fun _ _ _ h => h) (Or.inl ⟨by rfl, ?_⟩) hHeld ?_
      rotate_left 1
      focus (intro wq hSw; go_simp; try with_reducible rfl)
      try (simp only [Act.put, List.getElem_toArray, List.getElem_cons_succ, List.getElem_cons_zero, List.setIfInBounds_toArray, List.set_cons_zero, List.set_cons_succ])
      refine wpAnyH_take (i := 6) (v := ?_) rfl (by kernel_rfl) (by kernel_rfl) (by kernel_rfl) (fun _ _ _ h => h) (Or.inl ⟨by rfl, ?_⟩) hHeld ?_
      rotate_left 1
      focus (intro wq hSw; go_simp; try with_reducible rfl)
      try (simp only [Act.put, List.getElem_toArray, List.getElem_cons_succ, List.getElem_cons_zero, List.setIfInBounds_toArray, List.set_cons_zero, List.set_cons_succ])
      refine wpAnyH_take (i := 7) (v := ?_) rfl (by kernel_rfl) (by kernel_rfl) (by kernel_rfl) (fun _ _ _ h => h) (Or.inl ⟨by rfl, ?_⟩) hHeld ?_
      rotate_left 1
      focus (intro wq hSw; go_simp; try with_reducible rfl)
      try (simp only [Act.put, List.getElem_toArray, List.getElem_cons_succ, List.getElem_cons_zero, List.setIfInBounds_toArray, List.set_cons_zero, List.set_cons_succ])
      refine wpAnyH_take (i := 8) (v := ?_) rfl (by kernel_rfl) (by kernel_rfl) (by kernel_rfl) (fun _ _ _ h => h) (Or.inl ⟨by rfl, ?_⟩) hHeld ?_
      rotate_left 1
      focus (intro wq hSw; go_simp; try with_reducible rfl)
      try (simp only [Act.put, List.getElem_toArray, List.getElem_cons_succ, List.getElem_cons_zero, List.setIfInBounds_toArray, List.set_cons_zero, List.set_cons_succ])
      refine wpAnyH_take (i := 9) (v := ?_) rfl (by kernel_rfl) (by kernel_rfl) (by kernel_rfl) (fun _ _ _ h => h) (Or.inl ⟨by rfl, ?_⟩) hHeld ?_
      rotate_left 1
      focus (intro wq hSw; go_simp; try with_reducible rfl)
      try (simp only [Act.put, List.getElem_toArray, List.getElem_cons_succ, List.getElem_cons_zero, List.setIfInBounds_toArray, List.set_cons_zero, List.set_cons_succ])
      refine wpAnyH_take (i := 10) (v := ?_) rfl (by kernel_rfl) (by kernel_rfl) (by kernel_rfl) (fun _ _ _ h => h) (Or.inl ⟨by rfl, ?_⟩) hHeld ?_
      rotate_left 1
      focus (intro wq hSw; go_simp; try with_reducible rfl)
      try (simp only [Act.put, List.getElem_toArray, List.getElem_cons_succ, List.getElem_cons_zero, List.setIfInBounds_toArray, List.set_cons_zero, List.set_cons_succ])
      refine wpAnyH_take (i := 11) (v := ?_) rfl (by kernel_rfl) (by kernel_rfl) (by kernel_rfl) (fun _ _ _ h => h) (Or.inl ⟨by rfl, ?_⟩) hHeld ?_
      rotate_left 1
      focus (intro wq hSw; go_simp; try with_reducible rfl)
      try (simp only [Act.put, List.getElem_toArray, List.getElem_cons_succ, List.getElem_cons_zero, List.setIfInBounds_toArray, List.set_cons_zero, List.set_cons_succ])
      refine wpAnyH_take (i := 14) (v := ?_) rfl (by kernel_rfl) (by kernel_rfl) (by kernel_rfl) (fun _ _ _ h => h) (Or.inl ⟨by rfl, ?_⟩) hHeld ?_
      rotate_left 1
      focus (intro wq hSw; go_simp; try with_reducible rfl)
      try (simp only [Act.put, List.getElem_toArray, List.getElem_cons_succ, List.getElem_cons_zero, List.setIfInBounds_toArray, List.set_cons_zero, List.set_cons_succ])
      refine wpAnyH_ready (rs := [12]) (by kernel_rfl) (by simp) ?_
      refine AllReadyH.cons rfl (fun K hK => ?_) AllReadyH.nil
      go_simp
      refine hK.out _ _ (RNG.out _ (k2.alloc k2.size _)) (fun hHeld => ?_)
      clear hK K
      try (simp only [Act.put, List.getElem_toArray, List.getElem_cons_succ, List.getElem_cons_zero, List.setIfInBounds_toArray, List.set_cons_zero, List.set_cons_succ])
      refine wpAnyH_ready (rs := [13]) (by kernel_rfl) (by simp) ?_
      refine AllReadyH.cons rfl (fun K hK => ?_) AllReadyH.nil
      go_simp
      go_at_call 18
      (with_reducible refine (sum_any (some ⟨wb.heap.size, 0, none⟩) 2 2 [ps.flatten.take q, ps.flatten.drop q] _ ?_ ?_ ?_ ?_).mono ?_)
      · exact HR0.out _ (k2.alloc k2.size _)
      · exact isP_two wb _ aoA q cap _ (hIA.past k2) aoB (m - q) (cap - q) _ (hIB.past k2)
      · omega
      · rw [HAB.out, HL.out]; omega
      rw [HAB.out]
      rintro e wc ⟨rfl, bc⟩
      have k3 := (k2.alloc k2.size _).trans (bc.mono (by have := k2.size; simp; omega))
      refine hK.out _ _ (RNG.out _ k3) (fun hHeld => ?_)
      clear hK K
      try (simp only [Act.put, List.getElem_toArray, List.getElem_cons_succ, List.getElem_cons_zero, List.setIfInBounds_toArray, List.set_cons_zero, List.set_cons_succ])
      refine wpAnyH_ready (rs := [15]) (by kernel_rfl) (by simp) ?_
      refine AllReadyH.cons rfl (fun K hK => ?_) AllReadyH.nil
      go_simp
      go_at_call 19
      (with_reducible refine (rsum_any ao m cap ps.flatten _ ?_ ?_).mono ?_)
      · exact hI.past k3
      · omega
      rintro e wd ⟨rfl, bd⟩
      have k4 := k3.trans (bd.mono k3.size)
      refine hK.out _ _ (RNG.out _ k4) (fun hHeld => ?_)
      clear hK K
      try (simp only [Act.put, List.getElem_toArray, List.getElem_cons_succ, List.getElem_cons_zero, List.setIfInBounds_toArray, List.set_cons_zero, List.set_cons_succ])
      refine wpAnyH_take (i := 16) (v := ?_) rfl (by kernel_rfl) (by kernel_rfl) (by kernel_rfl) (fun _ _ _ h => h) (Or.inl ⟨by rfl, ?_⟩) hHeld ?_
      rotate_left 1
      focus (intro wq hSw; go_simp; try with_reducible rfl)
      try (simp only [Act.put, List.getElem_toArray, List.getElem_cons_succ, List.getElem_cons_zero, List.setIfInBounds_toArray, List.set_cons_zero, List.set_cons_succ])
      refine wpAnyH_take (i := 17) (v := ?_) rfl (by kernel_rfl) (by kernel_rfl) (by kernel_rfl) (fun _ _ _ h => h) (Or.inl ⟨by rfl, ?_⟩) hHeld ?_
      rotate_left 1
      focus (intro wq hSw; go_simp; try with_reducible rfl)
      try (simp only [Act.put, List.getElem_toArray, List.getElem_cons_succ, List.getElem_cons_zero, List.setIfInBounds_toArray, List.set_cons_zero, List.set_cons_succ])
      refine wpAnyH_take (i := 18) (v := ?_) rfl (by kernel_rfl) (by kernel_rfl) (by kernel_rfl) (fun _ _ _ h => h) (Or.inl ⟨by rfl, ?_⟩) hHeld ?_
      rotate_left 1
      focus (intro wq hSw; go_simp; try with_reducible rfl)
      try (simp only [Act.put, List.getElem_toArray, List.getElem_cons_succ, List.getElem_cons_zero, List.setIfInBounds_toArray, List.set_cons_zero, List.set_cons_succ])
      refine wpAnyH_take (i := 19) (v := ?_) rfl (by kernel_rfl) (by kernel_rfl) (by kernel_rfl) (fun _ _ _ h => h) (Or.inl ⟨by rfl, ?_⟩) hHeld ?_
      rotate_left 1
      focus (intro wq hSw; go_simp; try with_reducible rfl)
      try (simp only [Act.put, List.getElem_toArray, List.getElem_cons_succ, List.getElem_cons_zero, List.setIfInBounds_toArray, List.set_cons_zero, List.set_cons_succ])
      refine wpAnyH_take (i := 22) (v := ?_) rfl (by kernel_rfl) (by kernel_rfl) (by kernel_rfl) (fun _ _ _ h => h) (Or.inl ⟨by rfl, ?_⟩) hHeld ?_
      rotate_left 1
      focus (intro wq hSw; go_simp; try with_reducible rfl)
      try (simp only [Act.put, List.getElem_toArray, List.getElem_cons_succ, List.getElem_cons_zero, List.setIfInBounds_toArray, List.set_cons_zero, List.set_cons_succ])
      refine wpAnyH_ready (rs := [20]) (by kernel_rfl) (by simp) ?_
      refine AllReadyH.cons rfl (fun K hK => ?_) AllReadyH.nil
      go_simp
      refine hK.out _ _ (RNG.out _ (k4.alloc k4.size _)) (fun hHeld => ?_)
      clear hK K
      try (simp only [Act.put, List.getElem_toArray, List.getElem_cons_succ, List.getElem_cons_zero, List.setIfInBounds_toArray, List.set_cons_zero, List.set_cons_succ])
      refine wpAnyH_ready (rs := [21]) (by kernel_rfl) (by simp) ?_
      refine AllReadyH.cons rfl (fun K hK => ?_) AllReadyH.nil
      go_simp
      go_at_call 18
      (with_reducible refine (sum_any (some ⟨wd.heap.size, 0, none⟩) 2 2 [ps.flatten, []] _ ?_ ?_ ?_ ?_).mono ?_)
      · exact HR0.out _ (k4.alloc k4.size _)
      · exact isP_two wd _ ao m cap _ (hI.past k4) none 0 0 [] (IsB.nilB _)
      · omega
      · rw [HN.out, HL.out]; omega
      rw [HN.out]
      rintro e we ⟨rfl, be⟩
      have k5 := (k4.alloc k4.size _).trans (be.mono (by have := k4.size; simp; omega))
      refine hK.out _ _ (RNG.out _ k5) (fun hHeld => ?_)
      clear hK K
      try (simp only [Act.put, List.getElem_toArray, List.getElem_cons_succ, List.getElem_cons_zero, List.setIfInBounds_toArray, List.set_cons_zero, List.set_cons_succ])
      refine wpAnyH_ready (rs := [23]) (by kernel_rfl) (by simp) ?_
      refine AllReadyH.cons rfl (fun K hK => ?_) AllReadyH.nil
      go_simp
      go_at_call 19
      (with_reducible refine (rsum_any ao m cap ps.flatten _ ?_ ?_).mono ?_)
      · exact hI.past k5
      · omega
      rintro e wf ⟨rfl, bf⟩
      have k6 := k5.trans (bf.mono k5.size)
      refine hK.out _ _ (RNG.out _ k6) (fun hHeld => ?_)
      clear hK K
      try (simp only [Act.put, List.getElem_toArray, List.getElem_cons_succ, List.getElem_cons_zero, List.setIfInBounds_toArray, List.set_cons_zero, List.set_cons_succ])
      refine wpAnyH_take (i := 24) (v := ?_) rfl (by kernel_rfl) (by kernel_rfl) (by kernel_rfl) (fun _ _ _ h => h) (Or.inl ⟨by rfl, ?_⟩) hHeld ?_
      rotate_left 1
      focus (intro wq hSw; go_simp; try with_reducible rfl)
      try (simp only [Act.put, List.getElem_toArray, List.getElem_cons_succ, List.getElem_cons_zero, List.setIfInBounds_toArray, List.set_cons_zero, List.set_cons_succ])
      refine wpAnyH_take (i := 25) (v := ?_) rfl (by kernel_rfl) (by kernel_rfl) (by kernel_rfl) (fun _ _ _ h => h) (Or.inl ⟨by rfl, ?_⟩) hHeld ?_
      rotate_left 1
      focus (intro wq hSw; go_simp; try with_reducible rfl)
      try (simp only [Act.put, List.getElem_toArray, List.getElem_cons_succ, List.getElem_cons_zero, List.setIfInBounds_toArray, List.set_cons_zero, List.set_cons_succ])
      refine wpAnyH_take (i := 26) (v := ?_) rfl (by kernel_rfl) (by kernel_rfl) (by kernel_rfl) (fun _ _ _ h => h) (Or.inl ⟨by rfl, ?_⟩) hHeld ?_
      rotate_left 1
      focus (intro wq hSw; go_simp; try with_reducible rfl)
      try (simp only [Act.put, List.getElem_toArray, List.getElem_cons_succ, List.getElem_cons_zero, List.setIfInBounds_toArray, List.set_cons_zero, List.set_cons_succ])
      refine wpAnyH_take (i := 27) (v := .agg (bcs l2).toArray) rfl (by kernel_rfl) (by kernel_rfl) (by kernel_rfl) (fun _ _ _ h => h) (yieldsIf_load_mid (by rfl) 24 _ rfl w.heap.size 0 rfl (bcs l2) _ (fun _ h => h) u24 rfl sz24) hHeld ?_
      try (simp only [Act.put, List.getElem_toArray, List.getElem_cons_succ, List.getElem_cons_zero, List.setIfInBounds_toArray, List.set_cons_zero, List.set_cons_succ])
      refine wpAnyH_take (i := 29) (v := .agg (bcs l2).toArray) rfl (by kernel_rfl) (by kernel_rfl) (by kernel_rfl) (fun _ _ _ h => h) (yieldsIf_load_mid (by rfl) 24 _ rfl w.heap.size 0 rfl (bcs l2) _ (fun _ h => h) u24 rfl sz24) hHeld ?_
      try (simp only [Act.put, List.getElem_toArray, List.getElem_cons_succ, List.getElem_cons_zero, List.setIfInBounds_toArray, List.set_cons_zero, List.set_cons_succ])
      refine wpAnyH_ready (rs := [28]) (by kernel_rfl) (by simp) ?_
      refine AllReadyH.cons rfl (fun K hK => ?_) AllReadyH.nil
      go_simp
      go_at_call 20
      (with_reducible refine (hex_any l2 _ HL2.out).mono ?_)
      rintro e wg ⟨rfl, bg⟩
      have k7 := k6.trans (bg.mono k6.size)
      refine hK.out _ _ (RNG.out _ k7) (fun hHeld => ?_)
      clear hK K
      try (simp only [Act.put, List.getElem_toArray, List.getElem_cons_succ, List.getElem_cons_zero, List.setIfInBounds_toArray, List.set_cons_zero, List.set_cons_succ])
      refine wpAnyH_ready (rs := [30]) (by kernel_rfl) (by simp) ?_
      refine AllReadyH.cons rfl (fun K hK => ?_) AllReadyH.nil
      go_simp
      go_at_call 21
      (with_reducible refine (rhex_any l2 _ HL2.out).mono ?_)
      rintro e wh ⟨rfl, bh⟩
      have k8 := k7.trans (bh.mono k7.size)
      refine hK.out _ _ (RNG.out _ k8) (fun hHeld => ?_)
      clear hK K
      try (simp only [Act.put, List.getElem_toArray, List.getElem_cons_succ, List.getElem_cons_zero, List.setIfInBounds_toArray, List.set_cons_zero, List.set_cons_succ])
      refine wpAnyH_take (i := 31) (v := ?_) rfl (by kernel_rfl) (by kernel_rfl) (by kernel_rfl) (fun _ _ _ h => h) (Or.inl ⟨by rfl, ?_⟩) hHeld ?_
      rotate_left 1
      focus (intro wq hSw; go_simp; try with_reducible rfl)
      try (simp only [Act.put, List.getElem_toArray, List.getElem_cons_succ, List.getElem_cons_zero, List.setIfInBounds_toArray, List.set_cons_zero, List.set_cons_succ])
      refine wpAnyH_take (i := 32) (v := ?_) rfl (by kernel_rfl) (by kernel_rfl) (by kernel_rfl) (fun _ _ _ h => h) (Or.inl ⟨by rfl, ?_⟩) hHeld ?_
      rotate_left 1
      focus (intro wq hSw; go_simp; try with_reducible rfl)
      try (simp only [Act.put, List.getElem_toArray, List.getElem_cons_succ, List.getElem_cons_zero, List.setIfInBounds_toArray, List.set_cons_zero, List.set_cons_succ])
      refine wpAnyH_take (i := 33) (v := ?_) rfl (by kernel_rfl) (by kernel_rfl) (by kernel_rfl) (fun _ _ _ h => h) (Or.inl ⟨by rfl, ?_⟩) hHeld ?_
      rotate_left 1
      focus (intro wq hSw; go_simp; try with_reducible rfl)
      try (simp only [Act.put, List.getElem_toArray, List.getElem_cons_succ, List.getElem_cons_zero, List.setIfInBounds_toArray, List.set_cons_zero, List.set_cons_succ])
      refine wpAnyH_done (by kernel_rfl) ?_ _
      have BF := hwr.trans (k8.mono hwr.size)
      clear k0 k1 k2 k3 k4 k5 k6 k7 k8
      go_wp2_with fail
      go_ret
      exact ⟨rfl, BF⟩

set_option maxRecDepth 100000 in
set_option maxHeartbeats 1000000 in
theorem shaSums_walk (a0 : Option Addr) (n0 c0 : Nat) (ps : List (List UInt8)) (a1 : Int) (l2 : List UInt8) (w : World) (hC : RC w) (w0 : IsP w a0 n0 ps ∧ n0 ≤ maxLen ∧ ∀ l ∈ ps, l.length ≤ maxLen) (_w1 : (Lit.int .i64 a1).wf = true) (w2 : l2.length = 32) :
    Calls Tryd.prog 3 #[.slice a0 n0 c0, .int .i64 a1, .agg (bcs l2).toArray] w fun e w' => e = .returned (.bool true) ∧ Below w.heap.size w w' := by
  by_cases h0 : n0 ≤ 10
  · exact sums_short a0 n0 c0 ps a1 l2 w hC w0.1 w2 h0
  · have g0 : decide ((10 : Int) < (n0 : Int)) = true := by simp; omega
    have hm := w0.2.1
    unfold maxLen at hm
    have b0 : Below w.heap.size w (w.alloc (.cells (bcs l2).toArray 24)) := (Below.refl _ _).alloc (Nat.le_refl _) _
    have r0 := hC.alloc (.cells (bcs l2).toArray 24)
    clear w0 w2
    go_enter Tryd.func3, Tryd.ntmps3
    go_wp2_with fail
    refine (known2 _ r0).mono ?_
    rintro e w1 ⟨rfl, b1⟩
    have B1 : Below w.heap.size w w1 := b0.trans (b1.mono (by simp))
    clear b0 b1 r0
    go_wp2_with fail
    go_ret
    exact ⟨rfl, B1⟩
end Go.Proofs.YtlcfjiiejmnghaaDoor
