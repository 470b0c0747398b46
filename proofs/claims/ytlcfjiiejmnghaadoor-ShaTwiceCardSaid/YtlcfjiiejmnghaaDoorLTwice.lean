/-
  ShaTwice, walked.
-/
import Derived.Test.YtlcfjiiejmnghaaDoorHs
import Derived.Test.YtlcfjiiejmnghaaDoorOpen2
import Derived.Deep.RegionHeld3
namespace Go.Proofs.YtlcfjiiejmnghaaDoor
open Go.RowKit
set_option linter.unusedSimpArgs false

theorem shas_snoc (ps : List (List UInt8)) (k : Nat) (hk : k < ps.length) : (ps.take (k + 1)).map sha = (ps.take k).map sha ++ [sha (ps.getD k [])] := by
  have e : ps.getD k [] = ps[k] := by simp [List.getD, hk]
  rw [List.take_add_one, List.map_append, e, List.getElem?_eq_getElem hk]
  rfl
theorem shas_get (ps : List (List UInt8)) (k q : Nat) (hq : q < k) (hk : k ≤ ps.length) : ((ps.take k).map sha).getD q [] = sha (ps.getD q []) := by
  simp [List.getD, hq, show q < ps.length by omega]
set_option maxRecDepth 100000 in
set_option maxHeartbeats 4000000 in
theorem shaTwice_walk (a0 : Option Addr) (n0 c0 : Nat) (ps : List (List UInt8)) (w : World) (hC : RC w) (w0' : IsP w a0 n0 ps ∧ n0 ≤ maxLen ∧ ∀ l ∈ ps, l.length ≤ maxLen) :
    Calls Tryd.prog 5 #[.slice a0 n0 c0] w fun e w' => e = .returned (.bool true) ∧ Below w.heap.size w w' := by
  obtain ⟨w0, hmax, -⟩ := w0'
  unfold maxLen at hmax
  have hps := w0.len
  have HPS := Lib.hid hps
  clear hps
  go_enter Tryd.func5, Tryd.ntmps5
  go_wp2_with fail
  refine (known2 _ hC).mono ?_
  rintro e w1 ⟨rfl, B1⟩
  go_wp2_with fail
  go_loopw [3, 4] (fun v i wq => ∃ (k : Nat), k ≤ n0 ∧ k ≤ 10 ∧ i = .int .i64 k ∧ OwnH wq w.heap.size v k ((ps.take k).map sha) ∧ Hid (∀ j, j < k → (ps.getD j []).length ≤ 300) ∧ Below w.heap.size w wq) (fun _ i _ => 10 - (intOf i).toNat)
  case atStart => exact ⟨0, by omega, by omega, rfl, OwnH.nil _ _, fun j hj => by omega, B1⟩
  case round =>
    clear B1
    obtain ⟨k, hk, hk10, rfl, hO, H3, hB⟩ := hrel
    have hs1 := hB.size
    by_cases hkn : k < n0 ∧ k < 10
    · obtain ⟨hk1, hk2⟩ := hkn
      obtain ⟨a, rfl⟩ := w0.has (by omega)
      obtain ⟨bo, bn, bc', hc0, hB0⟩ := w0.cell a rfl k hk1
      have hc : wr.cell? (a.add k) = some (.slice bo bn bc') := by
        rw [hB.cell (World.block_lt_of_cell? w _ hc0)]
        exact hc0
      have hI := hB0.past hB
      have hlen := hB0.len
      have HF : Hid ((ps.take (k + 1)).map sha = (ps.take k).map sha ++ [sha (ps.getD k [])]) := shas_snoc ps k (by rw [HPS.out]; exact hk1)
      have HP : Hid (ps.getD k [] = ps.getD k []) := rfl
      clear hc0 hB0
      generalize hp : ps.getD k [] = p at HF hI hlen
      have HPp := Lib.hid hp
      clear hp HP
      have HLEN := Lib.hid hlen
      clear hlen
      by_cases hbn : bn ≤ 300
      · have g2 : decide ((300 : Int) < (bn : Int)) = false := by simp; omega
        have hR : RC wr := hC.past hB
        go_wp2_with fail
        refine (sum_any _ 1 1 [p] _ (hR.alloc _) (isP_one _ _ _ _ _ p hI) (by omega) (by rw [one_flat, HLEN.out]; omega)).mono ?_
        rintro e w3 ⟨rfl, b3⟩
        rw [one_flat]
        have k3 : Below wr.heap.size wr w3 := ((Below.refl _ _).alloc (Nat.le_refl _) _).trans (b3.mono (by simp))
        have O3 := hO.past k3
        have B3 : Below w.heap.size w w3 := hB.trans (k3.mono hs1)
        clear b3 hR g2 hI
        have hs3 := B3.size
        go_wp2_with (first
          | ((with_reducible refine wpList_buildSlice_hs rfl 1 _ rfl [sha p] rfl ?_ (by omega) (by omega) ?_ ?_); (simp [sha_length]); (simp only [List.map_toArray, List.map_cons, List.map_nil]; rfl); (intro w5 _ I5 b5; have O5 := O3.past b5; have hs5 := b5.size))
          | (at_builtin; refine wpList_append_hs rfl (.tmp 25) (.tmp 32) rfl w.heap.size (by omega) _ k _ rfl O5 ⟨w3.heap.size, 0, none⟩ 1 1 [sha p] rfl I5 (by omega) ?_; intro v2 w4 hO4 g4))
        rw [← HF.out] at hO4
        have B4 := O5.step (B3.trans (b5.mono hs3)) (by omega) (Nat.le_refl _) g4
        clear g4 O3 B3 k3 O5 I5 b5
        go_roundw
        case rel =>
          refine ⟨k + 1, by omega, by omega, by go_num, hO4, fun j hj => ?_, B4⟩
          by_cases hjk : j < k
          · exact H3.out j hjk
          · obtain rfl : j = k := by omega
            rw [HPp.out, HLEN.out]
            exact hbn
        case measure => simp [intOf]; omega
      · have g2 : decide ((300 : Int) < (bn : Int)) = true := by simp; omega
        go_wp2_with fail
        go_ret
        exact ⟨rfl, hB⟩
    · obtain ⟨ao, cap, rfl, hH, -⟩ := hO.isH
      have heq := equal_sha
      have u24 := Tryd.underlying24
      obtain ⟨wo, rfl⟩ : ∃ wo : World, wo = wr := ⟨_, rfl⟩
      clear hO
      have fin : ∀ q, q < k → ∃ (a2 : Addr) (bo : Option Addr) (bn bc' : Nat) (p : List UInt8), ao = some a2 ∧ AtA wo (a2.add (q * 32)) (sha p) ∧ (∃ a, a0 = some a ∧ wo.cell? (a.add q) = some (.slice bo bn bc')) ∧ IsB wo bo bn bc' p ∧ p.length = bn ∧ bn ≤ 300 := fun q hq => by
        obtain ⟨a2, rfl⟩ := hH.has (by omega)
        obtain ⟨a, rfl⟩ := w0.has (by omega)
        obtain ⟨bo, bn, bc', hc0, hB0⟩ := w0.cell a rfl q (by omega)
        have h1 := hH.at_ a2 rfl q hq
        rw [shas_get ps k q hq (by rw [HPS.out]; exact hk)] at h1
        have h3 := H3.out q hq
        have h4 := hB0.len
        refine ⟨a2, bo, bn, bc', ps.getD q [], rfl, h1, ⟨a, rfl, ?_⟩, hB0.past hB, h4, by omega⟩
        rw [hB.cell (World.block_lt_of_cell? w _ hc0)]
        exact hc0
      have FIN := Lib.hid fin
      clear fin hH H3 HPS w0
      have cst := Tryd.underlying9
      have Cst := Lib.hid cst
      clear cst
      rcases Nat.lt_or_ge k n0 with hk1 | hk1
      all_goals
        first | (have hk2 : k = 10 := by omega) | (have hk2 : k = n0 := by omega)
        have HK2 := Lib.hid hk2
        clear hk2
        have hn0 : k ≤ 10 := hk10
        go_wp2_with fail
        go_loopw [5] (fun i wq => ∃ m : Nat, m ≤ k ∧ i = .int .i64 ((m : Int) - 1) ∧ Below wo.heap.size wo wq) (fun i _ => (intOf i + 1).toNat)
        case atStart => exact ⟨k, Nat.le_refl _, by go_num, Below.refl _ _⟩
        case round =>
          obtain ⟨m, hm, rfl, hBq⟩ := hrel
          have hBw : Below w.heap.size w wr := hB.trans (hBq.mono hs1)
          by_cases hm0 : 0 < m
          · obtain ⟨q, rfl⟩ : ∃ q : Nat, m = q + 1 := ⟨m - 1, by omega⟩
            have eq1 : (((q + 1 : Nat) : Int) - 1) = q := by omega
            simp only [eq1]
            clear eq1
            obtain ⟨a2, bo, bn, bc', p, rfl, hAt0, ⟨a, rfl, hc0⟩, hI0, hpl, hbn⟩ := FIN.out q (by omega)
            have hAt := hAt0.past hBq
            have hIq := hI0.past hBq
            have HLEN := Lib.hid hpl
            have hcq : wr.cell? (a.add q) = some (.slice bo bn bc') := by
              rw [hBq.cell (World.block_lt_of_cell? wo _ hc0)]
              exact hc0
            have cellq : ∀ w' : World, Below wr.heap.size wr w' → w'.cell? (a.add q) = some (.slice bo bn bc') := fun w' hb => by
              rw [hb.cell (World.block_lt_of_cell? wr _ hcq)]
              exact hcq
            have convq : ∀ w' : World, Below wr.heap.size wr w' → (convert 26 9 (.slice bo bn bc')).run Tryd.prog w' = .ok (.string ⟨p.toArray⟩) w' := fun w' hb => (hIq.past hb).conv byteTy Cst.out
            have cv := hIq.conv byteTy Cst.out
            have CELLQ := Lib.hid cellq
            have CONVQ := Lib.hid convq
            have hR2 : RC wr := hC.past hBw
            have hqn : (q : Int) < n0 := by omega
            have hqk : (q : Int) < k := by omega
            clear hAt0 hI0 hpl hc0 cellq convq hm hm0
            go_wp2_with fail
            clear cv hcq
            refine wp_region_held_drew (S := fun w' => Below wr.heap.size wr w') (by kernel_rfl) ((Below.refl _ _).drew) (fun hHeld => ?_)
            refine wpAnyH_take (i := 0) (v := ?_) rfl (by kernel_rfl) (by kernel_rfl) (by kernel_rfl) (fun _ _ _ h => h) (Or.inl ⟨by rfl, ?_⟩) hHeld ?_
            rotate_left 1
            focus (intro wq hSw; go_simp; try with_reducible rfl)
            try (simp only [Act.put, List.getElem_toArray, List.getElem_cons_succ, List.getElem_cons_zero, List.setIfInBounds_toArray, List.set_cons_zero, List.set_cons_succ])
            refine wpAnyH_take (i := 1) (v := ?_) rfl (by kernel_rfl) (by kernel_rfl) (by kernel_rfl) (fun _ _ _ h => h) (Or.inl ⟨by rfl, ?_⟩) hHeld ?_
            rotate_left 1
            focus (intro wq hSw; go_simp; try with_reducible rfl)
            try (simp only [Act.put, List.getElem_toArray, List.getElem_cons_succ, List.getElem_cons_zero, List.setIfInBounds_toArray, List.set_cons_zero, List.set_cons_succ])
            refine wpAnyH_take (i := 2) (v := ?_) rfl (by kernel_rfl) (by kernel_rfl) (by kernel_rfl) (fun _ _ _ h => h) (Or.inl ⟨by rfl, ?_⟩) hHeld ?_
            rotate_left 1
            focus (intro wq hSw; go_simp; try with_reducible rfl)
            try (simp only [Act.put, List.getElem_toArray, List.getElem_cons_succ, List.getElem_cons_zero, List.setIfInBounds_toArray, List.set_cons_zero, List.set_cons_succ])
            refine wpAnyH_take (i := 3) (v := ?_) rfl (by kernel_rfl) (by kernel_rfl) (by kernel_rfl) (fun _ _ _ h => h) (Or.inl ⟨by rfl, ?_⟩) hHeld ?_
            rotate_left 1
            focus (intro wq hSw; have hcv := CELLQ.out wq hSw; go_simp; try with_reducible rfl)
            try (simp only [Act.put, List.getElem_toArray, List.getElem_cons_succ, List.getElem_cons_zero, List.setIfInBounds_toArray, List.set_cons_zero, List.set_cons_succ])
            refine wpAnyH_take (i := 6) (v := ?_) rfl (by kernel_rfl) (by kernel_rfl) (by kernel_rfl) (fun _ _ _ h => h) (Or.inl ⟨by rfl, ?_⟩) hHeld ?_
            rotate_left 1
            focus (intro wq hSw; go_simp; try with_reducible rfl)
            try (simp only [Act.put, List.getElem_toArray, List.getElem_cons_succ, List.getElem_cons_zero, List.setIfInBounds_toArray, List.set_cons_zero, List.set_cons_succ])
            refine wpAnyH_take (i := 7) (v := ?_) rfl (by kernel_rfl) (by kernel_rfl) (by kernel_rfl) (fun _ _ _ h => h) (Or.inl ⟨by rfl, ?_⟩) hHeld ?_
            rotate_left 1
            focus (intro wq hSw; go_simp; try with_reducible rfl)
            try (simp only [Act.put, List.getElem_toArray, List.getElem_cons_succ, List.getElem_cons_zero, List.setIfInBounds_toArray, List.set_cons_zero, List.set_cons_succ])
            refine wpAnyH_take (i := 8) (v := ?_) rfl (by kernel_rfl) (by kernel_rfl) (by kernel_rfl) (fun _ _ _ h => h) (Or.inl ⟨by rfl, ?_⟩) hHeld ?_
            rotate_left 1
            focus (intro wq hSw; go_simp; try with_reducible rfl)
            try (simp only [Act.put, List.getElem_toArray, List.getElem_cons_succ, List.getElem_cons_zero, List.setIfInBounds_toArray, List.set_cons_zero, List.set_cons_succ])
            refine wpAnyH_take (i := 9) (v := .agg (bcs (sha p)).toArray) rfl (by kernel_rfl) (by kernel_rfl) (by kernel_rfl) (fun _ _ _ h => h) (yieldsIf_load_at (by rfl) 24 _ rfl (a2.add (q * 32)) rfl (sha p) (fun wq hSw => hAt.past hSw) _ _ u24 (hash_size _ (sha_length p))) hHeld ?_
            try (simp only [Act.put, List.getElem_toArray, List.getElem_cons_succ, List.getElem_cons_zero, List.setIfInBounds_toArray, List.set_cons_zero, List.set_cons_succ])
            have k0 : Below wr.heap.size wr wr.drew := (Below.refl _ _).drew
            refine wpAnyH_ready (rs := [4]) (by kernel_rfl) (by simp) ?_
            refine AllReadyH.cons rfl (fun K hK => ?_) AllReadyH.nil
            go_simp
            refine hK.out _ _ (k0.alloc k0.size _) (fun hHeld => ?_)
            clear hK K
            try (simp only [Act.put, List.getElem_toArray, List.getElem_cons_succ, List.getElem_cons_zero, List.setIfInBounds_toArray, List.set_cons_zero, List.set_cons_succ])
            refine wpAnyH_ready (rs := [5]) (by kernel_rfl) (by simp) ?_
            refine AllReadyH.cons rfl (fun K hK => ?_) AllReadyH.nil
            go_simp
            go_at_call 18
            (with_reducible refine (sum_any _ 1 1 [p] _ ?_ ?_ ?_ ?_).mono ?_)
            · exact (hR2.past k0).alloc _
            · exact isP_one _ _ _ _ _ p (hIq.past k0)
            · omega
            · rw [one_flat, HLEN.out]; omega
            rw [one_flat]
            rintro e wa ⟨rfl, ba⟩
            have k1 : Below wr.heap.size wr wa := (k0.alloc k0.size _).trans (ba.mono (by have := k0.size; simp))
            refine hK.out _ _ (k1) (fun hHeld => ?_)
            clear hK K
            try (simp only [Act.put, List.getElem_toArray, List.getElem_cons_succ, List.getElem_cons_zero, List.setIfInBounds_toArray, List.set_cons_zero, List.set_cons_succ])
            refine wpAnyH_take (i := 10) (v := ?_) rfl (by kernel_rfl) (by kernel_rfl) (by kernel_rfl) (fun _ _ _ h => h) (Or.inl ⟨by rfl, ?_⟩) hHeld ?_
            rotate_left 1
            focus (intro wq hSw; go_simp; try with_reducible rfl)
            try (simp only [Act.put, List.getElem_toArray, List.getElem_cons_succ, List.getElem_cons_zero, List.setIfInBounds_toArray, List.set_cons_zero, List.set_cons_succ])
            refine wpAnyH_take (i := 11) (v := ?_) rfl (by kernel_rfl) (by kernel_rfl) (by kernel_rfl) (fun _ _ _ h => h) (Or.inl ⟨by rfl, ?_⟩) hHeld ?_
            rotate_left 1
            focus (intro wq hSw; go_simp; try with_reducible rfl)
            try (simp only [Act.put, List.getElem_toArray, List.getElem_cons_succ, List.getElem_cons_zero, List.setIfInBounds_toArray, List.set_cons_zero, List.set_cons_succ])
            refine wpAnyH_take (i := 12) (v := ?_) rfl (by kernel_rfl) (by kernel_rfl) (by kernel_rfl) (fun _ _ _ h => h) (Or.inl ⟨by rfl, ?_⟩) hHeld ?_
            rotate_left 1
            focus (intro wq hSw; go_simp; try with_reducible rfl)
            try (simp only [Act.put, List.getElem_toArray, List.getElem_cons_succ, List.getElem_cons_zero, List.setIfInBounds_toArray, List.set_cons_zero, List.set_cons_succ])
            refine wpAnyH_take (i := 13) (v := ?_) rfl (by kernel_rfl) (by kernel_rfl) (by kernel_rfl) (fun _ _ _ h => h) (Or.inl ⟨by rfl, ?_⟩) hHeld ?_
            rotate_left 1
            focus (intro wq hSw; go_simp; try with_reducible rfl)
            try (simp only [Act.put, List.getElem_toArray, List.getElem_cons_succ, List.getElem_cons_zero, List.setIfInBounds_toArray, List.set_cons_zero, List.set_cons_succ])
            refine wpAnyH_take (i := 14) (v := ?_) rfl (by kernel_rfl) (by kernel_rfl) (by kernel_rfl) (fun _ _ _ h => h) (Or.inl ⟨by rfl, ?_⟩) hHeld ?_
            rotate_left 1
            focus (intro wq hSw; go_simp; try with_reducible rfl)
            try (simp only [Act.put, List.getElem_toArray, List.getElem_cons_succ, List.getElem_cons_zero, List.setIfInBounds_toArray, List.set_cons_zero, List.set_cons_succ])
            refine wpAnyH_take (i := 15) (v := .agg (bcs (sha p)).toArray) rfl (by kernel_rfl) (by kernel_rfl) (by kernel_rfl) (fun _ _ _ h => h) (yieldsIf_load_at (by rfl) 24 _ rfl (a2.add (q * 32)) rfl (sha p) (fun wq hSw => hAt.past hSw) _ _ u24 (hash_size _ (sha_length p))) hHeld ?_
            try (simp only [Act.put, List.getElem_toArray, List.getElem_cons_succ, List.getElem_cons_zero, List.setIfInBounds_toArray, List.set_cons_zero, List.set_cons_succ])
            refine wpAnyH_take (i := 16) (v := ?_) rfl (by kernel_rfl) (by kernel_rfl) (by kernel_rfl) (fun _ _ _ h => h) (Or.inl ⟨by rfl, ?_⟩) hHeld ?_
            rotate_left 1
            focus (intro wq hSw; go_simp; try with_reducible rfl)
            try (simp only [Act.put, List.getElem_toArray, List.getElem_cons_succ, List.getElem_cons_zero, List.setIfInBounds_toArray, List.set_cons_zero, List.set_cons_succ])
            refine wpAnyH_take (i := 17) (v := ?_) rfl (by kernel_rfl) (by kernel_rfl) (by kernel_rfl) (fun _ _ _ h => h) (Or.inl ⟨by rfl, ?_⟩) hHeld ?_
            rotate_left 1
            focus (intro wq hSw; go_simp; try with_reducible rfl)
            try (simp only [Act.put, List.getElem_toArray, List.getElem_cons_succ, List.getElem_cons_zero, List.setIfInBounds_toArray, List.set_cons_zero, List.set_cons_succ])
            refine wpAnyH_take (i := 18) (v := ?_) rfl (by kernel_rfl) (by kernel_rfl) (by kernel_rfl) (fun _ _ _ h => h) (Or.inl ⟨by rfl, ?_⟩) hHeld ?_
            rotate_left 1
            focus (intro wq hSw; go_simp; try with_reducible rfl)
            try (simp only [Act.put, List.getElem_toArray, List.getElem_cons_succ, List.getElem_cons_zero, List.setIfInBounds_toArray, List.set_cons_zero, List.set_cons_succ])
            refine wpAnyH_take (i := 19) (v := ?_) rfl (by kernel_rfl) (by kernel_rfl) (by kernel_rfl) (fun _ _ _ h => h) (Or.inl ⟨by rfl, ?_⟩) hHeld ?_
            rotate_left 1
            focus (intro wq hSw; have hcv := CELLQ.out wq hSw; go_simp; try with_reducible rfl)
            try (simp only [Act.put, List.getElem_toArray, List.getElem_cons_succ, List.getElem_cons_zero, List.setIfInBounds_toArray, List.set_cons_zero, List.set_cons_succ])
            refine wpAnyH_ready (rs := [20]) (by kernel_rfl) (by simp) ?_
            refine AllReadyH.cons rfl (fun K hK => ?_) AllReadyH.nil
            go_simp
            go_at_call 19
            (with_reducible refine (rsum_any bo bn bc' p _ ?_ ?_).mono ?_)
            · exact hIq.past k1
            · omega
            rintro e wb ⟨rfl, bb⟩
            have k2 := k1.trans (bb.mono k1.size)
            refine hK.out _ _ (k2) (fun hHeld => ?_)
            clear hK K
            try (simp only [Act.put, List.getElem_toArray, List.getElem_cons_succ, List.getElem_cons_zero, List.setIfInBounds_toArray, List.set_cons_zero, List.set_cons_succ])
            refine wpAnyH_take (i := 21) (v := ?_) rfl (by kernel_rfl) (by kernel_rfl) (by kernel_rfl) (fun _ _ _ h => h) (Or.inl ⟨by rfl, ?_⟩) hHeld ?_
            rotate_left 1
            focus (intro wq hSw; go_simp; try with_reducible rfl)
            try (simp only [Act.put, List.getElem_toArray, List.getElem_cons_succ, List.getElem_cons_zero, List.setIfInBounds_toArray, List.set_cons_zero, List.set_cons_succ])
            refine wpAnyH_take (i := 22) (v := ?_) rfl (by kernel_rfl) (by kernel_rfl) (by kernel_rfl) (fun _ _ _ h => h) (Or.inl ⟨by rfl, ?_⟩) hHeld ?_
            rotate_left 1
            focus (intro wq hSw; go_simp; try with_reducible rfl)
            try (simp only [Act.put, List.getElem_toArray, List.getElem_cons_succ, List.getElem_cons_zero, List.setIfInBounds_toArray, List.set_cons_zero, List.set_cons_succ])
            refine wpAnyH_take (i := 23) (v := ?_) rfl (by kernel_rfl) (by kernel_rfl) (by kernel_rfl) (fun _ _ _ h => h) (Or.inl ⟨by rfl, ?_⟩) hHeld ?_
            rotate_left 1
            focus (intro wq hSw; go_simp; try with_reducible rfl)
            try (simp only [Act.put, List.getElem_toArray, List.getElem_cons_succ, List.getElem_cons_zero, List.setIfInBounds_toArray, List.set_cons_zero, List.set_cons_succ])
            refine wpAnyH_take (i := 24) (v := ?_) rfl (by kernel_rfl) (by kernel_rfl) (by kernel_rfl) (fun _ _ _ h => h) (Or.inl ⟨by rfl, ?_⟩) hHeld ?_
            rotate_left 1
            focus (intro wq hSw; go_simp; try with_reducible rfl)
            try (simp only [Act.put, List.getElem_toArray, List.getElem_cons_succ, List.getElem_cons_zero, List.setIfInBounds_toArray, List.set_cons_zero, List.set_cons_succ])
            refine wpAnyH_take (i := 25) (v := ?_) rfl (by kernel_rfl) (by kernel_rfl) (by kernel_rfl) (fun _ _ _ h => h) (Or.inl ⟨by rfl, ?_⟩) hHeld ?_
            rotate_left 1
            focus (intro wq hSw; go_simp; try with_reducible rfl)
            try (simp only [Act.put, List.getElem_toArray, List.getElem_cons_succ, List.getElem_cons_zero, List.setIfInBounds_toArray, List.set_cons_zero, List.set_cons_succ])
            refine wpAnyH_take (i := 26) (v := ?_) rfl (by kernel_rfl) (by kernel_rfl) (by kernel_rfl) (fun _ _ _ h => h) (Or.inl ⟨by rfl, ?_⟩) hHeld ?_
            rotate_left 1
            focus (intro wq hSw; go_simp; try with_reducible rfl)
            try (simp only [Act.put, List.getElem_toArray, List.getElem_cons_succ, List.getElem_cons_zero, List.setIfInBounds_toArray, List.set_cons_zero, List.set_cons_succ])
            refine wpAnyH_take (i := 27) (v := ?_) rfl (by kernel_rfl) (by kernel_rfl) (by kernel_rfl) (fun _ _ _ h => h) (Or.inl ⟨by rfl, ?_⟩) hHeld ?_
            rotate_left 1
            focus (intro wq hSw; have hcv := CELLQ.out wq hSw; go_simp; try with_reducible rfl)
            try (simp only [Act.put, List.getElem_toArray, List.getElem_cons_succ, List.getElem_cons_zero, List.setIfInBounds_toArray, List.set_cons_zero, List.set_cons_succ])
            refine wpAnyH_take (i := 28) (v := ?_) rfl (by kernel_rfl) (by kernel_rfl) (by kernel_rfl) (fun _ _ _ h => h) (Or.inl ⟨by rfl, ?_⟩) hHeld ?_
            rotate_left 1
            focus (intro wq hSw; have hcv := CONVQ.out wq hSw; go_simp; try with_reducible rfl)
            try (simp only [Act.put, List.getElem_toArray, List.getElem_cons_succ, List.getElem_cons_zero, List.setIfInBounds_toArray, List.set_cons_zero, List.set_cons_succ])
            refine wpAnyH_take (i := 29) (v := ?_) rfl (by kernel_rfl) (by kernel_rfl) (by kernel_rfl) (fun _ _ _ h => h) (Or.inl ⟨by rfl, ?_⟩) hHeld ?_
            rotate_left 1
            focus (intro wq hSw; go_simp; try with_reducible rfl)
            try (simp only [Act.put, List.getElem_toArray, List.getElem_cons_succ, List.getElem_cons_zero, List.setIfInBounds_toArray, List.set_cons_zero, List.set_cons_succ])
            refine wpAnyH_take (i := 30) (v := ?_) rfl (by kernel_rfl) (by kernel_rfl) (by kernel_rfl) (fun _ _ _ h => h) (Or.inl ⟨by rfl, ?_⟩) hHeld ?_
            rotate_left 1
            focus (intro wq hSw; go_simp; try with_reducible rfl)
            try (simp only [Act.put, List.getElem_toArray, List.getElem_cons_succ, List.getElem_cons_zero, List.setIfInBounds_toArray, List.set_cons_zero, List.set_cons_succ])
            refine wpAnyH_take (i := 31) (v := ?_) rfl (by kernel_rfl) (by kernel_rfl) (by kernel_rfl) (fun _ _ _ h => h) (Or.inl ⟨by rfl, ?_⟩) hHeld ?_
            rotate_left 1
            focus (intro wq hSw; go_simp; try with_reducible rfl)
            try (simp only [Act.put, List.getElem_toArray, List.getElem_cons_succ, List.getElem_cons_zero, List.setIfInBounds_toArray, List.set_cons_zero, List.set_cons_succ])
            refine wpAnyH_done (by kernel_rfl) ?_ _
            have BF := hBq.trans (k2.mono hBq.size)
            clear k0 k1 k2
            go_wp2_with fail
            go_roundw
            case rel => exact ⟨q, by omega, by go_num, BF⟩
            case measure => simp [intOf]
          · obtain rfl : m = 0 := by omega
            go_wp2_with fail
            go_ret
            exact ⟨rfl, hBw⟩
end Go.Proofs.YtlcfjiiejmnghaaDoor
