/-
  ShaParts, walked.
-/
import Derived.Test.YtlcfjiiejmnghaaDoorPieces
import Derived.Test.YtlcfjiiejmnghaaDoorOpen2
namespace Go.Proofs.YtlcfjiiejmnghaaDoor
open Go.RowKit

set_option maxRecDepth 100000 in
set_option maxHeartbeats 4000000 in
theorem parts_short (a0 : Option Addr) (n0 c0 : Nat) (l0 : List UInt8) (a1 : Option Addr) (n1 c1 : Nat) (l1 : List Int) (w : World) (hC : RC w) (w0 : IsB w a0 n0 c0 l0) (w1 : IsI w a1 n1 l1) (h0 : n0 ≤ 300) (h1 : n1 ≤ 20) :
    Calls Tryd.prog 7 #[.slice a0 n0 c0, .slice a1 n1 c1] w fun e w' => e = .returned (.bool true) ∧ Below w.heap.size w w' := by
  have g0 : decide ((300 : Int) < (n0 : Int)) = false := by simp; omega
  have g1 : decide ((20 : Int) < (n1 : Int)) = false := by simp; omega
  have hl0 := w0.len
  have HL0 := Lib.hid hl0
  clear hl0
  go_enter Tryd.func7, Tryd.ntmps7
  go_wp2_with fail
  refine (known2 _ hC).mono ?_
  rintro e w2 ⟨rfl, b2⟩
  go_wp2_with fail
  clear g0 g1
  go_loopw [5, 6, 7] (fun v at_ i wq => ∃ (k at' : Nat) (ps : List (List UInt8)), k ≤ n1 ∧ at' ≤ n0 ∧ i = .int .i64 k ∧ at_ = .int .i64 at' ∧ OwnP w wq w.heap.size v k ps ∧ Hid (ps.flatten = l0.take at') ∧ Below w.heap.size w wq) (fun _ _ i _ => n1 - (intOf i).toNat)
  case atStart => exact ⟨0, 0, [], by omega, by omega, rfl, rfl, OwnP.nil _ _ _, rfl, b2⟩
  case round =>
    clear b2
    obtain ⟨k, at', ps, hk, hat, rfl, rfl, hO, HF, hB⟩ := hrel
    by_cases hkn : k < n1
    · obtain ⟨a, rfl⟩ := w1.has (by omega)
      have hc0 := w1.cell a rfl k hkn
      have hc : wr.cell? (a.add k) = some (.int .i64 (l1.getD k 0)) := by
        rw [hB.cell (World.block_lt_of_cell? w _ hc0)]
        exact hc0
      generalize l1.getD k 0 = z at hc
      obtain ⟨m, hm, hmn⟩ := wth_nat z (n0 - at' + 1) (by omega)
      have HM : Hid (wth z ((n0 : Int) - at' + 1) = m) := by unfold Hid; rw [← hm]; congr 1; omega
      clear hm hc0
      go_wp2_with fail
      refine (within2_any z ((n0 : Int) - at' + 1) _ (by omega) (by omega)).mono ?_
      rintro e w' ⟨rfl, rfl⟩
      rw [HM.out]
      obtain ⟨ao2, hcut, hI2⟩ := IsB_mid (P := Tryd.prog) (t := 26) w0 (by kernel_rfl) (fun w' => by kernel_rfl) at' (at' + m) (by omega) (by omega)
      have hcut' : ∀ w' : World, (Instr.slice 26 (.slice a0 n0 c0) (some (.int .i64 (at' : Int))) (some (.int .i64 ((at' : Int) + (m : Int)))) none).run Tryd.prog w' = .ok (.slice ao2 (at' + m - at') (c0 - at')) w' := hcut
      clear hcut
      have HF2 : Hid ((ps ++ [(l0.drop at').take (at' + m - at')]).flatten = l0.take (at' + m)) := by
        unfold Hid
        rw [List.flatten_append, HF.out, List.flatten_singleton, show at' + m - at' = m by omega, List.take_add]
      generalize (l0.drop at').take (at' + m - at') = pc at hI2 HF2
      generalize at' + m - at' = pn at hI2 hcut'
      generalize c0 - at' = pcap at hI2 hcut'
      have hwr := hB.size
      go_wp2_with (at_builtin; refine wpList_append_piece (w0 := w) rfl (.tmp 35) (.tmp 42) rfl w.heap.size (by simp; omega) _ k ps rfl (hO.alloc _) wr.heap.size ao2 pn pcap pc rfl (cell_new _ _ _) hI2 (by omega) ?_; intro v2 w3 hO3 g3)
      have B3 := hO.step hB hwr (Nat.le_refl _) g3
      clear g3 hO hB
      go_roundw
      case rel => exact ⟨k + 1, at' + m, ps ++ [pc], by omega, by omega, by go_num, by go_num, hO3, HF2, B3⟩
      case measure => simp [intOf]; omega
    · obtain rfl : k = n1 := by omega
      have hwr := hB.size
      obtain ⟨ao2, hcut, hI2, _⟩ := IsB_cut (P := Tryd.prog) (t := 26) w0 (by kernel_rfl) (fun w' => by kernel_rfl) at' hat
      have HF2 : Hid ((ps ++ [l0.drop at']).flatten = l0) := by
        unfold Hid
        rw [List.flatten_append, HF.out, List.flatten_singleton, List.take_append_drop]
      generalize l0.drop at' = pc at hI2 HF2
      generalize n0 - at' = pn at hI2 hcut
      generalize c0 - at' = pcap at hI2 hcut
      go_wp2_with (at_builtin; refine wpList_append_piece (w0 := w) rfl (.tmp 47) (.tmp 51) rfl w.heap.size (by simp; omega) _ k ps rfl (hO.alloc _) wr.heap.size ao2 pn pcap pc rfl (cell_new _ _ _) hI2 (by omega) ?_; intro v2 w3 hO3 g3)
      have B3 := hO.step hB hwr (Nat.le_refl _) g3
      obtain ⟨ao3, cap3, rfl, hP3⟩ := hO3.isP B3
      have hR3 : RC w3 := hC.past B3
      have heq := equal_sha
      clear g3 hO hB hO3 hcut hI2
      go_wp2_with fail
      refine (sum_any ao3 (k + 1) cap3 _ _ hR3 hP3 (by omega) (by rw [HF2.out, HL0.out]; omega)).mono ?_
      rintro e w4 ⟨rfl, b4⟩
      rw [HF2.out]
      have B4 := B3.trans (b4.mono B3.size)
      have I4 := w0.past B4
      clear b4 B3 hR3 hP3
      go_wp2_with fail
      refine (rsum_any a0 n0 c0 l0 _ I4 (by omega)).mono ?_
      rintro e w5 ⟨rfl, b5⟩
      have B5 := B4.trans (b5.mono B4.size)
      have R5 : RC w5 := hC.past B5
      clear b5 B4 I4
      go_wp2_with fail
      refine (sum_any none 0 0 [] _ R5 (isP_nil _ none) (by omega) (by simp)).mono ?_
      rintro e w6 ⟨rfl, b6⟩
      rw [List.flatten_nil]
      have B6 := B5.trans (b6.mono B5.size)
      clear b6 B5 R5
      go_wp2_with fail
      refine (rsum_any none 0 0 [] _ (IsB.nilB _) (by omega)).mono ?_
      rintro e w7 ⟨rfl, b7⟩
      have B7 := B6.trans (b7.mono B6.size)
      have R7 : RC w7 := hC.past B7
      clear b7 B6
      go_wp2_with fail
      refine (sum_any _ 2 2 [[], []] _ (R7.alloc _) (isP_two w7 _ none 0 0 [] (IsB.nilB _) none 0 0 [] (IsB.nilB _)) (by omega) (by simp)).mono ?_
      rintro e w8 ⟨rfl, b8⟩
      rw [show ([[], []] : List (List UInt8)).flatten = [] from rfl]
      have B8 := (B7.alloc B7.size _).trans (b8.mono (by have := B7.size; simp; omega))
      clear b8 B7 R7
      go_wp2_with fail
      refine (rsum_any none 0 0 [] _ (IsB.nilB _) (by omega)).mono ?_
      rintro e w9 ⟨rfl, b9⟩
      have B9 := B8.trans (b9.mono B8.size)
      clear b9 B8
      go_wp2_with fail
      go_ret
      exact ⟨rfl, B9⟩

set_option maxRecDepth 100000 in
set_option maxHeartbeats 1000000 in
theorem shaParts_walk (a0 : Option Addr) (n0 c0 : Nat) (l0 : List UInt8) (a1 : Option Addr) (n1 c1 : Nat) (l1 : List Int) (w : World) (hC : RC w) (w0 : IsB w a0 n0 c0 l0) (w1 : IsI w a1 n1 l1) :
    Calls Tryd.prog 7 #[.slice a0 n0 c0, .slice a1 n1 c1] w fun e w' => e = .returned (.bool true) ∧ Below w.heap.size w w' := by
  by_cases h0 : n0 ≤ 300
  · by_cases h1 : n1 ≤ 20
    · exact parts_short a0 n0 c0 l0 a1 n1 c1 l1 w hC w0 w1 h0 h1
    · have g0 : decide ((300 : Int) < (n0 : Int)) = false := by simp; omega
      have g1 : decide ((20 : Int) < (n1 : Int)) = true := by simp; omega
      go_enter Tryd.func7, Tryd.ntmps7
      go_wp2_with fail
      refine (known2 _ hC).mono ?_
      rintro e w2 ⟨rfl, b2⟩
      go_wp2_with fail
      go_ret
      exact ⟨rfl, b2⟩
  · have g0 : decide ((300 : Int) < (n0 : Int)) = true := by simp; omega
    go_enter Tryd.func7, Tryd.ntmps7
    go_wp2_with fail
    refine (known2 _ hC).mono ?_
    rintro e w2 ⟨rfl, b2⟩
    go_wp2_with fail
    go_ret
    exact ⟨rfl, b2⟩
end Go.Proofs.YtlcfjiiejmnghaaDoor
