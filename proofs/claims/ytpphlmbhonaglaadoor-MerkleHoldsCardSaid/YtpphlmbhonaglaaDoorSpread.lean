/-
  The contract of spread: the schedule of the block.
-/
import Derived.Test.YtpphlmbhonaglaaDoorSm
import Derived.Test.YtpphlmbhonaglaaDoorRot
import Derived.Test.YtpphlmbhonaglaaDoorReg
import Derived.Test.YtpphlmbhonaglaaDoorSchedP
import Derived.Outline
namespace Go.Proofs.YtpphlmbhonaglaaDoor
open Go.RowKit

theorem slice_blk (g o k : Nat) (hk : k < 16) (w : World) :
    (Instr.sliceAt 53 (.pointer (some ⟨g, o, none⟩)) (some (.int .i64 (4 * (k : Int)))) (some (.int .i64 (4 * (k : Int) + 4))) none).run Tryd.prog w = .ok (.slice (some ⟨g, o + 4 * k, none⟩) 4 (64 - 4 * k)) w := by
  have hz : ∀ w', (sizeOf (Tryd.prog.elem 53)).run Tryd.prog w' = .ok 1 w' := fun w' => by kernel_rfl
  have hn : Tryd.prog.arrayLen 53 = 64 := by kernel_rfl
  rw [run_sliceAt_array_lh w 53 ⟨g, o, none⟩ (by kernel_rfl) .i64 .i64 _ _ (by omega) (by omega) (by rw [hn]; omega), hz, hn]
  simp only [Result.andThen_ok, slicedAt]
  have e1 : (4 * (k : Int)).toNat = 4 * k := by omega
  have e2 : (4 * (k : Int) + 4).toNat = 4 * k + 4 := by omega
  rw [e1, e2, if_neg (by omega), Addr.add_lit, Nat.mul_one, show 4 * k + 4 - 4 * k = 4 by omega]

set_option maxRecDepth 100000 in
set_option maxHeartbeats 4000000 in
theorem spread_any (g : Nat) (st : List UInt32) (blk : List UInt8) (used : Nat) (len : Int) (last : List UInt8) (mid : List Value) (sch : List UInt32) (w : World) (h : Sm w g st blk used len last mid sch) :
    Calls Tryd.prog 32 #[.pointer (some ⟨g, 74, none⟩)] w fun e w' => e = .returned (.tuple #[]) ∧ Sm w' g st blk used len last mid (sched (words last 16) 48) ∧ w.grownBy w' (some g) := by
  go_enter Tryd.func32, Tryd.ntmps32
  go_wp2_with fail
  go_loopw [11] (fun i wq => ∃ (k : Nat) (L : List UInt32), k ≤ 16 ∧ i = .int .i64 k ∧ Sm wq g st blk used len last mid L ∧ Hid (L.take k = words last k) ∧ w.grownBy wq (some g)) (fun i _ => 16 - (intOf i).toNat)
  case atStart => exact ⟨0, sch, Nat.zero_le _, rfl, h, rfl, World.grownBy.refl _ _⟩
  case round =>
    obtain ⟨k, L, hk, rfl, hS, ht, hg⟩ := hrel
    by_cases hk16 : k < 16
    · have y0 := hS.last_cell (4 * k) (by omega)
      have y1 := hS.last_cell (4 * k + 1) (by omega)
      rw [← Nat.add_assoc] at y1
      have y2 := hS.last_cell (4 * k + 2) (by omega)
      rw [← Nat.add_assoc] at y2
      have y3 := hS.last_cell (4 * k + 3) (by omega)
      rw [← Nat.add_assoc] at y3
      have HW : Hid (word last k = be4 (last.getD (4 * k) 0) (last.getD (4 * k + 1) 0) (last.getD (4 * k + 2) 0) (last.getD (4 * k + 3) 0)) := rfl
      generalize last.getD (4 * k) 0 = b0 at y0 HW
      generalize last.getD (4 * k + 1) 0 = b1 at y1 HW
      generalize last.getD (4 * k + 2) 0 = b2 at y2 HW
      generalize last.getD (4 * k + 3) 0 = b3 at y3 HW
      have lo0 := ub_lo b0
      have hi0 := ub_hi b0
      have lo1 := ub_lo b1
      have hi1 := ub_hi b1
      have lo2 := ub_lo b2
      have hi2 := ub_hi b2
      have lo3 := ub_lo b3
      have hi3 := ub_hi b3
      have m1 : 4 * (k : Int) + 4 ≤ 64 := by omega
      have k64 : (k : Int) < 64 := by omega
      have hsl := slice_blk g 74 k hk16
      go_wp2_with fail
      refine region_tail 26 (by kernel_rfl) (by kernel_rfl) ?_
      intro wx hx bx
      replace y0 := cell_hid hx y0
      replace y1 := cell_hid hx y1
      replace y2 := cell_hid hx y2
      replace y3 := cell_hid hx y3
      have hSx := hS.kept (heap_hid hx g)
      have tw := hSx.sch_cell k (by omega)
      have tf := hSx.free (141 + k)
      simp only [List.take_succ_cons, List.take_zero, List.drop_succ_cons, List.drop_zero]
      iterate 26 still_step
      refine wpStill_nil ?_
      go_wp2_with fail
      go_roundw
      case rel =>
        refine ⟨k + 1, L.set k (be4 b0 b1 b2 b3), by omega, by go_num, ?_, ?_, ?_⟩
        · have := hSx.set_sch k (be4 b0 b1 b2 b3) (by omega)
          rw [← or_be4] at this
          exact this
        · unfold Hid
          rw [words_snoc, HW.out, ← ht.out]
          exact take_set_snoc _ _ _ (by have := hSx.l4; omega)
        · exact grown_set (grown_row hg bx)
      case measure => simp [intOf]; omega
    · obtain rfl : k = 16 := by omega
      have HT : Hid (L.take 16 = words last 16) := ht
      clear ht hk hk16
      go_wp2_with fail
      simp only [show ((16 : Nat) : Int) = 16 from rfl]
      go_loopw [5] (fun i wq => ∃ (i0 : Nat) (L1 : List UInt32), 16 ≤ i0 ∧ i0 ≤ 64 ∧ i = .int .i64 i0 ∧ Sm wq g st blk used len last mid L1 ∧ Hid (L1.take i0 = sched (words last 16) (i0 - 16)) ∧ w.grownBy wq (some g)) (fun i _ => 64 - (intOf i).toNat)
      case atStart => exact ⟨16, L, by omega, by omega, rfl, hS, HT, hg⟩
      case round =>
        clear hS HT hg
        obtain ⟨i, L1, hi1, hi2, rfl, hS, HT, hg⟩ := hrel
        by_cases hi3 : i < 64
        · have x15 := hS.sch_cell (i - 15) (by omega)
          have x2 := hS.sch_cell (i - 2) (by omega)
          have x7 := hS.sch_cell (i - 7) (by omega)
          have x16 := hS.sch_cell (i - 16) (by omega)
          have HE : Hid (ext L1 i = bs1 (L1.getD (i - 2) 0) + L1.getD (i - 7) 0 + bs0 (L1.getD (i - 15) 0) + L1.getD (i - 16) 0) := rfl
          generalize L1.getD (i - 15) 0 = a15 at x15 HE
          generalize L1.getD (i - 2) 0 = a2 at x2 HE
          generalize L1.getD (i - 7) 0 = a7 at x7 HE
          generalize L1.getD (i - 16) 0 = a16 at x16 HE
          have HF : Hid (ext L1 i = a16 + a7 + (rr a15 7 ^^^ rr a15 18 ^^^ sr a15 3) + (rr a2 17 ^^^ rr a2 19 ^^^ sr a2 10)) := by
            unfold Hid
            rw [HE.out, sched_turn]
            rfl
          clear HE
          have e15 := IntWalk.i64_in ((i : Int) - 15) (by omega)
          have e2 := IntWalk.i64_in ((i : Int) - 2) (by omega)
          have e7 := IntWalk.i64_in ((i : Int) - 7) (by omega)
          have e16 := IntWalk.i64_in ((i : Int) - 16) (by omega)
          have n15 : 0 ≤ (i : Int) - 15 := by omega
          have n2 : 0 ≤ (i : Int) - 2 := by omega
          have n7 : 0 ≤ (i : Int) - 7 := by omega
          have n16 : 0 ≤ (i : Int) - 16 := by omega
          have k15 : 15 ≤ (i : Int) := by omega
          have k2 : 2 ≤ (i : Int) := by omega
          have k7 : 7 ≤ (i : Int) := by omega
          have k16 : 16 ≤ (i : Int) := by omega
          have m15 : (i : Int) - 15 < 64 := by omega
          have m2 : (i : Int) - 2 < 64 := by omega
          have m7 : (i : Int) - 7 < 64 := by omega
          have m16 : (i : Int) - 16 < 64 := by omega
          have m0 : (i : Int) < 64 := by omega
          have c15 : ((i : Int) - 15).toNat = i - 15 := by omega
          have c2 : ((i : Int) - 2).toNat = i - 2 := by omega
          have c7 : ((i : Int) - 7).toNat = i - 7 := by omega
          have c16 : ((i : Int) - 16).toNat = i - 16 := by omega
          go_wp2_with fail
          go_quiet (fail)
          go_wp2_with fail
          have far16 : ∀ (W : World) (v : Value), (W.setCell ⟨g, 141 + i, none⟩ v).cell? ⟨g, 141 + (i - 16), none⟩ = W.cell? ⟨g, 141 + (i - 16), none⟩ := fun W v => World.cell?_setCell_other W _ _ v (fun e => by have := congrArg Addr.off e; simp at this; omega)
          have far7 : ∀ (W : World) (v : Value), (W.setCell ⟨g, 141 + i, none⟩ v).cell? ⟨g, 141 + (i - 7), none⟩ = W.cell? ⟨g, 141 + (i - 7), none⟩ := fun W v => World.cell?_setCell_other W _ _ v (fun e => by have := congrArg Addr.off e; simp at this; omega)
          have tw := hS.sch_cell i hi3
          have tf := hS.free (141 + i)
          have r1 := u_xor
          have r2 := u_add
          have r3 := u_wrap
          have lo := u_lo
          have hi := u_hi
          go_region_held3 (fun w' => w'.cell? ⟨g, 141 + (i - 16), none⟩ = some (.int .u32 (u a16)) ∧ w'.cell? ⟨g, 141 + (i - 7), none⟩ = some (.int .u32 (u a7))) (first | go_keep | exact ⟨x16, x7⟩ | (simp only [far16, far7, World.cell?_drewN]; exact ⟨x16, x7⟩)) ((go_at_call 36; refine (shifted_lit _ _ _ _ _ (by omega) (by omega) (by omega)).mono ?_; rintro e w' ⟨rfl, d1, rfl⟩))
          go_wp2_with fail
          go_roundw
          case rel =>
            refine ⟨i + 1, L1.set i (ext L1 i), by omega, by omega, by go_num, ?_, ?_, ?_⟩
            · rw [HF.out]
              exact (hS.kept (w' := wr.drewN _) rfl).set_sch i _ hi3
            · exact sched_step L1 _ i hi1 (by have := hS.l4; omega) HT.out
            · exact grown_set (grown_drewN hg)
          case measure => simp [intOf]; omega
        · obtain rfl : i = 64 := by omega
          have hW : L1 = sched (words last 16) 48 := by
            have e := HT.out
            rwa [List.take_of_length_le (by have := hS.l4; omega)] at e
          rw [hW] at hS
          clear hW HT
          go_wp2_with fail
          go_end0
          exact ⟨rfl, hS, hg⟩
end Go.Proofs.YtpphlmbhonaglaaDoor
