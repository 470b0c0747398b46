/-
  The contract of mix.
-/
import Derived.Test.YtlcfjiiejmnghaaDoorMixL
namespace Go.Proofs.YtlcfjiiejmnghaaDoor
open Go.RowKit

/-- THE ROUND CONSTANTS LIE IN THEIR VARIABLE. -/
def RC (w : World) : Prop := ∀ i, i < 64 → w.cell? ⟨0, i, none⟩ = some (.int .u32 (u (kk i)))
theorem RC.grown {w w' : World} {g : Nat} (h : RC w) (k : w.grownBy w' (some g)) (hg : g ≠ 0) : RC w' := fun i hi => by
  have hc := h i hi
  have hlt := World.block_lt_of_cell? w _ hc
  rw [World.cell?_of_block (w := w) (a := ⟨0, i, none⟩) (k.block _ hlt (fun e => hg (Option.some.inj e).symm))]
  exact hc
theorem RC.apart {w : World} {g : Nat} {st : List UInt32} {blk : List UInt8} {used : Nat} {len : Int} {last : List UInt8} {mid : List Value} {sch : List UInt32} (h : RC w) (hS : Sm w g st blk used len last mid sch) : g ≠ 0 := by
  rintro rfl
  have h1 := h 8 (by omega)
  have h2 := hS.blk_cell 0 (by omega)
  rw [Nat.add_zero, h1] at h2
  cases h2

set_option maxRecDepth 1000000 in
set_option maxHeartbeats 8000000 in
theorem mix_any : MixC RC := by
  intro g S blk used len w hC hSo
  obtain ⟨last, d, sch, hS, hd⟩ := hSo
  have HD := Lib.hid hd
  clear hd
  have hg0 := hC.apart hS
  have HA := Lib.hid hg0
  clear hg0
  rcases Classical.em (blk = last) with hb | hb
  · subst hb
    have he := equal_blk blk blk hS.l2 hS.l2
    rw [show (blk == blk) = true by simp] at he
    go_enter Tryd.func48, Tryd.ntmps48
    go_wp2_with fail
    refine region_all (by kernel_rfl) (by kernel_rfl) ?_
    intro w1 h1 b1
    have hS1 := hS.kept (heap_hid h1 g)
    iterate 3 still_step
    refine wpStill_load_mid rfl 59 _ rfl g 8 rfl (bcs blk) _ hS1.blk_range Tryd.underlying59 rfl (by rw [bcs_length, hS1.l2]; exact size_blk) ?_
    iterate 4 still_step
    refine wpStill_load_mid rfl 59 _ rfl g 74 rfl (bcs blk) _ hS1.last_range Tryd.underlying59 rfl (by rw [bcs_length, hS1.l3]; exact size_blk) ?_
    still_step
    refine wpStill_nil ?_
    go_wp2_with fail
    refine region_tail 8 (by kernel_rfl) (by kernel_rfl) ?_
    intro w3 h3 b3
    have hS3 := hS1.kept (heap_hid h3 g)
    simp only [List.take_succ_cons, List.take_zero, List.drop_succ_cons, List.drop_zero]
    iterate 8 still_step
    refine wpStill_nil ?_
    go_wp2_with (go_at_call 51; refine (do_any g S.l blk used len blk _ _ _ hS3 HD).mono ?_; rintro e w4 ⟨rfl, hS4, g4⟩)
    go_wp2_with fail
    have s0 : w4.cell? ⟨g, 0, none⟩ = some (.int .u32 (u S.a)) := hS4.st_cell 0 (by omega)
    have s1 : w4.cell? ⟨g, 1, none⟩ = some (.int .u32 (u S.b)) := hS4.st_cell 1 (by omega)
    have s2 : w4.cell? ⟨g, 2, none⟩ = some (.int .u32 (u S.c)) := hS4.st_cell 2 (by omega)
    have s3 : w4.cell? ⟨g, 3, none⟩ = some (.int .u32 (u S.d)) := hS4.st_cell 3 (by omega)
    have s4 : w4.cell? ⟨g, 4, none⟩ = some (.int .u32 (u S.e)) := hS4.st_cell 4 (by omega)
    have s5 : w4.cell? ⟨g, 5, none⟩ = some (.int .u32 (u S.f)) := hS4.st_cell 5 (by omega)
    have s6 : w4.cell? ⟨g, 6, none⟩ = some (.int .u32 (u S.g)) := hS4.st_cell 6 (by omega)
    have s7 : w4.cell? ⟨g, 7, none⟩ = some (.int .u32 (u S.h)) := hS4.st_cell 7 (by omega)
    go_quiet (fail)
    go_wp2_with fail
    have G4 : w.grownBy w4 (some g) := grown_then (grown_row (grown_row (World.grownBy.refl _ _) b1) b3) g4
    have hS5 := hS4.kept (w' := w4.drewN nq) rfl
    have G5 : w.grownBy (w4.drewN nq) (some g) := grown_drewN G4
    have R5 := hC.grown G5 HA.out
    clear s0 s1 s2 s3 s4 s5 s6 s7 g4
    go_loopw [2, 3, 4, 5, 6, 7, 8, 9, 84] (fun va vb vc vd ve vf vg vh i wq => ∃ (k : Nat) (T : St), k ≤ 64 ∧ Hid (T = rounds (sched (words blk 16) 48) S k) ∧ i = .int .i64 k ∧ va = .int .u32 (u T.a) ∧ vb = .int .u32 (u T.b) ∧ vc = .int .u32 (u T.c) ∧ vd = .int .u32 (u T.d) ∧ ve = .int .u32 (u T.e) ∧ vf = .int .u32 (u T.f) ∧ vg = .int .u32 (u T.g) ∧ vh = .int .u32 (u T.h) ∧ Sm wq g S.l blk used len blk (onceV true) (sched (words blk 16) 48) ∧ RC wq ∧ w.grownBy wq (some g)) (fun _ _ _ _ _ _ _ _ i _ => 64 - (intOf i).toNat)
    case atStart => exact ⟨0, S, by omega, rfl, rfl, rfl, rfl, rfl, rfl, rfl, rfl, rfl, rfl, hS5, R5, G5⟩
    case round =>
      clear hS5 R5 G5 G4
      obtain ⟨k, T, hk, HT, rfl, rfl, rfl, rfl, rfl, rfl, rfl, rfl, rfl, hQ, hR, hG⟩ := hrel
      by_cases hk64 : k < 64
      · have r1 := u_xor
        have r2 := u_and
        have r3 := u_inv
        have r4 := u_wrap
        have r5 := u_add
        have cw := hQ.sch_cell k hk64
        have cr := hR k hk64
        have k64 : (k : Int) < 64 := by omega
        go_wp2_with fail
        go_quiet ((go_at_call 53; exact Calls.quiet_of_same (turned_lit _ _ _ _ _ (by omega) (by omega) (by omega))))
        go_wp2_with (go_at_call 53; refine (turned_lit _ _ _ _ _ (by omega) (by omega) (by omega)).mono ?_; rintro e w' ⟨rfl, rfl⟩)
        go_roundw
        case rel =>
          refine ⟨k + 1, T.step (kk k) ((sched (words blk 16) 48).getD k 0), by omega, ?_, by go_num, rfl, rfl, rfl, rfl, rfl, rfl, rfl, rfl, hQ.kept rfl, fun i hi => hR i hi, grown_drewN hG⟩
          unfold Hid
          rw [rounds, ← HT.out]
        case measure => simp [intOf]; omega
      · obtain rfl : k = 64 := by omega
        have HT2 : Hid (T = rounds (sched (words blk 16) 48) S 64) := HT
        clear HT hR hk hk64
        go_wp2_with fail
        simp only [show ((64 : Nat) : Int) = 64 from rfl]
        go_loopw [150] (fun i wq => ∃ t : Nat, t ≤ 8 ∧ i = .int .i64 t ∧ Sm wq g (sums S T t) blk used len blk (onceV true) (sched (words blk 16) 48) ∧ w.grownBy wq (some g)) (fun i _ => 8 - (intOf i).toNat)
        case atStart => exact ⟨0, by omega, rfl, hQ, hG⟩
        case round =>
          clear hQ hG
          obtain ⟨t, ht, rfl, hQ, hG⟩ := hrel
          by_cases ht8 : t < 8
          · have hix := idx8 T t ht8
            have za := hQ.st_cell t ht8
            rw [sums_get S T t ht8] at za
            have HX : Hid (sums S T (t + 1) = (sums S T t).set t (S.l.getD t 0 + T.l.getD t 0)) := rfl
            generalize S.l.getD t 0 = x at za HX
            generalize T.l.getD t 0 = y at hix HX
            have t8 : (t : Int) < 8 := by omega
            have r4 := u_wrap
            have r5 := u_add
            go_wp2_with fail
            refine region_tail 11 (by kernel_rfl) (by kernel_rfl) ?_
            intro w5 h5 b5
            have hS5 := hQ.kept (heap_hid h5 g)
            replace za := cell_hid h5 za
            have tf := hS5.free t
            simp only [List.take_succ_cons, List.take_zero, List.drop_succ_cons, List.drop_zero]
            iterate 11 still_step
            refine wpStill_nil ?_
            go_wp2_with fail
            go_roundw
            case rel => exact ⟨t + 1, by omega, by go_num, by rw [HX.out]; exact hS5.set_st t _ ht8, grown_set (grown_row hG b5)⟩
            case measure => simp [intOf]; omega
          · obtain rfl : t = 8 := by omega
            have hfin : Smo wr g (S.mix blk).l blk used len := ⟨blk, true, _, by rw [St.mix, ← HT2.out, ← sums_all]; exact hQ, fun _ => rfl⟩
            clear hQ HT2
            go_wp2_with fail
            go_end0
            exact ⟨rfl, hfin, hG⟩
  · have he := equal_blk blk last hS.l2 hS.l3
    rw [show (blk == last) = false by simp [hb]] at he
    clear hb
    go_enter Tryd.func48, Tryd.ntmps48
    go_wp2_with fail
    refine region_all (by kernel_rfl) (by kernel_rfl) ?_
    intro w1 h1 b1
    have hS1 := hS.kept (heap_hid h1 g)
    iterate 3 still_step
    refine wpStill_load_mid rfl 59 _ rfl g 8 rfl (bcs blk) _ hS1.blk_range Tryd.underlying59 rfl (by rw [bcs_length, hS1.l2]; exact size_blk) ?_
    iterate 4 still_step
    refine wpStill_load_mid rfl 59 _ rfl g 74 rfl (bcs last) _ hS1.last_range Tryd.underlying59 rfl (by rw [bcs_length, hS1.l3]; exact size_blk) ?_
    still_step
    refine wpStill_nil ?_
    go_wp2_with (first
      | ((with_reducible refine wpList_load_mid rfl 59 _ rfl g 8 ?_ (bcs blk) _ hS1.blk_range Tryd.underlying59 rfl (by rw [bcs_length, hS1.l2]; exact size_blk) ?_); (rfl))
      | ((with_reducible refine wpList_build_at (o := ⟨some 32, _, _, _, _, _⟩) rfl 74 _ rfl (newSch blk).toArray ?_ ?_); (simp only [List.map_toArray, List.map_cons, List.map_nil]; exact built_sch blk hS.l2))
      | ((with_reducible refine wpList_store_in rfl 74 _ _ rfl g 74 (newSch blk) _ _ ?_ ?_ hS1.row 131 sch_size (newSch_length blk hS.l2) (by simp [smL, bcs_length, hS.l1, hS.l2, hS.l3, hS.l4, hS.lm]) (newSch_one blk) ?_); (rfl); (rfl); (intro w2 h2 g2; have hS2 := hS1.renew h2)))
    refine region_tail 8 (by kernel_rfl) (by kernel_rfl) ?_
    intro w3 h3 b3
    have hS3 := hS2.kept (heap_hid h3 g)
    simp only [List.take_succ_cons, List.take_zero, List.drop_succ_cons, List.drop_zero]
    iterate 8 still_step
    refine wpStill_nil ?_
    go_wp2_with (go_at_call 51; refine (do_any g S.l blk used len blk _ _ _ hS3 (Lib.hid (fun h => by cases h))).mono ?_; rintro e w4 ⟨rfl, hS4, g4⟩)
    go_wp2_with fail
    have s0 : w4.cell? ⟨g, 0, none⟩ = some (.int .u32 (u S.a)) := hS4.st_cell 0 (by omega)
    have s1 : w4.cell? ⟨g, 1, none⟩ = some (.int .u32 (u S.b)) := hS4.st_cell 1 (by omega)
    have s2 : w4.cell? ⟨g, 2, none⟩ = some (.int .u32 (u S.c)) := hS4.st_cell 2 (by omega)
    have s3 : w4.cell? ⟨g, 3, none⟩ = some (.int .u32 (u S.d)) := hS4.st_cell 3 (by omega)
    have s4 : w4.cell? ⟨g, 4, none⟩ = some (.int .u32 (u S.e)) := hS4.st_cell 4 (by omega)
    have s5 : w4.cell? ⟨g, 5, none⟩ = some (.int .u32 (u S.f)) := hS4.st_cell 5 (by omega)
    have s6 : w4.cell? ⟨g, 6, none⟩ = some (.int .u32 (u S.g)) := hS4.st_cell 6 (by omega)
    have s7 : w4.cell? ⟨g, 7, none⟩ = some (.int .u32 (u S.h)) := hS4.st_cell 7 (by omega)
    go_quiet (fail)
    go_wp2_with fail
    have G4 : w.grownBy w4 (some g) := grown_then (grown_row (grown_then (grown_row (World.grownBy.refl _ _) b1) g2) b3) g4
    have hS5 := hS4.kept (w' := w4.drewN nq) rfl
    have G5 : w.grownBy (w4.drewN nq) (some g) := grown_drewN G4
    have R5 := hC.grown G5 HA.out
    clear s0 s1 s2 s3 s4 s5 s6 s7 g4 g2
    go_loopw [2, 3, 4, 5, 6, 7, 8, 9, 84] (fun va vb vc vd ve vf vg vh i wq => ∃ (k : Nat) (T : St), k ≤ 64 ∧ Hid (T = rounds (sched (words blk 16) 48) S k) ∧ i = .int .i64 k ∧ va = .int .u32 (u T.a) ∧ vb = .int .u32 (u T.b) ∧ vc = .int .u32 (u T.c) ∧ vd = .int .u32 (u T.d) ∧ ve = .int .u32 (u T.e) ∧ vf = .int .u32 (u T.f) ∧ vg = .int .u32 (u T.g) ∧ vh = .int .u32 (u T.h) ∧ Sm wq g S.l blk used len blk (onceV true) (sched (words blk 16) 48) ∧ RC wq ∧ w.grownBy wq (some g)) (fun _ _ _ _ _ _ _ _ i _ => 64 - (intOf i).toNat)
    case atStart => exact ⟨0, S, by omega, rfl, rfl, rfl, rfl, rfl, rfl, rfl, rfl, rfl, rfl, hS5, R5, G5⟩
    case round =>
      clear hS5 R5 G5 G4
      obtain ⟨k, T, hk, HT, rfl, rfl, rfl, rfl, rfl, rfl, rfl, rfl, rfl, hQ, hR, hG⟩ := hrel
      by_cases hk64 : k < 64
      · have r1 := u_xor
        have r2 := u_and
        have r3 := u_inv
        have r4 := u_wrap
        have r5 := u_add
        have cw := hQ.sch_cell k hk64
        have cr := hR k hk64
        have k64 : (k : Int) < 64 := by omega
        go_wp2_with fail
        go_quiet ((go_at_call 53; exact Calls.quiet_of_same (turned_lit _ _ _ _ _ (by omega) (by omega) (by omega))))
        go_wp2_with (go_at_call 53; refine (turned_lit _ _ _ _ _ (by omega) (by omega) (by omega)).mono ?_; rintro e w' ⟨rfl, rfl⟩)
        go_roundw
        case rel =>
          refine ⟨k + 1, T.step (kk k) ((sched (words blk 16) 48).getD k 0), by omega, ?_, by go_num, rfl, rfl, rfl, rfl, rfl, rfl, rfl, rfl, hQ.kept rfl, fun i hi => hR i hi, grown_drewN hG⟩
          unfold Hid
          rw [rounds, ← HT.out]
        case measure => simp [intOf]; omega
      · obtain rfl : k = 64 := by omega
        have HT2 : Hid (T = rounds (sched (words blk 16) 48) S 64) := HT
        clear HT hR hk hk64
        go_wp2_with fail
        simp only [show ((64 : Nat) : Int) = 64 from rfl]
        go_loopw [150] (fun i wq => ∃ t : Nat, t ≤ 8 ∧ i = .int .i64 t ∧ Sm wq g (sums S T t) blk used len blk (onceV true) (sched (words blk 16) 48) ∧ w.grownBy wq (some g)) (fun i _ => 8 - (intOf i).toNat)
        case atStart => exact ⟨0, by omega, rfl, hQ, hG⟩
        case round =>
          clear hQ hG
          obtain ⟨t, ht, rfl, hQ, hG⟩ := hrel
          by_cases ht8 : t < 8
          · have hix := idx8 T t ht8
            have za := hQ.st_cell t ht8
            rw [sums_get S T t ht8] at za
            have HX : Hid (sums S T (t + 1) = (sums S T t).set t (S.l.getD t 0 + T.l.getD t 0)) := rfl
            generalize S.l.getD t 0 = x at za HX
            generalize T.l.getD t 0 = y at hix HX
            have t8 : (t : Int) < 8 := by omega
            have r4 := u_wrap
            have r5 := u_add
            go_wp2_with fail
            refine region_tail 11 (by kernel_rfl) (by kernel_rfl) ?_
            intro w5 h5 b5
            have hS5 := hQ.kept (heap_hid h5 g)
            replace za := cell_hid h5 za
            have tf := hS5.free t
            simp only [List.take_succ_cons, List.take_zero, List.drop_succ_cons, List.drop_zero]
            iterate 11 still_step
            refine wpStill_nil ?_
            go_wp2_with fail
            go_roundw
            case rel => exact ⟨t + 1, by omega, by go_num, by rw [HX.out]; exact hS5.set_st t _ ht8, grown_set (grown_row hG b5)⟩
            case measure => simp [intOf]; omega
          · obtain rfl : t = 8 := by omega
            have hfin : Smo wr g (S.mix blk).l blk used len := ⟨blk, true, _, by rw [St.mix, ← HT2.out, ← sums_all]; exact hQ, fun _ => rfl⟩
            clear hQ HT2
            go_wp2_with fail
            go_end0
            exact ⟨rfl, hfin, hG⟩
end Go.Proofs.YtlcfjiiejmnghaaDoor
