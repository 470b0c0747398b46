/-
  What the statements of disks ask first.
-/
import Derived.Test.YtfajggiinoeaiaaDIs
import Derived.Test.YtfajggiinoeaiaaWth
namespace Go.Proofs.Ytfajggiinoeaiaa
open Go.RowKit
set_option linter.unusedSimpArgs false

theorem within7_any (a n : Int) (w : World) (hn : 0 < n) (hn2 : n ≤ 1000000) :
    Calls Try.prog 15 #[.int .i64 a, .int .i64 n] w fun e w' => e = .returned (.int .i64 (wth a n)) ∧ w = w' := by
  have h1 := Int.lt_tmod_of_pos a hn
  have h2 := Int.tmod_lt_of_pos a hn
  have hz : (n == 0) = false := by simp; omega
  by_cases h3 : a.tmod n < 0
  · go_enter Try.func15, Try.ntmps15
    go_wp2_with fail
    go_ret
    exact ⟨ret_int (by unfold wth; rw [if_pos h3]), rfl⟩
  · go_enter Try.func15, Try.ntmps15
    go_wp2_with fail
    go_ret
    exact ⟨ret_int (by unfold wth; rw [if_neg (by omega)]), rfl⟩
/-- The example's bytes. -/
def exB : List UInt8 := ((List.replicate 64 0).set 0 7).set 40 8
set_option maxRecDepth 100000 in
set_option maxHeartbeats 2000000 in
theorem known7_any (w : World) : Calls Try.prog 9 #[] w fun e w' => e = .returned (.bool true) ∧ Below w.heap.size w w' := by
  go_enter Try.func9, Try.ntmps9
  go_wp2_with fail
  refine (new_is 3 w (by omega) (by omega)).mono ?_
  rintro e w1 ⟨d, S, rfl, h1, b1, hS⟩
  go_wp2_with (at_make; refine wpList_full_ob rfl _ _ 22 rfl 5 byteTy .i64 .i64 _ _ 64 rfl rfl rfl rfl (by omega) ?_; intro w2 hO b2; obtain ⟨v0, cv0⟩ := hO.cell_any 0 (by omega); obtain ⟨v40, cv40⟩ := hO.cell_any 40 (by omega); have f0 := hO.free 0; have f40 := hO.free 40)
  have hg0 : ∀ k, S k → k < w1.heap.size := h1.lt
  have h2 := h1.past b2
  have hO2 := (hO.set 0 7).set 40 8
  have kp2 : Kp w2 ((w2.setCell ⟨w1.heap.size, 0, none⟩ (bc 7)).setCell ⟨w1.heap.size, 40, none⟩ (bc 8)) (fun k => k = w1.heap.size) := (Kp.set w2 w1.heap.size 0 (bc 7) (S := fun k => k = w1.heap.size) rfl).trans (Kp.set _ w1.heap.size 40 (bc 8) (S := fun k => k = w1.heap.size) rfl) (fun _ _ q => q)
  have h3 := h2.kp kp2 (fun q hq e => by have := hg0 q hq; omega)
  have B3 : Below w.heap.size w ((w2.setCell ⟨w1.heap.size, 0, none⟩ (bc 7)).setCell ⟨w1.heap.size, 40, none⟩ (bc 8)) := (b1.trans (b2.mono b1.size)).trans (kp2.below (Nat.le_trans b1.size b2.size) (fun k e => by have := b1.size; omega))
  have hG : w.heap.size ≤ w1.heap.size := b1.size
  change Calls _ _ _ ((w2.setCell ⟨w1.heap.size, 0, none⟩ (bc 7)).setCell ⟨w1.heap.size, 40, none⟩ (bc 8)) _
  generalize (w2.setCell ⟨w1.heap.size, 0, none⟩ (bc 7)).setCell ⟨w1.heap.size, 40, none⟩ (bc 8) = w3 at hO2 h3 B3 ⊢
  clear kp2 h2 hO cv0 cv40 f0 f40 b1 b2 h1
  refine (write_is h3 rfl (room_of (by decide) (by decide)) (by simp [newD]) 1 (by omega) _ 64 64 exB hO2.isB (by omega)).mono ?_
  rintro e w4 ⟨S4, rfl, h4, k4, x4⟩
  have hS4 := x4.ge B3.size hS
  have B4 := B3.trans (k4.below B3.size hS)
  clear hO2 h3 k4 B3
  have hcode : (newD 3).code = 0 := rfl
  have HC := Lib.hid hcode
  rw [hcode]
  clear hcode
  go_wp2_with fail
  have h5 := h4.past ((Below.refl _ _).alloc (Nat.le_refl _) (.cells #[.int .i64 1] 3))
  have B5 : Below w.heap.size w (w4.alloc (.cells #[.int .i64 1] 3)) := B4.alloc B4.size _
  refine (crash_is h5 (by simp [newD, Dk.put, Dk.spent]) _ 1 1 [1] (ints_lit w4 3 [1] 1 rfl (by omega) _ rfl) (fun a ha q => by cases ha; exact absurd (h4.lt _ q) (Nat.lt_irrefl _))).mono ?_
  rintro e w6 ⟨S6, rfl, h6, k6, x6⟩
  have B6 := B5.trans (k6.below B5.size hS4)
  clear h4 h5 k6 B5
  go_wp2_with fail
  refine (read_is h6 rfl 1 (by omega)).mono ?_
  rintro e w7 ⟨g7, rfl, hO7, hg7, b7⟩
  have B7 := B6.trans (b7.mono B6.size)
  have e0 : w7.cell? ⟨g7, 0, none⟩ = some (.int .u8 7) := hO7.cell 0 7 (by kernel_rfl)
  have e40 : w7.cell? ⟨g7, 40, none⟩ = some (.int .u8 0) := hO7.cell 40 0 (by kernel_rfl)
  clear hO7 h6
  go_wp2_with fail
  go_ret
  exact ⟨rfl, B7⟩
end Go.Proofs.Ytfajggiinoeaiaa
