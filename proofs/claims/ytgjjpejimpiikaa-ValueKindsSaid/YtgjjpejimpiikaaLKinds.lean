/-
  ValueKinds, walked (by gen_kinds.py).
-/
import Derived.Test.YtgjjpejimpiikaaLaw4
import Derived.Deep.RegionHeld3
namespace Go.Proofs.Ytgjjpejimpiikaa
open Go.RowKit
set_option maxRecDepth 100000 in
set_option maxHeartbeats 16000000 in
theorem valueKinds_walk (a : Int) (s : ByteArray) (w : World) :
    Calls Try.prog 5 #[.int .i64 a, .string s] w (Told w true) := by
  go_enter Try.func5, Try.ntmps5
  go_wp2_with (go_at_call 7; refine (known4 _).mono ?_; rintro e w1 ⟨rfl, b1⟩)
  · go_ret
    exact ⟨rfl, b1⟩
  have bl : Below w.heap.size w (w1.alloc (.cells #[.int .i64 0, .int .i64 0, .string ⟨#[]⟩, .int .i64 1, .int .i64 0, .string ⟨#[]⟩, .int .i64 1, .int .i64 1, .string ⟨#[]⟩, .int .i64 2, .int .i64 a, .string ⟨#[]⟩, .int .i64 3, .int .i64 0, .string s] 23)) := b1.alloc b1.size _
  have l0 : (w1.alloc (.cells #[.int .i64 0, .int .i64 0, .string ⟨#[]⟩, .int .i64 1, .int .i64 0, .string ⟨#[]⟩, .int .i64 1, .int .i64 1, .string ⟨#[]⟩, .int .i64 2, .int .i64 a, .string ⟨#[]⟩, .int .i64 3, .int .i64 0, .string s] 23)).cell? ⟨w1.heap.size, 0, none⟩ = some (.int .i64 0) := by go_simp
  have l1 : (w1.alloc (.cells #[.int .i64 0, .int .i64 0, .string ⟨#[]⟩, .int .i64 1, .int .i64 0, .string ⟨#[]⟩, .int .i64 1, .int .i64 1, .string ⟨#[]⟩, .int .i64 2, .int .i64 a, .string ⟨#[]⟩, .int .i64 3, .int .i64 0, .string s] 23)).cell? ⟨w1.heap.size, 1, none⟩ = some (.int .i64 0) := by go_simp
  have l2 : (w1.alloc (.cells #[.int .i64 0, .int .i64 0, .string ⟨#[]⟩, .int .i64 1, .int .i64 0, .string ⟨#[]⟩, .int .i64 1, .int .i64 1, .string ⟨#[]⟩, .int .i64 2, .int .i64 a, .string ⟨#[]⟩, .int .i64 3, .int .i64 0, .string s] 23)).cell? ⟨w1.heap.size, 2, none⟩ = some (.string ⟨#[]⟩) := by go_simp
  have l3 : (w1.alloc (.cells #[.int .i64 0, .int .i64 0, .string ⟨#[]⟩, .int .i64 1, .int .i64 0, .string ⟨#[]⟩, .int .i64 1, .int .i64 1, .string ⟨#[]⟩, .int .i64 2, .int .i64 a, .string ⟨#[]⟩, .int .i64 3, .int .i64 0, .string s] 23)).cell? ⟨w1.heap.size, 3, none⟩ = some (.int .i64 1) := by go_simp
  have l4 : (w1.alloc (.cells #[.int .i64 0, .int .i64 0, .string ⟨#[]⟩, .int .i64 1, .int .i64 0, .string ⟨#[]⟩, .int .i64 1, .int .i64 1, .string ⟨#[]⟩, .int .i64 2, .int .i64 a, .string ⟨#[]⟩, .int .i64 3, .int .i64 0, .string s] 23)).cell? ⟨w1.heap.size, 4, none⟩ = some (.int .i64 0) := by go_simp
  have l5 : (w1.alloc (.cells #[.int .i64 0, .int .i64 0, .string ⟨#[]⟩, .int .i64 1, .int .i64 0, .string ⟨#[]⟩, .int .i64 1, .int .i64 1, .string ⟨#[]⟩, .int .i64 2, .int .i64 a, .string ⟨#[]⟩, .int .i64 3, .int .i64 0, .string s] 23)).cell? ⟨w1.heap.size, 5, none⟩ = some (.string ⟨#[]⟩) := by go_simp
  have l6 : (w1.alloc (.cells #[.int .i64 0, .int .i64 0, .string ⟨#[]⟩, .int .i64 1, .int .i64 0, .string ⟨#[]⟩, .int .i64 1, .int .i64 1, .string ⟨#[]⟩, .int .i64 2, .int .i64 a, .string ⟨#[]⟩, .int .i64 3, .int .i64 0, .string s] 23)).cell? ⟨w1.heap.size, 6, none⟩ = some (.int .i64 1) := by go_simp
  have l7 : (w1.alloc (.cells #[.int .i64 0, .int .i64 0, .string ⟨#[]⟩, .int .i64 1, .int .i64 0, .string ⟨#[]⟩, .int .i64 1, .int .i64 1, .string ⟨#[]⟩, .int .i64 2, .int .i64 a, .string ⟨#[]⟩, .int .i64 3, .int .i64 0, .string s] 23)).cell? ⟨w1.heap.size, 7, none⟩ = some (.int .i64 1) := by go_simp
  have l8 : (w1.alloc (.cells #[.int .i64 0, .int .i64 0, .string ⟨#[]⟩, .int .i64 1, .int .i64 0, .string ⟨#[]⟩, .int .i64 1, .int .i64 1, .string ⟨#[]⟩, .int .i64 2, .int .i64 a, .string ⟨#[]⟩, .int .i64 3, .int .i64 0, .string s] 23)).cell? ⟨w1.heap.size, 8, none⟩ = some (.string ⟨#[]⟩) := by go_simp
  have l9 : (w1.alloc (.cells #[.int .i64 0, .int .i64 0, .string ⟨#[]⟩, .int .i64 1, .int .i64 0, .string ⟨#[]⟩, .int .i64 1, .int .i64 1, .string ⟨#[]⟩, .int .i64 2, .int .i64 a, .string ⟨#[]⟩, .int .i64 3, .int .i64 0, .string s] 23)).cell? ⟨w1.heap.size, 9, none⟩ = some (.int .i64 2) := by go_simp
  have l10 : (w1.alloc (.cells #[.int .i64 0, .int .i64 0, .string ⟨#[]⟩, .int .i64 1, .int .i64 0, .string ⟨#[]⟩, .int .i64 1, .int .i64 1, .string ⟨#[]⟩, .int .i64 2, .int .i64 a, .string ⟨#[]⟩, .int .i64 3, .int .i64 0, .string s] 23)).cell? ⟨w1.heap.size, 10, none⟩ = some (.int .i64 a) := by go_simp
  have l11 : (w1.alloc (.cells #[.int .i64 0, .int .i64 0, .string ⟨#[]⟩, .int .i64 1, .int .i64 0, .string ⟨#[]⟩, .int .i64 1, .int .i64 1, .string ⟨#[]⟩, .int .i64 2, .int .i64 a, .string ⟨#[]⟩, .int .i64 3, .int .i64 0, .string s] 23)).cell? ⟨w1.heap.size, 11, none⟩ = some (.string ⟨#[]⟩) := by go_simp
  have l12 : (w1.alloc (.cells #[.int .i64 0, .int .i64 0, .string ⟨#[]⟩, .int .i64 1, .int .i64 0, .string ⟨#[]⟩, .int .i64 1, .int .i64 1, .string ⟨#[]⟩, .int .i64 2, .int .i64 a, .string ⟨#[]⟩, .int .i64 3, .int .i64 0, .string s] 23)).cell? ⟨w1.heap.size, 12, none⟩ = some (.int .i64 3) := by go_simp
  have l13 : (w1.alloc (.cells #[.int .i64 0, .int .i64 0, .string ⟨#[]⟩, .int .i64 1, .int .i64 0, .string ⟨#[]⟩, .int .i64 1, .int .i64 1, .string ⟨#[]⟩, .int .i64 2, .int .i64 a, .string ⟨#[]⟩, .int .i64 3, .int .i64 0, .string s] 23)).cell? ⟨w1.heap.size, 13, none⟩ = some (.int .i64 0) := by go_simp
  have l14 : (w1.alloc (.cells #[.int .i64 0, .int .i64 0, .string ⟨#[]⟩, .int .i64 1, .int .i64 0, .string ⟨#[]⟩, .int .i64 1, .int .i64 1, .string ⟨#[]⟩, .int .i64 2, .int .i64 a, .string ⟨#[]⟩, .int .i64 3, .int .i64 0, .string s] 23)).cell? ⟨w1.heap.size, 14, none⟩ = some (.string s) := by go_simp
  have hg : w1.heap.size < (w1.alloc (.cells #[.int .i64 0, .int .i64 0, .string ⟨#[]⟩, .int .i64 1, .int .i64 0, .string ⟨#[]⟩, .int .i64 1, .int .i64 1, .string ⟨#[]⟩, .int .i64 2, .int .i64 a, .string ⟨#[]⟩, .int .i64 3, .int .i64 0, .string s] 23)).heap.size := by simp
  generalize (w1.alloc (.cells #[.int .i64 0, .int .i64 0, .string ⟨#[]⟩, .int .i64 1, .int .i64 0, .string ⟨#[]⟩, .int .i64 1, .int .i64 1, .string ⟨#[]⟩, .int .i64 2, .int .i64 a, .string ⟨#[]⟩, .int .i64 3, .int .i64 0, .string s] 23)) = wl at bl hg l0 l1 l2 l3 l4 l5 l6 l7 l8 l9 l10 l11 l12 l13 l14 ⊢
  generalize w1.heap.size = g at hg l0 l1 l2 l3 l4 l5 l6 l7 l8 l9 l10 l11 l12 l13 l14 ⊢
  go_loopw [6] (fun v wq => ∃ i : Nat, v = .int .i64 i ∧ i ≤ 5 ∧ Below wl.heap.size wl wq) (fun v _ => 6 - (intOf v).toNat)
  case atStart => exact ⟨0, rfl, by omega, Below.refl _ _⟩
  case round =>
    obtain ⟨i, rfl, hi, hB⟩ := hrel
    have hi' : i = 0 ∨ i = 1 ∨ i = 2 ∨ i = 3 ∨ i = 4 ∨ i = 5 := by omega
    rcases hi' with rfl | rfl | rfl | rfl | rfl | rfl
    · simp only [show ((0 : Nat) : Int) = 0 from rfl]
      go_wp2_with fail
      have hB0 := hB
      clear hB
      go_loopw [7] (fun v wq => ∃ j : Nat, v = .int .i64 j ∧ j ≤ 5 ∧ Below wl.heap.size wl wq) (fun v _ => 6 - (intOf v).toNat)
      case atStart => exact ⟨0, rfl, by omega, hB0⟩
      case round =>
        obtain ⟨j, rfl, hj, hB⟩ := hrel
        have hj' : j = 0 ∨ j = 1 ∨ j = 2 ∨ j = 3 ∨ j = 4 ∨ j = 5 := by omega
        rcases hj' with rfl | rfl | rfl | rfl | rfl | rfl
        · simp only [show ((0 : Nat) : Int) = 0 from rfl]
          have hc : cmpV 0 0 ⟨#[]⟩ 0 0 ⟨#[]⟩ = 0 := cmpV_self _ _ _
          have c0 := (hB.cell (p := ⟨g, 0, none⟩) hg).trans l0
          have c1 := (hB.cell (p := ⟨g, 1, none⟩) hg).trans l1
          have c2 := (hB.cell (p := ⟨g, 2, none⟩) hg).trans l2
          go_wp2_with fail
          go_region_held3 (fun w' => w'.cell? ⟨g, 0, none⟩ = some (.int .i64 0) ∧ w'.cell? ⟨g, 1, none⟩ = some (.int .i64 0) ∧ w'.cell? ⟨g, 2, none⟩ = some (.string ⟨#[]⟩)) (first | go_keep | (refine ⟨?_, ?_, ?_⟩ <;> (rw [bx.cell (by have := hB.size; simp; omega)]; assumption)))
            (first | (go_at_call 10; refine (compare_any _ _ _ _ _ _ _).mono ?_; rintro e wx ⟨rfl, bx⟩; rw [hc]))
          go_wp2_with fail
          go_roundw
          case rel => exact ⟨1, by go_num, by omega, hB.trans ((Below.refl _ _).drew.trans (bx.mono (Nat.le_refl _)) |>.mono hB.size)⟩
          case measure => simp [intOf]
        · simp only [show ((1 : Nat) : Int) = 1 from rfl]
          have hc : cmpV 0 0 ⟨#[]⟩ 1 0 ⟨#[]⟩ = -1 := by simp [cmpV, or3, cmpI]
          have c0 := (hB.cell (p := ⟨g, 0, none⟩) hg).trans l0
          have c1 := (hB.cell (p := ⟨g, 1, none⟩) hg).trans l1
          have c2 := (hB.cell (p := ⟨g, 2, none⟩) hg).trans l2
          have c3 := (hB.cell (p := ⟨g, 3, none⟩) hg).trans l3
          have c4 := (hB.cell (p := ⟨g, 4, none⟩) hg).trans l4
          have c5 := (hB.cell (p := ⟨g, 5, none⟩) hg).trans l5
          go_wp2_with fail
          go_region_held3 (fun w' => w'.cell? ⟨g, 0, none⟩ = some (.int .i64 0) ∧ w'.cell? ⟨g, 1, none⟩ = some (.int .i64 0) ∧ w'.cell? ⟨g, 2, none⟩ = some (.string ⟨#[]⟩) ∧ w'.cell? ⟨g, 3, none⟩ = some (.int .i64 1) ∧ w'.cell? ⟨g, 4, none⟩ = some (.int .i64 0) ∧ w'.cell? ⟨g, 5, none⟩ = some (.string ⟨#[]⟩)) (first | go_keep | (refine ⟨?_, ?_, ?_, ?_, ?_, ?_⟩ <;> (rw [bx.cell (by have := hB.size; simp; omega)]; assumption)))
            (first | (go_at_call 10; refine (compare_any _ _ _ _ _ _ _).mono ?_; rintro e wx ⟨rfl, bx⟩; rw [hc]))
          go_wp2_with fail
          go_roundw
          case rel => exact ⟨2, by go_num, by omega, hB.trans ((Below.refl _ _).drew.trans (bx.mono (Nat.le_refl _)) |>.mono hB.size)⟩
          case measure => simp [intOf]
        · simp only [show ((2 : Nat) : Int) = 2 from rfl]
          have hc : cmpV 0 0 ⟨#[]⟩ 1 1 ⟨#[]⟩ = -1 := by simp [cmpV, or3, cmpI]
          have c0 := (hB.cell (p := ⟨g, 0, none⟩) hg).trans l0
          have c1 := (hB.cell (p := ⟨g, 1, none⟩) hg).trans l1
          have c2 := (hB.cell (p := ⟨g, 2, none⟩) hg).trans l2
          have c6 := (hB.cell (p := ⟨g, 6, none⟩) hg).trans l6
          have c7 := (hB.cell (p := ⟨g, 7, none⟩) hg).trans l7
          have c8 := (hB.cell (p := ⟨g, 8, none⟩) hg).trans l8
          go_wp2_with fail
          go_region_held3 (fun w' => w'.cell? ⟨g, 0, none⟩ = some (.int .i64 0) ∧ w'.cell? ⟨g, 1, none⟩ = some (.int .i64 0) ∧ w'.cell? ⟨g, 2, none⟩ = some (.string ⟨#[]⟩) ∧ w'.cell? ⟨g, 6, none⟩ = some (.int .i64 1) ∧ w'.cell? ⟨g, 7, none⟩ = some (.int .i64 1) ∧ w'.cell? ⟨g, 8, none⟩ = some (.string ⟨#[]⟩)) (first | go_keep | (refine ⟨?_, ?_, ?_, ?_, ?_, ?_⟩ <;> (rw [bx.cell (by have := hB.size; simp; omega)]; assumption)))
            (first | (go_at_call 10; refine (compare_any _ _ _ _ _ _ _).mono ?_; rintro e wx ⟨rfl, bx⟩; rw [hc]))
          go_wp2_with fail
          go_roundw
          case rel => exact ⟨3, by go_num, by omega, hB.trans ((Below.refl _ _).drew.trans (bx.mono (Nat.le_refl _)) |>.mono hB.size)⟩
          case measure => simp [intOf]
        · simp only [show ((3 : Nat) : Int) = 3 from rfl]
          have hc : cmpV 0 0 ⟨#[]⟩ 2 a ⟨#[]⟩ = -1 := by simp [cmpV, or3, cmpI]
          have c0 := (hB.cell (p := ⟨g, 0, none⟩) hg).trans l0
          have c1 := (hB.cell (p := ⟨g, 1, none⟩) hg).trans l1
          have c2 := (hB.cell (p := ⟨g, 2, none⟩) hg).trans l2
          have c9 := (hB.cell (p := ⟨g, 9, none⟩) hg).trans l9
          have c10 := (hB.cell (p := ⟨g, 10, none⟩) hg).trans l10
          have c11 := (hB.cell (p := ⟨g, 11, none⟩) hg).trans l11
          go_wp2_with fail
          go_region_held3 (fun w' => w'.cell? ⟨g, 0, none⟩ = some (.int .i64 0) ∧ w'.cell? ⟨g, 1, none⟩ = some (.int .i64 0) ∧ w'.cell? ⟨g, 2, none⟩ = some (.string ⟨#[]⟩) ∧ w'.cell? ⟨g, 9, none⟩ = some (.int .i64 2) ∧ w'.cell? ⟨g, 10, none⟩ = some (.int .i64 a) ∧ w'.cell? ⟨g, 11, none⟩ = some (.string ⟨#[]⟩)) (first | go_keep | (refine ⟨?_, ?_, ?_, ?_, ?_, ?_⟩ <;> (rw [bx.cell (by have := hB.size; simp; omega)]; assumption)))
            (first | (go_at_call 10; refine (compare_any _ _ _ _ _ _ _).mono ?_; rintro e wx ⟨rfl, bx⟩; rw [hc]))
          go_wp2_with fail
          go_roundw
          case rel => exact ⟨4, by go_num, by omega, hB.trans ((Below.refl _ _).drew.trans (bx.mono (Nat.le_refl _)) |>.mono hB.size)⟩
          case measure => simp [intOf]
        · simp only [show ((4 : Nat) : Int) = 4 from rfl]
          have hc : cmpV 0 0 ⟨#[]⟩ 3 0 s = -1 := by simp [cmpV, or3, cmpI]
          have c0 := (hB.cell (p := ⟨g, 0, none⟩) hg).trans l0
          have c1 := (hB.cell (p := ⟨g, 1, none⟩) hg).trans l1
          have c2 := (hB.cell (p := ⟨g, 2, none⟩) hg).trans l2
          have c12 := (hB.cell (p := ⟨g, 12, none⟩) hg).trans l12
          have c13 := (hB.cell (p := ⟨g, 13, none⟩) hg).trans l13
          have c14 := (hB.cell (p := ⟨g, 14, none⟩) hg).trans l14
          go_wp2_with fail
          go_region_held3 (fun w' => w'.cell? ⟨g, 0, none⟩ = some (.int .i64 0) ∧ w'.cell? ⟨g, 1, none⟩ = some (.int .i64 0) ∧ w'.cell? ⟨g, 2, none⟩ = some (.string ⟨#[]⟩) ∧ w'.cell? ⟨g, 12, none⟩ = some (.int .i64 3) ∧ w'.cell? ⟨g, 13, none⟩ = some (.int .i64 0) ∧ w'.cell? ⟨g, 14, none⟩ = some (.string s)) (first | go_keep | (refine ⟨?_, ?_, ?_, ?_, ?_, ?_⟩ <;> (rw [bx.cell (by have := hB.size; simp; omega)]; assumption)))
            (first | (go_at_call 10; refine (compare_any _ _ _ _ _ _ _).mono ?_; rintro e wx ⟨rfl, bx⟩; rw [hc]))
          go_wp2_with fail
          go_roundw
          case rel => exact ⟨5, by go_num, by omega, hB.trans ((Below.refl _ _).drew.trans (bx.mono (Nat.le_refl _)) |>.mono hB.size)⟩
          case measure => simp [intOf]
        · simp only [show ((5 : Nat) : Int) = 5 from rfl]
          go_wp2_with fail
          go_roundw
          case rel => exact ⟨1, by go_num, by omega, hB⟩
          case measure => simp [intOf]
    · simp only [show ((1 : Nat) : Int) = 1 from rfl]
      go_wp2_with fail
      have hB0 := hB
      clear hB
      go_loopw [7] (fun v wq => ∃ j : Nat, v = .int .i64 j ∧ j ≤ 5 ∧ Below wl.heap.size wl wq) (fun v _ => 6 - (intOf v).toNat)
      case atStart => exact ⟨0, rfl, by omega, hB0⟩
      case round =>
        obtain ⟨j, rfl, hj, hB⟩ := hrel
        have hj' : j = 0 ∨ j = 1 ∨ j = 2 ∨ j = 3 ∨ j = 4 ∨ j = 5 := by omega
        rcases hj' with rfl | rfl | rfl | rfl | rfl | rfl
        · simp only [show ((0 : Nat) : Int) = 0 from rfl]
          have hc : cmpV 1 0 ⟨#[]⟩ 0 0 ⟨#[]⟩ = 1 := by simp [cmpV, or3, cmpI]
          have c0 := (hB.cell (p := ⟨g, 0, none⟩) hg).trans l0
          have c1 := (hB.cell (p := ⟨g, 1, none⟩) hg).trans l1
          have c2 := (hB.cell (p := ⟨g, 2, none⟩) hg).trans l2
          have c3 := (hB.cell (p := ⟨g, 3, none⟩) hg).trans l3
          have c4 := (hB.cell (p := ⟨g, 4, none⟩) hg).trans l4
          have c5 := (hB.cell (p := ⟨g, 5, none⟩) hg).trans l5
          go_wp2_with fail
          go_region_held3 (fun w' => w'.cell? ⟨g, 0, none⟩ = some (.int .i64 0) ∧ w'.cell? ⟨g, 1, none⟩ = some (.int .i64 0) ∧ w'.cell? ⟨g, 2, none⟩ = some (.string ⟨#[]⟩) ∧ w'.cell? ⟨g, 3, none⟩ = some (.int .i64 1) ∧ w'.cell? ⟨g, 4, none⟩ = some (.int .i64 0) ∧ w'.cell? ⟨g, 5, none⟩ = some (.string ⟨#[]⟩)) (first | go_keep | (refine ⟨?_, ?_, ?_, ?_, ?_, ?_⟩ <;> (rw [bx.cell (by have := hB.size; simp; omega)]; assumption)))
            (first | (go_at_call 10; refine (compare_any _ _ _ _ _ _ _).mono ?_; rintro e wx ⟨rfl, bx⟩; rw [hc]))
          go_wp2_with fail
          go_roundw
          case rel => exact ⟨1, by go_num, by omega, hB.trans ((Below.refl _ _).drew.trans (bx.mono (Nat.le_refl _)) |>.mono hB.size)⟩
          case measure => simp [intOf]
        · simp only [show ((1 : Nat) : Int) = 1 from rfl]
          have hc : cmpV 1 0 ⟨#[]⟩ 1 0 ⟨#[]⟩ = 0 := cmpV_self _ _ _
          have c3 := (hB.cell (p := ⟨g, 3, none⟩) hg).trans l3
          have c4 := (hB.cell (p := ⟨g, 4, none⟩) hg).trans l4
          have c5 := (hB.cell (p := ⟨g, 5, none⟩) hg).trans l5
          go_wp2_with fail
          go_region_held3 (fun w' => w'.cell? ⟨g, 3, none⟩ = some (.int .i64 1) ∧ w'.cell? ⟨g, 4, none⟩ = some (.int .i64 0) ∧ w'.cell? ⟨g, 5, none⟩ = some (.string ⟨#[]⟩)) (first | go_keep | (refine ⟨?_, ?_, ?_⟩ <;> (rw [bx.cell (by have := hB.size; simp; omega)]; assumption)))
            (first | (go_at_call 10; refine (compare_any _ _ _ _ _ _ _).mono ?_; rintro e wx ⟨rfl, bx⟩; rw [hc]))
          go_wp2_with fail
          go_roundw
          case rel => exact ⟨2, by go_num, by omega, hB.trans ((Below.refl _ _).drew.trans (bx.mono (Nat.le_refl _)) |>.mono hB.size)⟩
          case measure => simp [intOf]
        · simp only [show ((2 : Nat) : Int) = 2 from rfl]
          have hc : cmpV 1 0 ⟨#[]⟩ 1 1 ⟨#[]⟩ = -1 := by simp [cmpV, or3, cmpI]
          have c3 := (hB.cell (p := ⟨g, 3, none⟩) hg).trans l3
          have c4 := (hB.cell (p := ⟨g, 4, none⟩) hg).trans l4
          have c5 := (hB.cell (p := ⟨g, 5, none⟩) hg).trans l5
          have c6 := (hB.cell (p := ⟨g, 6, none⟩) hg).trans l6
          have c7 := (hB.cell (p := ⟨g, 7, none⟩) hg).trans l7
          have c8 := (hB.cell (p := ⟨g, 8, none⟩) hg).trans l8
          go_wp2_with fail
          go_region_held3 (fun w' => w'.cell? ⟨g, 3, none⟩ = some (.int .i64 1) ∧ w'.cell? ⟨g, 4, none⟩ = some (.int .i64 0) ∧ w'.cell? ⟨g, 5, none⟩ = some (.string ⟨#[]⟩) ∧ w'.cell? ⟨g, 6, none⟩ = some (.int .i64 1) ∧ w'.cell? ⟨g, 7, none⟩ = some (.int .i64 1) ∧ w'.cell? ⟨g, 8, none⟩ = some (.string ⟨#[]⟩)) (first | go_keep | (refine ⟨?_, ?_, ?_, ?_, ?_, ?_⟩ <;> (rw [bx.cell (by have := hB.size; simp; omega)]; assumption)))
            (first | (go_at_call 10; refine (compare_any _ _ _ _ _ _ _).mono ?_; rintro e wx ⟨rfl, bx⟩; rw [hc]))
          go_wp2_with fail
          go_roundw
          case rel => exact ⟨3, by go_num, by omega, hB.trans ((Below.refl _ _).drew.trans (bx.mono (Nat.le_refl _)) |>.mono hB.size)⟩
          case measure => simp [intOf]
        · simp only [show ((3 : Nat) : Int) = 3 from rfl]
          have hc : cmpV 1 0 ⟨#[]⟩ 2 a ⟨#[]⟩ = -1 := by simp [cmpV, or3, cmpI]
          have c3 := (hB.cell (p := ⟨g, 3, none⟩) hg).trans l3
          have c4 := (hB.cell (p := ⟨g, 4, none⟩) hg).trans l4
          have c5 := (hB.cell (p := ⟨g, 5, none⟩) hg).trans l5
          have c9 := (hB.cell (p := ⟨g, 9, none⟩) hg).trans l9
          have c10 := (hB.cell (p := ⟨g, 10, none⟩) hg).trans l10
          have c11 := (hB.cell (p := ⟨g, 11, none⟩) hg).trans l11
          go_wp2_with fail
          go_region_held3 (fun w' => w'.cell? ⟨g, 3, none⟩ = some (.int .i64 1) ∧ w'.cell? ⟨g, 4, none⟩ = some (.int .i64 0) ∧ w'.cell? ⟨g, 5, none⟩ = some (.string ⟨#[]⟩) ∧ w'.cell? ⟨g, 9, none⟩ = some (.int .i64 2) ∧ w'.cell? ⟨g, 10, none⟩ = some (.int .i64 a) ∧ w'.cell? ⟨g, 11, none⟩ = some (.string ⟨#[]⟩)) (first | go_keep | (refine ⟨?_, ?_, ?_, ?_, ?_, ?_⟩ <;> (rw [bx.cell (by have := hB.size; simp; omega)]; assumption)))
            (first | (go_at_call 10; refine (compare_any _ _ _ _ _ _ _).mono ?_; rintro e wx ⟨rfl, bx⟩; rw [hc]))
          go_wp2_with fail
          go_roundw
          case rel => exact ⟨4, by go_num, by omega, hB.trans ((Below.refl _ _).drew.trans (bx.mono (Nat.le_refl _)) |>.mono hB.size)⟩
          case measure => simp [intOf]
        · simp only [show ((4 : Nat) : Int) = 4 from rfl]
          have hc : cmpV 1 0 ⟨#[]⟩ 3 0 s = -1 := by simp [cmpV, or3, cmpI]
          have c3 := (hB.cell (p := ⟨g, 3, none⟩) hg).trans l3
          have c4 := (hB.cell (p := ⟨g, 4, none⟩) hg).trans l4
          have c5 := (hB.cell (p := ⟨g, 5, none⟩) hg).trans l5
          have c12 := (hB.cell (p := ⟨g, 12, none⟩) hg).trans l12
          have c13 := (hB.cell (p := ⟨g, 13, none⟩) hg).trans l13
          have c14 := (hB.cell (p := ⟨g, 14, none⟩) hg).trans l14
          go_wp2_with fail
          go_region_held3 (fun w' => w'.cell? ⟨g, 3, none⟩ = some (.int .i64 1) ∧ w'.cell? ⟨g, 4, none⟩ = some (.int .i64 0) ∧ w'.cell? ⟨g, 5, none⟩ = some (.string ⟨#[]⟩) ∧ w'.cell? ⟨g, 12, none⟩ = some (.int .i64 3) ∧ w'.cell? ⟨g, 13, none⟩ = some (.int .i64 0) ∧ w'.cell? ⟨g, 14, none⟩ = some (.string s)) (first | go_keep | (refine ⟨?_, ?_, ?_, ?_, ?_, ?_⟩ <;> (rw [bx.cell (by have := hB.size; simp; omega)]; assumption)))
            (first | (go_at_call 10; refine (compare_any _ _ _ _ _ _ _).mono ?_; rintro e wx ⟨rfl, bx⟩; rw [hc]))
          go_wp2_with fail
          go_roundw
          case rel => exact ⟨5, by go_num, by omega, hB.trans ((Below.refl _ _).drew.trans (bx.mono (Nat.le_refl _)) |>.mono hB.size)⟩
          case measure => simp [intOf]
        · simp only [show ((5 : Nat) : Int) = 5 from rfl]
          go_wp2_with fail
          go_roundw
          case rel => exact ⟨2, by go_num, by omega, hB⟩
          case measure => simp [intOf]
    · simp only [show ((2 : Nat) : Int) = 2 from rfl]
      go_wp2_with fail
      have hB0 := hB
      clear hB
      go_loopw [7] (fun v wq => ∃ j : Nat, v = .int .i64 j ∧ j ≤ 5 ∧ Below wl.heap.size wl wq) (fun v _ => 6 - (intOf v).toNat)
      case atStart => exact ⟨0, rfl, by omega, hB0⟩
      case round =>
        obtain ⟨j, rfl, hj, hB⟩ := hrel
        have hj' : j = 0 ∨ j = 1 ∨ j = 2 ∨ j = 3 ∨ j = 4 ∨ j = 5 := by omega
        rcases hj' with rfl | rfl | rfl | rfl | rfl | rfl
        · simp only [show ((0 : Nat) : Int) = 0 from rfl]
          have hc : cmpV 1 1 ⟨#[]⟩ 0 0 ⟨#[]⟩ = 1 := by simp [cmpV, or3, cmpI]
          have c0 := (hB.cell (p := ⟨g, 0, none⟩) hg).trans l0
          have c1 := (hB.cell (p := ⟨g, 1, none⟩) hg).trans l1
          have c2 := (hB.cell (p := ⟨g, 2, none⟩) hg).trans l2
          have c6 := (hB.cell (p := ⟨g, 6, none⟩) hg).trans l6
          have c7 := (hB.cell (p := ⟨g, 7, none⟩) hg).trans l7
          have c8 := (hB.cell (p := ⟨g, 8, none⟩) hg).trans l8
          go_wp2_with fail
          go_region_held3 (fun w' => w'.cell? ⟨g, 0, none⟩ = some (.int .i64 0) ∧ w'.cell? ⟨g, 1, none⟩ = some (.int .i64 0) ∧ w'.cell? ⟨g, 2, none⟩ = some (.string ⟨#[]⟩) ∧ w'.cell? ⟨g, 6, none⟩ = some (.int .i64 1) ∧ w'.cell? ⟨g, 7, none⟩ = some (.int .i64 1) ∧ w'.cell? ⟨g, 8, none⟩ = some (.string ⟨#[]⟩)) (first | go_keep | (refine ⟨?_, ?_, ?_, ?_, ?_, ?_⟩ <;> (rw [bx.cell (by have := hB.size; simp; omega)]; assumption)))
            (first | (go_at_call 10; refine (compare_any _ _ _ _ _ _ _).mono ?_; rintro e wx ⟨rfl, bx⟩; rw [hc]))
          go_wp2_with fail
          go_roundw
          case rel => exact ⟨1, by go_num, by omega, hB.trans ((Below.refl _ _).drew.trans (bx.mono (Nat.le_refl _)) |>.mono hB.size)⟩
          case measure => simp [intOf]
        · simp only [show ((1 : Nat) : Int) = 1 from rfl]
          have hc : cmpV 1 1 ⟨#[]⟩ 1 0 ⟨#[]⟩ = 1 := by simp [cmpV, or3, cmpI]
          have c3 := (hB.cell (p := ⟨g, 3, none⟩) hg).trans l3
          have c4 := (hB.cell (p := ⟨g, 4, none⟩) hg).trans l4
          have c5 := (hB.cell (p := ⟨g, 5, none⟩) hg).trans l5
          have c6 := (hB.cell (p := ⟨g, 6, none⟩) hg).trans l6
          have c7 := (hB.cell (p := ⟨g, 7, none⟩) hg).trans l7
          have c8 := (hB.cell (p := ⟨g, 8, none⟩) hg).trans l8
          go_wp2_with fail
          go_region_held3 (fun w' => w'.cell? ⟨g, 3, none⟩ = some (.int .i64 1) ∧ w'.cell? ⟨g, 4, none⟩ = some (.int .i64 0) ∧ w'.cell? ⟨g, 5, none⟩ = some (.string ⟨#[]⟩) ∧ w'.cell? ⟨g, 6, none⟩ = some (.int .i64 1) ∧ w'.cell? ⟨g, 7, none⟩ = some (.int .i64 1) ∧ w'.cell? ⟨g, 8, none⟩ = some (.string ⟨#[]⟩)) (first | go_keep | (refine ⟨?_, ?_, ?_, ?_, ?_, ?_⟩ <;> (rw [bx.cell (by have := hB.size; simp; omega)]; assumption)))
            (first | (go_at_call 10; refine (compare_any _ _ _ _ _ _ _).mono ?_; rintro e wx ⟨rfl, bx⟩; rw [hc]))
          go_wp2_with fail
          go_roundw
          case rel => exact ⟨2, by go_num, by omega, hB.trans ((Below.refl _ _).drew.trans (bx.mono (Nat.le_refl _)) |>.mono hB.size)⟩
          case measure => simp [intOf]
        · simp only [show ((2 : Nat) : Int) = 2 from rfl]
          have hc : cmpV 1 1 ⟨#[]⟩ 1 1 ⟨#[]⟩ = 0 := cmpV_self _ _ _
          have c6 := (hB.cell (p := ⟨g, 6, none⟩) hg).trans l6
          have c7 := (hB.cell (p := ⟨g, 7, none⟩) hg).trans l7
          have c8 := (hB.cell (p := ⟨g, 8, none⟩) hg).trans l8
          go_wp2_with fail
          go_region_held3 (fun w' => w'.cell? ⟨g, 6, none⟩ = some (.int .i64 1) ∧ w'.cell? ⟨g, 7, none⟩ = some (.int .i64 1) ∧ w'.cell? ⟨g, 8, none⟩ = some (.string ⟨#[]⟩)) (first | go_keep | (refine ⟨?_, ?_, ?_⟩ <;> (rw [bx.cell (by have := hB.size; simp; omega)]; assumption)))
            (first | (go_at_call 10; refine (compare_any _ _ _ _ _ _ _).mono ?_; rintro e wx ⟨rfl, bx⟩; rw [hc]))
          go_wp2_with fail
          go_roundw
          case rel => exact ⟨3, by go_num, by omega, hB.trans ((Below.refl _ _).drew.trans (bx.mono (Nat.le_refl _)) |>.mono hB.size)⟩
          case measure => simp [intOf]
        · simp only [show ((3 : Nat) : Int) = 3 from rfl]
          have hc : cmpV 1 1 ⟨#[]⟩ 2 a ⟨#[]⟩ = -1 := by simp [cmpV, or3, cmpI]
          have c6 := (hB.cell (p := ⟨g, 6, none⟩) hg).trans l6
          have c7 := (hB.cell (p := ⟨g, 7, none⟩) hg).trans l7
          have c8 := (hB.cell (p := ⟨g, 8, none⟩) hg).trans l8
          have c9 := (hB.cell (p := ⟨g, 9, none⟩) hg).trans l9
          have c10 := (hB.cell (p := ⟨g, 10, none⟩) hg).trans l10
          have c11 := (hB.cell (p := ⟨g, 11, none⟩) hg).trans l11
          go_wp2_with fail
          go_region_held3 (fun w' => w'.cell? ⟨g, 6, none⟩ = some (.int .i64 1) ∧ w'.cell? ⟨g, 7, none⟩ = some (.int .i64 1) ∧ w'.cell? ⟨g, 8, none⟩ = some (.string ⟨#[]⟩) ∧ w'.cell? ⟨g, 9, none⟩ = some (.int .i64 2) ∧ w'.cell? ⟨g, 10, none⟩ = some (.int .i64 a) ∧ w'.cell? ⟨g, 11, none⟩ = some (.string ⟨#[]⟩)) (first | go_keep | (refine ⟨?_, ?_, ?_, ?_, ?_, ?_⟩ <;> (rw [bx.cell (by have := hB.size; simp; omega)]; assumption)))
            (first | (go_at_call 10; refine (compare_any _ _ _ _ _ _ _).mono ?_; rintro e wx ⟨rfl, bx⟩; rw [hc]))
          go_wp2_with fail
          go_roundw
          case rel => exact ⟨4, by go_num, by omega, hB.trans ((Below.refl _ _).drew.trans (bx.mono (Nat.le_refl _)) |>.mono hB.size)⟩
          case measure => simp [intOf]
        · simp only [show ((4 : Nat) : Int) = 4 from rfl]
          have hc : cmpV 1 1 ⟨#[]⟩ 3 0 s = -1 := by simp [cmpV, or3, cmpI]
          have c6 := (hB.cell (p := ⟨g, 6, none⟩) hg).trans l6
          have c7 := (hB.cell (p := ⟨g, 7, none⟩) hg).trans l7
          have c8 := (hB.cell (p := ⟨g, 8, none⟩) hg).trans l8
          have c12 := (hB.cell (p := ⟨g, 12, none⟩) hg).trans l12
          have c13 := (hB.cell (p := ⟨g, 13, none⟩) hg).trans l13
          have c14 := (hB.cell (p := ⟨g, 14, none⟩) hg).trans l14
          go_wp2_with fail
          go_region_held3 (fun w' => w'.cell? ⟨g, 6, none⟩ = some (.int .i64 1) ∧ w'.cell? ⟨g, 7, none⟩ = some (.int .i64 1) ∧ w'.cell? ⟨g, 8, none⟩ = some (.string ⟨#[]⟩) ∧ w'.cell? ⟨g, 12, none⟩ = some (.int .i64 3) ∧ w'.cell? ⟨g, 13, none⟩ = some (.int .i64 0) ∧ w'.cell? ⟨g, 14, none⟩ = some (.string s)) (first | go_keep | (refine ⟨?_, ?_, ?_, ?_, ?_, ?_⟩ <;> (rw [bx.cell (by have := hB.size; simp; omega)]; assumption)))
            (first | (go_at_call 10; refine (compare_any _ _ _ _ _ _ _).mono ?_; rintro e wx ⟨rfl, bx⟩; rw [hc]))
          go_wp2_with fail
          go_roundw
          case rel => exact ⟨5, by go_num, by omega, hB.trans ((Below.refl _ _).drew.trans (bx.mono (Nat.le_refl _)) |>.mono hB.size)⟩
          case measure => simp [intOf]
        · simp only [show ((5 : Nat) : Int) = 5 from rfl]
          go_wp2_with fail
          go_roundw
          case rel => exact ⟨3, by go_num, by omega, hB⟩
          case measure => simp [intOf]
    · simp only [show ((3 : Nat) : Int) = 3 from rfl]
      go_wp2_with fail
      have hB0 := hB
      clear hB
      go_loopw [7] (fun v wq => ∃ j : Nat, v = .int .i64 j ∧ j ≤ 5 ∧ Below wl.heap.size wl wq) (fun v _ => 6 - (intOf v).toNat)
      case atStart => exact ⟨0, rfl, by omega, hB0⟩
      case round =>
        obtain ⟨j, rfl, hj, hB⟩ := hrel
        have hj' : j = 0 ∨ j = 1 ∨ j = 2 ∨ j = 3 ∨ j = 4 ∨ j = 5 := by omega
        rcases hj' with rfl | rfl | rfl | rfl | rfl | rfl
        · simp only [show ((0 : Nat) : Int) = 0 from rfl]
          have hc : cmpV 2 a ⟨#[]⟩ 0 0 ⟨#[]⟩ = 1 := by simp [cmpV, or3, cmpI]
          have c0 := (hB.cell (p := ⟨g, 0, none⟩) hg).trans l0
          have c1 := (hB.cell (p := ⟨g, 1, none⟩) hg).trans l1
          have c2 := (hB.cell (p := ⟨g, 2, none⟩) hg).trans l2
          have c9 := (hB.cell (p := ⟨g, 9, none⟩) hg).trans l9
          have c10 := (hB.cell (p := ⟨g, 10, none⟩) hg).trans l10
          have c11 := (hB.cell (p := ⟨g, 11, none⟩) hg).trans l11
          go_wp2_with fail
          go_region_held3 (fun w' => w'.cell? ⟨g, 0, none⟩ = some (.int .i64 0) ∧ w'.cell? ⟨g, 1, none⟩ = some (.int .i64 0) ∧ w'.cell? ⟨g, 2, none⟩ = some (.string ⟨#[]⟩) ∧ w'.cell? ⟨g, 9, none⟩ = some (.int .i64 2) ∧ w'.cell? ⟨g, 10, none⟩ = some (.int .i64 a) ∧ w'.cell? ⟨g, 11, none⟩ = some (.string ⟨#[]⟩)) (first | go_keep | (refine ⟨?_, ?_, ?_, ?_, ?_, ?_⟩ <;> (rw [bx.cell (by have := hB.size; simp; omega)]; assumption)))
            (first | (go_at_call 10; refine (compare_any _ _ _ _ _ _ _).mono ?_; rintro e wx ⟨rfl, bx⟩; rw [hc]))
          go_wp2_with fail
          go_roundw
          case rel => exact ⟨1, by go_num, by omega, hB.trans ((Below.refl _ _).drew.trans (bx.mono (Nat.le_refl _)) |>.mono hB.size)⟩
          case measure => simp [intOf]
        · simp only [show ((1 : Nat) : Int) = 1 from rfl]
          have hc : cmpV 2 a ⟨#[]⟩ 1 0 ⟨#[]⟩ = 1 := by simp [cmpV, or3, cmpI]
          have c3 := (hB.cell (p := ⟨g, 3, none⟩) hg).trans l3
          have c4 := (hB.cell (p := ⟨g, 4, none⟩) hg).trans l4
          have c5 := (hB.cell (p := ⟨g, 5, none⟩) hg).trans l5
          have c9 := (hB.cell (p := ⟨g, 9, none⟩) hg).trans l9
          have c10 := (hB.cell (p := ⟨g, 10, none⟩) hg).trans l10
          have c11 := (hB.cell (p := ⟨g, 11, none⟩) hg).trans l11
          go_wp2_with fail
          go_region_held3 (fun w' => w'.cell? ⟨g, 3, none⟩ = some (.int .i64 1) ∧ w'.cell? ⟨g, 4, none⟩ = some (.int .i64 0) ∧ w'.cell? ⟨g, 5, none⟩ = some (.string ⟨#[]⟩) ∧ w'.cell? ⟨g, 9, none⟩ = some (.int .i64 2) ∧ w'.cell? ⟨g, 10, none⟩ = some (.int .i64 a) ∧ w'.cell? ⟨g, 11, none⟩ = some (.string ⟨#[]⟩)) (first | go_keep | (refine ⟨?_, ?_, ?_, ?_, ?_, ?_⟩ <;> (rw [bx.cell (by have := hB.size; simp; omega)]; assumption)))
            (first | (go_at_call 10; refine (compare_any _ _ _ _ _ _ _).mono ?_; rintro e wx ⟨rfl, bx⟩; rw [hc]))
          go_wp2_with fail
          go_roundw
          case rel => exact ⟨2, by go_num, by omega, hB.trans ((Below.refl _ _).drew.trans (bx.mono (Nat.le_refl _)) |>.mono hB.size)⟩
          case measure => simp [intOf]
        · simp only [show ((2 : Nat) : Int) = 2 from rfl]
          have hc : cmpV 2 a ⟨#[]⟩ 1 1 ⟨#[]⟩ = 1 := by simp [cmpV, or3, cmpI]
          have c6 := (hB.cell (p := ⟨g, 6, none⟩) hg).trans l6
          have c7 := (hB.cell (p := ⟨g, 7, none⟩) hg).trans l7
          have c8 := (hB.cell (p := ⟨g, 8, none⟩) hg).trans l8
          have c9 := (hB.cell (p := ⟨g, 9, none⟩) hg).trans l9
          have c10 := (hB.cell (p := ⟨g, 10, none⟩) hg).trans l10
          have c11 := (hB.cell (p := ⟨g, 11, none⟩) hg).trans l11
          go_wp2_with fail
          go_region_held3 (fun w' => w'.cell? ⟨g, 6, none⟩ = some (.int .i64 1) ∧ w'.cell? ⟨g, 7, none⟩ = some (.int .i64 1) ∧ w'.cell? ⟨g, 8, none⟩ = some (.string ⟨#[]⟩) ∧ w'.cell? ⟨g, 9, none⟩ = some (.int .i64 2) ∧ w'.cell? ⟨g, 10, none⟩ = some (.int .i64 a) ∧ w'.cell? ⟨g, 11, none⟩ = some (.string ⟨#[]⟩)) (first | go_keep | (refine ⟨?_, ?_, ?_, ?_, ?_, ?_⟩ <;> (rw [bx.cell (by have := hB.size; simp; omega)]; assumption)))
            (first | (go_at_call 10; refine (compare_any _ _ _ _ _ _ _).mono ?_; rintro e wx ⟨rfl, bx⟩; rw [hc]))
          go_wp2_with fail
          go_roundw
          case rel => exact ⟨3, by go_num, by omega, hB.trans ((Below.refl _ _).drew.trans (bx.mono (Nat.le_refl _)) |>.mono hB.size)⟩
          case measure => simp [intOf]
        · simp only [show ((3 : Nat) : Int) = 3 from rfl]
          have hc : cmpV 2 a ⟨#[]⟩ 2 a ⟨#[]⟩ = 0 := cmpV_self _ _ _
          have c9 := (hB.cell (p := ⟨g, 9, none⟩) hg).trans l9
          have c10 := (hB.cell (p := ⟨g, 10, none⟩) hg).trans l10
          have c11 := (hB.cell (p := ⟨g, 11, none⟩) hg).trans l11
          go_wp2_with fail
          go_region_held3 (fun w' => w'.cell? ⟨g, 9, none⟩ = some (.int .i64 2) ∧ w'.cell? ⟨g, 10, none⟩ = some (.int .i64 a) ∧ w'.cell? ⟨g, 11, none⟩ = some (.string ⟨#[]⟩)) (first | go_keep | (refine ⟨?_, ?_, ?_⟩ <;> (rw [bx.cell (by have := hB.size; simp; omega)]; assumption)))
            (first | (go_at_call 10; refine (compare_any _ _ _ _ _ _ _).mono ?_; rintro e wx ⟨rfl, bx⟩; rw [hc]))
          go_wp2_with fail
          go_roundw
          case rel => exact ⟨4, by go_num, by omega, hB.trans ((Below.refl _ _).drew.trans (bx.mono (Nat.le_refl _)) |>.mono hB.size)⟩
          case measure => simp [intOf]
        · simp only [show ((4 : Nat) : Int) = 4 from rfl]
          have hc : cmpV 2 a ⟨#[]⟩ 3 0 s = -1 := by simp [cmpV, or3, cmpI]
          have c9 := (hB.cell (p := ⟨g, 9, none⟩) hg).trans l9
          have c10 := (hB.cell (p := ⟨g, 10, none⟩) hg).trans l10
          have c11 := (hB.cell (p := ⟨g, 11, none⟩) hg).trans l11
          have c12 := (hB.cell (p := ⟨g, 12, none⟩) hg).trans l12
          have c13 := (hB.cell (p := ⟨g, 13, none⟩) hg).trans l13
          have c14 := (hB.cell (p := ⟨g, 14, none⟩) hg).trans l14
          go_wp2_with fail
          go_region_held3 (fun w' => w'.cell? ⟨g, 9, none⟩ = some (.int .i64 2) ∧ w'.cell? ⟨g, 10, none⟩ = some (.int .i64 a) ∧ w'.cell? ⟨g, 11, none⟩ = some (.string ⟨#[]⟩) ∧ w'.cell? ⟨g, 12, none⟩ = some (.int .i64 3) ∧ w'.cell? ⟨g, 13, none⟩ = some (.int .i64 0) ∧ w'.cell? ⟨g, 14, none⟩ = some (.string s)) (first | go_keep | (refine ⟨?_, ?_, ?_, ?_, ?_, ?_⟩ <;> (rw [bx.cell (by have := hB.size; simp; omega)]; assumption)))
            (first | (go_at_call 10; refine (compare_any _ _ _ _ _ _ _).mono ?_; rintro e wx ⟨rfl, bx⟩; rw [hc]))
          go_wp2_with fail
          go_roundw
          case rel => exact ⟨5, by go_num, by omega, hB.trans ((Below.refl _ _).drew.trans (bx.mono (Nat.le_refl _)) |>.mono hB.size)⟩
          case measure => simp [intOf]
        · simp only [show ((5 : Nat) : Int) = 5 from rfl]
          go_wp2_with fail
          go_roundw
          case rel => exact ⟨4, by go_num, by omega, hB⟩
          case measure => simp [intOf]
    · simp only [show ((4 : Nat) : Int) = 4 from rfl]
      go_wp2_with fail
      have hB0 := hB
      clear hB
      go_loopw [7] (fun v wq => ∃ j : Nat, v = .int .i64 j ∧ j ≤ 5 ∧ Below wl.heap.size wl wq) (fun v _ => 6 - (intOf v).toNat)
      case atStart => exact ⟨0, rfl, by omega, hB0⟩
      case round =>
        obtain ⟨j, rfl, hj, hB⟩ := hrel
        have hj' : j = 0 ∨ j = 1 ∨ j = 2 ∨ j = 3 ∨ j = 4 ∨ j = 5 := by omega
        rcases hj' with rfl | rfl | rfl | rfl | rfl | rfl
        · simp only [show ((0 : Nat) : Int) = 0 from rfl]
          have hc : cmpV 3 0 s 0 0 ⟨#[]⟩ = 1 := by simp [cmpV, or3, cmpI]
          have c0 := (hB.cell (p := ⟨g, 0, none⟩) hg).trans l0
          have c1 := (hB.cell (p := ⟨g, 1, none⟩) hg).trans l1
          have c2 := (hB.cell (p := ⟨g, 2, none⟩) hg).trans l2
          have c12 := (hB.cell (p := ⟨g, 12, none⟩) hg).trans l12
          have c13 := (hB.cell (p := ⟨g, 13, none⟩) hg).trans l13
          have c14 := (hB.cell (p := ⟨g, 14, none⟩) hg).trans l14
          go_wp2_with fail
          go_region_held3 (fun w' => w'.cell? ⟨g, 0, none⟩ = some (.int .i64 0) ∧ w'.cell? ⟨g, 1, none⟩ = some (.int .i64 0) ∧ w'.cell? ⟨g, 2, none⟩ = some (.string ⟨#[]⟩) ∧ w'.cell? ⟨g, 12, none⟩ = some (.int .i64 3) ∧ w'.cell? ⟨g, 13, none⟩ = some (.int .i64 0) ∧ w'.cell? ⟨g, 14, none⟩ = some (.string s)) (first | go_keep | (refine ⟨?_, ?_, ?_, ?_, ?_, ?_⟩ <;> (rw [bx.cell (by have := hB.size; simp; omega)]; assumption)))
            (first | (go_at_call 10; refine (compare_any _ _ _ _ _ _ _).mono ?_; rintro e wx ⟨rfl, bx⟩; rw [hc]))
          go_wp2_with fail
          go_roundw
          case rel => exact ⟨1, by go_num, by omega, hB.trans ((Below.refl _ _).drew.trans (bx.mono (Nat.le_refl _)) |>.mono hB.size)⟩
          case measure => simp [intOf]
        · simp only [show ((1 : Nat) : Int) = 1 from rfl]
          have hc : cmpV 3 0 s 1 0 ⟨#[]⟩ = 1 := by simp [cmpV, or3, cmpI]
          have c3 := (hB.cell (p := ⟨g, 3, none⟩) hg).trans l3
          have c4 := (hB.cell (p := ⟨g, 4, none⟩) hg).trans l4
          have c5 := (hB.cell (p := ⟨g, 5, none⟩) hg).trans l5
          have c12 := (hB.cell (p := ⟨g, 12, none⟩) hg).trans l12
          have c13 := (hB.cell (p := ⟨g, 13, none⟩) hg).trans l13
          have c14 := (hB.cell (p := ⟨g, 14, none⟩) hg).trans l14
          go_wp2_with fail
          go_region_held3 (fun w' => w'.cell? ⟨g, 3, none⟩ = some (.int .i64 1) ∧ w'.cell? ⟨g, 4, none⟩ = some (.int .i64 0) ∧ w'.cell? ⟨g, 5, none⟩ = some (.string ⟨#[]⟩) ∧ w'.cell? ⟨g, 12, none⟩ = some (.int .i64 3) ∧ w'.cell? ⟨g, 13, none⟩ = some (.int .i64 0) ∧ w'.cell? ⟨g, 14, none⟩ = some (.string s)) (first | go_keep | (refine ⟨?_, ?_, ?_, ?_, ?_, ?_⟩ <;> (rw [bx.cell (by have := hB.size; simp; omega)]; assumption)))
            (first | (go_at_call 10; refine (compare_any _ _ _ _ _ _ _).mono ?_; rintro e wx ⟨rfl, bx⟩; rw [hc]))
          go_wp2_with fail
          go_roundw
          case rel => exact ⟨2, by go_num, by omega, hB.trans ((Below.refl _ _).drew.trans (bx.mono (Nat.le_refl _)) |>.mono hB.size)⟩
          case measure => simp [intOf]
        · simp only [show ((2 : Nat) : Int) = 2 from rfl]
          have hc : cmpV 3 0 s 1 1 ⟨#[]⟩ = 1 := by simp [cmpV, or3, cmpI]
          have c6 := (hB.cell (p := ⟨g, 6, none⟩) hg).trans l6
          have c7 := (hB.cell (p := ⟨g, 7, none⟩) hg).trans l7
          have c8 := (hB.cell (p := ⟨g, 8, none⟩) hg).trans l8
          have c12 := (hB.cell (p := ⟨g, 12, none⟩) hg).trans l12
          have c13 := (hB.cell (p := ⟨g, 13, none⟩) hg).trans l13
          have c14 := (hB.cell (p := ⟨g, 14, none⟩) hg).trans l14
          go_wp2_with fail
          go_region_held3 (fun w' => w'.cell? ⟨g, 6, none⟩ = some (.int .i64 1) ∧ w'.cell? ⟨g, 7, none⟩ = some (.int .i64 1) ∧ w'.cell? ⟨g, 8, none⟩ = some (.string ⟨#[]⟩) ∧ w'.cell? ⟨g, 12, none⟩ = some (.int .i64 3) ∧ w'.cell? ⟨g, 13, none⟩ = some (.int .i64 0) ∧ w'.cell? ⟨g, 14, none⟩ = some (.string s)) (first | go_keep | (refine ⟨?_, ?_, ?_, ?_, ?_, ?_⟩ <;> (rw [bx.cell (by have := hB.size; simp; omega)]; assumption)))
            (first | (go_at_call 10; refine (compare_any _ _ _ _ _ _ _).mono ?_; rintro e wx ⟨rfl, bx⟩; rw [hc]))
          go_wp2_with fail
          go_roundw
          case rel => exact ⟨3, by go_num, by omega, hB.trans ((Below.refl _ _).drew.trans (bx.mono (Nat.le_refl _)) |>.mono hB.size)⟩
          case measure => simp [intOf]
        · simp only [show ((3 : Nat) : Int) = 3 from rfl]
          have hc : cmpV 3 0 s 2 a ⟨#[]⟩ = 1 := by simp [cmpV, or3, cmpI]
          have c9 := (hB.cell (p := ⟨g, 9, none⟩) hg).trans l9
          have c10 := (hB.cell (p := ⟨g, 10, none⟩) hg).trans l10
          have c11 := (hB.cell (p := ⟨g, 11, none⟩) hg).trans l11
          have c12 := (hB.cell (p := ⟨g, 12, none⟩) hg).trans l12
          have c13 := (hB.cell (p := ⟨g, 13, none⟩) hg).trans l13
          have c14 := (hB.cell (p := ⟨g, 14, none⟩) hg).trans l14
          go_wp2_with fail
          go_region_held3 (fun w' => w'.cell? ⟨g, 9, none⟩ = some (.int .i64 2) ∧ w'.cell? ⟨g, 10, none⟩ = some (.int .i64 a) ∧ w'.cell? ⟨g, 11, none⟩ = some (.string ⟨#[]⟩) ∧ w'.cell? ⟨g, 12, none⟩ = some (.int .i64 3) ∧ w'.cell? ⟨g, 13, none⟩ = some (.int .i64 0) ∧ w'.cell? ⟨g, 14, none⟩ = some (.string s)) (first | go_keep | (refine ⟨?_, ?_, ?_, ?_, ?_, ?_⟩ <;> (rw [bx.cell (by have := hB.size; simp; omega)]; assumption)))
            (first | (go_at_call 10; refine (compare_any _ _ _ _ _ _ _).mono ?_; rintro e wx ⟨rfl, bx⟩; rw [hc]))
          go_wp2_with fail
          go_roundw
          case rel => exact ⟨4, by go_num, by omega, hB.trans ((Below.refl _ _).drew.trans (bx.mono (Nat.le_refl _)) |>.mono hB.size)⟩
          case measure => simp [intOf]
        · simp only [show ((4 : Nat) : Int) = 4 from rfl]
          have hc : cmpV 3 0 s 3 0 s = 0 := cmpV_self _ _ _
          have c12 := (hB.cell (p := ⟨g, 12, none⟩) hg).trans l12
          have c13 := (hB.cell (p := ⟨g, 13, none⟩) hg).trans l13
          have c14 := (hB.cell (p := ⟨g, 14, none⟩) hg).trans l14
          go_wp2_with fail
          go_region_held3 (fun w' => w'.cell? ⟨g, 12, none⟩ = some (.int .i64 3) ∧ w'.cell? ⟨g, 13, none⟩ = some (.int .i64 0) ∧ w'.cell? ⟨g, 14, none⟩ = some (.string s)) (first | go_keep | (refine ⟨?_, ?_, ?_⟩ <;> (rw [bx.cell (by have := hB.size; simp; omega)]; assumption)))
            (first | (go_at_call 10; refine (compare_any _ _ _ _ _ _ _).mono ?_; rintro e wx ⟨rfl, bx⟩; rw [hc]))
          go_wp2_with fail
          go_roundw
          case rel => exact ⟨5, by go_num, by omega, hB.trans ((Below.refl _ _).drew.trans (bx.mono (Nat.le_refl _)) |>.mono hB.size)⟩
          case measure => simp [intOf]
        · simp only [show ((5 : Nat) : Int) = 5 from rfl]
          go_wp2_with fail
          go_roundw
          case rel => exact ⟨5, by go_num, by omega, hB⟩
          case measure => simp [intOf]
    · simp only [show ((5 : Nat) : Int) = 5 from rfl]
      go_wp2_with fail
      go_ret
      exact ⟨rfl, bl.trans (hB.mono bl.size)⟩
end Go.Proofs.Ytgjjpejimpiikaa
