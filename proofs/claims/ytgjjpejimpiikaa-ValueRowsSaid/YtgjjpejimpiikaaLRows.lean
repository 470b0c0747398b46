/-
  ValueRows, walked.
-/
import Derived.Test.YtgjjpejimpiikaaLaw4
import Derived.Test.YtgjjpejimpiikaaMake
namespace Go.Proofs.Ytgjjpejimpiikaa
open Go.RowKit
theorem ret_bool {a b : Bool} (h : a = b) : Ending.returned (.bool a) = .returned (.bool b) := by rw [h]
theorem app_some (s : ByteArray) : (s ++ ⟨#[120]⟩ : ByteArray).toList.isEmpty = false := by
  rw [ByteArray.toList_eq]
  simp
set_option maxRecDepth 100000 in
set_option maxHeartbeats 4000000 in
theorem valueRows_walk (a0 a1 : Int) (s : ByteArray) (w : World) (_hs : s.size ≤ maxLen) :
    Calls Try.prog 4 #[.int .i64 a0, .int .i64 a1, .string s] w (Told w true) := by
  have l1 := wth_lo a0 8 (by omega)
  have l2 := wth_hi a0 8 (by omega)
  have l3 := wth_lo a1 9 (by omega)
  have l4 := wth_hi a1 9 (by omega)
  generalize hk : wth a0 8 = z at l1 l2
  generalize hn : wth a1 9 = m at l3 l4
  have c1 : ∀ w, Calls Try.prog 11 #[.int .i64 a0, .int .i64 8] w fun e w' => e = .returned (.int .i64 z) ∧ w = w' := fun w => by rw [← hk]; exact within4_any a0 8 w (by omega) (by omega)
  have c2 : ∀ w, Calls Try.prog 11 #[.int .i64 a1, .int .i64 9] w fun e w' => e = .returned (.int .i64 m) ∧ w = w' := fun w => by rw [← hn]; exact within4_any a1 9 w (by omega) (by omega)
  clear hk hn
  have hz : z = 0 ∨ z = 1 ∨ z = 2 ∨ z = 3 ∨ z = 4 ∨ z = 5 ∨ z = 6 ∨ z = 7 := by omega
  rcases hz with rfl | rfl | rfl | rfl | rfl | rfl | rfl | rfl
  · go_enter Try.func4, Try.ntmps4
    go_wp2_with (first | (go_at_call 7; refine (known4 _).mono ?_; rintro e w1 ⟨rfl, b1⟩) | (go_at_call 11; (with_reducible refine (c1 _).mono ?_); rintro e w' ⟨rfl, rfl⟩) | (go_at_call 11; (with_reducible refine (c2 _).mono ?_); rintro e w' ⟨rfl, rfl⟩) | (go_at_call 12; refine (check_any _ _ _ _).mono ?_; rintro e w2 ⟨rfl, b2⟩))
    · go_ret
      exact ⟨rfl, b1⟩
    · go_ret
      have hc : chkV (4 + m) 0 ⟨#[]⟩ = 3 := by unfold chkV; (repeat' split) <;> omega
      refine ⟨ret_bool (by rw [hc]; rfl), ?_⟩
      refine Below.trans ?_ (b2.mono ?_)
      · repeat (first | exact b1 | refine Below.alloc ?_ (by simp [b1.size]) _ | refine Below.setCell ?_ (by simp [b1.size]) _)
      · simp
        have := b1.size
        omega
  · go_enter Try.func4, Try.ntmps4
    go_wp2_with (first | (go_at_call 7; refine (known4 _).mono ?_; rintro e w1 ⟨rfl, b1⟩) | (go_at_call 11; (with_reducible refine (c1 _).mono ?_); rintro e w' ⟨rfl, rfl⟩) | (go_at_call 11; (with_reducible refine (c2 _).mono ?_); rintro e w' ⟨rfl, rfl⟩) | (go_at_call 12; refine (check_any _ _ _ _).mono ?_; rintro e w2 ⟨rfl, b2⟩))
    · go_ret
      exact ⟨rfl, b1⟩
    · go_ret
      have hc : chkV (-1 - m) 0 ⟨#[]⟩ = 3 := by unfold chkV; (repeat' split) <;> omega
      refine ⟨ret_bool (by rw [hc]; rfl), ?_⟩
      refine Below.trans ?_ (b2.mono ?_)
      · repeat (first | exact b1 | refine Below.alloc ?_ (by simp [b1.size]) _ | refine Below.setCell ?_ (by simp [b1.size]) _)
      · simp
        have := b1.size
        omega
  · go_enter Try.func4, Try.ntmps4
    go_wp2_with (first | (go_at_call 7; refine (known4 _).mono ?_; rintro e w1 ⟨rfl, b1⟩) | (go_at_call 11; (with_reducible refine (c1 _).mono ?_); rintro e w' ⟨rfl, rfl⟩) | (go_at_call 11; (with_reducible refine (c2 _).mono ?_); rintro e w' ⟨rfl, rfl⟩) | (go_at_call 12; refine (check_any _ _ _ _).mono ?_; rintro e w2 ⟨rfl, b2⟩))
    · go_ret
      exact ⟨rfl, b1⟩
    · go_ret
      have hc : chkV 0 (1 + m) ⟨#[]⟩ = 1 := by unfold chkV; (repeat' split) <;> omega
      refine ⟨ret_bool (by rw [hc]; rfl), ?_⟩
      refine Below.trans ?_ (b2.mono ?_)
      · repeat (first | exact b1 | refine Below.alloc ?_ (by simp [b1.size]) _ | refine Below.setCell ?_ (by simp [b1.size]) _)
      · simp
        have := b1.size
        omega
  · go_enter Try.func4, Try.ntmps4
    go_wp2_with (first | (go_at_call 7; refine (known4 _).mono ?_; rintro e w1 ⟨rfl, b1⟩) | (go_at_call 11; (with_reducible refine (c1 _).mono ?_); rintro e w' ⟨rfl, rfl⟩) | (go_at_call 11; (with_reducible refine (c2 _).mono ?_); rintro e w' ⟨rfl, rfl⟩) | (go_at_call 12; refine (check_any _ _ _ _).mono ?_; rintro e w2 ⟨rfl, b2⟩))
    · go_ret
      exact ⟨rfl, b1⟩
    · go_ret
      have hc : chkV 0 0 (s ++ ⟨#[120]⟩) = 1 := by simp [chkV, app_some]
      refine ⟨ret_bool (by rw [hc]; rfl), ?_⟩
      refine Below.trans ?_ (b2.mono ?_)
      · repeat (first | exact b1 | refine Below.alloc ?_ (by simp [b1.size]) _ | refine Below.setCell ?_ (by simp [b1.size]) _)
      · simp
        have := b1.size
        omega
  · go_enter Try.func4, Try.ntmps4
    go_wp2_with (first | (go_at_call 7; refine (known4 _).mono ?_; rintro e w1 ⟨rfl, b1⟩) | (go_at_call 11; (with_reducible refine (c1 _).mono ?_); rintro e w' ⟨rfl, rfl⟩) | (go_at_call 11; (with_reducible refine (c2 _).mono ?_); rintro e w' ⟨rfl, rfl⟩) | (go_at_call 12; refine (check_any _ _ _ _).mono ?_; rintro e w2 ⟨rfl, b2⟩))
    · go_ret
      exact ⟨rfl, b1⟩
    · go_ret
      have hc : chkV 1 (2 + m) ⟨#[]⟩ = 1 := by unfold chkV; (repeat' split) <;> omega
      refine ⟨ret_bool (by rw [hc]; rfl), ?_⟩
      refine Below.trans ?_ (b2.mono ?_)
      · repeat (first | exact b1 | refine Below.alloc ?_ (by simp [b1.size]) _ | refine Below.setCell ?_ (by simp [b1.size]) _)
      · simp
        have := b1.size
        omega
  · go_enter Try.func4, Try.ntmps4
    go_wp2_with (first | (go_at_call 7; refine (known4 _).mono ?_; rintro e w1 ⟨rfl, b1⟩) | (go_at_call 11; (with_reducible refine (c1 _).mono ?_); rintro e w' ⟨rfl, rfl⟩) | (go_at_call 11; (with_reducible refine (c2 _).mono ?_); rintro e w' ⟨rfl, rfl⟩) | (go_at_call 12; refine (check_any _ _ _ _).mono ?_; rintro e w2 ⟨rfl, b2⟩))
    · go_ret
      exact ⟨rfl, b1⟩
    · go_ret
      have hc : chkV 2 a1 (s ++ ⟨#[120]⟩) = 1 := by simp [chkV, app_some]
      refine ⟨ret_bool (by rw [hc]; rfl), ?_⟩
      refine Below.trans ?_ (b2.mono ?_)
      · repeat (first | exact b1 | refine Below.alloc ?_ (by simp [b1.size]) _ | refine Below.setCell ?_ (by simp [b1.size]) _)
      · simp
        have := b1.size
        omega
  · go_enter Try.func4, Try.ntmps4
    go_wp2_with (first | (go_at_call 7; refine (known4 _).mono ?_; rintro e w1 ⟨rfl, b1⟩) | (go_at_call 11; (with_reducible refine (c1 _).mono ?_); rintro e w' ⟨rfl, rfl⟩) | (go_at_call 11; (with_reducible refine (c2 _).mono ?_); rintro e w' ⟨rfl, rfl⟩) | (go_at_call 12; refine (check_any _ _ _ _).mono ?_; rintro e w2 ⟨rfl, b2⟩))
    · go_ret
      exact ⟨rfl, b1⟩
    · go_ret
      have hc : chkV 3 (1 + m) s = 1 := by unfold chkV; (repeat' split) <;> omega
      refine ⟨ret_bool (by rw [hc]; rfl), ?_⟩
      refine Below.trans ?_ (b2.mono ?_)
      · repeat (first | exact b1 | refine Below.alloc ?_ (by simp [b1.size]) _ | refine Below.setCell ?_ (by simp [b1.size]) _)
      · simp
        have := b1.size
        omega
  · obtain ⟨N, hN, hN2⟩ : ∃ N : Nat, Hid (61 + m = (N : Int)) ∧ N ≤ 70 := ⟨(61 + m).toNat, by unfold Hid; omega, by omega⟩
    go_enter Try.func4, Try.ntmps4
    go_wp2_with (first | (at_make; refine wpList_full_ob rfl _ _ 31 rfl 5 byteTy .i64 .i64 _ _ N rfl rfl hN.out hN.out (by omega) ?_; intro w3 o3 b3; simp only [World.size_alloc] at o3; have cv := o3.isB.conv byteTy Try.underlying9; have z0 : w3.cell? ⟨w1.heap.size, 0, none⟩ = some (.int .i64 0) := (by rw [b3.cell (by simp)]; go_simp); have f0 : w3.frozen? ⟨w1.heap.size, 0, none⟩ = false := (by rw [b3.frozen (by simp)]; go_simp); have z1 : w3.cell? ⟨w1.heap.size, 1, none⟩ = some (.int .i64 0) := (by rw [b3.cell (by simp)]; go_simp); have f1 : w3.frozen? ⟨w1.heap.size, 1, none⟩ = false := (by rw [b3.frozen (by simp)]; go_simp); have z2 : w3.cell? ⟨w1.heap.size, 2, none⟩ = some (.string ⟨#[]⟩) := (by rw [b3.cell (by simp)]; go_simp); have f2 : w3.frozen? ⟨w1.heap.size, 2, none⟩ = false := (by rw [b3.frozen (by simp)]; go_simp)) | (go_at_call 7; refine (known4 _).mono ?_; rintro e w1 ⟨rfl, b1⟩) | (go_at_call 11; (with_reducible refine (c1 _).mono ?_); rintro e w' ⟨rfl, rfl⟩) | (go_at_call 11; (with_reducible refine (c2 _).mono ?_); rintro e w' ⟨rfl, rfl⟩) | (go_at_call 12; refine (check_any _ _ _ _).mono ?_; rintro e w2 ⟨rfl, b2⟩))
    · go_ret
      exact ⟨rfl, b1⟩
    · go_ret
      have hN0 := hN.out
      have hc : chkV 3 0 ⟨Array.replicate N 0⟩ = 5 := by
        simp [chkV, ByteArray.size]
        omega
      refine ⟨ret_bool (by rw [hc]; rfl), ?_⟩
      refine Below.trans ?_ (b2.mono ?_)
      · repeat (first | exact b1 | refine Below.trans ?_ (b3.mono (by have := b1.size; simp; omega)) | refine Below.alloc ?_ (by simp [b1.size]) _ | refine Below.setCell ?_ (by simp [b1.size]) _)
      · simp
        have := b1.size
        have := b3.size
        simp at this
        omega
end Go.Proofs.Ytgjjpejimpiikaa
