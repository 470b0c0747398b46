/-
  CodeFails, walked.
-/
import Derived.Test.YthkfoebannpmdaaRead
namespace Go.Proofs.Ythkfoebannpmdaa
open Go.RowKit

set_option maxHeartbeats 400000 in
theorem fails_long (a0 : Option Addr) (n0 c0 : Nat) (e f : Int) (w : World) (h : 100 < n0) :
    Calls Try.prog 6 #[.slice a0 n0 c0, .int .i64 e, .int .i64 f] w (Told w true) := by
  go_enter Try.func6, Try.ntmps6
  go_wp2_with (go_at_call 11; refine (known_any _).mono ?_; rintro en wA ⟨rfl, hbA⟩)
  go_ret
  exact ⟨rfl, hbA⟩

set_option maxHeartbeats 1600000 in
theorem fails_walk (a0 : Option Addr) (n0 c0 : Nat) (l : List UInt8) (e f : Int) (w : World) (h : IsB w a0 n0 c0 l) :
    Calls Try.prog 6 #[.slice a0 n0 c0, .int .i64 e, .int .i64 f] w (Told w true) := by
  by_cases hc : 100 < n0
  · exact fails_long a0 n0 c0 e f w hc
  have h1 : n0 ≤ 100 := by omega
  clear hc
  have e1 : 0 ≤ e % 22 := Int.emod_nonneg _ (by omega)
  have e2 : e % 22 < 22 := Int.emod_lt_of_pos _ (by omega)
  have f1 : 0 ≤ f % 22 := Int.emod_nonneg _ (by omega)
  have f2 : f % 22 < 22 := Int.emod_lt_of_pos _ (by omega)
  obtain ⟨x, hx⟩ : ∃ x, x = endE l 0 := ⟨_, rfl⟩
  have hx2 : ((x == 0) == ((n0 : Int) == 0)) = true := by
    have hl := h.len
    rw [hx]
    unfold endE
    by_cases hn : n0 = 0
    · obtain rfl : l = [] := List.eq_nil_of_length_eq_zero (by omega)
      simp [hn]
    · have : l ≠ [] := by rintro rfl; simp at hl; omega
      simp [this, hn]
  have HX := Lib.hid hx
  clear hx
  go_enter Try.func6, Try.ntmps6
  go_wp2_with (first
    | (go_at_call 11; refine (known_any _).mono ?_; rintro en wA ⟨rfl, hbA⟩)
    | (go_at_call 20; (with_reducible refine (within_any _ 22 _ (by omega)).mono ?_); rintro en w' ⟨rfl, rfl⟩)
    | (go_at_call 18; (with_reducible refine (new_any a0 n0 c0 l _ (h.past hbA) (by omega)).mono ?_); rintro en w1 ⟨g, D, rfl, R1, b1, G1, F1⟩; have B1 := below_on hbA b1; have GG := Nat.le_trans hbA.size G1)
    | (go_at_call 27; (with_reducible refine (fail_ok g D l 0 w1 R1).mono ?_); rintro en w2 ⟨rfl, R2, k2⟩; have B2 := below_gr B1 k2 GG)
    | (go_at_call 29; (with_reducible refine (rEnd_any g D l 0 w2 R2).mono ?_); rintro en w' ⟨rfl, rfl⟩; rw [← HX.out])
    | (go_at_call 27; (with_reducible refine (fail_first g D l (1 + e % 22) w2 R2).mono ?_); rintro en w3 ⟨rfl, R3, k3⟩; have B3 := below_gr B2 k3 GG)
    | (go_at_call 27; (with_reducible refine (fail_more g D l (1 + e % 22) (1 + f % 22) (by omega) w3 R3).mono ?_); rintro en w4 ⟨rfl, R4, k4⟩; have B4 := below_gr B3 k4 GG)
    | (go_at_call 21; (with_reducible refine (rInt_err g D l (1 + e % 22) (by omega) w4 R4).mono ?_); rintro en w5 ⟨rfl, R5, k5⟩; have B5 := below_gr B4 k5 GG)
    | (go_at_call 25; (with_reducible refine (rText_err g D l (1 + e % 22) (by omega) w5 R5).mono ?_); rintro en w6 ⟨rfl, R6, k6⟩; have B6 := below_gr B5 k6 GG)
    | (go_at_call 23; (with_reducible refine (rByte_err g D l (1 + e % 22) (by omega) w6 R6).mono ?_); rintro en w7 ⟨rfl, R7, k7⟩; have B7 := below_gr B6 k7 GG)
    | (go_at_call 18; (with_reducible refine (new_nil w7).mono ?_); rintro en w8 ⟨g2, D2, rfl, X8, b8, G8, F8⟩; have B8 := below_on B7 b8; have R8 := R7.below b8; have GH := Nat.le_trans B7.size G8)
    | (go_at_call 21; (with_reducible refine (rInt_cut g2 D2 [] (by simp) w8 X8).mono ?_); rintro en w9 ⟨rfl, X9, k9⟩; have B9 := below_gr B8 k9 GH)
    | (go_at_call 27; (with_reducible refine (fail_more g2 D2 [] 8 (1 + f % 22) (by omega) w9 X9).mono ?_); rintro en wa ⟨rfl, Xa, ka⟩; have Ba := below_gr B9 ka GH; have Ra := R8.kept (grown_trans k9 ka) (fun hh => by have := Option.some.inj hh; have := R7.lt; omega) (fun b hb hh => by have := Option.some.inj hh; have := (F1 b hb).2; have := k2.size; have := k3.size; have := k4.size; have := k5.size; have := k6.size; have := k7.size; omega))
    | (go_at_call 29; (with_reducible refine (rEnd_any g D l (1 + e % 22) wa Ra).mono ?_); rintro en w' ⟨rfl, rfl⟩; rw [endE, if_neg (by omega)])
    | (go_at_call 29; (with_reducible refine (rEnd_any g2 D2 [] 8 wa Xa).mono ?_); rintro en w' ⟨rfl, rfl⟩; rw [endE, if_neg (by omega)]))
  go_ret
  exact ⟨rfl, Ba⟩
end Go.Proofs.Ythkfoebannpmdaa
