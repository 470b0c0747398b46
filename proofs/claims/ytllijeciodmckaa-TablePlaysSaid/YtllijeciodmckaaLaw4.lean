/-
  What the statements of stage 4 share: a number below another one, a valid value.
-/
import Derived.Test.YtllijeciodmckaaChkV
import Derived.Test.YtllijeciodmckaaWth
namespace Go.Proofs.Ytllijeciodmckaa
open Go.RowKit

theorem ret_bool {a b : Bool} (h : a = b) : Ending.returned (.bool a) = .returned (.bool b) := by rw [h]
theorem within4_any (a n : Int) (w : World) (hn : 0 < n) (hn2 : n ≤ 1000000) :
    Calls Try.prog 141 #[.int .i64 a, .int .i64 n] w fun e w' => e = .returned (.int .i64 (wth a n)) ∧ w = w' := by
  have h1 := Int.lt_tmod_of_pos a hn
  have h2 := Int.tmod_lt_of_pos a hn
  have hz : (n == 0) = false := by simp; omega
  by_cases h3 : a.tmod n < 0
  · go_enter Try.func141, Try.ntmps141
    go_wp2_with fail
    go_ret
    exact ⟨ret_int (by unfold wth; rw [if_pos h3]), rfl⟩
  · go_enter Try.func141, Try.ntmps141
    go_wp2_with fail
    go_ret
    exact ⟨ret_int (by unfold wth; rw [if_neg (by omega)]), rfl⟩
set_option maxRecDepth 100000 in
theorem few_any (k n : Int) (s : ByteArray) (w : World) :
    Calls Try.prog 130 #[vv k n s] w fun e w' => e = .returned (.bool (decide ((s.size : Int) ≤ 80))) ∧ Below w.heap.size w w' := by
  have b0 : ∀ o, Below w.heap.size w (w.alloc o) := fun o => (Below.refl _ _).alloc (Nat.le_refl _) o
  go_enter Try.func130, Try.ntmps130
  go_wp2_with fail
  go_ret
  exact ⟨rfl, b0 _⟩
/-- What a valid value is. -/
inductive Val : Int → Int → ByteArray → Prop
  | none : Val 0 0 ByteArray.empty
  | bool (n : Int) : 0 ≤ n → n ≤ 1 → Val 1 n ByteArray.empty
  | int (n : Int) : Val 2 n ByteArray.empty
  | text (s : ByteArray) : s.size ≤ 60 → Val 3 0 s
set_option maxRecDepth 100000 in
set_option maxHeartbeats 1000000 in
theorem good_any (k n : Int) (s : ByteArray) (w : World) :
    Calls Try.prog 89 #[vv k n s] w fun e w' => ∃ k' n' s', Val k' n' s' ∧ s'.size ≤ s.size ∧ (n' = n ∨ 0 ≤ n' ∧ n' ≤ 1) ∧ e = .returned (vv k' n' s') ∧ Below w.heap.size w w' := by
  have l1 := wth_lo k 4 (by omega)
  have l2 := wth_hi k 4 (by omega)
  have l3 := wth_lo n 2 (by omega)
  have l4 := wth_hi n 2 (by omega)
  generalize hk : wth k 4 = z at l1 l2
  generalize hn : wth n 2 = m at l3 l4
  have c1 : ∀ w, Calls Try.prog 141 #[.int .i64 k, .int .i64 4] w fun e w' => e = .returned (.int .i64 z) ∧ w = w' := fun w => by rw [← hk]; exact within4_any k 4 w (by omega) (by omega)
  have c2 : ∀ w, Calls Try.prog 141 #[.int .i64 n, .int .i64 2] w fun e w' => e = .returned (.int .i64 m) ∧ w = w' := fun w => by rw [← hn]; exact within4_any n 2 w (by omega) (by omega)
  clear hk hn
  have b0 : ∀ o o', Below w.heap.size w ((w.alloc o).alloc o') := fun o o' => ((Below.refl _ _).alloc (Nat.le_refl _) o).alloc (by simp) o'
  have e0 : (ByteArray.empty).size = 0 := rfl
  by_cases h1 : z = 1
  · subst h1
    go_enter Try.func89, Try.ntmps89
    go_wp2_with (first | (go_at_call 141; (with_reducible refine (c1 _).mono ?_); rintro e w' ⟨rfl, rfl⟩) | (go_at_call 141; (with_reducible refine (c2 _).mono ?_); rintro e w' ⟨rfl, rfl⟩))
    refine bodyPost_ret (v := vv 1 m ByteArray.empty) (by simp [results, Try.results89, go_sem]; rfl) rfl ⟨_, _, _, .bool m (by omega) (by omega), by simp [e0], .inr ⟨by omega, by omega⟩, rfl, b0 _ _⟩
  by_cases h2 : z = 2
  · subst h2
    go_enter Try.func89, Try.ntmps89
    go_wp2_with (first | (go_at_call 141; (with_reducible refine (c1 _).mono ?_); rintro e w' ⟨rfl, rfl⟩) | (go_at_call 141; (with_reducible refine (c2 _).mono ?_); rintro e w' ⟨rfl, rfl⟩))
    refine bodyPost_ret (v := vv 2 n ByteArray.empty) (by simp [results, Try.results89, go_sem]; rfl) rfl ⟨_, _, _, .int n, by simp [e0], .inl rfl, rfl, b0 _ _⟩
  by_cases h3 : z = 3
  · subst h3
    go_enter Try.func89, Try.ntmps89
    go_wp2_with (first | (go_at_call 141; (with_reducible refine (c1 _).mono ?_); rintro e w' ⟨rfl, rfl⟩) | (go_at_call 141; (with_reducible refine (c2 _).mono ?_); rintro e w' ⟨rfl, rfl⟩))
    have e1 : (s.extract 0 (min s.size 60)).size = min s.size 60 := by rw [ByteArray.size_extract]; omega
    refine bodyPost_ret (v := vv 3 0 (s.extract 0 (min s.size 60))) (by simp [results, Try.results89, go_sem]; rw [show (min (s.size : Int) 60).toNat = min s.size 60 by omega]) rfl ⟨_, _, _, .text _ (by omega), by omega, .inr ⟨by omega, by omega⟩, rfl, b0 _ _⟩
  · obtain rfl : z = 0 := by omega
    go_enter Try.func89, Try.ntmps89
    go_wp2_with (first | (go_at_call 141; (with_reducible refine (c1 _).mono ?_); rintro e w' ⟨rfl, rfl⟩) | (go_at_call 141; (with_reducible refine (c2 _).mono ?_); rintro e w' ⟨rfl, rfl⟩))
    refine bodyPost_ret (v := vv 0 0 ByteArray.empty) (by simp [results, Try.results89, go_sem]; rfl) rfl ⟨_, _, _, .none, by simp [e0], .inr ⟨by omega, by omega⟩, rfl, b0 _ _⟩
end Go.Proofs.Ytllijeciodmckaa
