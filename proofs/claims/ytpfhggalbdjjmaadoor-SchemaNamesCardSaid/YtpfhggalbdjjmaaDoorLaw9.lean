/-
  What the laws of schema stand on: the chapter's example; numbers within a bound.
-/
import Derived.Test.YtpfhggalbdjjmaaDoorSChk
import Derived.Test.YtpfhggalbdjjmaaDoorWth
namespace Go.Proofs.YtpfhggalbdjjmaaDoor
open Go.RowKit

/-- True is told, and what was there ahead stays. -/
theorem scE_table : scE [116, 97, 98, 108, 101] [] 0 = 12 := by decide +kernel
set_option maxRecDepth 100000 in
theorem known9 (w : World) (hW : WL w) : Calls Tryd.prog 10 #[] w fun e w' => e = .returned (.bool true) ∧ Below w.heap.size w w' := by
  have HC := check_any w [116, 97, 98, 108, 101] none 0 0 [] 0 false (IsR.nilR w) (by decide) (by simp) hW
  rw [scE_table] at HC
  go_enter Tryd.func10, Tryd.ntmps10
  go_wp2_with fail
  refine HC.mono ?_
  rintro e w1 ⟨rfl, b1⟩
  go_wp2_with fail
  go_ret
  exact ⟨rfl, b1⟩
theorem within9_any (a n : Int) (w : World) (hn : 0 < n) (hn2 : n ≤ 1000000) :
    Calls Tryd.prog 17 #[.int .i64 a, .int .i64 n] w fun e w' => e = .returned (.int .i64 (wth a n)) ∧ w = w' := by
  have h1 := Int.lt_tmod_of_pos a hn
  have h2 := Int.tmod_lt_of_pos a hn
  have hz : (n == 0) = false := by simp; omega
  by_cases h3 : a.tmod n < 0
  · go_enter Tryd.func17, Tryd.ntmps17
    go_wp2_with fail
    go_ret
    exact ⟨ret_int (by unfold wth; rw [if_pos h3]), rfl⟩
  · go_enter Tryd.func17, Tryd.ntmps17
    go_wp2_with fail
    go_ret
    exact ⟨ret_int (by unfold wth; rw [if_neg (by omega)]), rfl⟩
end Go.Proofs.YtpfhggalbdjjmaaDoor
