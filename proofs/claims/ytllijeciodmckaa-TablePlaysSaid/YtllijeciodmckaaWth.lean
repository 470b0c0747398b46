/-
  A number below another one, as the statements take it: plain.
-/
import Derived.WalkKit
namespace Go.Proofs.Ytllijeciodmckaa

/-- A number from 0 to n - 1, as the statements take it. -/
def wth (a n : Int) : Int := if a.tmod n < 0 then a.tmod n + n else a.tmod n
theorem wth_lo (a n : Int) (h : 0 < n) : 0 ≤ wth a n := by
  unfold wth
  have := Int.lt_tmod_of_pos a h
  split <;> omega
theorem wth_hi (a n : Int) (h : 0 < n) : wth a n < n := by
  unfold wth
  have := Int.tmod_lt_of_pos a h
  split <;> omega
theorem wth_of (a n : Int) (h : 0 < n) : ∃ k : Nat, wth a n = (k : Int) ∧ (k : Int) < n := by
  have h1 := wth_lo a n h
  have h2 := wth_hi a n h
  exact ⟨(wth a n).toNat, by omega, by omega⟩
end Go.Proofs.Ytllijeciodmckaa
