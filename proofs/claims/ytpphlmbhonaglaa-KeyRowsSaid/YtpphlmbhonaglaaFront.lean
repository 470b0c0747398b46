/-
  What was written is what is read first.
-/
import Derived.Test.YtpphlmbhonaglaaRead
namespace Go.Proofs.Ytpphlmbhonaglaa
open Go.RowKit

theorem er_cut {m : Nat} {l : List UInt8} (h : l.length < m) : er m l 0 = 8 := by rw [er, if_neg (by omega), err1_zero]
theorem front (a r : List UInt8) : tk a.length (a ++ r) = a ∧ dr a.length (a ++ r) = r ∧ er a.length (a ++ r) 0 = 0 := by
  have h : a.length ≤ (a ++ r).length := by rw [List.length_append]; omega
  rw [tk, dr, er, if_pos h, if_pos h, if_pos h, List.take_left, List.drop_left]
  exact ⟨rfl, rfl, rfl⟩

theorem text_front (s : List UInt8) (hs : s.length < 65536) (r : List UInt8) : vT (le 2 s.length ++ (s ++ r)) 0 = s ∧ dT (le 2 s.length ++ (s ++ r)) 0 = r ∧ eT (le 2 s.length ++ (s ++ r)) 0 = 0 := by
  have h2 := front (le 2 s.length) (s ++ r)
  rw [le_length] at h2
  have e4 : num (le 2 s.length) = s.length := by rw [num_le]; omega
  have h3 := front s r
  rw [vT, dT, eT, if_pos rfl, if_pos rfl, if_pos rfl, h2.1, h2.2.1, h2.2.2, e4]
  exact h3
end Go.Proofs.Ytpphlmbhonaglaa
