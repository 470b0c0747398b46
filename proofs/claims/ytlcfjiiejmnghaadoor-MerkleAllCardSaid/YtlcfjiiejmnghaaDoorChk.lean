/-
  What a check of a proof answers, plain, level by level.
-/
import Derived.Test.YtlcfjiiejmnghaaDoorLen
namespace Go.Proofs.YtlcfjiiejmnghaaDoor
open Go.RowKit
/-- p LEADS lf, the j-th of m, UP TO root, and is as long as the way. -/
def chk (root lf : List UInt8) (m j : Nat) (p : List (List UInt8)) : Bool := p.length == (Mk.dirs m j).length && Mk.led two lf (Mk.dirs m j) p == root
theorem chk_one (root lf : List UInt8) (p : List (List UInt8)) (j : Nat) : chk root lf 1 j p = (p.length == 0 && lf == root) := by
  unfold chk
  rw [Mk.dirs_one 1 j (by omega)]
  rfl
theorem chk_skip (root lf : List UInt8) (m j : Nat) (p : List (List UInt8)) (h2 : 2 ≤ m) (hj : j < m) (hs : ¬ Mk.sib j < m) : chk root lf m j p = chk root lf ((m + 1) / 2) (j / 2) p := by
  unfold chk
  rw [Mk.dirs_up m j h2 hj, if_neg hs, List.nil_append]
theorem chk_none (root lf : List UInt8) (m j : Nat) (h2 : 2 ≤ m) (hj : j < m) (hs : Mk.sib j < m) : chk root lf m j [] = false := by
  unfold chk
  rw [Mk.dirs_up m j h2 hj, if_pos hs]
  simp
theorem chk_take (root lf x : List UInt8) (m j : Nat) (p : List (List UInt8)) (h2 : 2 ≤ m) (hj : j < m) (hs : Mk.sib j < m) : chk root lf m j (x :: p) = chk root (if j % 2 == 0 then two lf x else two x lf) ((m + 1) / 2) (j / 2) p := by
  unfold chk
  rw [Mk.dirs_up m j h2 hj, if_pos hs]
  simp [Mk.led]
theorem chk_proof (hs : List (List UInt8)) (i : Nat) (hi : i < hs.length) : chk (rootS hs) (hs.getD i []) hs.length i (proofS hs i) = true := by
  have h1 := Mk.proof_length two (sha []) hs.length hs i rfl
  have h2 := Mk.led_proof two (sha []) hs.length hs i rfl hi
  rw [getD_any hs i (sha []) [] hi] at h2
  unfold chk proofS rootS
  rw [h1, h2]
  simp
theorem nb_zero : nb 0 = 0 := rfl
theorem nb_half (x : Nat) (h : 1 ≤ x) : nb x = nb (x / 2) + 1 := by
  by_cases h1 : x = 1
  · subst h1
    decide +kernel
  · have := nb_div x 1 (by rw [Nat.pow_one]; omega)
    rw [Nat.pow_one] at this
    exact this
theorem sib_side (j : Nat) : (j < Mk.sib j) = (j % 2 = 0) := by
  unfold Mk.sib
  split <;> simp <;> omega
end Go.Proofs.YtlcfjiiejmnghaaDoor
