/-
  merkle.Check where there is no such place.
-/
import Derived.Test.YtpphlmbhonaglaaDoorChk
namespace Go.Proofs.YtpphlmbhonaglaaDoor
open Go.RowKit
set_option maxRecDepth 100000 in
set_option maxHeartbeats 2000000 in
theorem check_out (root lf : List UInt8) (I N : Int) (a0 : Option Addr) (n0 c0 : Nat) (w : World) (hr : root.length = 32) (hf : lf.length = 32) (h : 1048576 < N ∨ I < 0 ∨ N ≤ I) :
    Calls Tryd.prog 9 #[.agg (bcs root).toArray, .agg (bcs lf).toArray, .int .i64 I, .int .i64 N, .slice a0 n0 c0] w fun e w' => e = .returned (.bool false) ∧ Below w.heap.size w w' := by
  have sr : Hid ((bcs root).toArray.size = 32) := by simp [Hid, bcs_length, hr]
  have sf : Hid ((bcs lf).toArray.size = 32) := by simp [Hid, bcs_length, hf]
  have b0 : Below w.heap.size w ((w.alloc (.cells (bcs root).toArray 27)).alloc (.cells (bcs lf).toArray 27)) := ((Below.refl _ _).alloc (Nat.le_refl _) _).alloc (by simp) _
  clear hr hf
  by_cases h1 : 1048576 < N
  · have c1 : decide ((1048576 : Int) < N) = true := decide_eq_true h1
    clear h
    go_enter Tryd.func9, Tryd.ntmps9
    go_wp2_with fail
    go_ret
    exact ⟨rfl, b0⟩
  · have c1 : decide ((1048576 : Int) < N) = false := decide_eq_false h1
    by_cases h2 : I < 0
    · have c2 : decide (I < 0) = true := decide_eq_true h2
      clear h
      go_enter Tryd.func9, Tryd.ntmps9
      go_wp2_with fail
      go_ret
      exact ⟨rfl, b0⟩
    · have c2 : decide (I < 0) = false := decide_eq_false h2
      have h3 : N ≤ I := by omega
      have c3 : decide (N ≤ I) = true := decide_eq_true h3
      clear h
      go_enter Tryd.func9, Tryd.ntmps9
      go_wp2_with fail
      go_ret
      exact ⟨rfl, b0⟩
end Go.Proofs.YtpphlmbhonaglaaDoor
