/-
  The example of stage 4's statements.
-/
import Derived.Test.YtalnnifmlhckbaaDoorLaw4
import Derived.Test.YtalnnifmlhckbaaDoorOrd4
namespace Go.Proofs.YtalnnifmlhckbaaDoor
open Go.RowKit

set_option maxRecDepth 100000 in
theorem known4 (w : World) : Calls Tryd.prog 13 #[] w fun e w' => e = .returned (.bool true) ∧ Below w.heap.size w w' := by
  go_enter Tryd.func13, Tryd.ntmps13
  have c1 : cmpV 0 0 ByteArray.empty 1 0 ByteArray.empty = -1 := by decide
  have c2 : chkV 0 0 ByteArray.empty = 0 := by decide +kernel
  go_wp2_with (first
    | (go_at_call 18; refine (compare_any 0 0 ByteArray.empty 1 0 ByteArray.empty _).mono ?_; rintro e w1 ⟨rfl, b1⟩; rw [c1])
    | (go_at_call 16; refine (check_any 0 0 ByteArray.empty _).mono ?_; rintro e w2 ⟨rfl, b2⟩; rw [c2]))
  go_ret
  exact ⟨rfl, b1.trans (b2.mono b1.size)⟩
end Go.Proofs.YtalnnifmlhckbaaDoor
