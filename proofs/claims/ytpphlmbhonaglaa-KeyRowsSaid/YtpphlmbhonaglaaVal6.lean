/-
  The order of values, plain, and the reference's own order of numbers.
-/
import Derived.Test.YtpphlmbhonaglaaChkV
import Derived.LoopN
import Derived.Deep.RegionHeld3
namespace Go.Proofs.Ytpphlmbhonaglaa
open Go.RowKit

/-- Of two numbers. -/
def cmpI (a b : Int) : Int := if a < b then -1 else if b < a then 1 else 0
/-- Of two texts. -/
def cmpS (a b : ByteArray) : Int := if Op.bytesLess a.toList b.toList = true then -1 else if (a.toList == b.toList) = true then 0 else 1
def or3 (a b c : Int) : Int := if a = 0 then if b = 0 then c else b else a
/-- How one stands to another. -/
def cmpV (k n : Int) (s : ByteArray) (k' n' : Int) (s' : ByteArray) : Int := or3 (cmpI k k') (cmpI n n') (cmpS s s')
theorem less_self : ∀ l : List UInt8, Op.bytesLess l l = false
  | [] => rfl
  | x :: r => by simp [Op.bytesLess, less_self r]
theorem cmpV_eq {k n : Int} {s : ByteArray} {k' n' : Int} {s' : ByteArray} (h : eqV k n s k' n' s' = true) : cmpV k n s k' n' s' = 0 := by
  simp only [eqV, Bool.and_eq_true, beq_iff_eq] at h
  obtain ⟨rfl, rfl, h3⟩ := h
  simp [cmpV, or3, cmpI, cmpS, h3, less_self]
set_option maxRecDepth 100000 in
theorem rorder_any (a b : Int) (w : World) : Calls Try.prog 47 #[.int .i64 a, .int .i64 b] w fun e w' => e = .returned (.int .i64 (cmpI a b)) ∧ w = w' := by
  go_enter Try.func47, Try.ntmps47
  go_wp2_with fail
  all_goals (go_ret; exact ⟨ret_int (by unfold cmpI; (repeat' split) <;> omega), rfl⟩)
end Go.Proofs.Ytpphlmbhonaglaa
