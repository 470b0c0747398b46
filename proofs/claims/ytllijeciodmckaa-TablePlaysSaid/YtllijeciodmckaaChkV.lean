/-
  Values, plain: whether two are the same, what is wrong with one.
-/
import Derived.Test.YtllijeciodmckaaTy
namespace Go.Proofs.Ytllijeciodmckaa
open Go.RowKit

/-- A value's three cells. -/
abbrev vv (k n : Int) (s : ByteArray) : Value := .agg #[.int .i64 k, .int .i64 n, .string s]
/-- Whether two are the same. -/
def eqV (k n : Int) (s : ByteArray) (k' n' : Int) (s' : ByteArray) : Bool := k == k' && (n == n' && s.toList == s'.toList)
set_option maxRecDepth 100000 in
theorem run_eql_val (k n : Int) (s : ByteArray) (k' n' : Int) (s' : ByteArray) (w : World) :
    (binOp .eql 55 (vv k n s) (vv k' n' s')).run Try.prog w = .ok (.bool (eqV k n s k' n' s')) w := by
  unfold vv eqV
  go_simp
  by_cases h1 : k = k' <;> by_cases h2 : n = n' <;> by_cases h3 : s.toList = s'.toList <;> simp [h1, h2, h3]
/-- What is wrong with one. -/
def chkV (k n : Int) (s : ByteArray) : Int :=
  if k = 0 then (if n = 0 ∧ s.toList.isEmpty = true then 0 else 1)
  else if k = 1 then (if n = 0 ∨ n = 1 then (if s.toList.isEmpty = true then 0 else 1) else 1)
  else if k = 2 then (if s.toList.isEmpty = true then 0 else 1)
  else if k = 3 then (if n = 0 then (if (60 : Int) < (s.size : Int) then 5 else 0) else 1)
  else 3
set_option maxRecDepth 100000 in
set_option maxHeartbeats 1000000 in
theorem checkText_any (n : Int) (s : ByteArray) (w : World) :
    Calls Try.prog 201 #[vv 3 n s] w fun e w' => e = .returned (.int .i64 (chkV 3 n s)) ∧ Below w.heap.size w w' := by
  have b0 : Below w.heap.size w (w.alloc (.cells #[.int .i64 3, .int .i64 n, .string s] 55)) := (Below.refl _ _).alloc (Nat.le_refl _) _
  go_enter Try.func201, Try.ntmps201
  go_wp2_with fail
  all_goals (go_ret; refine ⟨ret_int ?_, b0⟩; clear b0)
  all_goals first | (simp [chkV, *]; done) | (simp [chkV, *]; omega) | simp_all [chkV]
set_option maxRecDepth 100000 in
set_option maxHeartbeats 1000000 in
theorem check_any (k n : Int) (s : ByteArray) (w : World) :
    Calls Try.prog 177 #[vv k n s] w fun e w' => e = .returned (.int .i64 (chkV k n s)) ∧ Below w.heap.size w w' := by
  have b0 : ∀ o, Below w.heap.size w (w.alloc o) := fun o => (Below.refl _ _).alloc (Nat.le_refl _) o
  by_cases k0 : k = 0
  · subst k0
    go_enter Try.func177, Try.ntmps177
    go_wp2_with fail
    all_goals (go_ret; refine ⟨ret_int ?_, b0 _⟩; clear b0)
    all_goals first | (simp [chkV, *]; done) | (simp [chkV, *]; omega) | simp_all [chkV]
  by_cases k1 : k = 1
  · subst k1
    go_enter Try.func177, Try.ntmps177
    go_wp2_with fail
    all_goals (go_ret; refine ⟨ret_int ?_, b0 _⟩; clear b0)
    all_goals first | (simp [chkV, *]; done) | (simp [chkV, *]; omega) | simp_all [chkV]
  by_cases k2 : k = 2
  · subst k2
    go_enter Try.func177, Try.ntmps177
    go_wp2_with fail
    all_goals (go_ret; refine ⟨ret_int ?_, b0 _⟩; clear b0)
    all_goals first | (simp [chkV, *]; done) | (simp [chkV, *]; omega) | simp_all [chkV]
  by_cases k3 : k = 3
  · subst k3
    go_enter Try.func177, Try.ntmps177
    go_wp2_with (go_at_call 201; refine (checkText_any _ _ _).mono ?_; rintro e w1 ⟨rfl, b1⟩)
    go_ret
    exact ⟨rfl, (b0 _).trans (b1.mono (b0 _).size)⟩
  · have h0 : (k == 0) = false := by simp [k0]
    have h1 : (k == 1) = false := by simp [k1]
    have h2 : (k == 2) = false := by simp [k2]
    have h3 : (k == 3) = false := by simp [k3]
    go_enter Try.func177, Try.ntmps177
    go_wp2_with fail
    all_goals go_ret
    exact ⟨ret_int (by simp [chkV, *]), b0 _⟩
end Go.Proofs.Ytllijeciodmckaa
