/-
  Values, plain; how two are held against each other.
-/
import Derived.Test.YtgjjpejimpiikaaTy
import Derived.LoopN
import Derived.Deep.RegionHeld3
namespace Go.Proofs.Ytgjjpejimpiikaa
open Go.RowKit

/-- Of two numbers. -/
def cmpI (a b : Int) : Int := if a < b then -1 else if b < a then 1 else 0
/-- Of two texts. -/
def cmpS (a b : ByteArray) : Int := if Op.bytesLess a.toList b.toList = true then -1 else if (a.toList == b.toList) = true then 0 else 1

set_option maxRecDepth 100000 in
theorem cmp_int (a b : Int) (w : World) : Calls Try.prog 14 #[.int .i64 a, .int .i64 b] w fun e w' => e = .returned (.int .i64 (cmpI a b)) ∧ w = w' := by
  have nan : ∀ x : Int, Calls Try.prog 17 #[.int .i64 x] w fun e w' => e = .returned (.bool false) ∧ w = w' := by
    intro x
    go_enter Try.func17, Try.ntmps17
    go_wp2_with fail
    go_ret
    exact ⟨rfl, rfl⟩
  go_enter Try.func14, Try.ntmps14
  go_wp2_with (go_at_call 17; refine (nan _).mono ?_; rintro e w' ⟨rfl, rfl⟩)
  all_goals (go_ret; exact ⟨ret_int (by unfold cmpI; (repeat' split) <;> omega), rfl⟩)
set_option maxRecDepth 100000 in
theorem cmp_str (a b : ByteArray) (w : World) : Calls Try.prog 15 #[.string a, .string b] w fun e w' => e = .returned (.int .i64 (cmpS a b)) ∧ w = w' := by
  have nan : ∀ x : ByteArray, Calls Try.prog 18 #[.string x] w fun e w' => e = .returned (.bool false) ∧ w = w' := by
    intro x
    go_enter Try.func18, Try.ntmps18
    go_wp2_with fail
    go_ret
    exact ⟨by simp, rfl⟩
  go_enter Try.func15, Try.ntmps15
  go_wp2_with (go_at_call 18; refine (nan _).mono ?_; rintro e w' ⟨rfl, rfl⟩)
  all_goals (go_ret; refine ⟨ret_int ?_, rfl⟩; simp_all [cmpS])
/-- The first of three that is not nought. -/
def or3 (a b c : Int) : Int := if a = 0 then if b = 0 then c else b else a
set_option maxRecDepth 100000 in
set_option maxHeartbeats 1000000 in
theorem or_any (g : Nat) (a b c : Int) (w : World) (ha : w.cell? ⟨g, 0, none⟩ = some (.int .i64 a)) (hb : w.cell? ⟨g, 1, none⟩ = some (.int .i64 b)) (hc : w.cell? ⟨g, 2, none⟩ = some (.int .i64 c)) :
    Calls Try.prog 13 #[.slice (some ⟨g, 0, none⟩) 3 3] w fun e w' => e = .returned (.int .i64 (or3 a b c)) ∧ w = w' := by
  by_cases h1 : a = 0
  · subst h1
    by_cases h2 : b = 0
    · subst h2
      by_cases h3 : c = 0
      · subst h3
        go_enter Try.func13, Try.ntmps13
        go_wp2_with fail
        refine wp_loop_rounds 4 ?_
        iterate 4 (rw [rounds_succ]; go_wp2_with fail)
        go_ret
        exact ⟨rfl, rfl⟩
      · go_enter Try.func13, Try.ntmps13
        go_wp2_with fail
        refine wp_loop_rounds 3 ?_
        iterate 3 (rw [rounds_succ]; go_wp2_with fail)
        go_ret
        exact ⟨rfl, rfl⟩
    · go_enter Try.func13, Try.ntmps13
      go_wp2_with fail
      refine wp_loop_rounds 2 ?_
      iterate 2 (rw [rounds_succ]; go_wp2_with fail)
      go_ret
      exact ⟨ret_int (by simp [or3, h2]), rfl⟩
  · go_enter Try.func13, Try.ntmps13
    go_wp2_with fail
    refine wp_loop_rounds 1 ?_
    rw [rounds_succ]
    go_wp2_with fail
    go_ret
    exact ⟨ret_int (by simp [or3, h1]), rfl⟩
/-- A value's three cells. -/
abbrev vv (k n : Int) (s : ByteArray) : Value := .agg #[.int .i64 k, .int .i64 n, .string s]
/-- How one stands to another. -/
def cmpV (k n : Int) (s : ByteArray) (k' n' : Int) (s' : ByteArray) : Int := or3 (cmpI k k') (cmpI n n') (cmpS s s')
/-- Whether two are the same. -/
def eqV (k n : Int) (s : ByteArray) (k' n' : Int) (s' : ByteArray) : Bool := k == k' && (n == n' && s.toList == s'.toList)
set_option maxRecDepth 100000 in
theorem run_eql_val (k n : Int) (s : ByteArray) (k' n' : Int) (s' : ByteArray) (w : World) :
    (binOp .eql 23 (vv k n s) (vv k' n' s')).run Try.prog w = .ok (.bool (eqV k n s k' n' s')) w := by
  unfold vv eqV
  go_simp
  by_cases h1 : k = k' <;> by_cases h2 : n = n' <;> by_cases h3 : s.toList = s'.toList <;> simp [h1, h2, h3]
theorem less_self : ∀ l : List UInt8, Op.bytesLess l l = false
  | [] => rfl
  | x :: r => by simp [Op.bytesLess, less_self r]
theorem cmpV_eq {k n : Int} {s : ByteArray} {k' n' : Int} {s' : ByteArray} (h : eqV k n s k' n' s' = true) : cmpV k n s k' n' s' = 0 := by
  simp only [eqV, Bool.and_eq_true, beq_iff_eq] at h
  obtain ⟨rfl, rfl, h3⟩ := h
  simp [cmpV, or3, cmpI, cmpS, h3, less_self]
set_option maxRecDepth 100000 in
set_option maxHeartbeats 1000000 in
theorem compare_any (k n : Int) (s : ByteArray) (k' n' : Int) (s' : ByteArray) (w : World) :
    Calls Try.prog 10 #[vv k n s, vv k' n' s'] w fun e w' => e = .returned (.int .i64 (cmpV k n s k' n' s')) ∧ Below w.heap.size w w' := by
  have he := run_eql_val k n s k' n' s'
  have b0 : Below w.heap.size w ((w.alloc (.cells #[.int .i64 k, .int .i64 n, .string s] 23)).alloc (.cells #[.int .i64 k', .int .i64 n', .string s'] 23)) := ((Below.refl _ _).alloc (Nat.le_refl _) _).alloc (by simp) _
  cases hb : eqV k n s k' n' s' <;> rw [hb] at he
  · go_enter Try.func10, Try.ntmps10
    go_wp2_with fail
    go_region_held3 (fun w' => w'.cell? ⟨w.heap.size, 0, none⟩ = some (.int .i64 k) ∧ w'.cell? ⟨w.heap.size, 1, none⟩ = some (.int .i64 n) ∧ w'.cell? ⟨w.heap.size, 2, none⟩ = some (.string s) ∧ w'.cell? ⟨w.heap.size + 1, 0, none⟩ = some (.int .i64 k') ∧ w'.cell? ⟨w.heap.size + 1, 1, none⟩ = some (.int .i64 n') ∧ w'.cell? ⟨w.heap.size + 1, 2, none⟩ = some (.string s')) (go_keep)
      (first | (go_at_call 14; refine (cmp_int _ _ _).mono ?_; rintro e w' ⟨rfl, rfl⟩) | (go_at_call 15; refine (cmp_str _ _ _).mono ?_; rintro e w' ⟨rfl, rfl⟩) | (go_at_call 13; refine (or_any _ (cmpI k k') (cmpI n n') (cmpS s s') _ ?_ ?_ ?_).mono ?_; (go_simp); (go_simp); (go_simp); rintro e w' ⟨rfl, rfl⟩))
    go_wp2_with fail
    go_ret
    exact ⟨rfl, (b0.alloc (by simp <;> omega) _).drew⟩
  · have h0 := cmpV_eq hb
    go_enter Try.func10, Try.ntmps10
    go_wp2_with fail
    go_ret
    exact ⟨ret_int h0.symm, b0⟩
/-- What is wrong with one. -/
def chkV (k n : Int) (s : ByteArray) : Int :=
  if k = 0 then (if n = 0 ∧ s.toList.isEmpty = true then 0 else 1)
  else if k = 1 then (if n = 0 ∨ n = 1 then (if s.toList.isEmpty = true then 0 else 1) else 1)
  else if k = 2 then (if s.toList.isEmpty = true then 0 else 1)
  else if k = 3 then (if n = 0 then (if (60 : Int) < (s.size : Int) then 5 else 0) else 1)
  else 3
set_option maxRecDepth 100000 in
set_option maxHeartbeats 1000000 in
theorem checkText_any (n : Int) (s : ByteArray) (w : World) :
    Calls Try.prog 16 #[vv 3 n s] w fun e w' => e = .returned (.int .i64 (chkV 3 n s)) ∧ Below w.heap.size w w' := by
  have b0 : Below w.heap.size w (w.alloc (.cells #[.int .i64 3, .int .i64 n, .string s] 23)) := (Below.refl _ _).alloc (Nat.le_refl _) _
  go_enter Try.func16, Try.ntmps16
  go_wp2_with fail
  all_goals (go_ret; refine ⟨ret_int ?_, b0⟩; clear b0)
  all_goals first | (simp [chkV, *]; done) | (simp [chkV, *]; omega) | simp_all [chkV]
set_option maxRecDepth 100000 in
set_option maxHeartbeats 1000000 in
theorem check_any (k n : Int) (s : ByteArray) (w : World) :
    Calls Try.prog 12 #[vv k n s] w fun e w' => e = .returned (.int .i64 (chkV k n s)) ∧ Below w.heap.size w w' := by
  have b0 : ∀ o, Below w.heap.size w (w.alloc o) := fun o => (Below.refl _ _).alloc (Nat.le_refl _) o
  by_cases k0 : k = 0
  · subst k0
    go_enter Try.func12, Try.ntmps12
    go_wp2_with fail
    all_goals (go_ret; refine ⟨ret_int ?_, b0 _⟩; clear b0)
    all_goals first | (simp [chkV, *]; done) | (simp [chkV, *]; omega) | simp_all [chkV]
  by_cases k1 : k = 1
  · subst k1
    go_enter Try.func12, Try.ntmps12
    go_wp2_with fail
    all_goals (go_ret; refine ⟨ret_int ?_, b0 _⟩; clear b0)
    all_goals first | (simp [chkV, *]; done) | (simp [chkV, *]; omega) | simp_all [chkV]
  by_cases k2 : k = 2
  · subst k2
    go_enter Try.func12, Try.ntmps12
    go_wp2_with fail
    all_goals (go_ret; refine ⟨ret_int ?_, b0 _⟩; clear b0)
    all_goals first | (simp [chkV, *]; done) | (simp [chkV, *]; omega) | simp_all [chkV]
  by_cases k3 : k = 3
  · subst k3
    go_enter Try.func12, Try.ntmps12
    go_wp2_with (go_at_call 16; refine (checkText_any _ _ _).mono ?_; rintro e w1 ⟨rfl, b1⟩)
    go_ret
    exact ⟨rfl, (b0 _).trans (b1.mono (b0 _).size)⟩
  · have h0 : (k == 0) = false := by simp [k0]
    have h1 : (k == 1) = false := by simp [k1]
    have h2 : (k == 2) = false := by simp [k2]
    have h3 : (k == 3) = false := by simp [k3]
    go_enter Try.func12, Try.ntmps12
    go_wp2_with fail
    all_goals go_ret
    exact ⟨ret_int (by simp [chkV, *]), b0 _⟩
end Go.Proofs.Ytgjjpejimpiikaa
