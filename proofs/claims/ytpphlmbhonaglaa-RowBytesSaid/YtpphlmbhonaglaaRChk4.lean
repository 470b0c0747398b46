/-
  The reference of chapter 4: Check.
-/
import Derived.Test.YtpphlmbhonaglaaChkV
namespace Go.Proofs.Ytpphlmbhonaglaa
open Go.RowKit
set_option linter.unusedSimpArgs false
theorem size_nil (s : ByteArray) (h : s.toList = []) : s.size = 0 := by
  rw [ByteArray.toList_eq] at h
  show s.data.size = 0
  rw [← Array.length_toList, h]
  rfl
theorem chk0 (n : Int) (s : ByteArray) : chkV 0 n s = if n = 0 ∧ s.toList.isEmpty = true then 0 else 1 := rfl
theorem chk1 (n : Int) (s : ByteArray) : chkV 1 n s = if n = 0 ∨ n = 1 then (if s.toList.isEmpty = true then 0 else 1) else 1 := rfl
theorem chk2 (n : Int) (s : ByteArray) : chkV 2 n s = if s.toList.isEmpty = true then 0 else 1 := rfl
theorem chk3 (n : Int) (s : ByteArray) : chkV 3 n s = if n = 0 then (if (60 : Int) < (s.size : Int) then 5 else 0) else 1 := rfl
set_option maxRecDepth 100000 in
set_option maxHeartbeats 4000000 in
theorem rchk4_any (k n : Int) (s : ByteArray) (w : World) :
    Calls Try.prog 42 #[vv k n s] w fun e w' => e = .returned (.int .i64 (chkV k n s)) ∧ Below w.heap.size w w' := by
  have b0 : ∀ o, Below w.heap.size w (w.alloc o) := fun o => (Below.refl _ _).alloc (Nat.le_refl _) o
  by_cases k0 : k = 0
  · subst k0
    rw [chk0]
    by_cases hn : n = 0
    · subst hn
      cases hs : s.toList.isEmpty
      · have hs2 : ¬ s.toList = [] := by simpa using hs
        go_enter Try.func42, Try.ntmps42
        go_wp2_with fail
        go_ret
        exact ⟨ret_int rfl, b0 _⟩
      · have hs2 : s.toList = [] := by simpa using hs
        have hz : ¬ 60 < (s.size : Int) := by have := size_nil s hs2; omega
        go_enter Try.func42, Try.ntmps42
        go_wp2_with fail
        go_ret
        exact ⟨ret_int rfl, b0 _⟩
    · have hn2 : (n != 0) = true := by simp [hn]
      rw [if_neg (fun h => hn h.1)]
      go_enter Try.func42, Try.ntmps42
      go_wp2_with fail
      go_ret
      exact ⟨ret_int (rfl), b0 _⟩
  by_cases k1 : k = 1
  · subst k1
    rw [chk1]
    by_cases hn : n = 0 ∨ n = 1
    · rw [if_pos hn]
      have hn1 : decide (n < 0) = false := by simp; omega
      have hn2 : decide (1 < n) = false := by simp; omega
      have hn3 : ¬ (n < 0) := by omega
      have hn4 : ¬ (1 < n) := by omega
      clear hn
      cases hs : s.toList.isEmpty
      · have hs2 : ¬ s.toList = [] := by simpa using hs
        go_enter Try.func42, Try.ntmps42
        go_wp2_with fail
        go_ret
        exact ⟨ret_int rfl, b0 _⟩
      · have hs2 : s.toList = [] := by simpa using hs
        have hz : ¬ 60 < (s.size : Int) := by have := size_nil s hs2; omega
        go_enter Try.func42, Try.ntmps42
        go_wp2_with fail
        go_ret
        exact ⟨ret_int rfl, b0 _⟩
    · rw [if_neg hn]
      by_cases hl : n < 0
      · have hn1 : decide (n < 0) = true := by simp; omega
        go_enter Try.func42, Try.ntmps42
        go_wp2_with fail
        go_ret
        exact ⟨ret_int (rfl), b0 _⟩
      · have hn1 : decide (n < 0) = false := by simp; omega
        have hn2 : decide (1 < n) = true := by simp; omega
        have hn3 : 1 < n := by omega
        go_enter Try.func42, Try.ntmps42
        go_wp2_with fail
        go_ret
        exact ⟨ret_int (rfl), b0 _⟩
  by_cases k2 : k = 2
  · subst k2
    rw [chk2]
    cases hs : s.toList.isEmpty
    · have hs2 : ¬ s.toList = [] := by simpa using hs
      go_enter Try.func42, Try.ntmps42
      go_wp2_with fail
      go_ret
      exact ⟨ret_int rfl, b0 _⟩
    · have hs2 : s.toList = [] := by simpa using hs
      have hz : ¬ 60 < (s.size : Int) := by have := size_nil s hs2; omega
      go_enter Try.func42, Try.ntmps42
      go_wp2_with fail
      go_ret
      exact ⟨ret_int rfl, b0 _⟩
  by_cases k3 : k = 3
  · subst k3
    rw [chk3]
    by_cases hn : n = 0
    · subst hn
      rw [if_pos rfl]
      by_cases hs : 60 < (s.size : Int)
      · rw [if_pos hs]
        go_enter Try.func42, Try.ntmps42
        go_wp2_with fail
        go_ret
        exact ⟨ret_int (rfl), b0 _⟩
      · rw [if_neg hs]
        go_enter Try.func42, Try.ntmps42
        go_wp2_with fail
        go_ret
        exact ⟨ret_int (rfl), b0 _⟩
    · have hn2 : (n != 0) = true := by simp [hn]
      rw [if_neg hn]
      go_enter Try.func42, Try.ntmps42
      go_wp2_with fail
      go_ret
      exact ⟨ret_int (rfl), b0 _⟩
  by_cases kn : k < 0
  · go_enter Try.func42, Try.ntmps42
    go_wp2_with fail
    go_ret
    exact ⟨ret_int (by unfold chkV; (repeat' split) <;> omega), b0 _⟩
  · have kp : 3 < k := by omega
    go_enter Try.func42, Try.ntmps42
    go_wp2_with fail
    go_ret
    exact ⟨ret_int (by unfold chkV; (repeat' split) <;> omega), b0 _⟩
end Go.Proofs.Ytpphlmbhonaglaa
