/-
  A disk's power: how it is counted down, set, asked for, restored.
-/
import Derived.Test.YtpfhggalbdjjmaaDk
import Derived.Test.YtpfhggalbdjjmaaALoad
import Derived.Defers
import Derived.Laws.Pointers
import Derived.Laws.LoneSync
import Derived.RegionTactic
import Derived.RegionCalls
import Derived.StillTailTactics
import Derived.Deep.RegionHeld
namespace Go.Proofs.Ytpfhggalbdjjmaa
open Go.RowKit

/-- '(*sync/atomic.Int64).Add' of -1. -/
theorem add_any (a : Addr) (x r : Int) (w : World) (hc : w.cell? a = some (.int .i64 x)) (hz : w.frozen? a = false) (hr : IntKind.i64.wrap (x + -1) = r) :
    Calls Try.prog 42 #[.pointer (some a), .int .i64 (-1)] w fun e w' => e = .returned (.int .i64 r) ∧ w' = w.setCell a (.int .i64 r) := by
  have hadd := run_call_add (P := Try.prog) Try.func61 (by kernel_rfl) (by kernel_rfl) (by kernel_rfl) .i64 (by kernel_rfl) (y := -1) (s := r) hc hz (by simp only [Op.intArith]; simp [go_sem, hr])
  clear hr
  go_enter Try.func42, Try.ntmps42
  go_wp2
  go_ret
  exact ⟨rfl, rfl⟩
/-- '(*sync/atomic.Int64).Store'. -/
theorem store_int (a : Addr) (x : Value) (y : Int) (w : World) (hc : w.cell? a = some x) (hz : w.frozen? a = false) :
    Calls Try.prog 31 #[.pointer (some a), .int .i64 y] w fun e w' => e = .returned (.tuple #[]) ∧ w' = w.setCell a (.int .i64 y) := by
  have hst := run_call_store (P := Try.prog) Try.func54 (by kernel_rfl) (by kernel_rfl) (by kernel_rfl) (by kernel_rfl) (k := .i64) (y := y) hc hz
  go_enter Try.func31, Try.ntmps31
  go_wp2
  go_end0
  exact ⟨rfl, rfl⟩
theorem store_true (a : Addr) (x : Value) (w : World) (hc : w.cell? a = some x) (hz : w.frozen? a = false) :
    Calls Try.prog 43 #[.pointer (some a), .bool true] w fun e w' => e = .returned (.tuple #[]) ∧ w' = w.drew.setCell a (.int .u32 1) := by
  have hc' : w.drew.cell? a = some x := by go_simp
  have hz' : w.drew.frozen? a = false := by go_simp
  have hst := run_call_store (P := Try.prog) Try.func62 (by kernel_rfl) (by kernel_rfl) (by kernel_rfl) (by kernel_rfl) (k := .u32) (y := 1) hc' hz'
  go_enter Try.func43, Try.ntmps43
  go_wp2
  go_region_calls
  all_goals (go_end0; exact ⟨rfl, rfl⟩)
theorem store_false (a : Addr) (x : Value) (w : World) (hc : w.cell? a = some x) (hz : w.frozen? a = false) :
    Calls Try.prog 43 #[.pointer (some a), .bool false] w fun e w' => e = .returned (.tuple #[]) ∧ w' = w.drew.setCell a (.int .u32 0) := by
  have hc' : w.drew.cell? a = some x := by go_simp
  have hz' : w.drew.frozen? a = false := by go_simp
  have hst := run_call_store (P := Try.prog) Try.func62 (by kernel_rfl) (by kernel_rfl) (by kernel_rfl) (by kernel_rfl) (k := .u32) (y := 0) hc' hz'
  go_enter Try.func43, Try.ntmps43
  go_wp2
  go_region_calls
  all_goals (go_end0; exact ⟨rfl, rfl⟩)

/-- What an operation that is done costs, and what it answers. -/
def Dk.spent (s : Dk) : Dk := if s.left = 1 then { s with left := 0, gone := true } else { s with left := s.left - 1 }
def Dk.code (s : Dk) : Int := if s.left = 1 then 15 else 0
theorem spent_last {s : Dk} (h : s.left = 1) : s.spent = { s with left := 0, gone := true } := if_pos h
theorem spent_more {s : Dk} (h : s.left ≠ 1) : s.spent = { s with left := s.left - 1 } := if_neg h
theorem code_last {s : Dk} (h : s.left = 1) : s.code = 15 := if_pos h
theorem code_more {s : Dk} (h : s.left ≠ 1) : s.code = 0 := if_neg h
/-- The count can be taken one down. -/
def Room (s : Dk) : Prop := IntKind.i64.wrap (s.left + -1) = s.left - 1

section
variable {w : World} {d L K n : Nat} {ao : Option Addr} {m c : Nat} {s : Dk}
theorem spend_any (h : DkAt w d L K n ao m c s) (hr : Room s) :
    Calls Try.prog 24 #[.pointer (some ⟨d, 0, none⟩)] w fun e w' => e = .returned (.int .i64 s.code) ∧ DkAt w' d L K n ao m c s.spent ∧ w.grownBy w' (some d) := by
  have c0 := h.c0
  have f0 := h.free 0
  have h1 := h.left (s.left - 1)
  have g1 : w.grownBy (w.setCell ⟨d, 0, none⟩ (.int .i64 (s.left - 1))) (some d) := ⟨rfl, by simp, rfl, by simp, fun k _ hn => heap_setCell_other w _ k _ (fun e => hn (by rw [e]))⟩
  have HR := Lib.hid hr
  clear hr
  by_cases hl : s.left = 1
  · have e0 : s.left - 1 = 0 := by omega
    rw [e0] at h1 g1
    have h2 := h1.drew.gone true
    have c1 := h1.c1
    have f1 := h1.free 1
    have g2 : w.grownBy ((w.setCell ⟨d, 0, none⟩ (.int .i64 0)).drew.setCell ⟨d, 1, none⟩ (.int .u32 1)) (some d) := ⟨rfl, by simp, rfl, by simp, fun k hk hn => (heap_setCell_other _ _ k _ (fun e => hn (by rw [e]))).trans (g1.block k hk hn)⟩
    rw [code_last hl, spent_last hl]
    have hw : IntKind.i64.wrap (s.left + -1) = 0 := by rw [HR.out, e0]
    have HW := Lib.hid hw
    have H2 := Lib.hid h2
    clear hw e0 HR h2 h1 h g1 hl
    generalize s.left = x at *
    go_enter Try.func24, Try.ntmps24
    go_wp2_with (first
      | (go_at_call 42; refine (add_any ⟨d, 0, none⟩ _ 0 _ c0 f0 HW.out).mono ?_; rintro e w' ⟨rfl, rfl⟩)
      | (go_at_call 43; refine (store_true ⟨d, 1, none⟩ _ _ c1 f1).mono ?_; rintro e w' ⟨rfl, rfl⟩))
    go_ret
    exact ⟨rfl, H2.out, g2⟩
  · rw [code_more hl, spent_more hl]
    have hne : (s.left - 1 != 0) = true := by simp; omega
    have H1 := Lib.hid h1
    have HW : Hid (IntKind.i64.wrap (s.left + -1) = s.left - 1) := HR.out
    clear h1 h hl HR
    generalize s.left - 1 = y at *
    go_enter Try.func24, Try.ntmps24
    go_wp2_with (go_at_call 42; refine (add_any ⟨d, 0, none⟩ _ y _ c0 f0 HW.out).mono ?_; rintro e w' ⟨rfl, rfl⟩)
    go_ret
    exact ⟨rfl, H1.out, g1⟩
end
end Go.Proofs.Ytpfhggalbdjjmaa
