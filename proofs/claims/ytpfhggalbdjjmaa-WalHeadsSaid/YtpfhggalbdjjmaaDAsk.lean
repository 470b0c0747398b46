/-
  A disk is asked: Dead, Pages, has, Read; Stop; the power is restored.
-/
import Derived.Test.YtpfhggalbdjjmaaDPow
import Derived.Test.YtpfhggalbdjjmaaMake
import Derived.Laws.CopyOwn
namespace Go.Proofs.Ytpfhggalbdjjmaa
open Go.RowKit

theorem gset (w : World) (g i : Nat) (v : Value) : w.grownBy (w.setCell ⟨g, i, none⟩ v) (some g) := ⟨rfl, by simp, rfl, by simp, fun k _ hn => heap_setCell_other w _ k v (fun e => hn (by rw [e]))⟩
theorem gtrans {a b c : World} {row : Option Nat} (h : a.grownBy b row) (k : b.grownBy c row) : a.grownBy c row :=
  ⟨k.os.trans h.os, k.tape.trans h.tape, k.output.trans h.output, Nat.le_trans h.size k.size, fun q hq hn => (k.block q (Nat.lt_of_lt_of_le hq h.size) hn).trans (h.block q hq hn)⟩
theorem gdrew (w : World) (row : Option Nat) : w.grownBy w.drew row := ⟨rfl, rfl, rfl, Nat.le_refl _, fun _ _ _ => rfl⟩
section
variable {w : World} {d L K n : Nat} {ao : Option Addr} {m c : Nat} {s : Dk}
theorem dead_at (h : DkAt w d L K n ao m c s) :
    Calls Try.prog 22 #[.pointer (some ⟨d, 0, none⟩)] w fun e w' => e = .returned (.bool s.gone) ∧ w = w' := by
  have c0 := h.c0
  have c1 := h.c1
  have hb : ((if s.gone then (1 : Int) else 0) != 0) = s.gone := by cases s.gone <;> rfl
  have HB := Lib.hid hb
  clear hb
  go_enter Try.func22, Try.ntmps22
  go_wp2_with (go_at_call 41; refine (load_any ⟨d, 1, none⟩ _ s.gone HB.out _ c1).mono ?_; rintro e w' ⟨rfl, rfl⟩)
  go_ret
  exact ⟨rfl, rfl⟩
theorem pages_at (h : DkAt w d L K n ao m c s) :
    Calls Try.prog 49 #[.pointer (some ⟨d, 0, none⟩)] w fun e w' => e = .returned (.int .i64 n) ∧ w = w' := by
  have c0 := h.c0
  have c2 := h.c2
  go_enter Try.func49, Try.ntmps49
  go_wp2
  go_ret
  exact ⟨rfl, rfl⟩
theorem has_yes (h : DkAt w d L K n ao m c s) (p : Nat) (hp : p < n) :
    Calls Try.prog 23 #[.pointer (some ⟨d, 0, none⟩), .int .i64 p] w fun e w' => e = .returned (.bool true) ∧ w = w' := by
  have c0 := h.c0
  have c2 := h.c2
  have hp2 : (p : Int) < (n : Int) := by omega
  have hp3 : (0 : Int) ≤ (p : Int) := by omega
  go_enter Try.func23, Try.ntmps23
  go_wp2
  go_ret
  exact ⟨rfl, rfl⟩
theorem has_no (h : DkAt w d L K n ao m c s) (p : Int) (hp : p < 0 ∨ (n : Int) ≤ p) :
    Calls Try.prog 23 #[.pointer (some ⟨d, 0, none⟩), .int .i64 p] w fun e w' => e = .returned (.bool false) ∧ w = w' := by
  have c0 := h.c0
  have c2 := h.c2
  by_cases h0 : p < 0
  · have h1 : ¬ 0 ≤ p := by omega
    clear hp
    go_enter Try.func23, Try.ntmps23
    go_wp2
    go_ret
    exact ⟨rfl, rfl⟩
  · have h1 : 0 ≤ p := by omega
    have h2 : ¬ p < (n : Int) := by omega
    clear hp
    go_enter Try.func23, Try.ntmps23
    go_wp2
    go_ret
    exact ⟨rfl, rfl⟩
theorem stop_at (h : DkAt w d L K n ao m c s) (x : Int) :
    Calls Try.prog 37 #[.pointer (some ⟨d, 0, none⟩), .int .i64 x] w fun e w' => e = .returned (.tuple #[]) ∧ DkAt w' d L K n ao m c { s with left := max x 0 } ∧ w.grownBy w' (some d) := by
  have c0 := h.c0
  have f0 := h.free 0
  have h1 := h.left (max x 0)
  have g1 := gset w d 0 (.int .i64 (max x 0))
  have H1 := Lib.hid h1
  clear h1 h
  go_enter Try.func37, Try.ntmps37
  go_wp2_with (go_at_call 31; refine (store_int ⟨d, 0, none⟩ _ (max x 0) _ c0 f0).mono ?_; rintro e w' ⟨rfl, rfl⟩)
  go_end0
  exact ⟨rfl, H1.out, g1⟩
theorem restore_at (h : DkAt w d L K n ao m c s) :
    Calls Try.prog 40 #[.pointer (some ⟨d, 0, none⟩)] w fun e w' => e = .returned (.tuple #[]) ∧ DkAt w' d L K n ao m c { s with left := 0, gone := false } ∧ w.grownBy w' (some d) := by
  go_enter Try.func40, Try.ntmps40
  go_wp2_with fail
  refine (stop_at h 0).mono ?_
  rintro e w1 ⟨rfl, h1, g1⟩
  have c0 := h1.c0
  have c1 := h1.c1
  have f1 := h1.free 1
  have h2 := h1.drew.gone false
  have g2 := gtrans (gtrans g1 (gdrew w1 _)) (gset w1.drew d 1 (.int .u32 0))
  have H2 := Lib.hid h2
  clear h1 h h2
  go_wp2_with (go_at_call 43; refine (store_false ⟨d, 1, none⟩ _ _ c1 f1).mono ?_; rintro e w' ⟨rfl, rfl⟩)
  go_end0
  exact ⟨rfl, H2.out, g2⟩
theorem stopD_at (h : DkAt w d L K n ao m c s) (x : Int) :
    Calls Try.prog 15 #[.pointer (some ⟨d, 0, none⟩), .int .i64 x] w fun e w' => e = .returned (.tuple #[]) ∧ DkAt w' d L K n ao m c { s with left := max x 0 } ∧ w.grownBy w' (some d) := by
  have c0 := h.c0
  go_enter Try.func15, Try.ntmps15
  go_wp2_with fail
  refine (stop_at h x).mono ?_
  rintro e w1 ⟨rfl, h1, g1⟩
  have H1 := Lib.hid h1
  clear h1
  go_wp2
  go_end0
  exact ⟨rfl, H1.out, g1⟩
end
end Go.Proofs.Ytpfhggalbdjjmaa
