/-
  The laws' own known, within.
-/
import Derived.Test.YthkfoebannpmdaaWrites
namespace Go.Proofs.Ythkfoebannpmdaa
open Go.RowKit

/-- A BOOL b IS ANSWERED, AND NOTHING THAT WAS THERE HAS CHANGED. -/
def Told (w : World) (b : Bool) (en : Ending) (w' : World) : Prop := en = .returned (.bool b) ∧ Below w.heap.size w w'

theorem int_nil (x : Int) (w : World) : Calls Try.prog 12 #[.slice none 0 0, .int .i64 x] w (Fresh w 8 (le 8 (XU x))) :=
  int_any none 0 0 [] x w (IsB.nilB w) (by omega)
theorem byte_nil (x : Int) (w : World) : Calls Try.prog 14 #[.slice none 0 0, .int .i64 x] w (Fresh w 1 (le 1 (XU x))) :=
  byte_any none 0 0 [] x w (IsB.nilB w) (by omega)
theorem text_nil (s : ByteArray) (w : World) : Calls Try.prog 16 #[.slice none 0 0, .string s] w (Fresh w (tx s.data.toList).length (tx s.data.toList)) := by
  have h := text_any none 0 0 [] s w (IsB.nilB w) (by omega)
  rw [Nat.zero_add] at h
  exact h

set_option maxHeartbeats 400000 in
theorem known_any (w : World) : Calls Try.prog 11 #[] w (Told w true) := by
  go_enter Try.func11, Try.ntmps11
  go_wp2_with (first | (go_at_call 12; refine (int_nil _ _).mono ?_; rintro e w1 ⟨g1, c1, rfl, h1, hb1, hg1⟩; have hc0 : w1.cell? ⟨g1, 0, none⟩ = some (.int .u8 254) := h1.cell 0 254 rfl; have hc7 : w1.cell? ⟨g1, 7, none⟩ = some (.int .u8 255) := h1.cell 7 255 rfl) | (go_at_call 16; refine (text_nil _ _).mono ?_; rintro e w2 ⟨g2, c2, rfl, h2, hb2, hg2⟩))
  go_ret
  exact ⟨rfl, hb1.trans (hb2.mono hb1.size)⟩

theorem ret_int {k : IntKind} {a b : Int} (h : a = b) : Ending.returned (.int k a) = .returned (.int k b) := by rw [h]
theorem tmod_up (x m : Int) (hm : 1 ≤ m ∧ m ≤ 1000000) : (x.tmod m < 0 → wrap64 (x.tmod m + m) = x % m) ∧ (0 ≤ x.tmod m → x.tmod m = x % m) := by
  have h1 := Int.tmod_lt_of_pos x (show 0 < m by omega)
  have h2 := Int.lt_tmod_of_pos x (show 0 < m by omega)
  have h3 := Int.tmod_add_mul_tdiv x m
  generalize x.tmod m = r at *
  generalize x.tdiv m = q at *
  subst h3
  rw [Int.add_mul_emod_self_left]
  refine ⟨fun h => ?_, fun h => (Int.emod_eq_of_lt h h1).symm⟩
  rw [IntWalk.wrap64_in _ (by omega), ← Int.add_emod_right, Int.emod_eq_of_lt (by omega) (by omega)]

set_option maxHeartbeats 400000 in
/-- within(x, m) is x modulo m. -/
theorem within_any (x : Int) (m : Int) (w : World) (hm : 1 ≤ m ∧ m ≤ 1000000) :
    Calls Try.prog 20 #[.int .i64 x, .int .i64 m] w fun e w' => e = .returned (.int .i64 (x % m)) ∧ w = w' := by
  have hm0 : ¬ m = 0 := by omega
  have hu := Lib.hid (tmod_up x m hm)
  go_enter Try.func20, Try.ntmps20
  go_wp2_with fail
  · have h : x.tmod m < 0 := by assumption
    go_ret
    exact ⟨ret_int (hu.out.1 h), rfl⟩
  · have h : 0 ≤ x.tmod m := by assumption
    go_ret
    exact ⟨ret_int (hu.out.2 h), rfl⟩
end Go.Proofs.Ythkfoebannpmdaa
