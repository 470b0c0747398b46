/-
  What the statements of stage 2 share: their example, a number below another one.
-/
import Derived.Test.YtlcfjiiejmnghaaDoorSum
import Derived.Test.YtlcfjiiejmnghaaDoorHex
import Derived.Test.YtlcfjiiejmnghaaDoorRHex
import Derived.Test.YtlcfjiiejmnghaaDoorRSum
import Derived.Lib.SmallJoins
namespace Go.Proofs.YtlcfjiiejmnghaaDoor
open Go.RowKit

/-- A number from 0 to n - 1, as the statements take it. -/
def wth (a n : Int) : Int := if a.tmod n < 0 then a.tmod n + n else a.tmod n
theorem wth_lo (a n : Int) (h : 0 < n) : 0 ≤ wth a n := by
  unfold wth
  have := Int.lt_tmod_of_pos a h
  split <;> omega
theorem wth_hi (a n : Int) (h : 0 < n) : wth a n < n := by
  unfold wth
  have := Int.tmod_lt_of_pos a h
  split <;> omega
theorem within2_any (a n : Int) (w : World) (hn : 0 < n) (hn2 : n ≤ 1000000) :
    Calls Tryd.prog 17 #[.int .i64 a, .int .i64 n] w fun e w' => e = .returned (.int .i64 (wth a n)) ∧ w = w' := by
  have h1 := Int.lt_tmod_of_pos a hn
  have h2 := Int.tmod_lt_of_pos a hn
  have hz : (n == 0) = false := by simp; omega
  by_cases h3 : a.tmod n < 0
  · go_enter Tryd.func17, Tryd.ntmps17
    go_wp2_with fail
    go_ret
    exact ⟨ret_int (by unfold wth; rw [if_pos h3]), rfl⟩
  · go_enter Tryd.func17, Tryd.ntmps17
    go_wp2_with fail
    go_ret
    exact ⟨ret_int (by unfold wth; rw [if_neg (by omega)]), rfl⟩

def HXabc : List UInt8 := [98, 97, 55, 56, 49, 54, 98, 102, 56, 102, 48, 49, 99, 102, 101, 97, 52, 49, 52, 49, 52, 48, 100, 101, 53, 100, 97, 101, 50, 50, 50, 51, 98, 48, 48, 51, 54, 49, 97, 51, 57, 54, 49, 55, 55, 97, 57, 99, 98, 52, 49, 48, 102, 102, 54, 49, 102, 50, 48, 48, 49, 53, 97, 100]
theorem hx_abc : hx (sha [97, 98, 99]) = HXabc := by rw [sha_abc]; decide +kernel
theorem abc_size : (⟨HXabc.toArray⟩ : ByteArray).size = 64 := by kernel_rfl
theorem abc_cut : (⟨HXabc.toArray⟩ : ByteArray).extract 0 8 = ⟨#[98, 97, 55, 56, 49, 54, 98, 102]⟩ := by decide +kernel
set_option maxRecDepth 100000 in
set_option maxHeartbeats 1000000 in
theorem known2 (w : World) (hC : RC w) : Calls Tryd.prog 16 #[] w fun e w' => e = .returned (.bool true) ∧ Below w.heap.size w w' := by
  go_enter Tryd.func16, Tryd.ntmps16
  have kc := fun (w : World) (C : Array Value) (n c g : Nat) (hg : g = w.heap.size) => Joins.run_convert_bytes_const_at (P := Tryd.prog) w 26 5 C n c g hg Tryd.underlying26 Tryd.underlying5
  go_wp2_with fail
  have hP := isP_two ((w.alloc (.cells #[.int .u8 97] 5 (1, 2))).alloc (.cells #[.int .u8 98, .int .u8 99] 5 (2, 3))) 26 _ _ _ _ ((isB_litF w #[.int .u8 97] 5 (1, 2) [97] 1 rfl rfl (by omega)).alloc _) _ _ _ _ (isB_litF (w.alloc (.cells #[.int .u8 97] 5 (1, 2))) #[.int .u8 98, .int .u8 99] 5 (2, 3) [98, 99] 2 rfl rfl (by omega))
  have hR := ((hC.alloc (.cells #[.int .u8 97] 5 (1, 2))).alloc (.cells #[.int .u8 98, .int .u8 99] 5 (2, 3))).alloc (.cells #[.slice (some ⟨w.heap.size, 0, none⟩) 1 1, .slice (some ⟨(w.alloc (.cells #[.int .u8 97] 5 (1, 2))).heap.size, 0, none⟩) 2 2] 26)
  have b0 : Below w.heap.size w (((w.alloc (.cells #[.int .u8 97] 5 (1, 2))).alloc (.cells #[.int .u8 98, .int .u8 99] 5 (2, 3))).alloc (.cells #[.slice (some ⟨w.heap.size, 0, none⟩) 1 1, .slice (some ⟨(w.alloc (.cells #[.int .u8 97] 5 (1, 2))).heap.size, 0, none⟩) 2 2] 26)) := (((Below.refl _ _).alloc (Nat.le_refl _) _).alloc (by simp) _).alloc (by simp; omega) _
  simp only [World.size_alloc] at hP hR b0
  refine (sum_any _ 2 2 [[97], [98, 99]] _ hR hP (by omega) (by decide)).mono ?_
  rintro e w1 ⟨rfl, b1⟩
  clear hP hR
  go_wp2_with fail
  refine (hex_any (sha [97, 98, 99]) _ (sha_length _)).mono ?_
  rintro e w2 ⟨rfl, b2⟩
  rw [hx_abc]
  have f1 := abc_size
  have f2 := abc_cut
  have hB : Below w.heap.size w w2 := (b0.trans (b1.mono (by simp; omega))).trans (b2.mono (by have := b1.size; simp at this; omega))
  clear b0 b1 b2 kc
  go_wp2_with fail
  go_ret
  exact ⟨rfl, hB⟩
end Go.Proofs.YtlcfjiiejmnghaaDoor
