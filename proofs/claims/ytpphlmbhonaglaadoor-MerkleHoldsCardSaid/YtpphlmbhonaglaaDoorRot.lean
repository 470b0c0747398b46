/-
  Package sha: what turns numbers about.
-/
import Derived.Test.YtpphlmbhonaglaaDoorU32
import Derived.Test.YtpphlmbhonaglaaDoorTy
import Derived.Test.YtpphlmbhonaglaaDoorReg
import Derived.Outline
namespace Go.Proofs.YtpphlmbhonaglaaDoor
open Go.RowKit

theorem and31 : ∀ n : Fin 32, 1 ≤ n.1 → bits .and .u64 (IntKind.u64.wrap (-(n.1 : Int))) 31 = ((32 - n.1 : Nat) : Int) := by decide +kernel
theorem rotl_any (x : UInt32) (n : Nat) (w : World) (hn : 1 ≤ n ∧ n ≤ 31) :
    Calls Tryd.prog 42 #[.int .u32 (u x), .int .i64 (-(n : Int))] w fun e w' => e = .returned (.int .u32 (u (rr x n))) ∧ w' = w := by
  have h1 := u_lo x
  have h2 := u_hi x
  have e := and31 ⟨n, by omega⟩ hn.1
  simp only at e
  have hk : 1 ≤ 32 - n ∧ 32 - n ≤ 31 := by omega
  have E : Hid (bits BinOp.or IntKind.u32 (u x * 2 ^ (32 - n) % 4294967296) (u x / 2 ^ (32 - (32 - n))) = u (rr x n)) := by
    unfold Hid
    rw [u_shr, u_shl, u_or, show 32 - (32 - n) = n by omega]
    unfold rr sr
    rw [UInt32.or_comm]
  generalize 32 - n = k at e hk E
  go_enter Tryd.func42, Tryd.ntmps42
  go_wp2_with fail
  go_ret
  exact ⟨ret_int E.out, rfl⟩

theorem right_any (x : UInt32) (n : Nat) (w : World) (hn : 1 ≤ n ∧ n ≤ 31) :
    Calls Tryd.prog 37 #[.int .u32 (u x), .int .i64 n] w fun e w' => e = .returned (.int .u32 (u (rr x n))) ∧ w' = w := by
  go_enter Tryd.func37, Tryd.ntmps37
  go_wp2_with (go_at_call 42; refine (rotl_any x n _ hn).mono ?_; rintro e w' ⟨rfl, rfl⟩)
  go_ret
  exact ⟨rfl, rfl⟩

theorem turned_any (x : UInt32) (i j k : Nat) (w : World) (hi : 1 ≤ i ∧ i ≤ 31) (hj : 1 ≤ j ∧ j ≤ 31) (hk : 1 ≤ k ∧ k ≤ 31) :
    Calls Tryd.prog 33 #[.int .u32 (u x), .int .i64 i, .int .i64 j, .int .i64 k] w fun e w' => e = .returned (.int .u32 (u (rr x i ^^^ rr x j ^^^ rr x k))) ∧ w' = w := by
  have r1 := u_xor
  go_enter Tryd.func33, Tryd.ntmps33
  go_wp2_with (go_at_call 37; refine (right_any x _ _ (by omega)).mono ?_; rintro e w' ⟨rfl, rfl⟩)
  go_ret
  exact ⟨rfl, rfl⟩

theorem shifted_any (x : UInt32) (i j k : Nat) (w : World) (hi : 1 ≤ i ∧ i ≤ 31) (hj : 1 ≤ j ∧ j ≤ 31) (hk : 1 ≤ k ∧ k ≤ 31) :
    Calls Tryd.prog 36 #[.int .u32 (u x), .int .i64 i, .int .i64 j, .int .i64 k] w fun e w' => e = .returned (.int .u32 (u (rr x i ^^^ rr x j ^^^ sr x k))) ∧ ∃ n, w' = w.drewN n := by
  have r1 := u_xor
  have r2 := u_shr
  have lo := u_lo x
  have hi := u_hi x
  go_enter Tryd.func36, Tryd.ntmps36
  go_wp2_with fail
  go_quiet ((go_at_call 37; exact Calls.quiet_of_same (right_any x _ _ (by omega))))
  go_wp2_with fail
  go_ret
  exact ⟨rfl, nq, rfl⟩
theorem shifted_lit (x : UInt32) (i j k : Int) (w : World) (hi : 1 ≤ i ∧ i ≤ 31) (hj : 1 ≤ j ∧ j ≤ 31) (hk : 1 ≤ k ∧ k ≤ 31) :
    Calls Tryd.prog 36 #[.int .u32 (u x), .int .i64 i, .int .i64 j, .int .i64 k] w fun e w' => e = .returned (.int .u32 (u (rr x i.toNat ^^^ rr x j.toNat ^^^ sr x k.toNat))) ∧ ∃ n, w' = w.drewN n := by
  obtain ⟨a, rfl⟩ := Int.eq_ofNat_of_zero_le (show 0 ≤ i by omega)
  obtain ⟨b, rfl⟩ := Int.eq_ofNat_of_zero_le (show 0 ≤ j by omega)
  obtain ⟨c, rfl⟩ := Int.eq_ofNat_of_zero_le (show 0 ≤ k by omega)
  exact shifted_any x a b c w (by omega) (by omega) (by omega)
theorem turned_lit (x : UInt32) (i j k : Int) (w : World) (hi : 1 ≤ i ∧ i ≤ 31) (hj : 1 ≤ j ∧ j ≤ 31) (hk : 1 ≤ k ∧ k ≤ 31) :
    Calls Tryd.prog 33 #[.int .u32 (u x), .int .i64 i, .int .i64 j, .int .i64 k] w fun e w' => e = .returned (.int .u32 (u (rr x i.toNat ^^^ rr x j.toNat ^^^ rr x k.toNat))) ∧ w' = w := by
  obtain ⟨a, rfl⟩ := Int.eq_ofNat_of_zero_le (show 0 ≤ i by omega)
  obtain ⟨b, rfl⟩ := Int.eq_ofNat_of_zero_le (show 0 ≤ j by omega)
  obtain ⟨c, rfl⟩ := Int.eq_ofNat_of_zero_le (show 0 ≤ k by omega)
  exact turned_any x a b c w (by omega) (by omega) (by omega)
end Go.Proofs.YtpphlmbhonaglaaDoor
