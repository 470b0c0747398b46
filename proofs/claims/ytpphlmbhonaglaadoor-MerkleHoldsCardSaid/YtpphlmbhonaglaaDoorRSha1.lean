/-
  The reference's rot, words.
-/
import Derived.Test.YtpphlmbhonaglaaDoorU32
import Derived.Test.YtpphlmbhonaglaaDoorTy
namespace Go.Proofs.YtpphlmbhonaglaaDoor
open Go.RowKit

theorem rot_any (x : UInt32) (n : Nat) (w : World) (hn : 1 ≤ n ∧ n ≤ 31) :
    Calls Tryd.prog 21 #[.int .u32 (u x), .int .u64 n] w fun e w' => e = .returned (.int .u32 (u (rr x n))) ∧ w = w' := by
  have h1 := u_lo x
  have h2 := u_hi x
  have e : Hid (bits BinOp.or IntKind.u32 (u x / 2 ^ n) (u x * 2 ^ (32 - n) % 4294967296) = u (rr x n)) := by
    unfold Hid
    rw [u_shr, u_shl, u_or]
    rfl
  go_enter Tryd.func21, Tryd.ntmps21
  go_wp2_with fail
  go_ret
  exact ⟨ret_int e.out, rfl⟩

theorem rot_still (x : UInt32) (n : Int) (w : World) (hn : 1 ≤ n ∧ n ≤ 31) :
    Calls Tryd.prog 21 #[.int .u32 (u x), .int .u64 n] w fun e w' => e = .returned (.int .u32 (u (rr x n.toNat))) ∧ w' = w := by
  obtain ⟨m, rfl⟩ := Int.eq_ofNat_of_zero_le (show 0 ≤ n by omega)
  exact (rot_any x m w (by omega)).mono fun _ _ ⟨a, b⟩ => ⟨a, b.symm⟩

theorem zero64 : (Tryd.prog.info? 46).map (fun i => i.zero) = some (some (.agg (cus (List.replicate 64 0)))) := by kernel_rfl
theorem size64 : (Tryd.prog.info? 46).map (·.size) = some 64 := by kernel_rfl
theorem zeroH : (Tryd.prog.info? 27).map (fun i => i.zero) = some (some (.agg (bcs (List.replicate 32 0)).toArray)) := by kernel_rfl
theorem sizeH : (Tryd.prog.info? 27).map (·.size) = some 32 := by kernel_rfl
theorem zero8 : (Tryd.prog.info? 48).map (fun i => i.zero) = some (some (.agg (cus (List.replicate 8 0)))) := by kernel_rfl
theorem size8 : (Tryd.prog.info? 48).map (·.size) = some 8 := by kernel_rfl

set_option maxRecDepth 100000 in
theorem words_any (w : World) :
    Calls Tryd.prog 20 #[] w fun e w' => e = .returned (.agg (cus K64)) ∧ Below w.heap.size w w' := by
  go_enter Tryd.func20, Tryd.ntmps20
  go_wp2_with (first | (with_reducible refine wpList_alloc_ar rfl 46 rfl 64 zero64 ?_; intro w1 g1 h1 b1 q1) | (with_reducible refine wpList_build_at rfl 46 _ rfl (cus K64) (by kernel_rfl) ?_) | ((with_reducible refine wpList_store_ar rfl 46 _ _ rfl _ _ K64 ?_ ?_ _ h1 64 size64 List.length_replicate K64_length ?_); (rfl); (rfl); (intro w2 h2 b2)))
  refine bodyPost_ret (v := .agg (cus K64)) (results_cell_row rfl _ _ g1 _ _ (0, 0) _ rfl h2 Tryd.underlying46 rfl size64) rfl ⟨rfl, ?_⟩
  exact b1.grown b2 b1.size (fun k h => by cases h; exact q1)
end Go.Proofs.YtpphlmbhonaglaaDoor
