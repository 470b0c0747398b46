/-
  The reference's part.
-/
import Derived.Test.YtpphlmbhonaglaaDoorLaw3
namespace Go.Proofs.YtpphlmbhonaglaaDoor
open Go.RowKit
set_option linter.unusedSimpArgs false

theorem wp_store_blk {P : Program} {w : World} {o : Oper} {a : Act} {K : Act → World → Prop} {Q : Exit → Act → World → Prop} (ty : TypeId) (x y : Operand) (ho : o.op = .store ty x y)
    (g : Nat) (old cs : Array Value) (hx : a.eval x = .pointer (some ⟨g, 0, none⟩)) (hy : a.eval y = .agg cs) (t : TypeId) (hg : Hid (w.heap[g]? = some (.cells old t (0, 0)))) (N : Nat) (hi : (P.info? ty).map (·.size) = some N) (hl : old.size = N) (hm : cs.size = N) (h1 : cs.all (·.oneCell') = true)
    (hK : ∀ w', Hid (w'.heap[g]? = some (.cells cs t (0, 0))) → w.grownBy w' (some g) → K (a.put o.dst undef) w') : o.wp P a w K Q := by
  refine wp_store_row ty x y ho g cs hx hy t old hg.out (by rw [hi, hm]) (by rw [hl, hm]) h1 (hK _ (setRow_heap w g _ _ _ _ hg.out) ⟨rfl, rfl, rfl, by simp, fun k _ hk => setRow_other w g k _ (fun e => hk (by rw [e]))⟩)
set_option maxHeartbeats 1000000 in
theorem part_any (n : Nat) (w : World) (h2 : 2 ≤ n) (hn : n ≤ 1048576) : Calls Tryd.prog 28 #[.int .i64 (n : Int)] w fun e w' => e = .returned (.int .i64 (Mk.part n : Int)) ∧ w = w' := by
  go_enter Tryd.func28, Tryd.ntmps28
  go_wp2_with fail
  go_loopw [3] (fun v wq => ∃ k : Nat, v = .int .i64 k ∧ 1 ≤ k ∧ k < n ∧ Hid (∃ j, k = 2 ^ j) ∧ w = wq) (fun v _ => n - (intOf v).toNat)
  case atStart => exact ⟨1, rfl, by omega, by omega, by first | exact ⟨0, rfl⟩ | trivial, by first | rfl | trivial⟩
  case round =>
    obtain ⟨k, rfl, hk1, hkn, HJ, rfl⟩ := hrel
    by_cases hk : 2 * k < n
    · have g1 : 2 * (k : Int) < (n : Int) := by omega
      go_wp2_with fail
      go_roundw
      case rel => exact ⟨2 * k, by go_num, by omega, by omega, by obtain ⟨j, hj⟩ := HJ.out; exact ⟨j + 1, by rw [hj, Nat.pow_succ]; omega⟩, by first | rfl | trivial⟩
      case measure => simp [intOf]; omega
    · have g1 : ¬ (2 * (k : Int) < (n : Int)) := by omega
      have hp : k = Mk.part n := by
        obtain ⟨j, hj⟩ := HJ.out
        subst hj
        exact (Mk.part_eq hkn (by omega)).symm
      have HP := Lib.hid hp
      clear hp
      go_wp2_with fail
      go_ret
      exact ⟨ret_int (by rw [← HP.out]), rfl⟩
end Go.Proofs.YtpphlmbhonaglaaDoor
