/-
  The contract of sha.Hex.
-/
import Derived.Test.YtlcfjiiejmnghaaDoorHexP
import Derived.Test.YtlcfjiiejmnghaaDoorTy
import Derived.Test.YtlcfjiiejmnghaaDoorReg
import Derived.Test.YtlcfjiiejmnghaaDoorStep
import Derived.Outline
namespace Go.Proofs.YtlcfjiiejmnghaaDoor
open Go.RowKit

theorem sizeH' : (Tryd.prog.info? 24).map (·.size) = some 32 := by kernel_rfl
theorem and15 (x : UInt8) : bits .and .u8 (ub x) 15 = ((x.toNat % 16 : Nat) : Int) := by
  unfold ub
  have := u8_and_nat x.toNat 15 x.toNat_lt (by omega)
  rw [show (15 : Int) = ((15 : Nat) : Int) from rfl, this, show 15 = 2 ^ 4 - 1 from rfl, Nat.and_two_pow_sub_one_eq_mod]
theorem sizeB : (Tryd.prog.info? 5).map (·.size) = some 1 := by kernel_rfl
set_option maxRecDepth 100000 in
set_option maxHeartbeats 1000000 in
theorem hex_any (l : List UInt8) (w : World) (hl : l.length = 32) :
    Calls Tryd.prog 20 #[.agg (bcs l).toArray] w fun e w' => e = .returned (.string ⟨(hx l).toArray⟩) ∧ Below w.heap.size w w' := by
  have HL := Lib.hid hl
  have szl : Hid ((bcs l).toArray.size = 32) := by simp [Hid, bcs_length, hl]
  clear hl
  go_enter Tryd.func20, Tryd.ntmps20
  have h0 : Hid ((w.alloc (.cells (bcs l).toArray 24)).heap[w.heap.size]? = some (.cells (bcs l).toArray 24 (0, 0))) := heap_alloc_new w _
  have b0 : Below w.heap.size w (w.alloc (.cells (bcs l).toArray 24)) := (Below.refl _ _).alloc (Nat.le_refl _) _
  generalize hw0 : w.alloc (.cells (bcs l).toArray 24) = w0 at h0 b0
  have HW0 := Lib.hid hw0
  go_wp2_with (first
    | (at_make; refine wpList_make_ob rfl _ _ 26 rfl 5 byteTy .i64 .i64 _ 64 rfl rfl rfl (by omega) ?_; intro w1 h1 hb1; have h2 : Hid (w1.heap[w.heap.size]? = some (.cells (bcs l).toArray 24 (0, 0))) := (hb1.block _ (Array.getElem?_eq_some_iff.1 h0.out).1).trans h0.out)
    | ((with_reducible refine wpList_load_blk rfl 24 _ rfl w.heap.size _ ?_ _ h2 _ _ Tryd.underlying24 32 sizeH' szl.out ?_); (rfl)))
  have B1 : Below w.heap.size w w1 := below_on b0 hb1
  have hg0 : w.heap.size ≤ w0.heap.size := b0.size
  clear HW0 h0 b0 hb1 h2
  go_loopw [3, 8] (fun v i wq => ∃ (t g c : Nat), t ≤ 32 ∧ i = .int .i64 t ∧ v = .slice (some ⟨g, 0, none⟩) (2 * t) c ∧ OwnB wq 5 g (2 * t) c (hx (l.take t)) ∧ w.heap.size ≤ g ∧ Below w.heap.size w wq) (fun _ i _ => 32 - (intOf i).toNat)
  case atStart => exact ⟨0, _, _, Nat.zero_le _, rfl, rfl, h1, hg0, B1⟩
  case round =>
    clear h1 B1 hg0
    obtain ⟨t, g, c, ht, rfl, rfl, ho, hg, hb⟩ := hrel
    by_cases ht32 : t < 32
    · have hi := fun w' => run_index_bytes (P := Tryd.prog) Tryd.underlying24 Tryd.underlying5 sizeB l HL.out t ht32 .i64 w'
      have HX : Hid (hx (l.take (t + 1)) = hx (l.take t) ++ [dig ((l.getD t 0).toNat / 16), dig ((l.getD t 0).toNat % 16)]) := hx_snoc l t (by rw [HL.out]; exact ht32)
      generalize l.getD t 0 = x at hi HX
      have hp15 : x.toNat / 16 ≤ 15 := by have := x.toNat_lt; omega
      have hq15 : x.toNat % 16 ≤ 15 := by omega
      have ep : ub x / 16 = ((x.toNat / 16 : Nat) : Int) := by unfold ub; omega
      have eq : bits .and .u8 (ub x) 15 = ((x.toNat % 16 : Nat) : Int) := and15 x
      have lo := ub_lo x
      have hi2 := ub_hi x
      generalize x.toNat / 16 = p at ep hp15 HX
      generalize x.toNat % 16 = q at eq hq15 HX
      have dp := fun w' => run_index_digit (P := Tryd.prog) Tryd.underlying9 p hp15 .u8 w'
      have dq := fun w' => run_index_digit (P := Tryd.prog) Tryd.underlying9 q hq15 .u8 w'
      go_wp2_with fail
      go_region_held3 (fun _ => True) (trivial) ((refine step_append_ob rfl (.tmp 11) (.tmp 18) 26 26 (by rfl) 5 byteTy g (2 * t) c (hx (l.take t)) (by rfl) (ho.alloc _).drew _ (by rfl) 2 [dig p, dig q] (((isB_lit _ _ _ _ 2 rfl rfl (by omega)).drew).src byteTy.ht) (2 * (t + 1)) rfl _ HX.out.symm (by omega) ?_; intro g2 c2 w2 ho2 hp2 hg2))
      all_goals
        go_wp2_with fail
        go_roundw
        case rel =>
          exact ⟨t + 1, g2, c2, by omega, by go_num, rfl, ho2, by have := hb.size; simp at hg2; omega, ((hb.alloc hb.size _).drew).trans (hp2.below hg (by have := hb.size; simp; omega))⟩
        case measure => simp [intOf]; omega
    · obtain rfl : t = 32 := by omega
      rw [List.take_of_length_le (by rw [HL.out]; omega)] at ho
      have cv := ho.isB.conv byteTy Tryd.underlying9
      go_wp2_with fail
      go_ret
      exact ⟨rfl, hb⟩
end Go.Proofs.YtlcfjiiejmnghaaDoor
