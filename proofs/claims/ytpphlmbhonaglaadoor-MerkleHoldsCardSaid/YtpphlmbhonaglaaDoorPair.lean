/-
  The sum over two: merkle's pair, the reference's Two and Leaf.
-/
import Derived.Test.YtpphlmbhonaglaaDoorMarked
import Derived.Outline
namespace Go.Proofs.YtpphlmbhonaglaaDoor
open Go.RowKit

theorem slice_all (g : Nat) (w : World) : (Instr.sliceAt 27 (.pointer (some ⟨g, 0, none⟩)) none none none).run Tryd.prog w = .ok (.slice (some ⟨g, 0, none⟩) 32 32) w := by kernel_rfl
theorem two_flat (a b : List UInt8) : [a, b].flatten = a ++ b := by simp
set_option maxRecDepth 100000 in
set_option maxHeartbeats 1000000 in
theorem pair_any (a b : List UInt8) (w : World) (hC : RC w) (ha : a.length = 32) (hb : b.length = 32) :
    Calls Tryd.prog 17 #[.agg (bcs a).toArray, .agg (bcs b).toArray] w fun e w' => e = .returned (.agg (bcs (two a b)).toArray) ∧ Below w.heap.size w w' := by
  have sa : Hid ((bcs a).toArray.size = 32) := by simp [Hid, bcs_length, ha]
  have sb : Hid ((bcs b).toArray.size = 32) := by simp [Hid, bcs_length, hb]
  have HA := Lib.hid ha
  have HB := Lib.hid hb
  clear ha hb
  have hsl := slice_all
  have b0 : Below w.heap.size w ((w.alloc (.cells (bcs a).toArray 27)).alloc (.cells (bcs b).toArray 27)) := ((Below.refl _ _).alloc (Nat.le_refl _) _).alloc (by simp) _
  have Ia : IsB ((w.alloc (.cells (bcs a).toArray 27)).alloc (.cells (bcs b).toArray 27)) (some ⟨w.heap.size, 0, none⟩) 32 32 a := (isB_lit w _ 27 a 32 rfl HA.out (by omega)).alloc _
  have Ib : IsB ((w.alloc (.cells (bcs a).toArray 27)).alloc (.cells (bcs b).toArray 27)) (some ⟨w.heap.size + 1, 0, none⟩) 32 32 b := by
    have := isB_lit (w.alloc (.cells (bcs a).toArray 27)) _ 27 b 32 rfl HB.out (by omega)
    rw [World.size_alloc] at this
    exact this
  go_enter Tryd.func17, Tryd.ntmps17
  go_wp2_with (first | (with_reducible refine wpList_alloc_blk (o := ⟨some 4, _, _, _, _, _⟩) rfl 27 rfl _ zeroHash ?_; intro w1 gr h1 b1 q1))
  refine region_tail 2 (by kernel_rfl) (by kernel_rfl) ?_
  intro wx hx bx
  have bx1 := b1.trans (bx.mono b1.size)
  have hRx : Hid (wx.heap[gr]? = some (.cells (bcs (List.replicate 32 0)).toArray 27 (0, 0))) := (heap_hid hx gr).trans h1.out
  have Iax := Ia.past bx1
  have Ibx := Ib.past bx1
  have Bx : Below w.heap.size w wx := b0.trans (bx1.mono b0.size)
  have hgr : w.heap.size ≤ gr := Nat.le_trans b0.size q1
  clear Ia Ib b0 b1 bx bx1 h1 q1 hx
  simp only [List.take_succ_cons, List.take_zero, List.drop_succ_cons, List.drop_zero]
  iterate 2 still_step
  refine wpStill_nil ?_
  go_wp2_with fail
  have hm := marked_any 1 ⟨wx.heap.size, 0, none⟩ 2 2 [a, b] _ ((hC.past Bx).alloc (.cells #[.slice (some ⟨w.heap.size, 0, none⟩) 32 32, .slice (some ⟨w.heap.size + 1, 0, none⟩) 32 32] 36)) (isP_two wx 36 _ _ _ a Iax _ _ _ b Ibx) (by omega) (by rw [two_flat, List.length_append, HA.out, HB.out]; omega)
  rw [two_flat] at hm
  refine hm.mono ?_
  rintro e w4 ⟨rfl, b4⟩
  have hl1 : gr < wx.heap.size := (Array.getElem?_eq_some_iff.1 hRx.out).1
  have R4 : Hid (w4.heap[gr]? = some (.cells (bcs (List.replicate 32 0)).toArray 27 (0, 0))) := by
    unfold Hid
    rw [b4.block gr (by simp; omega), Below.heap_alloc _ _ _ hl1]
    exact hRx.out
  have B4 : Below w.heap.size w w4 := (Bx.alloc Bx.size _).trans (b4.mono (by have := Bx.size; simp; omega))
  clear hm Bx b4 hRx Iax Ibx hsl
  go_wp2_with ((with_reducible refine wpList_store_blk rfl 27 _ _ rfl gr _ (bcs (two a b)).toArray ?_ ?_ _ R4 32 sizeHash (by simp [bcs_length]) (by simp [bcs_length, two_length]) (bcs_all _) ?_); (rfl); (rfl); (intro w8 h8 b8))
  refine bodyPost_ret (v := .agg (bcs (two a b)).toArray) (results_cell_row rfl _ _ gr _ _ (0, 0) _ rfl h8.out Tryd.underlying27 rfl (by rw [sizeHash]; simp [bcs_length, two_length])) rfl ⟨rfl, ?_⟩
  exact B4.grown b8 B4.size (fun k hk => by cases hk; omega)

theorem own_lit (w : World) (v : Value) (b : UInt8) (hv : v = bc b) : OwnB (w.alloc (.cells #[v] 5)) 5 w.heap.size 1 1 [b] :=
  ⟨rfl, Nat.le_refl _, by unfold maxLen; omega, #[v], heap_alloc_new w _, rfl, by rw [hv]; rfl⟩
set_option maxRecDepth 100000 in
set_option maxHeartbeats 1000000 in
theorem rtwo_any (a b : List UInt8) (w : World) (ha : a.length = 32) (hb : b.length = 32) :
    Calls Tryd.prog 29 #[.agg (bcs a).toArray, .agg (bcs b).toArray] w fun e w' => e = .returned (.agg (bcs (two a b)).toArray) ∧ Below w.heap.size w w' := by
  have HA := Lib.hid ha
  have HB := Lib.hid hb
  clear ha hb
  have hsl := slice_all
  have b0 : Below w.heap.size w ((w.alloc (.cells (bcs a).toArray 27)).alloc (.cells (bcs b).toArray 27)) := ((Below.refl _ _).alloc (Nat.le_refl _) _).alloc (by simp) _
  have Ia : IsB ((w.alloc (.cells (bcs a).toArray 27)).alloc (.cells (bcs b).toArray 27)) (some ⟨w.heap.size, 0, none⟩) 32 32 a := (isB_lit w _ 27 a 32 rfl HA.out (by omega)).alloc _
  have Ib : IsB ((w.alloc (.cells (bcs a).toArray 27)).alloc (.cells (bcs b).toArray 27)) (some ⟨w.heap.size + 1, 0, none⟩) 32 32 b := by
    have := isB_lit (w.alloc (.cells (bcs a).toArray 27)) _ 27 b 32 rfl HB.out (by omega)
    rw [World.size_alloc] at this
    exact this
  go_enter Tryd.func29, Tryd.ntmps29
  go_wp2_with (first
    | (with_reducible refine wpList_alloc_blk (o := ⟨some 4, _, _, _, _, _⟩) rfl 27 rfl _ zeroHash ?_; intro w1 gr h1 b1 q1)
    | (at_builtin; refine wpList_append_ob rfl (.tmp 6) (.tmp 7) 36 36 rfl 5 byteTy w1.heap.size 1 1 [1] rfl (own_lit w1 (.int .u8 1) 1 rfl) _ rfl 32 a (((Ia.past b1).alloc _).src byteTy.ht) 33 rfl (1 :: a) rfl (by omega) ?_; intro g2 c2 w2 o2 p2 q2; have b2 : Below w1.heap.size w1 w2 := ((Below.refl _ _).alloc (Nat.le_refl _) _).trans (p2.below (Nat.le_refl _) (by simp)))
    | (at_builtin; refine wpList_append_ob rfl (.tmp 9) (.tmp 10) 36 36 rfl 5 byteTy g2 33 c2 (1 :: a) rfl o2 _ rfl 32 b (((Ib.past b1).past b2).src byteTy.ht) 65 rfl (1 :: a ++ b) rfl (by omega) ?_; intro g3 c3 w3 o3 p3 q3))
  have hl1 : gr < w1.heap.size := (Array.getElem?_eq_some_iff.1 h1.out).1
  have hg2 : w1.heap.size ≤ g2 := by simp at q2; omega
  have b3 : Below w1.heap.size w1 w3 := b2.trans (p3.below hg2 b2.size)
  have R3 : Hid (w3.heap[gr]? = some (.cells (bcs (List.replicate 32 0)).toArray 27 (0, 0))) := (b3.block gr hl1).trans h1.out
  have hgr : w.heap.size ≤ gr := Nat.le_trans b0.size q1
  have B3 : Below w.heap.size w w3 := (b0.trans (b1.mono b0.size)).trans (b3.mono (Nat.le_trans b0.size b1.size))
  have I3 := o3.isB
  clear h1 b1 o2 p2 q2 b2 o3 p3 q3 b3 b0 Ia Ib q1 hg2 hsl
  refine (rsum_any _ 65 c3 (1 :: a ++ b) _ I3 (by omega)).mono ?_
  rintro e w4 ⟨rfl, b4⟩
  have R4 : Hid (w4.heap[gr]? = some (.cells (bcs (List.replicate 32 0)).toArray 27 (0, 0))) := (b4.block gr (Array.getElem?_eq_some_iff.1 R3.out).1).trans R3.out
  have B4 := B3.trans (b4.mono B3.size)
  clear R3 B3 I3 b4
  go_wp2_with ((with_reducible refine wpList_store_blk rfl 27 _ _ rfl gr _ (bcs (two a b)).toArray ?_ ?_ _ R4 32 sizeHash (by simp [bcs_length]) (by simp [bcs_length, two_length]) (bcs_all _) ?_); (rfl); (rfl); (intro w8 h8 b8))
  refine bodyPost_ret (v := .agg (bcs (two a b)).toArray) (results_cell_row rfl _ _ gr _ _ (0, 0) _ rfl h8.out Tryd.underlying27 rfl (by rw [sizeHash]; simp [bcs_length, two_length])) rfl ⟨rfl, ?_⟩
  exact B4.grown b8 B4.size (fun k hk => by cases hk; omega)
end Go.Proofs.YtpphlmbhonaglaaDoor
