/-
  What a sum on its way holds in its block: the state, the block, how much is used, how long, the last block, its once (three cells), its schedule.
-/
import Derived.Test.YtpphlmbhonaglaaDoorU32
import Derived.Test.YtpphlmbhonaglaaDoorTy
import Derived.Deep.MidRow
namespace Go.Proofs.YtpphlmbhonaglaaDoor
open Go.RowKit

def smL (st : List UInt32) (blk : List UInt8) (used : Nat) (len : Int) (last : List UInt8) (mid : List Value) (sch : List UInt32) : List Value :=
  st.map cu ++ (bcs blk ++ ([.int .i64 used, .int .u64 len] ++ (bcs last ++ (mid ++ sch.map cu))))
/-- BLOCK g HOLDS SUCH A SUM. -/
structure Sm (w : World) (g : Nat) (st : List UInt32) (blk : List UInt8) (used : Nat) (len : Int) (last : List UInt8) (mid : List Value) (sch : List UInt32) : Prop where
  row : w.heap[g]? = some (.cells (smL st blk used len last mid sch).toArray 68 (0, 0))
  l1 : st.length = 8
  l2 : blk.length = 64
  l3 : last.length = 64
  l4 : sch.length = 64
  lm : mid.length = 3

section
variable {w w' : World} {g used : Nat} {len : Int} {st sch : List UInt32} {blk last : List UInt8} {mid : List Value}
theorem Sm.lt (h : Sm w g st blk used len last mid sch) : g < w.heap.size := (Array.getElem?_eq_some_iff.1 h.row).1
theorem Sm.kept (h : Sm w g st blk used len last mid sch) (k : w'.heap[g]? = w.heap[g]?) : Sm w' g st blk used len last mid sch := ⟨k.trans h.row, h.l1, h.l2, h.l3, h.l4, h.lm⟩
theorem Sm.free (h : Sm w g st blk used len last mid sch) (j : Nat) : w.frozen? ⟨g, j, none⟩ = false := frozen_of_row w g j _ _ h.row
theorem Sm.at (h : Sm w g st blk used len last mid sch) (j : Nat) (v : Value) (hv : (smL st blk used len last mid sch)[j]? = some v) : w.cell? ⟨g, j, none⟩ = some v := by
  rw [cell_of_row w g j _ _ (0, 0) h.row, List.getElem?_toArray]
  exact hv
theorem app_get {α : Type} {A B : List α} {n j : Nat} (h : A.length = n) : (A ++ B)[n + j]? = B[j]? := by
  subst h
  rw [List.getElem?_append_right (by omega), Nat.add_sub_cancel_left]
theorem app_set {α : Type} {A B : List α} {n j : Nat} {v : α} (h : A.length = n) : (A ++ B).set (n + j) v = A ++ B.set j v := by
  subst h
  rw [List.set_append_right _ _ (by omega), Nat.add_sub_cancel_left]
theorem Sm.st_cell (h : Sm w g st blk used len last mid sch) (j : Nat) (hj : j < 8) : w.cell? ⟨g, j, none⟩ = some (.int .u32 (u (st.getD j 0))) := by
  refine h.at j _ ?_
  have hl := h.l1
  unfold smL
  rw [List.getElem?_append_left (by simp; omega)]
  simp [cu, List.getD, show j < st.length by omega]
theorem Sm.blk_cell (h : Sm w g st blk used len last mid sch) (j : Nat) (hj : j < 64) : w.cell? ⟨g, 8 + j, none⟩ = some (.int .u8 (ub (blk.getD j 0))) := by
  refine h.at (8 + j) _ ?_
  have hl := h.l2
  unfold smL
  rw [app_get (by simp [h.l1]), List.getElem?_append_left (by simp [bcs]; omega)]
  simp [bcs, bc, ub, List.getD, show j < blk.length by omega]
theorem Sm.used_cell (h : Sm w g st blk used len last mid sch) : w.cell? ⟨g, 72, none⟩ = some (.int .i64 used) := by
  refine h.at (8 + (64 + 0)) _ ?_
  unfold smL
  rw [app_get (by simp [h.l1]), app_get (by simp [bcs, h.l2])]
  rfl
theorem Sm.len_cell (h : Sm w g st blk used len last mid sch) : w.cell? ⟨g, 73, none⟩ = some (.int .u64 len) := by
  refine h.at (8 + (64 + 1)) _ ?_
  unfold smL
  rw [app_get (by simp [h.l1]), app_get (by simp [bcs, h.l2])]
  rfl
theorem Sm.last_cell (h : Sm w g st blk used len last mid sch) (j : Nat) (hj : j < 64) : w.cell? ⟨g, 74 + j, none⟩ = some (.int .u8 (ub (last.getD j 0))) := by
  refine h.at (74 + j) _ ?_
  have hl := h.l3
  rw [show 74 + j = 8 + (64 + (2 + j)) by omega]
  unfold smL
  rw [app_get (by simp [h.l1]), app_get (by simp [bcs, h.l2]), app_get (n := 2) rfl, List.getElem?_append_left (by simp [bcs]; omega)]
  simp [bcs, bc, ub, List.getD, show j < last.length by omega]
theorem Sm.mid_cell (h : Sm w g st blk used len last mid sch) (j : Nat) (v : Value) (hj : mid[j]? = some v) : w.cell? ⟨g, 138 + j, none⟩ = some v := by
  refine h.at (138 + j) _ ?_
  have hl := (List.getElem?_eq_some_iff.1 hj).1
  rw [show 138 + j = 8 + (64 + (2 + (64 + j))) by omega]
  unfold smL
  rw [app_get (by simp [h.l1]), app_get (by simp [bcs, h.l2]), app_get (n := 2) rfl, app_get (by simp [bcs, h.l3]), List.getElem?_append_left hl]
  exact hj
theorem Sm.sch_cell (h : Sm w g st blk used len last mid sch) (j : Nat) (hj : j < 64) : w.cell? ⟨g, 141 + j, none⟩ = some (.int .u32 (u (sch.getD j 0))) := by
  refine h.at (141 + j) _ ?_
  have hl := h.l4
  rw [show 141 + j = 8 + (64 + (2 + (64 + (3 + j)))) by omega]
  unfold smL
  rw [app_get (by simp [h.l1]), app_get (by simp [bcs, h.l2]), app_get (n := 2) rfl, app_get (by simp [bcs, h.l3]), app_get h.lm]
  simp [cu, List.getD, show j < sch.length by omega]
theorem Sm.put (h : Sm w g st blk used len last mid sch) (j : Nat) (v : Value) : (w.setCell ⟨g, j, none⟩ v).heap[g]? = some (.cells ((smL st blk used len last mid sch).set j v).toArray 68 (0, 0)) := by
  rw [heap_setCell_same w g j _ _ v h.row]
  simp
theorem Sm.set_st (h : Sm w g st blk used len last mid sch) (j : Nat) (x : UInt32) (hj : j < 8) : Sm (w.setCell ⟨g, j, none⟩ (.int .u32 (u x))) g (st.set j x) blk used len last mid sch := by
  refine ⟨(h.put j _).trans ?_, by simp [h.l1], h.l2, h.l3, h.l4, h.lm⟩
  have hl := h.l1
  unfold smL
  rw [List.set_append_left _ _ (by simp; omega), List.map_set]
  rfl
theorem Sm.set_mid (h : Sm w g st blk used len last mid sch) (j : Nat) (v : Value) (hj : j < 3) : Sm (w.setCell ⟨g, 138 + j, none⟩ v) g st blk used len last (mid.set j v) sch := by
  refine ⟨(h.put (138 + j) _).trans ?_, h.l1, h.l2, h.l3, h.l4, by simp [h.lm]⟩
  have hl := h.lm
  rw [show 138 + j = 8 + (64 + (2 + (64 + j))) by omega]
  unfold smL
  rw [app_set (by simp [h.l1]), app_set (by simp [bcs, h.l2]), app_set (n := 2) rfl, app_set (by simp [bcs, h.l3]), List.set_append_left _ _ (by omega)]
theorem Sm.set_sch (h : Sm w g st blk used len last mid sch) (j : Nat) (x : UInt32) (_hj : j < 64) : Sm (w.setCell ⟨g, 141 + j, none⟩ (.int .u32 (u x))) g st blk used len last mid (sch.set j x) := by
  refine ⟨(h.put (141 + j) _).trans ?_, h.l1, h.l2, h.l3, by simp [h.l4], h.lm⟩
  have hl := h.l4
  rw [show 141 + j = 8 + (64 + (2 + (64 + (3 + j)))) by omega]
  unfold smL
  rw [app_set (by simp [h.l1]), app_set (by simp [bcs, h.l2]), app_set (n := 2) rfl, app_set (by simp [bcs, h.l3]), app_set h.lm, List.map_set]
  rfl
theorem Sm.set_used (h : Sm w g st blk used len last mid sch) (n : Nat) : Sm (w.setCell ⟨g, 72, none⟩ (.int .i64 n)) g st blk n len last mid sch := by
  refine ⟨(h.put (8 + (64 + 0)) _).trans ?_, h.l1, h.l2, h.l3, h.l4, h.lm⟩
  unfold smL
  rw [app_set (by simp [h.l1]), app_set (by simp [bcs, h.l2])]
  rfl
theorem Sm.set_len (h : Sm w g st blk used len last mid sch) (n : Int) : Sm (w.setCell ⟨g, 73, none⟩ (.int .u64 n)) g st blk used n last mid sch := by
  refine ⟨(h.put (8 + (64 + 1)) _).trans ?_, h.l1, h.l2, h.l3, h.l4, h.lm⟩
  unfold smL
  rw [app_set (by simp [h.l1]), app_set (by simp [bcs, h.l2])]
  rfl
end
end Go.Proofs.YtpphlmbhonaglaaDoor
