/-
  A row of values of the call's own: stored at a place.
-/
import Derived.Test.YtjacaammlkjodaaV
import Derived.Test.YtjacaammlkjodaaCb
namespace Go.Proofs.Ytjacaammlkjodaa
open Go.RowKit

theorem set3 {α : Type} (L : List α) (a : Nat) (x y z : α) (h : a + 3 ≤ L.length) : ((L.set a x).set (a + 1) y).set (a + 2) z = L.take a ++ [x, y, z] ++ L.drop (a + 3) := by
  apply List.ext_getElem?
  intro i
  by_cases h1 : i < a
  · rw [List.getElem?_set_ne (by omega), List.getElem?_set_ne (by omega), List.getElem?_set_ne (by omega), List.getElem?_append_left (by simp; omega), List.getElem?_append_left (by simp; omega), List.getElem?_take_of_lt h1]
  · by_cases h2 : a + 3 ≤ i
    · rw [List.getElem?_set_ne (by omega), List.getElem?_set_ne (by omega), List.getElem?_set_ne (by omega), List.getElem?_append_right (by simp; omega), List.getElem?_drop]
      congr 1
      simp
      omega
    · rw [List.getElem?_append_left (by simp; omega), List.getElem?_append_right (by simp; omega), List.length_take, Nat.min_eq_left (by omega)]
      have h3 : i = a ∨ i = a + 1 ∨ i = a + 2 := by omega
      rcases h3 with rfl | rfl | rfl
      · rw [List.getElem?_set_ne (by omega), List.getElem?_set_ne (by omega), List.getElem?_set_self (by omega)]
        simp
      · rw [List.getElem?_set_ne (by omega), List.getElem?_set_self (by simp; omega)]
        simp
      · rw [List.getElem?_set_self (by simp; omega)]
        simp
/-- A value stored at place i of a row of the call's own. -/
theorem own_set_v {w : World} {t : TypeId} {g n cap : Nat} {l : List V} (h : OwnR EV w t g n cap l) (i : Nat) (hi : i < n) (v : V) :
    OwnR EV (((w.setCell ⟨g, i * 3, none⟩ (.int .i64 v.k)).setCell ⟨g, i * 3 + 1, none⟩ (.int .i64 v.n)).setCell ⟨g, i * 3 + 2, none⟩ (.string v.s)) t g n cap (l.set i v) := by
  obtain ⟨cur, hg, hs, ht⟩ := h.row
  have hle := h.le
  have hln := h.len
  have hz : EV.sz = 3 := rfl
  have h1 := Go.Proofs.Ytjacaammlkjodaa.heap_setCell_same (i := i * 3) (v := .int .i64 v.k) hg
  have h2 := Go.Proofs.Ytjacaammlkjodaa.heap_setCell_same (i := i * 3 + 1) (v := .int .i64 v.n) h1
  have h3 := Go.Proofs.Ytjacaammlkjodaa.heap_setCell_same (i := i * 3 + 2) (v := .string v.s) h2
  refine ⟨by rw [List.length_set, hln], hle, h.max, _, h3, by simpa using hs, ?_⟩
  have hcl : cur.toList.length = cap * 3 := by rw [Array.length_toList, hs]; rfl
  simp only [Array.toList_setIfInBounds]
  rw [set3 _ _ _ _ _ (by rw [hcl]; omega), EV.all_set l i v (by omega), ← ht, hz]
  have e1 : (i + 1) * 3 = i * 3 + 3 := by omega
  rw [e1, List.take_take, Nat.min_eq_left (by omega), List.append_assoc, List.append_assoc, List.take_append, List.take_take, Nat.min_eq_right (by omega)]
  congr 1
  rw [List.length_take, Nat.min_eq_left (by omega), List.take_append, List.drop_take]
  congr 1
  · exact List.take_of_length_le (by simp; omega)
/-- The three cells at place i of a row of the call's own: they are there and may be written. -/
theorem own_cells_v {w : World} {t : TypeId} {g n cap : Nat} {l : List V} (h : OwnR EV w t g n cap l) (i : Nat) (hi : i < n) :
    ∃ a b c, w.cell? ⟨g, i * 3, none⟩ = some a ∧ w.cell? ⟨g, i * 3 + 1, none⟩ = some b ∧ w.cell? ⟨g, i * 3 + 2, none⟩ = some c ∧ w.frozen? ⟨g, i * 3, none⟩ = false ∧ w.frozen? ⟨g, i * 3 + 1, none⟩ = false ∧ w.frozen? ⟨g, i * 3 + 2, none⟩ = false := by
  obtain ⟨cur, hg, hs, ht⟩ := h.row
  have hle := h.le
  have hz : EV.sz = 3 := rfl
  rw [hz] at hs
  exact ⟨cur[i * 3]'(by omega), cur[i * 3 + 1]'(by omega), cur[i * 3 + 2]'(by omega), cell_blk hg (Array.getElem?_eq_getElem _), cell_blk hg (Array.getElem?_eq_getElem _), cell_blk hg (Array.getElem?_eq_getElem _), free_blk hg, free_blk hg, free_blk hg⟩
end Go.Proofs.Ytjacaammlkjodaa
