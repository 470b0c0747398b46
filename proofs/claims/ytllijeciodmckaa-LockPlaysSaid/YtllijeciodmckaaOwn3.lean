/-
  A row of the call's own, of three cells an element: stored at a place; its end cleared.
-/
import Derived.Test.YtllijeciodmckaaRow
import Derived.Test.YtllijeciodmckaaCb
namespace Go.Proofs.Ytllijeciodmckaa
open Go.RowKit
theorem set3c {α : Type} (L : List α) (a : Nat) (x y z : α) (h : a + 3 ≤ L.length) : ((L.set a x).set (a + 1) y).set (a + 2) z = L.take a ++ [x, y, z] ++ L.drop (a + 3) := by
  apply List.ext_getElem?
  intro i
  by_cases h1 : i < a
  · rw [List.getElem?_set_ne (by omega), List.getElem?_set_ne (by omega), List.getElem?_set_ne (by omega), List.getElem?_append_left (by simp; omega), List.getElem?_append_left (by simp; omega), List.getElem?_take_of_lt h1]
  · by_cases h2 : a + 3 ≤ i
    · rw [List.getElem?_set_ne (by omega), List.getElem?_set_ne (by omega), List.getElem?_set_ne (by omega), List.getElem?_append_right (by simp; omega), List.getElem?_drop]
      congr 1
      simp
      omega
    · rw [List.getElem?_append_left (by simp; omega), List.getElem?_append_right (by simp; omega), List.length_take, Nat.min_eq_left (by omega)]
      have h3 : i = a ∨ i = a + 1 ∨ i = a + 2 := by omega
      rcases h3 with rfl | rfl | rfl
      · rw [List.getElem?_set_ne (by omega), List.getElem?_set_ne (by omega), List.getElem?_set_self (by omega)]
        simp
      · rw [List.getElem?_set_ne (by omega), List.getElem?_set_self (by simp; omega)]
        simp
      · rw [List.getElem?_set_self (by simp; omega)]
        simp
section
variable {α : Type} {E : Enc α} {w : World} {t : TypeId} {g n cap : Nat} {l : List α}
theorem own_set3 (h : OwnR E w t g n cap l) (hz : E.sz = 3) (i : Nat) (hi : i < n) (x : α) (a b c : Value) (hx : E.f x = [a, b, c]) :
    OwnR E (((w.setCell ⟨g, i * 3, none⟩ a).setCell ⟨g, i * 3 + 1, none⟩ b).setCell ⟨g, i * 3 + 2, none⟩ c) t g n cap (l.set i x) := by
  obtain ⟨cur, hg, hs, ht⟩ := h.row
  have hle := h.le
  have hln := h.len
  have h1 := Go.Proofs.Ytllijeciodmckaa.heap_setCell_same (i := i * 3) (v := a) hg
  have h2 := Go.Proofs.Ytllijeciodmckaa.heap_setCell_same (i := i * 3 + 1) (v := b) h1
  have h3 := Go.Proofs.Ytllijeciodmckaa.heap_setCell_same (i := i * 3 + 2) (v := c) h2
  refine ⟨by rw [List.length_set, hln], hle, h.max, _, h3, by simpa using hs, ?_⟩
  have hcl : cur.toList.length = cap * 3 := by rw [Array.length_toList, hs, hz]
  simp only [Array.toList_setIfInBounds]
  rw [set3c _ _ _ _ _ (by rw [hcl]; omega), E.all_set l i x (by omega), ← ht, hz, hx]
  have e1 : (i + 1) * 3 = i * 3 + 3 := by omega
  rw [e1, List.take_take, Nat.min_eq_left (by omega), List.append_assoc, List.append_assoc, List.take_append, List.take_take, Nat.min_eq_right (by omega)]
  congr 1
  rw [List.length_take, Nat.min_eq_left (by omega), List.take_append, List.drop_take]
  congr 1
  · exact List.take_of_length_le (by simp; omega)
theorem own_cells3 (h : OwnR E w t g n cap l) (hz : E.sz = 3) (i : Nat) (hi : i < n) :
    ∃ a b c, w.cell? ⟨g, i * 3, none⟩ = some a ∧ w.cell? ⟨g, i * 3 + 1, none⟩ = some b ∧ w.cell? ⟨g, i * 3 + 2, none⟩ = some c ∧ w.frozen? ⟨g, i * 3, none⟩ = false ∧ w.frozen? ⟨g, i * 3 + 1, none⟩ = false ∧ w.frozen? ⟨g, i * 3 + 2, none⟩ = false := by
  obtain ⟨cur, hg, hs, ht⟩ := h.row
  have hle := h.le
  rw [hz] at hs
  exact ⟨cur[i * 3]'(by omega), cur[i * 3 + 1]'(by omega), cur[i * 3 + 2]'(by omega), cell_blk hg (Array.getElem?_eq_getElem _), cell_blk hg (Array.getElem?_eq_getElem _), cell_blk hg (Array.getElem?_eq_getElem _), free_blk hg, free_blk hg, free_blk hg⟩
theorem set3_grown (w : World) (g i : Nat) (a b c : Value) : w.grownBy (((w.setCell ⟨g, i * 3, none⟩ a).setCell ⟨g, i * 3 + 1, none⟩ b).setCell ⟨g, i * 3 + 2, none⟩ c) (some g) := by
  refine ⟨rfl, by simp, rfl, by simp, fun k _ hk => ?_⟩
  have hne : k ≠ g := fun e => hk (by rw [e])
  rw [heap_setCell_other _ _ k _ (by exact hne), heap_setCell_other _ _ k _ (by exact hne), heap_setCell_other _ _ k _ (by exact hne)]
/-- clear(s[i:]): the front stays. -/
theorem run_clear_o {P : Program} {zero : α} (ts te ty : TypeId) (hB : RowTy E P ts te zero) (h : OwnR E w t g n cap l) (i m : Nat) (c : Nat) (him : i + m = n) (h0 : 0 < m) :
    ∃ w', (Builtin.clear_ #[ts] ty #[.slice (some ⟨g, i * E.sz, none⟩) m c]).run P w = .ok (.tuple #[]) w' ∧ OwnR E w' t g i cap (l.take i) ∧ w.grownBy w' (some g) := by
  obtain ⟨j, z, hi, hz, hsize, hzc, hby⟩ := hB.info
  obtain ⟨cur, hg, hs, ht⟩ := h.row
  have hle := h.le
  have hln := h.len
  have hzl : z.cells.size = E.sz := by rw [← Array.length_toList, hzc, E.len]
  have hone : ∀ v ∈ (Builtin.zeroCells z.cells m).toList, v.oneCell' = true := by
    intro v hv
    unfold Builtin.zeroCells at hv
    rw [Array.toList_map, List.mem_map] at hv
    obtain ⟨q, hq, rfl⟩ := hv
    have hq' : q < m * z.cells.size := by simpa using hq
    have hpos : 0 < z.cells.size := by
      rcases Nat.eq_zero_or_pos z.cells.size with e | e
      · rw [e] at hq'; omega
      · exact e
    have hlt := Nat.mod_lt q hpos
    rw [getElem!_pos z.cells (q % z.cells.size) hlt]
    refine E.one zero _ ?_
    rw [← hzc]
    exact Array.getElem_mem_toList hlt
  have hsz : (Builtin.zeroCells z.cells m).toList.length = m * E.sz := by rw [Array.length_toList, size_zeroCells, hzl]
  have hfit : i * E.sz + m * E.sz ≤ cap * E.sz := by rw [← Nat.add_mul]; exact Nat.mul_le_mul_right _ (by omega)
  have hst := run_storeCells_at P g (i * E.sz) t (Builtin.zeroCells z.cells m).toList 0 cur w hg (by rw [hsz, hs]; omega) hone
  simp only [Nat.add_zero] at hst
  have hzv : (zeroValue te).run P w = .ok z w := by simp [zeroValue, typeInfo, hi, hz]
  obtain ⟨m', rfl⟩ : ∃ m', m = m' + 1 := ⟨m - 1, by omega⟩
  have hr : (Builtin.clear_ #[ts] ty #[.slice (some ⟨g, i * E.sz, none⟩) (m' + 1) c]).run P w = .ok (.tuple #[]) (w.setRow g (cur.toList.take (i * E.sz) ++ (Builtin.zeroCells z.cells (m' + 1)).toList ++ cur.toList.drop (i * E.sz + (Builtin.zeroCells z.cells (m' + 1)).toList.length)).toArray) := by
    simp [Builtin.clear_, run_underlying hB.ht, hzv, hst]
  refine ⟨_, hr, ⟨by rw [List.length_take]; omega, by omega, h.max, _, setRow_heap w g cur _ t _ hg, ?_, ?_⟩, ⟨rfl, rfl, rfl, by simp, fun k _ hk => setRow_other w g k _ (fun e => hk (by rw [e]))⟩⟩
  · simp only [List.size_toArray, List.length_append, List.length_take, List.length_drop, Array.length_toList, hs, size_zeroCells, hzl]
    omega
  · show List.take (i * E.sz) (_ ++ _ ++ _) = _
    have hcl : cur.toList.length = cap * E.sz := by rw [Array.length_toList, hs]
    rw [List.append_assoc, List.take_append_of_le_length (by rw [List.length_take]; omega), List.take_take, Nat.min_self, ← E.all_take, ← ht, List.take_take, Nat.min_eq_left (Nat.mul_le_mul_right _ (by omega))]
theorem run_clear_none {P : Program} (ts te ty : TypeId) (ht : P.underlying ts = some (.slice te)) (ao : Option Addr) (c : Nat) (w : World) : (Builtin.clear_ #[ts] ty #[.slice ao 0 c]).run P w = .ok (.tuple #[]) w := by
  cases ao <;> simp [Builtin.clear_, run_underlying ht]
end
end Go.Proofs.Ytllijeciodmckaa
