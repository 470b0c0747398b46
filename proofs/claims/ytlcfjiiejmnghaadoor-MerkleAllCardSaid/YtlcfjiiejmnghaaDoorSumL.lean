/-
  What sha.Sum is handed: a slice of slices of bytes; how it starts.
-/
import Derived.Test.YtlcfjiiejmnghaaDoorMix
import Derived.Test.YtlcfjiiejmnghaaDoorPad
namespace Go.Proofs.YtlcfjiiejmnghaaDoor
open Go.RowKit

/-- THE SLICE ao, n READS AS THE ROWS ps OF BYTES. -/
structure IsP (w : World) (ao : Option Addr) (n : Nat) (ps : List (List UInt8)) : Prop where
  len : ps.length = n
  has : 0 < n → ∃ a, ao = some a
  cell : ∀ a, ao = some a → ∀ j, j < n → ∃ bo bn bc, w.cell? (a.add j) = some (.slice bo bn bc) ∧ IsB w bo bn bc (ps.getD j [])
theorem IsP.past {w w' : World} {ao : Option Addr} {n : Nat} {ps : List (List UInt8)} (h : IsP w ao n ps) (hb : Below w.heap.size w w') : IsP w' ao n ps :=
  ⟨h.len, h.has, fun a ha j hj => by
    obtain ⟨bo, bn, bc, hc, hB⟩ := h.cell a ha j hj
    refine ⟨bo, bn, bc, ?_, hB.past hb⟩
    rw [hb.cell (World.block_lt_of_cell? w _ hc)]
    exact hc⟩
theorem IsB.lt {w : World} {ao : Option Addr} {n cap : Nat} {l : List UInt8} (h : IsB w ao n cap l) (hn : 0 < n) : ∀ a, ao = some a → a.block < w.heap.size := fun a ha => by
  have hl := h.len
  have hc := h.cell a ha 0 (l.getD 0 0) (by simp [List.getD, show 0 < l.length by omega])
  have e : (a.add 0).block = a.block := block_add a 0
  rw [← e]
  exact World.block_lt_of_cell? w _ hc
/-- A SLICE WHOSE ADDRESS LIES BELOW, empty or not. -/
theorem RC.below {w w' : World} {B : Nat} (h : RC w) (k : Below B w w') (hB : 0 < B) : RC w' := fun i hi => by
  rw [k.cell (p := ⟨0, i, none⟩) hB]
  exact h i hi
theorem RC.lt {w : World} (h : RC w) : 0 < w.heap.size := World.block_lt_of_cell? w _ (h 0 (by omega))
theorem RC.past {w w' : World} (h : RC w) (k : Below w.heap.size w w') : RC w' := h.below k h.lt
/-- A new sum's block. -/
def sum0 : List Value := smL H0.l (List.replicate 64 0) 0 0 (List.replicate 64 0) (onceV false) (List.replicate 64 0)
def sumZ : List Value := smL (List.replicate 8 0) (List.replicate 64 0) 0 0 (List.replicate 64 0) (onceV false) (List.replicate 64 0)
theorem sumZero : (Tryd.prog.info? 76).map (fun i => i.zero) = some (some (.agg sumZ.toArray)) := by kernel_rfl
theorem sumSize : (Tryd.prog.info? 76).map (·.size) = some 205 := by kernel_rfl
theorem built_sum : Tryd.prog.built 76 [(0, .agg (cus H0.l))] = some sum0.toArray := by kernel_rfl
theorem sum0_len : sum0.toArray.size = 205 := by kernel_rfl
theorem sumZ_len : sumZ.toArray.size = 205 := by kernel_rfl
theorem sum0_one : sum0.toArray.all (·.oneCell') = true := by kernel_rfl
theorem way0 {w : World} {g : Nat} (h : w.heap[g]? = some (.cells sum0.toArray 76 (0, 0))) : Way w g [] 0 :=
  ⟨H0, List.replicate 64 0, 0, Taken.none _, List.replicate 64 0, false, List.replicate 64 0, ⟨h, rfl, List.length_replicate, List.length_replicate, List.length_replicate, rfl⟩, fun h => by cases h⟩
theorem flatten_snoc (ps : List (List UInt8)) (k : Nat) (hk : k < ps.length) : (ps.take (k + 1)).flatten = (ps.take k).flatten ++ ps.getD k [] := by
  rw [List.take_add_one]
  simp only [List.getD, List.getElem?_eq_getElem hk, Option.toList_some, Option.getD_some, List.flatten_append]
  simp
theorem flatten_le (ps : List (List UInt8)) (k : Nat) : (ps.take k).flatten.length ≤ ps.flatten.length := by
  have h := congrArg (fun l : List (List UInt8) => l.flatten.length) (List.take_append_drop k ps)
  simp only [List.flatten_append, List.length_append] at h
  omega
theorem part_le (ps : List (List UInt8)) (k : Nat) (hk : k < ps.length) : (ps.getD k []).length ≤ ps.flatten.length := by
  have h1 := flatten_le ps (k + 1)
  rw [flatten_snoc ps k hk, List.length_append] at h1
  omega

/-- A new row of bytes, marked or not. -/
theorem isB_litF (w : World) (cs : Array Value) (e : TypeId) (fr : Nat × Nat) (l : List UInt8) (m : Nat) (hv : cs.toList = bcs l) (hm : l.length = m) (hM : m ≤ 1000000) : IsB (w.alloc (.cells cs e fr)) (some ⟨w.heap.size, 0, none⟩) m m l :=
  ⟨hm, Nat.le_refl _, by unfold maxLen; omega, (fun h => by cases h), fun a ha j u hu => by
    obtain rfl := Option.some.inj ha
    rw [Addr.add_lit, Nat.zero_add, cell_of_row _ _ _ _ e fr (heap_alloc_new w _), ← Array.getElem?_toList, hv, bcs_get, hu]
    rfl⟩
/-- A new row of slices of bytes. -/
theorem isP_lit (w : World) (t : TypeId) (vs : Array Value) (ps : List (List UInt8)) (n : Nat) (hn : ps.length = n) (hv : ∀ j, j < n → ∃ bo bn bc, vs[j]? = some (.slice bo bn bc) ∧ IsB w bo bn bc (ps.getD j [])) : IsP (w.alloc (.cells vs t)) (some ⟨w.heap.size, 0, none⟩) n ps :=
  ⟨hn, fun _ => ⟨_, rfl⟩, fun a ha j hj => by
    obtain rfl := Option.some.inj ha
    obtain ⟨bo, bn, bc, h1, h2⟩ := hv j hj
    refine ⟨bo, bn, bc, ?_, h2.alloc _⟩
    rw [Addr.add_lit, Nat.zero_add, cell_of_row _ _ _ _ t (0, 0) (heap_alloc_new w _), h1]⟩
theorem isP_one (w : World) (t : TypeId) (bo : Option Addr) (bn bc : Nat) (l : List UInt8) (h : IsB w bo bn bc l) : IsP (w.alloc (.cells #[.slice bo bn bc] t)) (some ⟨w.heap.size, 0, none⟩) 1 [l] :=
  isP_lit w t _ _ 1 rfl fun j hj => by
    obtain rfl : j = 0 := by omega
    exact ⟨bo, bn, bc, rfl, h⟩
theorem isP_two (w : World) (t : TypeId) (bo : Option Addr) (bn bc : Nat) (l : List UInt8) (h : IsB w bo bn bc l) (bo2 : Option Addr) (bn2 bc2 : Nat) (l2 : List UInt8) (h2 : IsB w bo2 bn2 bc2 l2) :
    IsP (w.alloc (.cells #[.slice bo bn bc, .slice bo2 bn2 bc2] t)) (some ⟨w.heap.size, 0, none⟩) 2 [l, l2] :=
  isP_lit w t _ _ 2 rfl fun j hj => by
    obtain rfl | rfl : j = 0 ∨ j = 1 := by omega
    · exact ⟨bo, bn, bc, rfl, h⟩
    · exact ⟨bo2, bn2, bc2, rfl, h2⟩
theorem isP_nil (w : World) (ao : Option Addr) : IsP w ao 0 [] := ⟨rfl, fun h => by omega, fun a _ j hj => by omega⟩
theorem RC.alloc {w : World} (h : RC w) (o : Obj) : RC (w.alloc o) := h.past ((Below.refl _ _).alloc (Nat.le_refl _) o)
theorem startState_any (w : World) : Calls Tryd.prog 35 #[] w fun e w' => e = .returned (.agg (cus H0.l)) ∧ Below w.heap.size w w' := by
  go_enter Tryd.func35, Tryd.ntmps35
  go_wp2_with fail
  refine bodyPost_ret (v := .agg #[Value.int IntKind.u32 1779033703, Value.int IntKind.u32 3144134277, Value.int IntKind.u32 1013904242, Value.int IntKind.u32 2773480762, Value.int IntKind.u32 1359893119, Value.int IntKind.u32 2600822924, Value.int IntKind.u32 528734635, Value.int IntKind.u32 1541459225]) (by simp [results, Tryd.results35, go_sem]) rfl ⟨by kernel_rfl, (Below.refl _ _).alloc (Nat.le_refl _) _⟩
end Go.Proofs.YtlcfjiiejmnghaaDoor
