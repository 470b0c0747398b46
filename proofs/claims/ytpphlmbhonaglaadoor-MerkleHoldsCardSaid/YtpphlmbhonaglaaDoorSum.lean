/-
  The contract of sha.Sum: SHA-256 of all parts.
-/
import Derived.Test.YtpphlmbhonaglaaDoorMix
import Derived.Test.YtpphlmbhonaglaaDoorPad
namespace Go.Proofs.YtpphlmbhonaglaaDoor
open Go.RowKit

/-- THE SLICE ao, n READS AS THE ROWS ps OF BYTES. -/
structure IsP (w : World) (ao : Option Addr) (n : Nat) (ps : List (List UInt8)) : Prop where
  len : ps.length = n
  has : 0 < n → ∃ a, ao = some a
  cell : ∀ a, ao = some a → ∀ j, j < n → ∃ bo bn bc, w.cell? (a.add j) = some (.slice bo bn bc) ∧ IsB w bo bn bc (ps.getD j [])
theorem IsP.past {w w' : World} {ao : Option Addr} {n : Nat} {ps : List (List UInt8)} (h : IsP w ao n ps) (hb : Below w.heap.size w w') : IsP w' ao n ps :=
  ⟨h.len, h.has, fun a ha j hj => by
    obtain ⟨bo, bn, bc, hc, hB⟩ := h.cell a ha j hj
    refine ⟨bo, bn, bc, ?_, hB.past hb⟩
    rw [hb.cell (World.block_lt_of_cell? w _ hc)]
    exact hc⟩
theorem IsB.lt {w : World} {ao : Option Addr} {n cap : Nat} {l : List UInt8} (h : IsB w ao n cap l) (hn : 0 < n) : ∀ a, ao = some a → a.block < w.heap.size := fun a ha => by
  have hl := h.len
  have hc := h.cell a ha 0 (l.getD 0 0) (by simp [List.getD, show 0 < l.length by omega])
  have e : (a.add 0).block = a.block := block_add a 0
  rw [← e]
  exact World.block_lt_of_cell? w _ hc
/-- A SLICE WHOSE ADDRESS LIES BELOW, empty or not. -/
theorem RC.below {w w' : World} {B : Nat} (h : RC w) (k : Below B w w') (hB : 0 < B) : RC w' := fun i hi => by
  rw [k.cell (p := ⟨0, i, none⟩) hB]
  exact h i hi
theorem RC.lt {w : World} (h : RC w) : 0 < w.heap.size := World.block_lt_of_cell? w _ (h 0 (by omega))
theorem RC.past {w w' : World} (h : RC w) (k : Below w.heap.size w w') : RC w' := h.below k h.lt
/-- A new sum's block. -/
def sum0 : List Value := smL H0.l (List.replicate 64 0) 0 0 (List.replicate 64 0) (onceV false) (List.replicate 64 0)
def sumZ : List Value := smL (List.replicate 8 0) (List.replicate 64 0) 0 0 (List.replicate 64 0) (onceV false) (List.replicate 64 0)
theorem sumZero : (Tryd.prog.info? 68).map (fun i => i.zero) = some (some (.agg sumZ.toArray)) := by kernel_rfl
theorem sumSize : (Tryd.prog.info? 68).map (·.size) = some 205 := by kernel_rfl
theorem built_sum : Tryd.prog.built 68 [(0, .agg (cus H0.l))] = some sum0.toArray := by kernel_rfl
theorem sum0_len : sum0.toArray.size = 205 := by kernel_rfl
theorem sumZ_len : sumZ.toArray.size = 205 := by kernel_rfl
theorem sum0_one : sum0.toArray.all (·.oneCell') = true := by kernel_rfl
theorem way0 {w : World} {g : Nat} (h : w.heap[g]? = some (.cells sum0.toArray 68 (0, 0))) : Way w g [] 0 :=
  ⟨H0, List.replicate 64 0, 0, Taken.none _, List.replicate 64 0, false, List.replicate 64 0, ⟨h, rfl, List.length_replicate, List.length_replicate, List.length_replicate, rfl⟩, fun h => by cases h⟩
theorem flatten_snoc (ps : List (List UInt8)) (k : Nat) (hk : k < ps.length) : (ps.take (k + 1)).flatten = (ps.take k).flatten ++ ps.getD k [] := by
  rw [List.take_add_one]
  simp only [List.getD, List.getElem?_eq_getElem hk, Option.toList_some, Option.getD_some, List.flatten_append]
  simp
theorem flatten_le (ps : List (List UInt8)) (k : Nat) : (ps.take k).flatten.length ≤ ps.flatten.length := by
  have h := congrArg (fun l : List (List UInt8) => l.flatten.length) (List.take_append_drop k ps)
  simp only [List.flatten_append, List.length_append] at h
  omega
theorem part_le (ps : List (List UInt8)) (k : Nat) (hk : k < ps.length) : (ps.getD k []).length ≤ ps.flatten.length := by
  have h1 := flatten_le ps (k + 1)
  rw [flatten_snoc ps k hk, List.length_append] at h1
  omega

/-- A new row of bytes, marked or not. -/
theorem isB_litF (w : World) (cs : Array Value) (e : TypeId) (fr : Nat × Nat) (l : List UInt8) (m : Nat) (hv : cs.toList = bcs l) (hm : l.length = m) (hM : m ≤ 1000000) : IsB (w.alloc (.cells cs e fr)) (some ⟨w.heap.size, 0, none⟩) m m l :=
  ⟨hm, Nat.le_refl _, by unfold maxLen; omega, (fun h => by cases h), fun a ha j u hu => by
    obtain rfl := Option.some.inj ha
    rw [Addr.add_lit, Nat.zero_add, cell_of_row _ _ _ _ e fr (heap_alloc_new w _), ← Array.getElem?_toList, hv, bcs_get, hu]
    rfl⟩
/-- A new row of slices of bytes. -/
theorem isP_lit (w : World) (t : TypeId) (vs : Array Value) (ps : List (List UInt8)) (n : Nat) (hn : ps.length = n) (hv : ∀ j, j < n → ∃ bo bn bc, vs[j]? = some (.slice bo bn bc) ∧ IsB w bo bn bc (ps.getD j [])) : IsP (w.alloc (.cells vs t)) (some ⟨w.heap.size, 0, none⟩) n ps :=
  ⟨hn, fun _ => ⟨_, rfl⟩, fun a ha j hj => by
    obtain rfl := Option.some.inj ha
    obtain ⟨bo, bn, bc, h1, h2⟩ := hv j hj
    refine ⟨bo, bn, bc, ?_, h2.alloc _⟩
    rw [Addr.add_lit, Nat.zero_add, cell_of_row _ _ _ _ t (0, 0) (heap_alloc_new w _), h1]⟩
theorem isP_one (w : World) (t : TypeId) (bo : Option Addr) (bn bc : Nat) (l : List UInt8) (h : IsB w bo bn bc l) : IsP (w.alloc (.cells #[.slice bo bn bc] t)) (some ⟨w.heap.size, 0, none⟩) 1 [l] :=
  isP_lit w t _ _ 1 rfl fun j hj => by
    obtain rfl : j = 0 := by omega
    exact ⟨bo, bn, bc, rfl, h⟩
theorem isP_two (w : World) (t : TypeId) (bo : Option Addr) (bn bc : Nat) (l : List UInt8) (h : IsB w bo bn bc l) (bo2 : Option Addr) (bn2 bc2 : Nat) (l2 : List UInt8) (h2 : IsB w bo2 bn2 bc2 l2) :
    IsP (w.alloc (.cells #[.slice bo bn bc, .slice bo2 bn2 bc2] t)) (some ⟨w.heap.size, 0, none⟩) 2 [l, l2] :=
  isP_lit w t _ _ 2 rfl fun j hj => by
    obtain rfl | rfl : j = 0 ∨ j = 1 := by omega
    · exact ⟨bo, bn, bc, rfl, h⟩
    · exact ⟨bo2, bn2, bc2, rfl, h2⟩
theorem isP_nil (w : World) (ao : Option Addr) : IsP w ao 0 [] := ⟨rfl, fun h => by omega, fun a _ j hj => by omega⟩
theorem RC.alloc {w : World} (h : RC w) (o : Obj) : RC (w.alloc o) := h.past ((Below.refl _ _).alloc (Nat.le_refl _) o)
theorem startState_any (w : World) : Calls Tryd.prog 22 #[] w fun e w' => e = .returned (.agg (cus H0.l)) ∧ Below w.heap.size w w' := by
  go_enter Tryd.func22, Tryd.ntmps22
  go_wp2_with fail
  refine bodyPost_ret (v := .agg #[Value.int IntKind.u32 1779033703, Value.int IntKind.u32 3144134277, Value.int IntKind.u32 1013904242, Value.int IntKind.u32 2773480762, Value.int IntKind.u32 1359893119, Value.int IntKind.u32 2600822924, Value.int IntKind.u32 528734635, Value.int IntKind.u32 1541459225]) (by simp [results, Tryd.results22, go_sem]) rfl ⟨by kernel_rfl, (Below.refl _ _).alloc (Nat.le_refl _) _⟩
end Go.Proofs.YtpphlmbhonaglaaDoor

namespace Go.Proofs.YtpphlmbhonaglaaDoor
open Go.RowKit

set_option maxRecDepth 100000 in
set_option maxHeartbeats 4000000 in
theorem sum_any (ao : Option Addr) (n cap : Nat) (ps : List (List UInt8)) (w : World) (hC : RC w) (h : IsP w ao n ps) (hn : n ≤ 1000000) (hm : ps.flatten.length ≤ 1000000) :
    Calls Tryd.prog 13 #[.slice ao n cap] w fun e w' => e = .returned (.agg (bcs (sha ps.flatten)).toArray) ∧ Below w.heap.size w w' := by
  have hlt := hC.lt
  go_enter Tryd.func13, Tryd.ntmps13
  go_wp2_with (first
    | (go_at_call 22; refine (startState_any _).mono ?_; rintro e w2 ⟨rfl, b2⟩)
    | (with_reducible refine wpList_alloc_blk (o := ⟨some 2, _, _, _, _, _⟩) rfl 27 rfl _ zeroHash ?_; intro w1 gr h1 b1 q1)
    | (with_reducible refine wpList_alloc_blk (o := ⟨some 3, _, _, _, _, _⟩) rfl 68 rfl _ sumZero ?_; intro w3 g h3 b3 q3)
    | ((with_reducible refine wpList_build_at (o := ⟨some 7, _, _, _, _, _⟩) rfl 68 _ rfl sum0.toArray ?_ ?_); (simp only [List.map_toArray, List.map_cons, List.map_nil]; exact built_sum))
    | ((with_reducible refine wpList_store_blk rfl 68 _ _ rfl g _ sum0.toArray ?_ ?_ _ h3 205 sumSize sumZ_len sum0_len sum0_one ?_); (rfl); (rfl); (intro w4 h4 b4)))
  have hgrw : w.heap.size ≤ gr := q1
  have hw4 : Below w.heap.size w w4 := (below_on b1 (b2.mono (Nat.le_refl _))).trans (((b3.mono b2.size).mono b1.size).trans ((gbelow b4 (Nat.le_of_lt (Array.getElem?_eq_some_iff.1 h3.out).1)).mono (by have := b1.size; have := b2.size; omega)))
  have z1 := b1.size
  have z2 := b2.size
  have z3 := b3.size
  have z4 := b4.size
  have hgr1 : gr < w1.heap.size := (Array.getElem?_eq_some_iff.1 h1.out).1
  have hg3 : g < w3.heap.size := (Array.getElem?_eq_some_iff.1 h3.out).1
  have hrg : gr < g := by omega
  have hwg : w.heap.size ≤ g := by omega
  have hg4 : g ≤ w4.heap.size := by omega
  have R4 : Hid (w4.heap[gr]? = some (.cells (bcs (List.replicate 32 0)).toArray 27 (0, 0))) := by
    unfold Hid
    rw [b4.block gr (by omega) (by simp; omega), b3.block gr (by omega), b2.block gr hgr1]
    exact h1.out
  have W4 : Way w4 g (ps.take 0).flatten ((0 : Nat) : Int) := way0 h4.out
  have C4 : RC w4 := hC.past hw4
  have hC' : ∀ a b : World, RC a → Below g a b → RC b := fun a b ha hb => ha.below hb (by omega)
  have HC := Lib.hid hC'
  clear hC' h1 b1 b2 h3 b3 b4 h4 z1 z2 z3 z4 q1 q3 hgr1 hg3
  go_loopw [10] (fun i wq => ∃ (k L : Nat), k ≤ n ∧ i = .int .i64 k ∧ Hid (L = (ps.take k).flatten.length) ∧ Way wq g (ps.take k).flatten L ∧ RC wq ∧ w4.grownBy wq (some g)) (fun i _ => n - (intOf i).toNat)
  case atStart => exact ⟨0, 0, by omega, rfl, rfl, W4, C4, World.grownBy.refl _ _⟩
  case round =>
    clear W4 C4
    obtain ⟨k, L, hk, rfl, HL, hW, hR, hG⟩ := hrel
    have hwr : Below w.heap.size w wr := hw4.trans ((gbelow hG hg4).mono hwg)
    by_cases hkn : k < n
    · obtain ⟨a, rfl⟩ := h.has (by omega)
      obtain ⟨bo, bn, bc, hc0, hB0⟩ := h.cell a rfl k hkn
      have hc : wr.cell? (a.add k) = some (.slice bo bn bc) := by
        rw [hwr.cell (World.block_lt_of_cell? w _ hc0)]
        exact hc0
      have hB := hB0.past hwr
      have hne : 0 < bn → ∀ a, bo = some a → a.block ≠ g := fun h0 a ha => by have := hB0.lt h0 a ha; omega
      have hps := h.len
      have HF : Hid ((ps.take (k + 1)).flatten = (ps.take k).flatten ++ ps.getD k []) := flatten_snoc ps k (by omega)
      have hb1 := hB0.len
      have hb2 := part_le ps k (by omega)
      have hb3 := flatten_le ps k
      have HN : Hid (L + bn = (ps.take (k + 1)).flatten.length) := by unfold Hid; rw [HF.out, List.length_append, ← HL.out, hb1]
      have hL : L ≤ 1000000 := by have := HL.out; omega
      have hbn : bn ≤ 1000000 := by omega
      clear hb1 hb2 hb3 hps hc0 hB0
      generalize ps.getD k [] = p at HF hB
      go_wp2_with (go_at_call 23; refine (take_in RC mix_any g HC.out (ps.take k).flatten L bo bn bc p _ hR hW hB hne (by omega) (by omega)).mono ?_; rintro e w5 ⟨rfl, hW5, hR5, hG5⟩)
      go_roundw
      case rel => exact ⟨k + 1, L + bn, by omega, by go_num, HN, by rw [HF.out]; exact hW5, hR5, grown_then hG hG5⟩
      case measure => simp [intOf]; omega
    · obtain rfl : k = n := by omega
      have hps := h.len
      have hall : ps.take k = ps := List.take_of_length_le (by omega)
      rw [hall] at hW HL
      have hgw := hW.lt
      have hL : L ≤ 1000000 := by have := HL.out; omega
      clear hall hps
      go_wp2_with fail
      refine (pad_in RC mix_any g HC.out ps.flatten L _ hR hW HL.out.symm hL).mono ?_
      rintro e w6 ⟨rfl, ⟨L6, S, blk, used, hT, last, d, sch, hS, hd⟩, b6⟩
      clear hd
      have HT := Lib.hid hT
      clear hT hW HL
      go_wp2_with fail
      refine (hash_any g S.l blk used L6 last _ sch _ hS).mono ?_
      rintro e w7 ⟨rfl, b7⟩
      have hSUM : filled S.l 32 = sha ps.flatten := (filled_all S).trans HT.out.sum
      rw [hSUM]
      have R7 : Hid (w7.heap[gr]? = some (.cells (bcs (List.replicate 32 0)).toArray 27 (0, 0))) := by
        unfold Hid
        have s6 := b6.size
        rw [b7.block gr (by omega), b6.block gr hrg, (gbelow hG hg4).block gr hrg]
        exact R4.out
      have hB7 : Below w.heap.size w w7 := hwr.trans ((b6.mono hwg).trans (b7.mono (by have := hwr.size; have := b6.size; omega)))
      clear hSUM hS hG hR b6 b7 hwr R4 HT
      go_wp2_with ((with_reducible refine wpList_store_blk rfl 27 _ _ rfl gr _ (bcs (sha ps.flatten)).toArray ?_ ?_ _ R7 32 sizeHash (by simp [bcs_length]) (by simp [bcs_length, sha_length]) (bcs_all _) ?_); (rfl); (rfl); (intro w8 h8 b8))
      refine bodyPost_ret (v := .agg (bcs (sha ps.flatten)).toArray) (results_cell_row rfl _ _ gr _ _ (0, 0) _ rfl h8.out Tryd.underlying27 rfl (by rw [sizeHash]; simp [bcs_length, sha_length])) rfl ⟨rfl, ?_⟩
      exact hB7.grown b8 hB7.size (fun k hk => by cases hk; omega)
end Go.Proofs.YtpphlmbhonaglaaDoor
