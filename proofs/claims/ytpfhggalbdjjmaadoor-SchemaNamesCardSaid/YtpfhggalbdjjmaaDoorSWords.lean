/-
  The words of the language are laid into a set of names, once; whether a name is free.
-/
import Derived.Test.YtpfhggalbdjjmaaDoorSNames
import Derived.Test.YtpfhggalbdjjmaaDoorBlk
import Derived.Carry
import Derived.Deep.CutRange
namespace Go.Proofs.YtpfhggalbdjjmaaDoor
open Go.RowKit Go.ChangeMaps Go.ChangeShapes Go.WideShapes Go.WideMaps Go.MapKept

theorem mkmap (w : World) : (Instr.makeMap 66 (some (.int .i64 41))).run Tryd.prog w = .ok (.map (some w.heap.size)) (w.alloc (.map #[] 0)) := by kernel_rfl
theorem set_new (w : World) : SetIs (w.alloc (.map #[] 0)) w.heap.size 0 [] := ⟨.map [], World.ownsMap_made _ _ _ _, fun _ => rfl⟩
def wordV : List Value := wordsB.map fun l => Value.string (bsOf l)
theorem wordV_len : wordV.length = 41 := rfl
theorem word_idx (j : Nat) (hj : j < 41) (w : World) : (Instr.index 104 (.agg wordV.toArray) (.int .i64 (j : Nat))).run Tryd.prog w = .ok (.string (bsOf (wordsB.getD j []))) w := by
  have hs : (Tryd.prog.info? 9).map (·.size) = some 1 := by kernel_rfl
  obtain ⟨i, hi, hsz⟩ := Option.map_eq_some_iff.1 hs
  have hget : wordV[j]? = some (.string (bsOf (wordsB.getD j []))) := by
    have h : j < wordsB.length := by rw [wordsB_len]; exact hj
    simp [wordV, List.getD, h]
  simp [Instr.index, asIntOf, run_underlying Tryd.underlying104, run_underlying Tryd.underlying9, part, isAgg, sizeOf, typeInfo, hi, hsz, hget, hj]
/-- The words are laid. -/
def WordsIs (w : World) (g : Nat) (d m : Int) (en : Ending) (w' : World) : Prop :=
  ∃ b, en = .returned (.tuple #[]) ∧ NmB w' g d m (some b) ∧ SetIs w' b 41 wordsB.reverse ∧ w.heap.size ≤ b ∧ w.grownBy w' (some g)
set_option maxRecDepth 100000 in
set_option maxHeartbeats 1000000 in
theorem takeWords_any (w : World) (g : Nat) (d m : Int) (hN : NmB w g d m none) (hW : WL w) (hg : 0 ≠ g) :
    Calls Tryd.prog 54 #[.pointer (some ⟨g, 0, none⟩)] w (WordsIs w g d m) := by
  have c3 := hN.c3
  have hf := hN.free 3
  have hmm := mkmap
  have hlt := hN.lt
  have hW0 := hW
  unfold WL at hW0
  obtain ⟨tW, fW, hW0⟩ := hW0
  rw [show (wordsB.map fun l => Value.string (bsOf l)) = wordV from rfl] at hW0
  generalize hV : wordV = V at hW0
  have HV := Lib.hid hV
  clear hV
  have hVl : V.toArray.size = 41 := by rw [← HV.out]; rfl
  have sz : (Tryd.prog.info? 104).map (·.size) = some 41 := by kernel_rfl
  go_enter Tryd.func54, Tryd.ntmps54
  have hm1 : NmB ((w.setCell ⟨g, 3, none⟩ (.map (some w.heap.size))).alloc (.map #[] 0)) g d m (some w.heap.size) := by
    have h1 : NmB (w.setCell ⟨g, 3, none⟩ (.map (some w.heap.size))) g d m (some w.heap.size) := (heap_setCell_same (i := 3) hN).trans rfl
    exact h1.kept (World.grownBy_alloc _ _ none) (by simp)
  have hs1 : SetIs ((w.setCell ⟨g, 3, none⟩ (.map (some w.heap.size))).alloc (.map #[] 0)) w.heap.size 0 [] := by
    have := set_new (w.setCell ⟨g, 3, none⟩ (.map (some w.heap.size)))
    rwa [World.size_setCell] at this
  have hg1 : w.grownBy ((w.setCell ⟨g, 3, none⟩ (.map (some w.heap.size))).alloc (.map #[] 0)) (some g) := grown_alloc (grown_setCell (World.grownBy.refl _ _))
  have hw1 : ((w.setCell ⟨g, 3, none⟩ (.map (some w.heap.size))).alloc (.map #[] 0)).heap[0]? = some (.cells V.toArray tW fW) := (hg1.block _ hW.lt (by simpa using hg)).trans hW0
  have hHW := Lib.hid hw1
  have hb : g ≠ w.heap.size := Nat.ne_of_lt hlt
  have hb2 : 0 ≠ w.heap.size := Nat.ne_of_lt hW.lt
  clear hw1 hW0 hW
  go_upto_region 1 with fail
  generalize (w.setCell ⟨g, 3, none⟩ (.map (some w.heap.size))).alloc (.map #[] 0) = w1 at hm1 hs1 hg1 hHW ⊢
  go_wp2_with ((with_reducible refine wpList_load_row rfl 104 _ rfl 0 ?_ tW _ fW _ hHW.out Tryd.underlying104 rfl (by rw [sz, hVl]) ?_); (rfl))
  go_loopw [9] (fun i wr => ∃ j : Nat, j ≤ 41 ∧ i = .int .i64 (j : Nat) ∧ NmB wr g d m (some w.heap.size) ∧ SetIs wr w.heap.size j (wordsB.take j).reverse ∧ w.grownBy wr (some g)) (fun i _ => 41 - (intOf i).toNat)
  case atStart => exact ⟨0, by omega, rfl, hm1, hs1, hg1⟩
  case round =>
    clear hm1 hs1 hg1 hHW c3 hf hmm
    obtain ⟨j, hj, rfl, N1, S1, G1⟩ := hrel
    by_cases hlt : j < 41
    · have hlti : (j : Int) < 41 := by omega
      have hx := fun w' => word_idx j hlt w'
      rw [HV.out] at hx
      have hsh : (wordsB.getD j []).length ≤ 12 := by
        have h : j < wordsB.length := by rw [wordsB_len]; exact hlt
        have := wordsB_short wordsB[j] (List.getElem_mem h)
        simpa [List.getD, h] using this
      have HT := take_any wr g w.heap.size j d m _ (wordsB.getD j []) N1 S1 hb (by omega) (by unfold maxLen; omega)
      have hT2 : wordsB.getD j [] :: (wordsB.take j).reverse = (wordsB.take (j + 1)).reverse := by
        have h : j < wordsB.length := by rw [wordsB_len]; exact hlt
        rw [List.take_add_one, List.getElem?_eq_getElem h, List.reverse_append]
        simp [List.getD, h]
      rw [hT2] at HT
      generalize wordsB.getD j [] = l at hx HT
      clear hT2 hsh N1 S1
      go_wp2_with fail
      refine HT.mono ?_
      rintro e w2 ⟨rfl, N2, S2, G2⟩
      go_wp2_with fail
      go_roundw
      case rel => exact ⟨j + 1, by omega, by go_num, N2, S2, ⟨G2.os.trans G1.os, G2.tape.trans G1.tape, G2.output.trans G1.output, Nat.le_trans G1.size G2.size, fun k hk hne => by
          have := G1.size
          rw [G2.block k (by omega) (by simp; omega), G1.block k hk hne]⟩⟩
      case measure => simp [intOf]; omega
    · have hlti : ¬ ((j : Int) < 41) := by omega
      obtain rfl : j = 41 := by omega
      rw [List.take_of_length_le (by rw [wordsB_len]; omega)] at S1
      go_wp2_with fail
      go_end0
      exact ⟨w.heap.size, rfl, N1, S1, Nat.le_refl _, G1⟩
end Go.Proofs.YtpfhggalbdjjmaaDoor
