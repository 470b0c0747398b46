/-
  The reference's names: what Reserved and Name answer.
-/
import Derived.Test.YtpfhggalbdjjmaaDoorSFree
import Derived.Test.YtpfhggalbdjjmaaDoorSChk
import Derived.Deep.QuietTactic
namespace Go.Proofs.YtpfhggalbdjjmaaDoor
open Go.RowKit
set_option linter.unusedSimpArgs false

/-- The words lie in block g. -/
def ResB (w : World) (g : Nat) : Prop := w.heap[g]? = some (.cells (wordsB.map fun l => Value.string (bsOf l)).toArray 9 (0, 0))
theorem ResB.lt {w : World} {g : Nat} (h : ResB w g) : g < w.heap.size := (Array.getElem?_eq_some_iff.1 h).1
theorem ResB.past {w w' : World} {g : Nat} (h : ResB w g) (hb : Below w.heap.size w w') : ResB w' g := (hb.block g h.lt).trans h
theorem ResB.cell {w : World} {g : Nat} (h : ResB w g) (j : Nat) (hj : j < 41) : w.cell? ⟨g, j, none⟩ = some (.string (bsOf (wordsB.getD j []))) := by
  refine cell_blk h ?_
  rw [List.getElem?_toArray, List.getElem?_map, List.getElem?_eq_getElem (by rw [wordsB_len]; exact hj), List.getD_eq_getElem?_getD, List.getElem?_eq_getElem (by rw [wordsB_len]; exact hj)]
  rfl
set_option maxRecDepth 100000 in
set_option maxHeartbeats 2000000 in
theorem reserved_any (w : World) : Calls Tryd.prog 20 #[] w fun e w' => ∃ g, e = .returned (.slice (some ⟨g, 0, none⟩) 41 41) ∧ ResB w' g ∧ Below w.heap.size w w' := by
  go_enter Tryd.func20, Tryd.ntmps20
  go_wp2_with fail
  go_ret
  refine ⟨w.heap.size, rfl, ?_, (Below.refl _ _).alloc (Nat.le_refl _) _⟩
  refine (heap_alloc_new w _).trans ?_
  kernel_rfl
set_option maxRecDepth 100000 in
set_option maxHeartbeats 2000000 in
theorem refName_any (l : List UInt8) (hl : l.length ≤ 1000000) (w : World) : Calls Tryd.prog 21 #[.string (bsOf l)] w fun e w' => e = .returned (.bool (spelt l && !wordsR.contains l)) ∧ Below w.heap.size w w' := by
  have hsz := bsOf_size l
  have hsp := spelt_eq l
  have ix := idx_str l
  by_cases h0 : l.length < 1
  · have hs : spelt l = false := by rw [hsp]; simp; omega
    have h0i : ((bsOf l).size : Int) < 1 := by rw [hsz]; omega
    have HS := Lib.hid hs
    clear hs hsp ix hsz
    go_enter Tryd.func21, Tryd.ntmps21
    go_wp2_with fail
    go_ret
    exact ⟨by rw [HS.out]; rfl, Below.refl _ _⟩
  have h0i : ¬ (((bsOf l).size : Int) < 1) := by rw [hsz]; omega
  by_cases h12 : 12 < l.length
  · have hs : spelt l = false := by rw [hsp]; simp; omega
    have h12i : (12 : Int) < ((bsOf l).size : Int) := by rw [hsz]; omega
    have HS := Lib.hid hs
    clear hs hsp ix hsz
    go_enter Tryd.func21, Tryd.ntmps21
    go_wp2_with fail
    go_ret
    exact ⟨by rw [HS.out]; rfl, Below.refl _ _⟩
  have h12i : ¬ ((12 : Int) < ((bsOf l).size : Int)) := by rw [hsz]; omega
  have ix0 : ∀ w', (Instr.index 9 (.string (bsOf l)) (.int .i64 0)).run Tryd.prog w' = .ok (.int .u8 ((l.getD 0 0).toNat : Nat)) w' := fun w' => ix 0 (by omega) w'
  have hlow : isLow (l.getD 0 0) = (decide (97 ≤ (l.getD 0 0).toNat) && decide ((l.getD 0 0).toNat ≤ 122)) := rfl
  obtain ⟨u0, hu0⟩ : ∃ u, (l.getD 0 0).toNat = u := ⟨_, rfl⟩
  rw [hu0] at hlow
  simp only [hu0] at ix0
  by_cases hA : u0 < 97
  · have hs : spelt l = false := by rw [hsp, hlow]; simp; omega
    have hAi : (u0 : Int) < 97 := by omega
    have HS := Lib.hid hs
    clear hs hsp ix hsz hlow hu0
    go_enter Tryd.func21, Tryd.ntmps21
    go_wp2_with fail
    go_ret
    exact ⟨by rw [HS.out]; rfl, Below.refl _ _⟩
  have hAi : ¬ ((u0 : Int) < 97) := by omega
  by_cases hZ : 122 < u0
  · have hs : spelt l = false := by rw [hsp, hlow]; simp; omega
    have hZi : (122 : Int) < (u0 : Int) := by omega
    have HS := Lib.hid hs
    clear hs hsp ix hsz hlow hu0
    go_enter Tryd.func21, Tryd.ntmps21
    go_wp2_with fail
    go_ret
    exact ⟨by rw [HS.out]; rfl, Below.refl _ _⟩
  have hZi : ¬ ((122 : Int) < (u0 : Int)) := by omega
  have hs : spelt l = l.all sgn := by
    rw [hsp, decide_eq_true (by omega), decide_eq_true (by omega), hlow, decide_eq_true (by omega), decide_eq_true (by omega)]
    simp
  have HS := Lib.hid hs
  clear hs hsp hlow hu0
  go_enter Tryd.func21, Tryd.ntmps21
  go_wp2_with fail
  go_loopw [3] (fun i wr => ∃ j : Nat, j ≤ l.length ∧ i = .int .i64 (j : Nat) ∧ (l.take j).all sgn = true ∧ w = wr) (fun i _ => l.length - (intOf i).toNat)
  case atStart => exact ⟨0, by omega, rfl, by simp, rfl⟩
  case round =>
    obtain ⟨j, hj, rfl, hall, rfl⟩ := hrel
    have HALL := Lib.hid hall
    clear hall ix0 hAi hZi hA hZ
    by_cases hlt : j < l.length
    · have hlti : (j : Int) < ((bsOf l).size : Int) := by rw [hsz]; omega
      have hx := ix j hlt
      have hsn : sgn (l.getD j 0) = ((decide (97 ≤ (l.getD j 0).toNat) && decide ((l.getD j 0).toNat ≤ 122)) || (decide (48 ≤ (l.getD j 0).toNat) && decide ((l.getD j 0).toNat ≤ 57)) || (l.getD j 0).toNat == 95) := rfl
      have hmem : l.getD j 0 ∈ l := by rw [List.getD_eq_getElem?_getD, List.getElem?_eq_getElem hlt]; exact List.getElem_mem hlt
      have hnext : Hid (sgn (l.getD j 0) = true → (l.take (j + 1)).all sgn = true) := fun h => by
        rw [List.take_add_one, List.getElem?_eq_getElem hlt, List.all_append, HALL.out]
        rw [List.getD_eq_getElem?_getD, List.getElem?_eq_getElem hlt] at h
        simpa using h
      have hstop : Hid (sgn (l.getD j 0) = false → l.all sgn = false) := fun h => by
        rw [List.all_eq_false]
        refine ⟨_, hmem, ?_⟩
        rw [h]
        simp
      clear hmem ix
      generalize (l.getD j 0).toNat = u at hx hsn
      have hways : (97 ≤ u ∧ u ≤ 122) ∨ (u < 48) ∨ (48 ≤ u ∧ u ≤ 57) ∨ (57 < u ∧ u < 97 ∧ u = 95) ∨ (57 < u ∧ u < 97 ∧ u ≠ 95) ∨ (122 < u) := by omega
      rcases hways with ⟨a1, a2⟩ | a1 | ⟨a1, a2⟩ | ⟨a1, a2, a3⟩ | ⟨a1, a2, a3⟩ | a1
      · have g1 : ¬ ((u : Int) < 97) := by omega
        have g2 : ¬ ((122 : Int) < (u : Int)) := by omega
        have hb' : sgn (l.getD j 0) = true := by
          rw [hsn]
          simp
          omega
        have hb := Lib.hid hb'
        clear hb'
        clear hsn a1 a2 hstop
        go_wp2_with fail
        go_roundw
        case rel => exact ⟨j + 1, by omega, by go_num, hnext.out hb.out, trivial⟩
        case measure => simp [intOf]; omega
      · have g1 : (u : Int) < 97 := by omega
        have g3 : (u : Int) < 48 := by omega
        have g5 : ((u : Int) == 95) = false := by simp; omega
        have hb' : sgn (l.getD j 0) = false := by
          rw [hsn]
          simp
          omega
        have hb := Lib.hid hb'
        clear hb'
        clear hsn a1 hnext
        go_wp2_with fail
        go_ret
        exact ⟨by rw [HS.out, hstop.out hb.out]; rfl, Below.refl _ _⟩
      · have g1 : (u : Int) < 97 := by omega
        have g3 : ¬ ((u : Int) < 48) := by omega
        have g4 : ¬ ((57 : Int) < (u : Int)) := by omega
        have hb' : sgn (l.getD j 0) = true := by
          rw [hsn]
          simp
          omega
        have hb := Lib.hid hb'
        clear hb'
        clear hsn a1 a2 hstop
        go_wp2_with fail
        go_roundw
        case rel => exact ⟨j + 1, by omega, by go_num, hnext.out hb.out, trivial⟩
        case measure => simp [intOf]; omega
      · subst a3
        have hb' : sgn (l.getD j 0) = true := by
          rw [hsn]
          simp
        have hb := Lib.hid hb'
        clear hb'
        clear hsn a1 a2 hstop
        go_wp2_with fail
        go_roundw
        case rel => exact ⟨j + 1, by omega, by go_num, hnext.out hb.out, trivial⟩
        case measure => simp [intOf]; omega
      · have g1 : (u : Int) < 97 := by omega
        have g3 : ¬ ((u : Int) < 48) := by omega
        have g4 : (57 : Int) < (u : Int) := by omega
        have g5 : ((u : Int) == 95) = false := by simp; omega
        have hb' : sgn (l.getD j 0) = false := by
          rw [hsn]
          simp
          omega
        have hb := Lib.hid hb'
        clear hb'
        clear hsn a1 a2 a3 hnext
        go_wp2_with fail
        go_ret
        exact ⟨by rw [HS.out, hstop.out hb.out]; rfl, Below.refl _ _⟩
      · have g1 : ¬ ((u : Int) < 97) := by omega
        have g2 : (122 : Int) < (u : Int) := by omega
        have g3 : ¬ ((u : Int) < 48) := by omega
        have g4 : (57 : Int) < (u : Int) := by omega
        have g5 : ((u : Int) == 95) = false := by simp; omega
        have hb' : sgn (l.getD j 0) = false := by
          rw [hsn]
          simp
          omega
        have hb := Lib.hid hb'
        clear hb'
        clear hsn a1 hnext
        go_wp2_with fail
        go_ret
        exact ⟨by rw [HS.out, hstop.out hb.out]; rfl, Below.refl _ _⟩
    · have hlti : ¬ ((j : Int) < ((bsOf l).size : Int)) := by rw [hsz]; omega
      obtain rfl : j = l.length := by omega
      have hSp : Hid (spelt l = true) := by
        have := HALL.out
        rw [List.take_length] at this
        show _ = _
        rw [HS.out, this]
      clear ix HALL HS
      go_wp2_with (go_at_call 20; refine (reserved_any _).mono ?_; rintro e w2 ⟨g, rfl, R, b2⟩)
      go_loopw [6] (fun i wr => ∃ j : Nat, j ≤ 41 ∧ i = .int .i64 (j : Nat) ∧ (wordsB.take j).contains l = false ∧ w2 = wr) (fun i _ => 41 - (intOf i).toNat)
      case atStart => exact ⟨0, by omega, rfl, by simp, rfl⟩
      case round =>
        obtain ⟨j, hj, rfl, hno, rfl⟩ := hrel
        have HNO := Lib.hid hno
        clear hno
        by_cases hlt : j < 41
        · have hlt41 : (j : Int) < 41 := by omega
          have hc := R.cell j hlt
          have hx : wordsB[j]? = some (wordsB.getD j []) := by rw [List.getD_eq_getElem?_getD, List.getElem?_eq_getElem (by rw [wordsB_len]; exact hlt)]; rfl
          have HR := Lib.hid R
          generalize wordsB.getD j [] = x at hc hx
          obtain ⟨b, hb⟩ : ∃ b, ((bsOf x).toList == (bsOf l).toList) = b := ⟨_, rfl⟩
          have hbx : Hid (b = decide (x = l)) := by
            show _ = _
            rw [← hb, Bool.eq_iff_iff, ByteArray.toList_eq, ByteArray.toList_eq, bsOf_toList, bsOf_toList]
            simp
          have HX := Lib.hid hx
          clear hx R
          cases b with
          | true =>
            go_wp2_with fail
            go_ret
            refine ⟨?_, b2⟩
            have e : x = l := by simpa using hbx.out.symm
            have hm : wordsR.contains l = true := by
              rw [List.contains_iff_mem]
              unfold wordsR
              rw [List.mem_reverse, ← e]
              exact List.mem_of_getElem? HX.out
            rw [hm]
            simp
          | false =>
            go_wp2_with fail
            go_roundw
            case rel =>
              refine ⟨j + 1, by omega, by go_num, ?_, trivial⟩
              have e : x ≠ l := by simpa using hbx.out.symm
              rw [List.take_add_one, HX.out, List.contains_append, HNO.out]
              simp
              exact fun h => e h.symm
            case measure => simp [intOf]; omega
        · have hlt41 : ¬ ((j : Int) < 41) := by omega
          obtain rfl : j = 41 := by omega
          go_wp2_with fail
          go_ret
          refine ⟨?_, b2⟩
          have h2 : wordsR.contains l = false := by
            have h1 := HNO.out
            rw [show (41 : Nat) = wordsB.length from wordsB_len.symm, List.take_length] at h1
            unfold wordsR
            rw [← h1, Bool.eq_iff_iff, List.contains_iff_mem, List.contains_iff_mem, List.mem_reverse]
          have h3 : l ∉ wordsR := by simpa using h2
          rw [hSp.out, decide_eq_false h3]
          rfl
end Go.Proofs.YtpfhggalbdjjmaaDoor
