/-
  MerkleKeeps, walked.
-/
import Derived.Test.YtlcfjiiejmnghaaDoorLaw3
namespace Go.Proofs.YtlcfjiiejmnghaaDoor
open Go.RowKit
set_option linter.unusedSimpArgs false

/-- BLOCK g: a row, its first M cells bytes. -/
def BU (w : World) (g M : Nat) : Prop := ∃ cur : Array Value, w.heap[g]? = some (.cells cur 24 (0, 0)) ∧ ∀ j, j < M → ∃ z, cur[j]? = some (.int .u8 z)
theorem BU.cell {w : World} {g M : Nat} (h : BU w g M) (j : Nat) (hj : j < M) : ∃ z, w.cell? ⟨g, j, none⟩ = some (.int .u8 z) := by
  obtain ⟨cur, h1, h2⟩ := h
  rw [cell_of_row w g j _ _ (0, 0) h1]
  exact h2 j hj
theorem BU.free {w : World} {g M : Nat} (h : BU w g M) (j : Nat) : w.frozen? ⟨g, j, none⟩ = false := by
  obtain ⟨cur, h1, _⟩ := h
  exact frozen_of_row w g j _ _ h1
theorem BU.lt {w : World} {g M : Nat} (h : BU w g M) : g < w.heap.size := by
  obtain ⟨cur, h1, _⟩ := h
  exact (Array.getElem?_eq_some_iff.1 h1).1
theorem BU.past {w w' : World} {g M : Nat} (h : BU w g M) (hb : Below w.heap.size w w') : BU w' g M := by
  have hl := h.lt
  obtain ⟨cur, h1, h2⟩ := h
  exact ⟨cur, (hb.block g hl).trans h1, h2⟩
theorem BU.set {w : World} {g M : Nat} (h : BU w g M) (j : Nat) (z : Int) : BU (w.setCell ⟨g, j, none⟩ (.int .u8 z)) g M := by
  obtain ⟨cur, h1, h2⟩ := h
  refine ⟨_, heap_setCell_same w g j _ _ (.int .u8 z) h1, fun i hi => ?_⟩
  obtain ⟨y, hy⟩ := h2 i hi
  have hl := (Array.getElem?_eq_some_iff.1 hy).1
  by_cases hij : j = i
  · subst hij
    exact ⟨z, by simp [Array.getElem?_setIfInBounds, hl]⟩
  · exact ⟨y, by simp [Array.getElem?_setIfInBounds, hij, hy]⟩
theorem OwnH.bu {w : World} {base : Nat} {v : Value} {k : Nat} {hs : List (List UInt8)} (h : OwnH w base v k hs) : ∃ ao c g, v = .slice ao k c ∧ (0 < k → ao = some ⟨g, 0, none⟩ ∧ base ≤ g ∧ BU w g (k * 32)) := by
  obtain ⟨⟨hl, ho⟩, hk, ha⟩ := h
  rcases ho with ⟨rfl, rfl⟩ | ⟨g, cap, cur, rfl, hg, hc, hn, hm, hs', ht⟩
  · exact ⟨none, 0, 0, rfl, fun h => by omega⟩
  · refine ⟨_, cap, g, rfl, fun _ => ⟨rfl, hg, cur, hc, fun j hj => ?_⟩⟩
    have hf := flat_length hs ha
    have h1 : (bcs hs.flatten)[j]? = some (bc (hs.flatten[j]'(by omega))) := by
      rw [bcs_get, List.getElem?_eq_getElem (by omega)]
      rfl
    rw [← ht, List.getElem?_take_of_lt hj] at h1
    have h2 : cur[j]? = some (bc (hs.flatten[j]'(by omega))) := by simpa using h1
    exact ⟨_, h2⟩
set_option maxRecDepth 100000 in
set_option maxHeartbeats 4000000 in
theorem merkleKeeps_walk (a0 a1 : Int) (w : World) (hC : RC w) (_w0 : (Lit.int .i64 a0).wf = true) (_w1 : (Lit.int .i64 a1).wf = true) :
    Calls Tryd.prog 15 #[.int .i64 a0, .int .i64 a1] w fun e w' => e = .returned (.bool true) ∧ Below w.heap.size w w' := by
  obtain ⟨N, hN, hN3⟩ := wth_nat a0 20 (by omega)
  have HN := Lib.hid hN
  clear hN
  obtain ⟨n, hn⟩ : ∃ n, n = N + 1 := ⟨_, rfl⟩
  have e1 : (1 : Int) + (N : Int) = (n : Int) := by omega
  have hn1 : 1 ≤ n := by omega
  have hn2 : n ≤ 20 := by omega
  clear hn hN3
  obtain ⟨q, hq, hqn⟩ := wth_nat a1 n (by omega)
  have HQ := Lib.hid hq
  clear hq
  go_enter Tryd.func15, Tryd.ntmps15
  go_wp2_with fail
  refine (known3 _ hC).mono ?_
  rintro e w1 ⟨rfl, B1⟩
  go_wp2_with fail
  refine (within3_any a0 20 _ (by omega) (by omega)).mono ?_
  rintro e w' ⟨rfl, rfl⟩
  rw [show wth a0 (20 : Int) = (N : Int) from HN.out]
  go_wp2_with fail
  refine (lHashes_any n _ (by omega)).mono ?_
  rintro e w2 ⟨v2, rfl, hO2, b2⟩
  obtain ⟨ao, c, rfl, hI, hge⟩ := hO2.isH
  have B2 := B1.trans (b2.mono B1.size)
  clear hO2 hge b2 B1
  go_wp2_with fail
  refine (root_any ao n c _ _ (hC.past B2) hI (by omega)).mono ?_
  rintro e w3 ⟨rfl, b3⟩
  have B3 := B2.trans (b3.mono B2.size)
  have I3 := hI.past b3
  clear hI b3 B2
  go_wp2_with fail
  refine (within3_any a1 n _ (by omega) (by omega)).mono ?_
  rintro e w' ⟨rfl, rfl⟩
  rw [show wth a1 (n : Int) = (q : Int) from HQ.out]
  go_wp2_with fail
  refine (proof_any ao n c _ q _ (hC.past B3) I3 (by omega) hqn).mono ?_
  rintro e w4 ⟨v4, rfl, hO4, b4⟩
  obtain ⟨po, pc, g, rfl, hP⟩ := hO4.bu
  have hml : (proofS (hsL n) q).length ≤ 5 := by
    unfold proofS
    rw [Mk.proof_length two (sha []) _ _ q (hsL_length n)]
    exact Mk.dirs_short 5 n q (by omega) hqn
  generalize (proofS (hsL n) q).length = m at hP hml
  have HP := Lib.hid hP
  have hs3 := B3.size
  clear hO4 hP
  go_wp2_with fail
  go_loopw [8] (fun i wq => ∃ k : Nat, k ≤ m ∧ i = .int .i64 k ∧ Hid (0 < m → BU wq g (m * 32)) ∧ Below w3.heap.size w3 wq) (fun i _ => m - (intOf i).toNat)
  case atStart => exact ⟨0, by omega, rfl, fun h => (HP.out h).2.2, b4⟩
  case round =>
    clear b4
    obtain ⟨k, hk, rfl, HB, hB⟩ := hrel
    by_cases hkm : k < m
    · obtain ⟨rfl, hg, -⟩ := HP.out (by omega)
      have hb := HB.out (by omega)
      have hkk : (k : Int) < (m : Int) := by omega
      go_wp2_with fail
      refine region_tail 8 (by kernel_rfl) (by kernel_rfl) ?_
      intro wx hx bx
      have hbx := hb.past bx
      obtain ⟨z, hz⟩ := hbx.cell (k * 32) (by omega)
      have hf := hbx.free (k * 32)
      have FB := fun z => Lib.hid (hbx.set (k * 32) z)
      have hBx := hB.trans (bx.mono hB.size)
      have FW : ∀ z, Below w3.heap.size w3 (wx.setCell ⟨g, k * 32, none⟩ (.int .u8 z)) := fun z => hBx.setCell hg _
      clear hb hbx hx bx hBx
      simp only [List.take_succ_cons, List.take_zero, List.drop_succ_cons, List.drop_zero]
      iterate 8 still_step
      refine wpStill_nil ?_
      go_wp2_with fail
      go_roundw
      case rel => exact ⟨k + 1, by omega, by go_num, fun _ => (FB _).out, FW _⟩
      case measure => simp [intOf]; omega
    · obtain rfl : k = m := by omega
      have B5 := B3.trans (hB.mono B3.size)
      have I5 := I3.past hB
      go_wp2_with fail
      refine (lHashes_any n _ (by omega)).mono ?_
      rintro e w6 ⟨v6, rfl, hO6, b6⟩
      obtain ⟨ao6, c6, rfl, hI6, hge6⟩ := hO6.isH
      have B6 := B5.trans (b6.mono B5.size)
      have I6 := I5.past b6
      clear hO6 b6 I5 B5
      go_wp2_with fail
      refine (lhashes_any ao ao6 n n c c6 (hsL n) (hsL n) _ I6 hI6 (by omega) (by omega)).mono ?_
      rintro e w7 ⟨rfl, b7⟩
      have B7 := B6.trans (b7.mono B6.size)
      clear b7 B6
      simp only [beq_self_eq_true]
      go_wp2_with fail
      go_ret
      exact ⟨rfl, B7⟩
end Go.Proofs.YtlcfjiiejmnghaaDoor
