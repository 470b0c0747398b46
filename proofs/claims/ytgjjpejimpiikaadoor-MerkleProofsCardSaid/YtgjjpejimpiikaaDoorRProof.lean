/-
  The reference's Proof (by gen_rproof.py).
-/
import Derived.Test.YtgjjpejimpiikaaDoorRRoot
import Derived.Test.YtgjjpejimpiikaaDoorChk
namespace Go.Proofs.YtgjjpejimpiikaaDoor
open Go.RowKit
set_option linter.unusedSimpArgs false

theorem proofS_short (hs : List (List UInt8)) (i : Nat) (h : hs.length ≤ 1000) (hi : i < hs.length) : (proofS hs i).length ≤ 10 := by
  unfold proofS
  rw [Mk.proof_length two (sha []) _ hs i rfl]
  exact Mk.dirs_short 10 hs.length i (by omega) hi
set_option maxRecDepth 100000 in
set_option maxHeartbeats 4000000 in
theorem rproof_n : ∀ N, ∀ (a0 : Option Addr) (n0 c0 : Nat) (hs : List (List UInt8)) (i : Nat) (w : World), n0 ≤ N → IsH w a0 n0 c0 hs → n0 ≤ 1000 → i < n0 →
    Calls Tryd.prog 11 #[.slice a0 n0 c0, .int .i64 (i : Int)] w (PrOut w 0 (proofS hs i).length (proofS hs i)) := by
  intro N
  induction N with
  | zero =>
    intro a0 n0 c0 hs i w hN h hn hi
    omega
  | succ N ih =>
    intro a0 n0 c0 hs i w hN h hn hi
    have hl := h.len
    have HL := Lib.hid hl
    have IH := Lib.hid ih
    clear hl ih
    have z2 : decide ((i : Int) < 0) = false := by simp
    have z3 : decide (n0 ≤ i) = false := by simp; omega
    have z4 : ¬ (n0 : Int) ≤ (i : Int) := by omega
    by_cases hn1 : n0 = 1
    · subst hn1
      have e0 : proofS hs i = [] := Mk.proof_one _ _ _ _ (by rw [HL.out]; omega)
      rw [e0]
      go_enter Tryd.func11, Tryd.ntmps11
      go_wp2_with fail
      go_ret2
      exact ⟨_, rfl, OwnH.nil _ _, Below.refl _ _⟩
    · obtain ⟨p, hp⟩ : ∃ p, p = Mk.part n0 := ⟨_, rfl⟩
      have hp1 : 1 ≤ p := by rw [hp]; exact Mk.part_pos n0
      have hp2 : p < n0 := by rw [hp]; exact Mk.part_lt (by omega)
      have HP := Lib.hid hp
      obtain ⟨aa, hcA, hIA⟩ := IsH_head h p (by omega)
      obtain ⟨ab, hcB, hIB, -⟩ := IsH_cut h p (by omega)
      have hn1' : ((n0 : Int) == 1) = false := by simp; omega
      have CA := Lib.hid hcA
      have CB := Lib.hid hcB
      clear h
      clear hcA hcB
      by_cases hip : i < p
      · have hpr : proofS hs i = proofS (hs.take p) i ++ [rootS (hs.drop p)] := by
          unfold proofS rootS
          rw [Mk.proof_left _ _ hs i (by rw [HL.out]; omega) (by rw [HL.out, ← hp]; exact hip), HL.out, ← hp]
        have HPR := Lib.hid hpr
        clear hpr hp
        go_enter Tryd.func11, Tryd.ntmps11
        go_wp2_with fail
        · refine (part_any n0 _ (by omega) (by omega)).mono ?_
          rintro e w' ⟨rfl, rfl⟩
          rw [← HP.out]
          have hq1 := CA.out w
          go_wp2_with fail
          clear hq1
          refine (IH.out aa p c0 (hs.take p) i _ ?_ ?_ ?_ ?_).mono ?_
          · omega
          · exact hIA
          · omega
          · omega
          rintro e w2 ⟨v2, rfl, O2, b2⟩
          have hq := CB.out w2
          go_wp2_with fail
          clear hq
          refine (rroot_any ab (n0 - p) (c0 - p) (hs.drop p) w2 (hIB.past b2) (by omega)).mono ?_
          rintro e w3 ⟨rfl, b3⟩
          have O3 := O2.past b3
          have B3 := b2.trans (b3.mono b2.size)
          have LR := Lib.hid (rootS_length (hs.drop p) (fun x hx => hIB.all x hx))
          have hB3 := B3.size
          go_wp2_with (first
            | ((with_reducible refine wpList_buildSlice_hs rfl 1 _ rfl [rootS (hs.drop p)] rfl ?_ (by omega) (by omega) ?_ ?_); (simp [LR.out]); (simp only [List.map_toArray, List.map_cons, List.map_nil]; rfl); (intro w5 _ I5 b5; have O5 := O3.past b5; have hs5 := b5.size))
            | (at_builtin; refine wpList_append_hs rfl (.tmp 36) (.tmp 41) rfl w.heap.size (by omega) _ _ _ rfl O5 ⟨w3.heap.size, 0, none⟩ 1 1 [rootS (hs.drop p)] rfl I5 (by have := proofS_short (hs.take p) i (by have := hIA.len; omega) (by have := hIA.len; omega); omega) ?_; intro v4 w4 O4 g4))
          go_ret2
          have B5 := B3.trans (b5.mono hB3)
          have B4 := O5.step B5 B5.size (Nat.le_refl _) g4
          rw [HPR.out]
          exact ⟨v4, rfl, by rw [List.length_append]; exact O4, B4⟩
      · obtain ⟨k, rfl⟩ : ∃ k, i = p + k := ⟨i - p, by omega⟩
        have hpr : proofS hs (p + k) = proofS (hs.drop p) k ++ [rootS (hs.take p)] := by
          unfold proofS rootS
          rw [Mk.proof_right _ _ hs (p + k) (by rw [HL.out]; omega) (by rw [HL.out, ← hp]; omega), HL.out, ← hp, Nat.add_sub_cancel_left]
        have HPR := Lib.hid hpr
        have ek : ((p : Int) + (k : Int)) - (p : Int) = (k : Int) := by omega
        clear hpr hp
        go_enter Tryd.func11, Tryd.ntmps11
        go_wp2_with fail
        · refine (part_any n0 _ (by omega) (by omega)).mono ?_
          rintro e w' ⟨rfl, rfl⟩
          rw [← HP.out]
          have hq1 := CB.out w
          go_wp2_with fail
          clear hq1
          refine (IH.out ab (n0 - p) (c0 - p) (hs.drop p) k _ ?_ ?_ ?_ ?_).mono ?_
          · omega
          · exact hIB
          · omega
          · omega
          rintro e w2 ⟨v2, rfl, O2, b2⟩
          have hq := CA.out w2
          go_wp2_with fail
          clear hq
          refine (rroot_any aa p c0 (hs.take p) w2 (hIA.past b2) (by omega)).mono ?_
          rintro e w3 ⟨rfl, b3⟩
          have O3 := O2.past b3
          have B3 := b2.trans (b3.mono b2.size)
          have LR := Lib.hid (rootS_length (hs.take p) (fun x hx => hIA.all x hx))
          have hB3 := B3.size
          go_wp2_with (first
            | ((with_reducible refine wpList_buildSlice_hs rfl 1 _ rfl [rootS (hs.take p)] rfl ?_ (by omega) (by omega) ?_ ?_); (simp [LR.out]); (simp only [List.map_toArray, List.map_cons, List.map_nil]; rfl); (intro w5 _ I5 b5; have O5 := O3.past b5; have hs5 := b5.size))
            | (at_builtin; refine wpList_append_hs rfl (.tmp 53) (.tmp 58) rfl w.heap.size (by omega) _ _ _ rfl O5 ⟨w3.heap.size, 0, none⟩ 1 1 [rootS (hs.take p)] rfl I5 (by have := proofS_short (hs.drop p) k (by have := hIB.len; omega) (by have := hIB.len; omega); omega) ?_; intro v4 w4 O4 g4))
          go_ret2
          have B5 := B3.trans (b5.mono hB3)
          have B4 := O5.step B5 B5.size (Nat.le_refl _) g4
          rw [HPR.out]
          exact ⟨v4, rfl, by rw [List.length_append]; exact O4, B4⟩

end Go.Proofs.YtgjjpejimpiikaaDoor
