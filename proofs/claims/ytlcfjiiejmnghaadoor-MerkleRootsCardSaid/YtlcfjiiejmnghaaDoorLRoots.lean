/-
  MerkleRoots, walked.
-/
import Derived.Test.YtlcfjiiejmnghaaDoorRRoot
import Derived.Test.YtlcfjiiejmnghaaDoorOpenH
namespace Go.Proofs.YtlcfjiiejmnghaaDoor
open Go.RowKit
set_option linter.unusedSimpArgs false
set_option maxRecDepth 100000 in
set_option maxHeartbeats 4000000 in
theorem merkleRoots_walk (a0 : Option Addr) (n0 c0 : Nat) (l0 : List UInt8) (a1 : Option Addr) (n1 c1 : Nat) (hs : List (List UInt8)) (a2 : Int) (w : World) (hC : RC w) (w0 : IsB w a0 n0 c0 l0) (w1 : IsH w a1 n1 c1 hs) (_w2 : (Lit.int .i64 a2).wf = true) :
    Calls Tryd.prog 8 #[.slice a0 n0 c0, .slice a1 n1 c1, .int .i64 a2] w fun e w' => e = .returned (.bool true) ∧ Below w.heap.size w w' := by
  have hm0 := Nat.le_trans w0.le w0.max
  have hm1 := Nat.le_trans w1.le w1.max
  unfold maxLen at hm0 hm1
  obtain ⟨n, hN, hn40⟩ := wth_nat a2 40 (by omega)
  have HN := Lib.hid hN
  clear hN
  by_cases h0 : n0 ≤ 300
  · by_cases h1 : n1 ≤ 40
    · have g1 : decide ((300 : Int) < (n0 : Int)) = false := by simp; omega
      have g2 : decide ((40 : Int) < (n1 : Int)) = false := by simp; omega
      have heq := fun l (h : l.length = 32) => equal_hash l l h h
      simp only [beq_self_eq_true] at heq
      have L32 := leafS_length l0
      have R32 := rootS_length hs w1.all
      have S32 := rootS_length (hsL n) (fun x hx => by obtain ⟨k, _, rfl⟩ := List.mem_map.1 hx; exact hsh_length k)
      have q1 := heq _ L32
      have q2 := heq _ R32
      have q3 := heq _ S32
      clear heq L32 R32 S32
      go_enter Tryd.func8, Tryd.ntmps8
      go_wp2_with fail
      refine (known3 _ hC).mono ?_
      rintro e wa ⟨rfl, B1⟩
      go_wp2_with fail
      refine (within3_any a2 40 _ (by omega) (by omega)).mono ?_
      rintro e w' ⟨rfl, rfl⟩
      rw [show wth a2 (40 : Int) = (n : Int) from HN.out]
      go_wp2_with fail
      refine (leaf_any a0 n0 c0 l0 _ (hC.past B1) (w0.past B1) (by omega)).mono ?_
      rintro e wb ⟨rfl, b2⟩
      have B2 := B1.trans (b2.mono B1.size)
      clear b2 B1
      go_wp2_with fail
      refine (rleaf_any a0 n0 c0 l0 _ (w0.past B2) (by omega)).mono ?_
      rintro e wc ⟨rfl, b3⟩
      have B3 := B2.trans (b3.mono B2.size)
      clear b3 B2
      go_wp2_with fail
      refine (root_any a1 n1 c1 hs _ (hC.past B3) (w1.past B3) (by omega)).mono ?_
      rintro e wd ⟨rfl, b4⟩
      have B4 := B3.trans (b4.mono B3.size)
      clear b4 B3
      go_wp2_with fail
      refine (rroot_any a1 n1 c1 hs _ (w1.past B4) (by omega)).mono ?_
      rintro e we ⟨rfl, b5⟩
      have B5 := B4.trans (b5.mono B4.size)
      clear b5 B4
      go_wp2_with fail
      refine (lHashes_any n _ (by omega)).mono ?_
      rintro e wf ⟨v6, rfl, hO6, b6⟩
      obtain ⟨ao6, c6, rfl, hI6, -⟩ := hO6.isH
      have B6 := B5.trans (b6.mono B5.size)
      clear b6 B5 hO6
      go_wp2_with fail
      refine (root_any ao6 n c6 (hsL n) _ (hC.past B6) hI6 (by omega)).mono ?_
      rintro e wg ⟨rfl, b7⟩
      have B7 := B6.trans (b7.mono B6.size)
      clear b7 B6 hI6
      go_wp2_with fail
      refine (lHashes_any n _ (by omega)).mono ?_
      rintro e wh ⟨v8, rfl, hO8, b8⟩
      obtain ⟨ao8, c8, rfl, hI8, -⟩ := hO8.isH
      have B8 := B7.trans (b8.mono B7.size)
      clear b8 B7 hO8
      go_wp2_with fail
      refine (rroot_any ao8 n c8 (hsL n) _ hI8 (by omega)).mono ?_
      rintro e wi ⟨rfl, b9⟩
      have B9 := B8.trans (b9.mono B8.size)
      clear b9 B8 hI8
      go_wp2_with fail
      go_ret
      exact ⟨rfl, B9⟩
    · have g1 : decide ((300 : Int) < (n0 : Int)) = false := by simp; omega
      have g2 : decide ((40 : Int) < (n1 : Int)) = true := by simp; omega
      go_enter Tryd.func8, Tryd.ntmps8
      go_wp2_with fail
      refine (known3 _ hC).mono ?_
      rintro e wa ⟨rfl, B1⟩
      go_wp2_with fail
      go_ret
      exact ⟨rfl, B1⟩
  · have g1 : decide ((300 : Int) < (n0 : Int)) = true := by simp; omega
    go_enter Tryd.func8, Tryd.ntmps8
    go_wp2_with fail
    refine (known3 _ hC).mono ?_
    rintro e wa ⟨rfl, B1⟩
    go_wp2_with fail
    go_ret
    exact ⟨rfl, B1⟩
end Go.Proofs.YtlcfjiiejmnghaaDoor
