/-
  The reference of chapter 4: order, Check, digits.
-/
import Derived.Test.YtalnnifmlhckbaaDoorVAt
import Derived.Test.YtalnnifmlhckbaaDoorKnow4
import Derived.Lib.ItoaNum
namespace Go.Proofs.YtalnnifmlhckbaaDoor
open Go.RowKit
set_option linter.unusedSimpArgs false

set_option maxRecDepth 100000 in
theorem rorder_any (a b : Int) (w : World) : Calls Tryd.prog 36 #[.int .i64 a, .int .i64 b] w fun e w' => e = .returned (.int .i64 (cmpI a b)) ∧ w = w' := by
  go_enter Tryd.func36, Tryd.ntmps36
  go_wp2_with fail
  all_goals (go_ret; exact ⟨ret_int (by unfold cmpI; (repeat' split) <;> omega), rfl⟩)
theorem ret_str {a b : ByteArray} (h : a = b) : Ending.returned (.string a) = .returned (.string b) := by rw [h]
theorem str_app (a b : List UInt8) : (⟨a.toArray⟩ : ByteArray) ++ ⟨b.toArray⟩ = ⟨(a ++ b).toArray⟩ := by
  apply ByteArray.ext
  rw [ByteArray.data_append]
  simp
theorem decDigits_len : ∀ (k u : Nat), u < 10 ^ (k + 1) → (Lib.decDigits u).length ≤ k + 1
  | 0, u, h => by rw [Lib.decDigits_one (by simpa using h)]; simp
  | k + 1, u, h => by
    rw [Lib.decDigits]
    split
    · simp
    · have h2 : u / 10 < 10 ^ (k + 1) := by
        rw [Nat.pow_succ] at h
        omega
      have := decDigits_len k (u / 10) h2
      simp
      omega
set_option maxRecDepth 100000 in
set_option maxHeartbeats 2000000 in
theorem udigits_one (u : Nat) (w : World) (hu : u < 10) :
    Calls Tryd.prog 40 #[.int .u64 (u : Int)] w fun e w' => e = .returned (.string ⟨#[UInt8.ofNat (48 + u)]⟩) ∧ Below w.heap.size w w' := by
  have g1 : decide (10 ≤ (u : Int)) = false := by simp; omega
  have g2 : decide (10 ≤ u) = false := by simp; omega
  have hc := one_conv (w.alloc (.cells #[.int .u8 ((UInt8.ofNat (48 + u)).toNat : Int)] 5)) w.heap.size (UInt8.ofNat (48 + u)) (by go_simp)
  have e1 : ((UInt8.ofNat (48 + u)).toNat : Int) = 48 + (u : Int) % 10 := by rw [UInt8.toNat_ofNat']; omega
  rw [e1] at hc
  clear e1
  generalize UInt8.ofNat (48 + u) = y at hc ⊢
  go_enter Tryd.func40, Tryd.ntmps40
  go_wp2_with fail
  go_ret
  exact ⟨rfl, (Below.refl _ _).alloc (Nat.le_refl _) _⟩
set_option maxRecDepth 100000 in
set_option maxHeartbeats 2000000 in
theorem udigits_n : ∀ N, ∀ (u : Nat) (w : World), u ≤ N → u < 10 ^ 20 →
    Calls Tryd.prog 40 #[.int .u64 (u : Int)] w fun e w' => e = .returned (.string ⟨(Lib.decDigits u).toArray⟩) ∧ Below w.heap.size w w' := by
  intro N
  induction N with
  | zero =>
    intro u w h _
    rw [Lib.decDigits_one (by omega)]
    exact udigits_one u w (by omega)
  | succ N ih =>
    intro u w h hu
    by_cases h10 : u < 10
    · rw [Lib.decDigits_one h10]
      exact udigits_one u w h10
    · have IH1 := fun w => ih (u / 10) w (by omega) (by omega)
      have IH2 := fun w => udigits_one (u % 10) w (by omega)
      have L1 := decDigits_len 19 (u / 10) (by omega)
      have hd : Lib.decDigits u = Lib.decDigits (u / 10) ++ [UInt8.ofNat (48 + u % 10)] := by
        conv => lhs; rw [Lib.decDigits]
        rw [dif_neg h10]
      rw [hd]
      clear ih hd
      generalize Lib.decDigits (u / 10) = l at IH1 L1 ⊢
      generalize UInt8.ofNat (48 + u % 10) = y at IH2 ⊢
      simp only [Int.natCast_ediv, Int.natCast_emod, Int.cast_ofNat_Int] at IH1 IH2
      have g1 : decide (10 ≤ (u : Int)) = true := by simp; omega
      have g2 : decide (10 ≤ u) = true := by simp; omega
      have hsz : ¬ 9223372036854775807 < (⟨l.toArray⟩ : ByteArray).size + (⟨#[y]⟩ : ByteArray).size := by
        simp only [ByteArray.size, List.size_toArray, List.length_cons, List.length_nil]
        omega
      go_enter Tryd.func40, Tryd.ntmps40
      go_wp2_with (first
        | (go_at_call 40; (with_reducible refine (IH1 _).mono ?_); rintro e w1 ⟨rfl, b1⟩)
        | (go_at_call 40; (with_reducible refine (IH2 _).mono ?_); rintro e w2 ⟨rfl, b2⟩))
      go_ret
      exact ⟨ret_str (str_app l [y]), b1.trans (b2.mono b1.size)⟩
theorem itoa_len (n : Int) (h : -9223372036854775808 ≤ n ∧ n ≤ 9223372036854775807) : (Lib.itoa n).length ≤ 21 := by
  unfold Lib.itoa
  split
  · have := decDigits_len 19 n.natAbs (by omega)
    simp
    omega
  · have := decDigits_len 19 n.toNat (by omega)
    omega
set_option maxRecDepth 100000 in
set_option maxHeartbeats 2000000 in
theorem rdigits_any (n : Int) (w : World) (h : -9223372036854775808 ≤ n ∧ n ≤ 9223372036854775807) :
    Calls Tryd.prog 22 #[.int .i64 n] w fun e w' => e = .returned (.string ⟨(Lib.itoa n).toArray⟩) ∧ Below w.heap.size w w' := by
  by_cases h0 : n < 0
  · obtain ⟨m, rfl⟩ : ∃ m : Nat, n = -(m : Int) := ⟨n.natAbs, by omega⟩
    have hm := udigits_n m m
    have e1 : Lib.itoa (-(m : Int)) = 45 :: Lib.decDigits m := by
      unfold Lib.itoa
      rw [if_pos h0, Int.natAbs_neg, Int.natAbs_natCast]
    rw [e1]
    have L1 := decDigits_len 19 m (by omega)
    clear e1
    generalize Lib.decDigits m = l at hm L1 ⊢
    have g1 : decide (-(m : Int) < 0) = true := decide_eq_true h0
    have ew : IntKind.u64.wrap (-IntKind.u64.wrap (-(m : Int))) = (m : Int) := by rw [IntKind.wrap_u64, IntKind.wrap_u64]; omega
    have hsz : ¬ 9223372036854775807 < (⟨#[45]⟩ : ByteArray).size + (⟨l.toArray⟩ : ByteArray).size := by
      simp only [ByteArray.size, List.size_toArray, List.length_cons, List.length_nil]
      omega
    go_enter Tryd.func22, Tryd.ntmps22
    go_wp2_with (go_at_call 40; (with_reducible refine (hm _ (by omega) (by omega)).mono ?_); rintro e w1 ⟨rfl, b1⟩)
    go_ret
    exact ⟨ret_str (str_app [45] l), b1⟩
  · obtain ⟨m, rfl⟩ : ∃ m : Nat, n = (m : Int) := ⟨n.toNat, by omega⟩
    have hm := udigits_n m m
    have e1 : Lib.itoa (m : Int) = Lib.decDigits m := by
      unfold Lib.itoa
      rw [if_neg h0, Int.toNat_natCast]
    rw [e1]
    clear e1
    generalize Lib.decDigits m = l at hm ⊢
    have g1 : decide ((m : Int) < 0) = false := decide_eq_false h0
    go_enter Tryd.func22, Tryd.ntmps22
    go_wp2_with (go_at_call 40; (with_reducible refine (hm _ (by omega) (by omega)).mono ?_); rintro e w1 ⟨rfl, b1⟩)
    go_ret
    exact ⟨rfl, b1⟩
end Go.Proofs.YtalnnifmlhckbaaDoor
