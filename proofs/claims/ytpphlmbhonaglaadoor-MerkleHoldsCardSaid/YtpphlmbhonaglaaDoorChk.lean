/-
  What a check of a proof answers, plain, level by level.
-/
import Derived.Test.YtpphlmbhonaglaaDoorRPart
import Derived.Lib.Tables
namespace Go.Proofs.YtpphlmbhonaglaaDoor
open Go.RowKit
set_option linter.unusedSimpArgs false
def nb (x : Nat) : Nat := if x = 0 then 0 else x.log2 + 1
theorem len8_nb (i : Nat) (h : i < 256) : Lib.len8 (i : Int) = (nb i : Int) := (show ∀ i : Fin 256, Lib.len8 (i.1 : Int) = (nb i.1 : Int) by decide +kernel) ⟨i, h⟩
theorem nb_div (x k : Nat) (h : 2 ^ k ≤ x) : nb x = nb (x / 2 ^ k) + k := by
  have hp := Nat.two_pow_pos k
  have h1 : 1 ≤ x / 2 ^ k := (Nat.le_div_iff_mul_le hp).2 (by omega)
  have hl := Nat.log2_self_le (n := x / 2 ^ k) (by omega)
  have hu := Nat.lt_log2_self (n := x / 2 ^ k)
  unfold nb
  rw [if_neg (by omega), if_neg (by omega)]
  have : x.log2 = (x / 2 ^ k).log2 + k := by
    refine (Nat.log2_eq_iff (by omega)).2 ⟨?_, ?_⟩
    · rw [Nat.pow_add]; exact Nat.le_trans (Nat.mul_le_mul_right _ hl) (Nat.div_mul_le_self x _)
    · rw [Nat.add_right_comm, Nat.pow_add]; exact (Nat.div_lt_iff_lt_mul hp).1 hu
  omega
theorem wpList_index_len8 {P : Program} {w : World} {ops : Array Oper} {rest : List Oper} {o : Oper} {a : Act} {Q : Exit → Act → World → Prop} (hgd : o.guard = none) (t : TypeId) (s : ByteArray) (x : Operand) (ho : o.op = .index t (.const (.string s)) x) (hs : s = Lib.len8tab)
    (hu : P.underlying t = some .string) (k : IntKind) (i : Int) (hx : a.eval x = .int k i) (h0 : 0 ≤ i) (h1 : i ≤ 255) (h : wpList P ops Q rest (a.put o.dst (.int .u8 (Lib.len8 i))) w) : wpList P ops Q (o :: rest) a w := by
  subst hs
  refine wpList_plain hgd fun K hK => ?_
  have hr := Lib.run_index_len8tab (P := P) w t k i hu h0 h1
  have hc : a.eval (.const (.string Lib.len8tab)) = .string Lib.len8tab := rfl
  unfold Oper.wp execOp
  simp only [ho, hx, hc, Sem.run_bind, Sem.run_pure, Result.andThen_ok, hr]
  exact hK _ _ h
theorem nb_le (x : Nat) (h : x < 256) : nb x ≤ 8 := (show ∀ i : Fin 256, nb i.1 ≤ 8 by decide +kernel) ⟨x, h⟩
theorem len8_bounds (x : Int) (h0 : 0 ≤ x) (h : x < 256) : 0 ≤ Lib.len8 x ∧ Lib.len8 x ≤ 8 := by
  have e := len8_nb x.toNat (by omega)
  rw [Int.toNat_of_nonneg h0] at e
  have := nb_le x.toNat (by omega)
  omega
set_option maxRecDepth 100000 in
set_option maxHeartbeats 1000000 in
theorem len64_int (x : Int) (w : World) (h0 : 0 ≤ x) (h : x < 16777216) : Calls Tryd.prog 27 #[.int .u64 x] w fun e w' => e = .returned (.int .i64 (nb x.toNat : Int)) ∧ w = w' := by
  have c1 : decide ((4294967296 : Int) ≤ x) = false := decide_eq_false (by omega)
  by_cases h1 : 65536 ≤ x
  · have hn : nb x.toNat = nb (x / 65536).toNat + 16 := by
      have := nb_div x.toNat 16 (by omega)
      rw [this, show x.toNat / 2 ^ 16 = (x / 65536).toNat by omega]
    obtain ⟨y, hy⟩ : ∃ y, y = x / 65536 := ⟨_, rfl⟩
    rw [← hy] at hn
    have c2 : decide ((65536 : Int) ≤ x) = true := decide_eq_true h1
    have c3 : decide ((256 : Int) ≤ y) = false := decide_eq_false (by omega)
    have em : y % 256 = y := by omega
    have l := len8_bounds y (by omega) (by omega)
    have ln := len8_nb y.toNat (by omega)
    rw [Int.toNat_of_nonneg (by omega)] at ln
    have e1 : x / 65536 = y := hy.symm
    have y0 : 0 ≤ y := by omega
    have y1 : y ≤ 255 := by omega
    have LN := Lib.hid ln
    have HN := Lib.hid hn
    clear hy hn ln
    go_enter Tryd.func27, Tryd.ntmps27
    go_wp2_with ((with_reducible refine wpList_index_len8 rfl 9 _ _ rfl ?_ Tryd.underlying9 .u8 y ?_ (by omega) (by omega) ?_); (kernel_rfl); (rfl))
    go_ret
    exact ⟨ret_int (by have := HN.out; have := LN.out; omega), rfl⟩
  · have c2 : decide ((65536 : Int) ≤ x) = false := decide_eq_false h1
    by_cases h2 : 256 ≤ x
    · have hn : nb x.toNat = nb (x / 256).toNat + 8 := by
        have := nb_div x.toNat 8 (by omega)
        rw [this, show x.toNat / 2 ^ 8 = (x / 256).toNat by omega]
      obtain ⟨y, hy⟩ : ∃ y, y = x / 256 := ⟨_, rfl⟩
      rw [← hy] at hn
      have c3 : decide ((256 : Int) ≤ x) = true := decide_eq_true h2
      have em : y % 256 = y := by omega
      have l := len8_bounds y (by omega) (by omega)
      have ln := len8_nb y.toNat (by omega)
      rw [Int.toNat_of_nonneg (by omega)] at ln
      have e1 : x / 256 = y := hy.symm
      have y0 : 0 ≤ y := by omega
      have y1 : y ≤ 255 := by omega
      have LN := Lib.hid ln
      have HN := Lib.hid hn
      clear hy hn ln
      go_enter Tryd.func27, Tryd.ntmps27
      go_wp2_with ((with_reducible refine wpList_index_len8 rfl 9 _ _ rfl ?_ Tryd.underlying9 .u8 y ?_ (by omega) (by omega) ?_); (kernel_rfl); (rfl))
      go_ret
      exact ⟨ret_int (by have := HN.out; have := LN.out; omega), rfl⟩
    · have c3 : decide ((256 : Int) ≤ x) = false := decide_eq_false h2
      have em : x % 256 = x := by omega
      have l := len8_bounds x (by omega) (by omega)
      have ln := len8_nb x.toNat (by omega)
      rw [Int.toNat_of_nonneg (by omega)] at ln
      have LN := Lib.hid ln
      clear ln
      go_enter Tryd.func27, Tryd.ntmps27
      go_wp2_with ((with_reducible refine wpList_index_len8 rfl 9 _ _ rfl ?_ Tryd.underlying9 .u8 x ?_ (by omega) (by omega) ?_); (kernel_rfl); (rfl))
      go_ret
      exact ⟨ret_int (by have := LN.out; omega), rfl⟩
set_option maxHeartbeats 1000000 in
theorem len_int (x : Int) (w : World) (h0 : 0 ≤ x) (h : x < 16777216) : Calls Tryd.prog 16 #[.int .u64 x] w fun e w' => e = .returned (.int .i64 (nb x.toNat : Int)) ∧ w = w' := by
  go_enter Tryd.func16, Tryd.ntmps16
  go_wp2_with fail
  refine (len64_int x w h0 h).mono ?_
  rintro e w' ⟨rfl, rfl⟩
  go_wp2_with fail
  go_ret
  exact ⟨rfl, rfl⟩
end Go.Proofs.YtpphlmbhonaglaaDoor

namespace Go.Proofs.YtpphlmbhonaglaaDoor
open Go.RowKit
/-- p LEADS lf, the j-th of m, UP TO root, and is as long as the way. -/
def chk (root lf : List UInt8) (m j : Nat) (p : List (List UInt8)) : Bool := p.length == (Mk.dirs m j).length && Mk.led two lf (Mk.dirs m j) p == root
theorem chk_one (root lf : List UInt8) (p : List (List UInt8)) (j : Nat) : chk root lf 1 j p = (p.length == 0 && lf == root) := by
  unfold chk
  rw [Mk.dirs_one 1 j (by omega)]
  rfl
theorem chk_skip (root lf : List UInt8) (m j : Nat) (p : List (List UInt8)) (h2 : 2 ≤ m) (hj : j < m) (hs : ¬ Mk.sib j < m) : chk root lf m j p = chk root lf ((m + 1) / 2) (j / 2) p := by
  unfold chk
  rw [Mk.dirs_up m j h2 hj, if_neg hs, List.nil_append]
theorem chk_none (root lf : List UInt8) (m j : Nat) (h2 : 2 ≤ m) (hj : j < m) (hs : Mk.sib j < m) : chk root lf m j [] = false := by
  unfold chk
  rw [Mk.dirs_up m j h2 hj, if_pos hs]
  simp
theorem chk_take (root lf x : List UInt8) (m j : Nat) (p : List (List UInt8)) (h2 : 2 ≤ m) (hj : j < m) (hs : Mk.sib j < m) : chk root lf m j (x :: p) = chk root (if j % 2 == 0 then two lf x else two x lf) ((m + 1) / 2) (j / 2) p := by
  unfold chk
  rw [Mk.dirs_up m j h2 hj, if_pos hs]
  simp [Mk.led]
theorem chk_proof (hs : List (List UInt8)) (i : Nat) (hi : i < hs.length) : chk (rootS hs) (hs.getD i []) hs.length i (proofS hs i) = true := by
  have h1 := Mk.proof_length two (sha []) hs.length hs i rfl
  have h2 := Mk.led_proof two (sha []) hs.length hs i rfl hi
  rw [getD_any hs i (sha []) [] hi] at h2
  unfold chk proofS rootS
  rw [h1, h2]
  simp
theorem nb_zero : nb 0 = 0 := rfl
theorem nb_half (x : Nat) (h : 1 ≤ x) : nb x = nb (x / 2) + 1 := by
  by_cases h1 : x = 1
  · subst h1
    decide +kernel
  · have := nb_div x 1 (by rw [Nat.pow_one]; omega)
    rw [Nat.pow_one] at this
    exact this
theorem sib_side (j : Nat) : (j < Mk.sib j) = (j % 2 = 0) := by
  unfold Mk.sib
  split <;> simp <;> omega
end Go.Proofs.YtpphlmbhonaglaaDoor
