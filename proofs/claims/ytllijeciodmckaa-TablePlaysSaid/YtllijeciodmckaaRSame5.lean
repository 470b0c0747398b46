/-
  The reference of chapter 5: Same.
-/
import Derived.Test.YtllijeciodmckaaSame
namespace Go.Proofs.Ytllijeciodmckaa
open Go.RowKit
set_option linter.unusedSimpArgs false
set_option maxRecDepth 100000 in
set_option maxHeartbeats 1000000 in
theorem rsame_any (ao : Option Addr) (n cap : Nat) (a : List V) (ao' : Option Addr) (n' cap' : Nat) (b : List V) (w : World) (ha : IsR EV w ao n cap a) (hb : IsR EV w ao' n' cap' b) :
    Calls Try.prog 25 #[.slice ao n cap, .slice ao' n' cap'] w (Told w (eqVs a b)) := by
  have hla := ha.len
  have hlb := hb.len
  have hmx := ha.max
  have hle := ha.le
  unfold maxLen at hmx
  by_cases hn : n = n'
  · subst hn
    go_enter Try.func25, Try.ntmps25
    go_wp2_with fail
    go_loopw [5] (fun i wr => ∃ j : Nat, j ≤ n ∧ i = .int .i64 (j : Nat) ∧ Below w.heap.size w wr ∧ Hid (eqVs a b = eqVs (a.drop j) (b.drop j))) (fun i _ => n - (intOf i).toNat)
    case atStart => exact ⟨0, by omega, rfl, Below.refl _ _, rfl⟩
    case round =>
      obtain ⟨j, hj, rfl, hB, hc⟩ := hrel
      by_cases hlt : j < n
      · obtain ⟨x, hx⟩ : ∃ x, a[j]? = some x := ⟨a[j]'(by omega), List.getElem?_eq_getElem _⟩
        obtain ⟨y, hy⟩ : ∃ y, b[j]? = some y := ⟨b[j]'(by omega), List.getElem?_eq_getElem _⟩
        obtain ⟨g1, off1, rfl, hb1, hc1⟩ := ha.open (by omega) (by decide)
        obtain ⟨g2, off2, rfl, hb2, hc2⟩ := hb.open (by omega) (by decide)
        obtain ⟨c0, c1, c2⟩ := cells_v hc1 j x hx
        obtain ⟨d0, d1, d2⟩ := cells_v hc2 j y hy
        rw [← hB.cell hb1] at c0 c1 c2
        rw [← hB.cell hb2] at d0 d1 d2
        have HD := hc.out.trans (eqVs_drop a b j x y hx hy)
        have hq := run_neq_val x.k x.n x.s y.k y.n y.s
        have hji : (j : Int) < n := by omega
        obtain ⟨k, m, s⟩ := x
        obtain ⟨k', m', s'⟩ := y
        simp only at c0 c1 c2 d0 d1 d2 hq
        simp only [V.eq] at HD
        cases q : eqV k m s k' m' s' <;> rw [q] at HD hq
        · have HD' := Lib.hid HD
          clear hc1 hc2 hx hy HD q ha hb
          go_wp2_with fail
          go_quiet (fail)
          go_wp2_with fail
          go_ret
          rw [HD'.out]
          exact ⟨rfl, below_drewN hB _⟩
        · have HD' := Lib.hid HD
          clear hc1 hc2 hx hy HD q ha hb
          go_wp2_with fail
          go_quiet (fail)
          go_wp2_with fail
          go_roundw
          case rel => exact ⟨j + 1, by omega, by go_num, below_drewN hB _, by unfold Hid; rw [HD'.out, Bool.true_and]⟩
          case measure => simp [intOf]; omega
      · obtain rfl : j = n := by omega
        rw [List.drop_eq_nil_of_le (by omega), List.drop_eq_nil_of_le (by omega)] at hc
        go_wp2_with fail
        go_ret
        rw [hc.out]
        exact ⟨rfl, hB⟩
  · rw [eqVs_len (by omega)]
    have hni : ¬ ((n : Int) = n') := by omega
    go_enter Try.func25, Try.ntmps25
    go_wp2_with fail
    go_ret
    exact ⟨rfl, Below.refl _ _⟩
end Go.Proofs.Ytllijeciodmckaa
