/-
  row.Same.
-/
import Derived.Test.YtllijeciodmckaaV
import Derived.Deep.QuietTactic
import Derived.BigQuiet
namespace Go.Proofs.Ytllijeciodmckaa
open Go.RowKit

/-- Whether two rows are the same. -/
def V.eq (x y : V) : Bool := eqV x.k x.n x.s y.k y.n y.s
def eqVs : List V → List V → Bool
  | [], [] => true
  | x :: a, y :: b => x.eq y && eqVs a b
  | _, _ => false
theorem toList_inj (s t : ByteArray) (h : s.toList = t.toList) : s = t := by
  rw [ByteArray.toList_eq, ByteArray.toList_eq] at h
  apply ByteArray.ext
  exact Array.ext' h
theorem V.eq_iff (x y : V) : x.eq y = true ↔ x = y := by
  obtain ⟨k, n, s⟩ := x
  obtain ⟨k', n', s'⟩ := y
  simp only [V.eq, eqV, Bool.and_eq_true, beq_iff_eq, V.mk.injEq]
  constructor
  · rintro ⟨h1, h2, h3⟩
    exact ⟨h1, h2, toList_inj _ _ h3⟩
  · rintro ⟨h1, h2, h3⟩
    exact ⟨h1, h2, by rw [h3]⟩
theorem eqVs_iff : ∀ a b : List V, eqVs a b = true ↔ a = b
  | [], [] => by simp [eqVs]
  | [], _ :: _ => by simp [eqVs]
  | _ :: _, [] => by simp [eqVs]
  | x :: a, y :: b => by simp only [eqVs, Bool.and_eq_true, V.eq_iff, eqVs_iff a b, List.cons.injEq]
theorem eqVs_len {a b : List V} (h : a.length ≠ b.length) : eqVs a b = false := by
  cases q : eqVs a b
  · rfl
  · exact absurd (congrArg List.length ((eqVs_iff a b).1 q)) h
theorem eqVs_drop (a b : List V) (j : Nat) (x y : V) (hx : a[j]? = some x) (hy : b[j]? = some y) : eqVs (a.drop j) (b.drop j) = (x.eq y && eqVs (a.drop (j + 1)) (b.drop (j + 1))) := by
  obtain ⟨h1, rfl⟩ := List.getElem?_eq_some_iff.1 hx
  obtain ⟨h2, rfl⟩ := List.getElem?_eq_some_iff.1 hy
  rw [List.drop_eq_getElem_cons h1, List.drop_eq_getElem_cons h2, eqVs]
set_option maxRecDepth 100000 in
theorem run_neq_val (k n : Int) (s : ByteArray) (k' n' : Int) (s' : ByteArray) (w : World) :
    (binOp .neq 55 (vv k n s) (vv k' n' s')).run Try.prog w = .ok (.bool !(eqV k n s k' n' s')) w := by
  unfold vv eqV
  go_simp
  by_cases h1 : k = k' <;> by_cases h2 : n = n' <;> by_cases h3 : s.toList = s'.toList <;> simp [h1, h2, h3]
set_option maxRecDepth 100000 in
set_option maxHeartbeats 1000000 in
theorem equal_any (ao : Option Addr) (n cap : Nat) (a : List V) (ao' : Option Addr) (n' cap' : Nat) (b : List V) (w : World) (ha : IsR EV w ao n cap a) (hb : IsR EV w ao' n' cap' b) :
    Calls Try.prog 138 #[.slice ao n cap, .slice ao' n' cap'] w (Told w (eqVs a b)) := by
  have hla := ha.len
  have hlb := hb.len
  have hmx := ha.max
  have hle := ha.le
  unfold maxLen at hmx
  by_cases hn : n = n'
  · subst hn
    go_enter Try.func138, Try.ntmps138
    go_wp2_with fail
    go_loopw [13] (fun i wr => ∃ j : Nat, j ≤ n ∧ i = .int .i64 (j : Nat) ∧ Below w.heap.size w wr ∧ Hid (eqVs a b = eqVs (a.drop j) (b.drop j))) (fun i _ => n - (intOf i).toNat)
    case atStart => exact ⟨0, by omega, rfl, Below.refl _ _, rfl⟩
    case round =>
      obtain ⟨j, hj, rfl, hB, hc⟩ := hrel
      by_cases hlt : j < n
      · obtain ⟨x, hx⟩ : ∃ x, a[j]? = some x := ⟨a[j]'(by omega), List.getElem?_eq_getElem _⟩
        obtain ⟨y, hy⟩ : ∃ y, b[j]? = some y := ⟨b[j]'(by omega), List.getElem?_eq_getElem _⟩
        obtain ⟨g1, off1, rfl, hb1, hc1⟩ := ha.open (by omega) (by decide)
        obtain ⟨g2, off2, rfl, hb2, hc2⟩ := hb.open (by omega) (by decide)
        obtain ⟨c0, c1, c2⟩ := cells_v hc1 j x hx
        obtain ⟨d0, d1, d2⟩ := cells_v hc2 j y hy
        rw [← hB.cell hb1] at c0 c1 c2
        rw [← hB.cell hb2] at d0 d1 d2
        have HD := hc.out.trans (eqVs_drop a b j x y hx hy)
        have hq := run_neq_val x.k x.n x.s y.k y.n y.s
        have hji : (j : Int) < n := by omega
        obtain ⟨k, m, s⟩ := x
        obtain ⟨k', m', s'⟩ := y
        simp only at c0 c1 c2 d0 d1 d2 hq
        simp only [V.eq] at HD
        cases q : eqV k m s k' m' s' <;> rw [q] at HD hq
        · have HD' := Lib.hid HD
          clear hc1 hc2 hx hy HD q ha hb
          go_wp2_with fail
          go_quiet (fail)
          go_wp2_with fail
          go_ret
          rw [HD'.out]
          exact ⟨rfl, below_drewN hB _⟩
        · have HD' := Lib.hid HD
          clear hc1 hc2 hx hy HD q ha hb
          go_wp2_with fail
          go_quiet (fail)
          go_wp2_with fail
          go_roundw
          case rel => exact ⟨j + 1, by omega, by go_num, below_drewN hB _, by unfold Hid; rw [HD'.out, Bool.true_and]⟩
          case measure => simp [intOf]; omega
      · obtain rfl : j = n := by omega
        rw [List.drop_eq_nil_of_le (by omega), List.drop_eq_nil_of_le (by omega)] at hc
        go_wp2_with fail
        go_ret
        rw [hc.out]
        exact ⟨rfl, hB⟩
  · rw [eqVs_len (by omega)]
    have hni : ¬ ((n : Int) = n') := by omega
    go_enter Try.func138, Try.ntmps138
    go_wp2_with fail
    go_ret
    exact ⟨rfl, Below.refl _ _⟩
set_option maxRecDepth 100000 in
theorem same_any (ao : Option Addr) (n cap : Nat) (a : List V) (ao' : Option Addr) (n' cap' : Nat) (b : List V) (w : World) (ha : IsR EV w ao n cap a) (hb : IsR EV w ao' n' cap' b) :
    Calls Try.prog 85 #[.slice ao n cap, .slice ao' n' cap'] w (Told w (eqVs a b)) := by
  go_enter Try.func85, Try.ntmps85
  go_wp2_with (go_at_call 138; (with_reducible refine (equal_any ao n cap a ao' n' cap' b _ ha hb).mono ?_); rintro e w1 ⟨rfl, b1⟩)
  go_ret
  exact ⟨rfl, b1⟩
end Go.Proofs.Ytllijeciodmckaa
