/-
  wal.cut: the record at the front of bytes, and what stands behind it.
-/
import Derived.Test.YtpfhggalbdjjmaaWHead
import Derived.Test.YtpfhggalbdjjmaaRecs
namespace Go.Proofs.Ytpfhggalbdjjmaa
open Go.RowKit

/-- How long the record at the front says it is. -/
def cutM (l : List UInt8) : Nat := num (l.take 8)
/-- Does a record lie there whole? -/
def cutOK (l : List UInt8) : Prop := 8 ≤ l.length ∧ cutM l ≤ l.length - 8
instance (l : List UInt8) : Decidable (cutOK l) := inferInstanceAs (Decidable (8 ≤ l.length ∧ cutM l ≤ l.length - 8))
def cutA (l : List UInt8) : List UInt8 := (l.drop 8).take (cutM l)
def cutB (l : List UInt8) : List UInt8 := (l.drop 8).drop (cutM l)
theorem num_8 (l : List UInt8) : num (l.take 8) < 18446744073709551616 := by
  have h1 := num_lt (l.take 8)
  have h2 : (l.take 8).length ≤ 8 := by rw [List.length_take]; omega
  have h3 : 256 ^ (l.take 8).length ≤ 256 ^ 8 := Nat.pow_le_pow_right (by omega) h2
  omega
theorem wrap_small (x : Nat) (h : x < 9223372036854775808) : wrap64 (x : Int) = x := IntWalk.wrap64_in _ (by omega)
theorem wrap_neg (x : Nat) (h : 9223372036854775808 ≤ x) (h2 : x < 18446744073709551616) : wrap64 (x : Int) < 0 := by unfold wrap64; omega
/-- No record is told. -/
def CutNo (w : World) (en : Ending) (w' : World) : Prop := en = .returned (.tuple #[.slice none 0 0, .slice none 0 0, .int .i64 10]) ∧ Below w.heap.size w w'
/-- The record and the rest are told: parts of what was handed in. -/
def CutYes (w : World) (ao : Option Addr) (l : List UInt8) (en : Ending) (w' : World) : Prop :=
  ∃ ro rn rc so sn sc, en = .returned (.tuple #[.slice ro rn rc, .slice so sn sc, .int .i64 0]) ∧ IsB w' ro rn rc (cutA l) ∧ IsB w' so sn sc (cutB l) ∧ Below w.heap.size w w' ∧
    (∀ a2, so = some a2 → ∃ a, ao = some a ∧ a2.block = a.block)
set_option maxRecDepth 100000 in
set_option maxHeartbeats 1000000 in
theorem cut_no (ao : Option Addr) (n cap : Nat) (l : List UInt8) (w : World) (h : IsB w ao n cap l) (hn : n ≤ 1000000) (hc : ¬ cutOK l) :
    Calls Try.prog 68 #[.slice ao n cap] w (CutNo w) := by
  have hl := h.len
  by_cases h8 : n < 8
  · have h8i : (n : Int) < 8 := by omega
    go_enter Try.func68, Try.ntmps68
    go_wp2_with fail
    go_ret3
    exact ⟨rfl, Below.refl _ _⟩
  · have h8i : ¬ ((n : Int) < 8) := by omega
    have i1 := IsB_take h (m := 8) (by omega)
    obtain ⟨a2, r2, i2, _⟩ := IsB_cut h (P := Try.prog) (t := 31) (by kernel_rfl) elemT 8 (by omega)
    replace r2 : ∀ w' : World, (Instr.slice 31 (.slice ao n cap) (some (.int .i64 8)) none none).run Try.prog w' = .ok (.slice a2 (n - 8) (cap - 8)) w' := r2
    have hcap : (8 : Int) ≤ (cap : Int) := by have := h.le; omega
    have hl8 : (l.take 8).length = 8 := by rw [List.length_take]; omega
    obtain ⟨m, HM, hm⟩ : ∃ m, Hid (wrap64 (num ((l.take 8).take 8)) = m) ∧ (m < 0 ∨ ((n - 8 : Nat) : Int) < m) := by
      refine ⟨_, rfl, ?_⟩
      rw [List.take_take, Nat.min_self]
      have h1 := num_8 l
      unfold cutOK cutM at hc
      rcases Nat.lt_or_ge (num (l.take 8)) 9223372036854775808 with h2 | h2
      · right
        rw [wrap_small _ h2]
        omega
      · exact .inl (wrap_neg _ h2 h1)
    clear hc hl
    go_enter Try.func68, Try.ntmps68
    by_cases h0 : m < 0
    · go_wp2_with (first
        | (go_at_call 66; refine (new_any ao 8 cap _ _ i1 (by omega)).mono ?_; rintro en w2 ⟨g, D, rfl, R2, b2, q2, d2⟩)
        | (go_at_call 67; refine (rInt_yes g D _ (by rw [hl8]; omega) _ R2).mono ?_; rintro en w3 ⟨rfl, R3, k3⟩; rw [HM.out]))
      go_ret3
      exact ⟨rfl, below_gr b2 k3 q2⟩
    · have h1 : ((n - 8 : Nat) : Int) < m := by omega
      have h0d : decide (m < 0) = false := decide_eq_false h0
      go_wp2_with (first
        | (go_at_call 66; refine (new_any ao 8 cap _ _ i1 (by omega)).mono ?_; rintro en w2 ⟨g, D, rfl, R2, b2, q2, d2⟩)
        | (go_at_call 67; refine (rInt_yes g D _ (by rw [hl8]; omega) _ R2).mono ?_; rintro en w3 ⟨rfl, R3, k3⟩; rw [HM.out]))
      go_ret3
      exact ⟨rfl, below_gr b2 k3 q2⟩
set_option maxRecDepth 100000 in
set_option maxHeartbeats 1000000 in
theorem cut_yes (ao : Option Addr) (n cap : Nat) (l : List UInt8) (w : World) (h : IsB w ao n cap l) (hn : n ≤ 1000000) (hc : cutOK l) :
    Calls Try.prog 68 #[.slice ao n cap] w (CutYes w ao l) := by
  have hl := h.len
  obtain ⟨h8, hm1⟩ := hc
  have h8i : ¬ ((n : Int) < 8) := by omega
  have i1 := IsB_take h (m := 8) (by omega)
  obtain ⟨a2, r2, i2, e2⟩ := IsB_cut h (P := Try.prog) (t := 31) (by kernel_rfl) elemT 8 (by omega)
  replace r2 : ∀ w' : World, (Instr.slice 31 (.slice ao n cap) (some (.int .i64 8)) none none).run Try.prog w' = .ok (.slice a2 (n - 8) (cap - 8)) w' := r2
  have hcap : (8 : Int) ≤ (cap : Int) := by have := h.le; omega
  have hl8 : (l.take 8).length = 8 := by rw [List.length_take]; omega
  obtain ⟨m, hm⟩ : ∃ m : Nat, cutM l = m := ⟨_, rfl⟩
  rw [hm] at hm1
  have HM : Hid (wrap64 (num ((l.take 8).take 8)) = (m : Int)) := by
    unfold Hid
    rw [List.take_take, Nat.min_self]
    have e : num (l.take 8) = m := hm
    rw [e]
    exact wrap_small m (by omega)
  have hmn : m ≤ n - 8 := by omega
  have i3 := IsB_take i2 hmn
  obtain ⟨a4, r4, i4, e4⟩ := IsB_cut i2 (P := Try.prog) (t := 31) (by kernel_rfl) elemT m hmn
  have EA : Hid ((l.drop 8).take m = cutA l) := by unfold Hid cutA; rw [hm]
  have EB : Hid ((l.drop 8).drop m = cutB l) := by unfold Hid cutB; rw [hm]
  have hmc : (m : Int) ≤ ((cap - 8 : Nat) : Int) := by have := i2.le; omega
  have h0 : ¬ ((m : Int) < 0) := by omega
  have h0d : decide ((m : Int) < 0) = false := decide_eq_false h0
  have h1 : ¬ (((n - 8 : Nat) : Int) < (m : Int)) := by omega
  clear hm hm1 hl h8
  go_enter Try.func68, Try.ntmps68
  go_wp2_with (first
    | (go_at_call 66; refine (new_any ao 8 cap _ _ i1 (by omega)).mono ?_; rintro en w2 ⟨g, D, rfl, R2, b2, q2, d2⟩)
    | (go_at_call 67; refine (rInt_yes g D _ (by rw [hl8]; omega) _ R2).mono ?_; rintro en w3 ⟨rfl, R3, k3⟩; rw [HM.out]))
  go_quiet (fail)
  go_wp2_with fail
  go_ret3
  have B := below_gr b2 k3 q2
  have BD : Below w.heap.size w (w3.drewN nq) := below_drewN B nq
  refine ⟨_, _, _, _, _, _, rfl, ?_, ?_, BD, fun a h4 => ?_⟩
  · rw [← EA.out]; exact i3.past BD
  · rw [← EB.out]; exact i4.past BD
  · obtain ⟨x, hx, hb⟩ := e4 a h4
    obtain ⟨y, hy, hc⟩ := e2 x hx
    exact ⟨y, hy, hb.trans hc⟩
end Go.Proofs.Ytpfhggalbdjjmaa
