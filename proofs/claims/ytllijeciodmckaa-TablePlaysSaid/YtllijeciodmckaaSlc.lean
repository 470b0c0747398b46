/-
  Parts of slices of whatever: s[:c], s[c:], s[a:b], s[a:b:b], s[:0:0].
-/
import Derived.Test.YtllijeciodmckaaRow
namespace Go.Proofs.Ytllijeciodmckaa
open Go.RowKit
section
variable {α : Type} {E : Enc α} {w : World} {ao : Option Addr} {n cap : Nat} {l : List α} {P : Program} {t : TypeId}
theorem add_block (a : Addr) (k : Nat) : (a.add k).block = a.block := by unfold Addr.add; split <;> rfl
theorem add_add (a : Addr) (i j : Nat) : (a.add i).add j = a.add (i + j) := by
  unfold Addr.add
  by_cases hi : i = 0 <;> by_cases hj : j = 0 <;> simp [hi, hj, Nat.add_assoc]
/-- A part of a slice. -/
theorem IsR.part (h : IsR E w ao n cap l) (i j m : Nat) (hij : i ≤ j) (hjn : j ≤ n) (hm : j ≤ m) (hmc : m ≤ cap) :
    IsR E w (if m = i then ao else ao.map fun a => a.add (i * E.sz)) (j - i) (m - i) ((l.drop i).take (j - i)) := by
  have h1 := h.len
  have h2 := h.le
  have h3 := h.max
  refine ⟨by rw [List.length_take, List.length_drop]; omega, by omega, by omega, fun q => ?_, fun a ha k u hu => ?_⟩
  · split at q
    · have := h.nil q; omega
    · have := h.nil (by simpa using q); omega
  · rw [← E.all_take, List.getElem?_take] at hu
    split at hu
    · rename_i hk
      rw [← E.all_drop, List.getElem?_drop] at hu
      split at ha
      · have : j - i = 0 := by omega
        rw [this] at hk
        omega
      · obtain ⟨b, hb, rfl⟩ := Option.map_eq_some_iff.1 ha
        rw [add_add]
        exact h.cell b hb _ _ hu
    · cases hu
theorem Frm_part {B : Nat} (h : ∀ a, ao = some a → B ≤ a.block) (m i k : Nat) : ∀ a, (if m = i then ao else ao.map fun a => a.add k) = some a → B ≤ a.block := by
  intro a ha
  split at ha
  · exact h a ha
  · obtain ⟨b, hb, rfl⟩ := Option.map_eq_some_iff.1 ha
    rw [add_block]
    exact h b hb
theorem IsR.cut_h (h : IsR E w ao n cap l) (ht : P.underlying t = some (.slice (P.elem t))) (hz : ∀ w', (sizeOf (P.elem t)).run P w' = .ok E.sz w') (c : Nat) (hc : c ≤ n) :
    ∃ ao2, (∀ w', (Instr.slice t (.slice ao n cap) none (some (.int .i64 (c : Nat))) none).run P w' = .ok (.slice ao2 c cap) w') ∧ IsR E w ao2 c cap (l.take c) ∧ (∀ B : Nat, (∀ a, ao = some a → B ≤ a.block) → ∀ a, ao2 = some a → B ≤ a.block) := by
  have hle := h.le
  refine ⟨_, fun w' => ?_, ?_, fun B hB => Frm_part hB cap 0 (0 * E.sz)⟩
  · rw [run_slice_h w' t ao n cap ht .i64 (c : Int) (by omega) (by omega), hz]
    simp only [Result.andThen, sliced, Int.toNat_natCast, Nat.sub_zero]
  · simpa using h.part 0 c cap (Nat.zero_le _) hc (by omega) (Nat.le_refl _)
theorem IsR.cut_l (h : IsR E w ao n cap l) (ht : P.underlying t = some (.slice (P.elem t))) (hz : ∀ w', (sizeOf (P.elem t)).run P w' = .ok E.sz w') (c : Nat) (hc : c ≤ n) :
    ∃ ao2, (∀ w', (Instr.slice t (.slice ao n cap) (some (.int .i64 (c : Nat))) none none).run P w' = .ok (.slice ao2 (n - c) (cap - c)) w') ∧ IsR E w ao2 (n - c) (cap - c) (l.drop c) ∧ (∀ B : Nat, (∀ a, ao = some a → B ≤ a.block) → ∀ a, ao2 = some a → B ≤ a.block) := by
  have hle := h.le
  have hln := h.len
  refine ⟨_, fun w' => ?_, ?_, fun B hB => Frm_part hB cap c (c * E.sz)⟩
  · rw [run_slice_l w' t ao n cap ht .i64 (c : Int) (by omega) (by omega), hz]
    simp only [Result.andThen, sliced, Int.toNat_natCast]
  · have := h.part c n cap hc (Nat.le_refl _) hle (Nat.le_refl _)
    rwa [List.take_of_length_le (by rw [List.length_drop]; omega)] at this
theorem IsR.cut_lh (h : IsR E w ao n cap l) (ht : P.underlying t = some (.slice (P.elem t))) (hz : ∀ w', (sizeOf (P.elem t)).run P w' = .ok E.sz w') (c d : Nat) (hc : c ≤ d) (hd : d ≤ n) :
    ∃ ao2, (∀ w', (Instr.slice t (.slice ao n cap) (some (.int .i64 (c : Nat))) (some (.int .i64 (d : Nat))) none).run P w' = .ok (.slice ao2 (d - c) (cap - c)) w') ∧ IsR E w ao2 (d - c) (cap - c) ((l.drop c).take (d - c)) ∧ (∀ B : Nat, (∀ a, ao = some a → B ≤ a.block) → ∀ a, ao2 = some a → B ≤ a.block) := by
  have hle := h.le
  refine ⟨_, fun w' => ?_, ?_, fun B hB => Frm_part hB cap c (c * E.sz)⟩
  · rw [run_slice_lh w' t ao n cap ht .i64 .i64 (c : Int) (d : Int) (by omega) (by omega) (by omega), hz]
    simp only [Result.andThen, sliced, Int.toNat_natCast]
  · exact h.part c d cap hc hd (by omega) (Nat.le_refl _)
theorem IsR.cut_lhm (h : IsR E w ao n cap l) (ht : P.underlying t = some (.slice (P.elem t))) (hz : ∀ w', (sizeOf (P.elem t)).run P w' = .ok E.sz w') (c d : Nat) (hc : c ≤ d) (hd : d ≤ n) :
    ∃ ao2, (∀ w', (Instr.slice t (.slice ao n cap) (some (.int .i64 (c : Nat))) (some (.int .i64 (d : Nat))) (some (.int .i64 (d : Nat)))).run P w' = .ok (.slice ao2 (d - c) (d - c)) w') ∧ IsR E w ao2 (d - c) (d - c) ((l.drop c).take (d - c)) ∧ (∀ B : Nat, (∀ a, ao = some a → B ≤ a.block) → ∀ a, ao2 = some a → B ≤ a.block) := by
  have hle := h.le
  refine ⟨_, fun w' => ?_, ?_, fun B hB => Frm_part hB d c (c * E.sz)⟩
  · rw [run_slice_lhm w' t ao n cap ht .i64 .i64 .i64 (c : Int) (d : Int) (d : Int) (by omega) (by omega) (by omega) (by omega), hz]
    simp only [Result.andThen, sliced, Int.toNat_natCast]
  · exact h.part c d d hc hd (Nat.le_refl _) (by omega)
end
end Go.Proofs.Ytllijeciodmckaa
