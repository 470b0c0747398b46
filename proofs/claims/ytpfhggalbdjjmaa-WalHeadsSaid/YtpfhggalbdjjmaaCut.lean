/-
  Pieces of a slice that reads as bytes.
-/
import Derived.Test.YtpfhggalbdjjmaaBytes
import Derived.Laws.Slices
namespace Go.Proofs.Ytpfhggalbdjjmaa
open Go.RowKit

theorem IsB_take {w : World} {ao : Option Addr} {n cap m : Nat} {l : List UInt8} (h : IsB w ao n cap l) (hm : m ≤ n) : IsB w ao m cap (l.take m) := by
  have h1 := h.len
  have h2 := h.le
  refine ⟨by rw [List.length_take]; omega, by omega, h.max, h.nil, fun a ha j u hu => h.cell a ha j u ?_⟩
  rw [List.getElem?_take] at hu
  split at hu
  · exact hu
  · cases hu
theorem IsB_drop {w : World} {ao : Option Addr} {n cap m : Nat} {l : List UInt8} (h : IsB w ao n cap l) (hm : m ≤ n) : IsB w (Option.map (fun x => x.add m) ao) (n - m) (cap - m) (l.drop m) := by
  have h1 := h.len
  have h2 := h.le
  have h3 := h.max
  refine ⟨by rw [List.length_drop]; omega, by omega, by omega, fun hn => ?_, fun a ha j u hu => ?_⟩
  · have := h.nil (by simpa using hn)
    omega
  · obtain ⟨b, rfl, rfl⟩ := Option.map_eq_some_iff.1 ha
    rw [Addr.add_add]
    rw [List.getElem?_drop] at hu
    exact h.cell b rfl _ u hu
theorem IsB_end {w : World} {ao : Option Addr} {n cap : Nat} {l : List UInt8} (h : IsB w ao n cap l) : IsB w ao 0 0 (l.drop n) := by
  have h1 := h.len
  rw [List.drop_eq_nil_of_le (by omega)]
  exact ⟨rfl, Nat.le_refl _, Nat.zero_le _, fun _ => rfl, fun a ha j u hu => by cases hu⟩
theorem block_add (a : Addr) (m : Nat) : (a.add m).block = a.block := by unfold Addr.add; split <;> rfl
/-- 'p[c:]'. -/
theorem IsB_cut {P : Program} {w : World} {ao : Option Addr} {n cap : Nat} {l : List UInt8} {t : TypeId} (h : IsB w ao n cap l) (ht : P.underlying t = some (.slice (P.elem t))) (hz : ∀ w' : World, (sizeOf (P.elem t)).run P w' = .ok 1 w') (c : Nat) (hc : c ≤ n) :
    ∃ ao2, (∀ w' : World, (Instr.slice t (.slice ao n cap) (some (.int .i64 c)) none none).run P w' = .ok (.slice ao2 (n - c) (cap - c)) w') ∧ IsB w ao2 (n - c) (cap - c) (l.drop c) ∧ (∀ a2, ao2 = some a2 → ∃ a, ao = some a ∧ a2.block = a.block) := by
  have hle := h.le
  have hrun : ∀ w' : World, (Instr.slice t (.slice ao n cap) (some (.int .i64 c)) none none).run P w' = .ok (sliced ao c n cap 1) w' := fun w' => by
    rw [run_slice_l w' t ao n cap ht .i64 (c : Int) (by omega) (by omega), hz]
    simp [Result.andThen]
  by_cases he : cap = c
  · have hn : n = c := by omega
    refine ⟨ao, fun w' => by rw [hrun, sliced, if_pos he], ?_, fun a2 h2 => ⟨a2, h2, rfl⟩⟩
    subst he
    subst hn
    rw [Nat.sub_self]
    exact IsB_end h
  · refine ⟨ao.map fun x => x.add c, fun w' => by rw [hrun, sliced, if_neg he]; simp, IsB_drop h hc, fun a2 h2 => ?_⟩
    obtain ⟨b, hb, rfl⟩ := Option.map_eq_some_iff.1 h2
    exact ⟨b, hb, block_add b c⟩
end Go.Proofs.Ytpfhggalbdjjmaa
