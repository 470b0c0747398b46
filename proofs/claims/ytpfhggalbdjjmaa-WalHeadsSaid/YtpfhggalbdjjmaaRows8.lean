/-
  The law's own 'rows', of two rows that are the same.
-/
import Derived.Test.YtpfhggalbdjjmaaLaw8
import Derived.Test.YtpfhggalbdjjmaaIsP
import Derived.Deep.RegionHeld3
namespace Go.Proofs.Ytpfhggalbdjjmaa
open Go.RowKit

theorem IsP.open {w : World} {ao : Option Addr} {n : Nat} {ps : List (List UInt8)} (h : IsP w ao n ps) (hn : 0 < n) :
    ∃ b off, ao = some ⟨b, off, none⟩ ∧ ∀ j, j < n → ∃ bo bn bc, w.cell? ⟨b, off + j, none⟩ = some (.slice bo bn bc) ∧ IsB w bo bn bc (ps.getD j []) := by
  obtain ⟨⟨b, off, spot⟩, rfl⟩ := h.has hn
  obtain ⟨bo, bn, bc, h0, _⟩ := h.cell _ rfl 0 hn
  have hspot : spot = none := by simpa [Addr.add] using World.cell?_spot h0
  subst hspot
  refine ⟨b, off, rfl, fun j hj => ?_⟩
  obtain ⟨bo, bn, bc, h1, h2⟩ := h.cell _ rfl j hj
  rw [Addr.add_lit] at h1
  exact ⟨bo, bn, bc, h1, h2⟩
set_option maxRecDepth 100000 in
set_option maxHeartbeats 1000000 in
theorem rows_eq (w : World) (ao bo : Option Addr) (n ca cb : Nat) (ps : List (List UInt8)) (ha : IsP w ao n ps) (hb : IsP w bo n ps) (hn : n ≤ 1000000) :
    Calls Try.prog 19 #[.slice ao n ca, .slice bo n cb] w (Told w true) := by
  go_enter Try.func19, Try.ntmps19
  go_wp2_with fail
  go_loopw [5] (fun i wr => ∃ j : Nat, j ≤ n ∧ i = .int .i64 (j : Nat) ∧ Below w.heap.size w wr) (fun i _ => n - (intOf i).toNat)
  case atStart => exact ⟨0, by omega, rfl, Below.refl _ _⟩
  case round =>
    obtain ⟨j, hj, rfl, hB⟩ := hrel
    by_cases hlt : j < n
    · have hlti : (j : Int) < (n : Int) := by omega
      obtain ⟨b1, f1, rfl, h1⟩ := (ha.past hB).open (by omega)
      obtain ⟨b2, f2, rfl, h2⟩ := (hb.past hB).open (by omega)
      obtain ⟨o1, n1, c1, d1, i1⟩ := h1 j hlt
      obtain ⟨o2, n2, c2, d2, i2⟩ := h2 j hlt
      have v1 := i1.drew.conv byteTy Try.underlying9
      have v2 := i2.drew.conv byteTy Try.underlying9
      have v1' := fun q => (i1.past (below_drewN (Below.refl _ _) q)).conv byteTy Try.underlying9
      have v2' := fun q => (i2.past (below_drewN (Below.refl _ _) q)).conv byteTy Try.underlying9
      clear h1 h2
      go_wp2_with fail
      go_region_held3 (fun w' => (convert 31 9 (.slice o1 n1 c1)).run Try.prog w' = .ok (.string ⟨(ps.getD j []).toArray⟩) w' ∧ (convert 31 9 (.slice o2 n2 c2)).run Try.prog w' = .ok (.string ⟨(ps.getD j []).toArray⟩) w' ∧ w'.cell? ⟨b1, f1 + j, none⟩ = some (.slice o1 n1 c1) ∧ w'.cell? ⟨b2, f2 + j, none⟩ = some (.slice o2 n2 c2))
        (first | exact ⟨v1, v2, d1, d2⟩) (fail)
      all_goals
        go_wp2_with fail
        go_roundw
        case rel => exact ⟨j + 1, by omega, by go_num, hB.drew⟩
        case measure => simp [intOf]; omega
    · have hlti : ¬ ((j : Int) < (n : Int)) := by omega
      go_wp2_with fail
      go_ret
      exact ⟨rfl, hB⟩
end Go.Proofs.Ytpfhggalbdjjmaa
