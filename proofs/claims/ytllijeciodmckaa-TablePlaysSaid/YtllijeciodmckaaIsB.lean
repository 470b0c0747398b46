/-
  A row of bytes that came in. Of no program.
-/
import Derived.Test.YtllijeciodmckaaBytes
import Derived.OpenShut
namespace Go.Proofs.Ytllijeciodmckaa
open Go.RowKit

theorem isB_of_row {w : World} {a : Option Addr} {len cap : Nat} {zs : List Int}
    (h : (a = none ∧ len = 0 ∧ cap = 0 ∧ zs = []) ∨ ∃ x, a = some x ∧ len ≤ cap ∧ cap ≤ maxLen ∧ zs.length = cap ∧ (∀ i, i < zs.length → w.cell? (x.add i) = some (.int .u8 (zs.getD i 0))) ∧ ∀ n ∈ zs, (Lit.int .u8 n).wf = true) :
    ∃ l, IsB w a len cap l := by
  rcases h with ⟨rfl, rfl, rfl, rfl⟩ | ⟨x, rfl, h1, h2, h3, h4, h5⟩
  · exact ⟨[], IsB.nilB w⟩
  · refine ⟨(zs.take len).map fun n => UInt8.ofNat n.toNat, by simp; omega, h1, h2, fun h => (by cases h), fun a ha j u hu => ?_⟩
    obtain rfl := Option.some.inj ha
    rw [List.getElem?_map] at hu
    obtain ⟨z, hz, rfl⟩ := Option.map_eq_some_iff.1 hu
    have hj : j < zs.length := by
      have := (List.getElem?_eq_some_iff.1 hz).1
      simp at this
      omega
    have hz' : zs[j]? = some z := by
      rw [List.getElem?_take] at hz
      split at hz
      · exact hz
      · cases hz
    rw [h4 j hj]
    have hg : zs.getD j 0 = z := by simp [List.getD, hz']
    have hw := h5 z (List.mem_of_getElem? hz')
    have hb := bounds_u8 hw
    rw [hg, bc]
    simp only [Option.some.injEq, Value.int.injEq, true_and, UInt8.toNat_ofNat']
    omega

theorem u8_of {a : Int} (h : (Lit.int .u8 a).wf = true) : ∃ u : UInt8, a = (u.toNat : Int) := by
  have := bounds_u8 h
  exact ⟨UInt8.ofNat a.toNat, by rw [UInt8.toNat_ofNat']; omega⟩
end Go.Proofs.Ytllijeciodmckaa
