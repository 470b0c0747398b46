/-
  Rows of slices of bytes (of no program).
-/
import Derived.Test.YtppgafnepnkabaaBytes
namespace Go.Proofs.Ytppgafnepnkabaa
open Go.RowKit
/-- THE SLICE ao, n READS AS THE ROWS ps OF BYTES. -/
structure IsP (w : World) (ao : Option Addr) (n : Nat) (ps : List (List UInt8)) : Prop where
  len : ps.length = n
  has : 0 < n → ∃ a, ao = some a
  cell : ∀ a, ao = some a → ∀ j, j < n → ∃ bo bn bc, w.cell? (a.add j) = some (.slice bo bn bc) ∧ IsB w bo bn bc (ps.getD j [])
theorem IsP.past {w w' : World} {ao : Option Addr} {n : Nat} {ps : List (List UInt8)} (h : IsP w ao n ps) (hb : Below w.heap.size w w') : IsP w' ao n ps :=
  ⟨h.len, h.has, fun a ha j hj => by
    obtain ⟨bo, bn, bc, hc, hB⟩ := h.cell a ha j hj
    refine ⟨bo, bn, bc, ?_, hB.past hb⟩
    rw [hb.cell (World.block_lt_of_cell? w _ hc)]
    exact hc⟩
/-- A new row of slices of bytes. -/
theorem isP_lit (w : World) (t : TypeId) (vs : Array Value) (ps : List (List UInt8)) (n : Nat) (hn : ps.length = n) (hv : ∀ j, j < n → ∃ bo bn bc, vs[j]? = some (.slice bo bn bc) ∧ IsB w bo bn bc (ps.getD j [])) : IsP (w.alloc (.cells vs t)) (some ⟨w.heap.size, 0, none⟩) n ps :=
  ⟨hn, fun _ => ⟨_, rfl⟩, fun a ha j hj => by
    obtain rfl := Option.some.inj ha
    obtain ⟨bo, bn, bc, h1, h2⟩ := hv j hj
    refine ⟨bo, bn, bc, ?_, h2.alloc _⟩
    rw [Addr.add_lit, Nat.zero_add, cell_of_row _ _ _ _ t (0, 0) (heap_alloc_new w _), h1]⟩
end Go.Proofs.Ytppgafnepnkabaa
