/-
  Columns, schemas: how they lie in cells.
-/
import Derived.Test.YtllijeciodmckaaRow
import Derived.Test.YtllijeciodmckaaBs
import Derived.Test.YtllijeciodmckaaCb
import Derived.Test.YtllijeciodmckaaTy
namespace Go.Proofs.Ytllijeciodmckaa
open Go.RowKit

/-- A column. -/
structure Co where
  name : List UInt8
  kind : Int
  null : Bool
def Co.cells (c : Co) : List Value := [.string (bsOf c.name), .int .i64 c.kind, .bool c.null]
def encCo : Enc Co where
  sz := 3
  f := Co.cells
  len _ := rfl
  one c u hu := by
    simp only [Co.cells, List.mem_cons, List.not_mem_nil, or_false] at hu
    rcases hu with rfl | rfl | rfl <;> rfl
/-- The element j's three cells. -/
theorem cells_co {cs : List Co} {w : World} {b off : Nat} (hc : ∀ j u, (encCo.all cs)[j]? = some u → w.cell? ⟨b, off + j, none⟩ = some u) (j : Nat) (c : Co) (hj : cs[j]? = some c) :
    w.cell? ⟨b, off + j * 3, none⟩ = some (.string (bsOf c.name)) ∧ w.cell? ⟨b, off + j * 3 + 1, none⟩ = some (.int .i64 c.kind) ∧ w.cell? ⟨b, off + j * 3 + 2, none⟩ = some (.bool c.null) := by
  have h0 := hc _ _ ((Enc.all_get encCo cs j 0 c hj (by decide)).trans rfl)
  have h1 := hc _ _ ((Enc.all_get encCo cs j 1 c hj (by decide)).trans rfl)
  have h2 := hc _ _ ((Enc.all_get encCo cs j 2 c hj (by decide)).trans rfl)
  exact ⟨h0, by rw [Nat.add_assoc]; exact h1, by rw [Nat.add_assoc]; exact h2⟩
/-- A schema. -/
structure Sc where
  name : List UInt8
  cols : List Co
  key : Int
  only : Bool
def scV (l : List UInt8) (ao : Option Addr) (n c : Nat) (key : Int) (only : Bool) : Value := .agg #[.string (bsOf l), .slice ao n c, .int .i64 key, .bool only]
/-- A schema's variable lies in block p. -/
def ScB (w : World) (p : Nat) (l : List UInt8) (ao : Option Addr) (n c : Nat) (key : Int) (only : Bool) : Prop := w.heap[p]? = some (.cells #[.string (bsOf l), .slice ao n c, .int .i64 key, .bool only] 40 (0, 0))
/-- A column's variable lies in block p. -/
def CoB (w : World) (p : Nat) (x : Co) : Prop := w.heap[p]? = some (.cells #[.string (bsOf x.name), .int .i64 x.kind, .bool x.null] 156 (0, 0))
theorem ScB.lt {w : World} {p : Nat} {l : List UInt8} {ao : Option Addr} {n c : Nat} {key : Int} {only : Bool} (h : ScB w p l ao n c key only) : p < w.heap.size := (Array.getElem?_eq_some_iff.1 h).1
theorem ScB.past {w w' : World} {p : Nat} {l : List UInt8} {ao : Option Addr} {n c : Nat} {key : Int} {only : Bool} (h : ScB w p l ao n c key only) (b : Below w.heap.size w w') : ScB w' p l ao n c key only := (b.block p h.lt).trans h
theorem CoB.lt {w : World} {p : Nat} {x : Co} (h : CoB w p x) : p < w.heap.size := (Array.getElem?_eq_some_iff.1 h).1
theorem CoB.past {w w' : World} {p : Nat} {x : Co} (h : CoB w p x) (b : Below w.heap.size w w') : CoB w' p x := (b.block p h.lt).trans h
theorem col_info : (Try.prog.info? 156).map (fun i => (i.zero, i.size, i.bytes)) = some (some (.agg #[.string ⟨#[]⟩, .int .i64 0, .bool false]), 3, 32) := by kernel_rfl
theorem rowTyC : RowTy encCo Try.prog 38 156 ⟨[], 0, false⟩ := by
  obtain ⟨i, h1, h2, h3, h4⟩ := info_parts col_info
  exact ⟨Try.underlying38, i, _, h1, h2, h3, rfl, by rw [h4]; decide⟩
/-- A schema's variable, made anew. -/
theorem ScB.new (w : World) (l : List UInt8) (ao : Option Addr) (n c : Nat) (key : Int) (only : Bool) : ScB (w.alloc (.cells #[.string (bsOf l), .slice ao n c, .int .i64 key, .bool only] 40)) w.heap.size l ao n c key only := heap_alloc_new w _
end Go.Proofs.Ytllijeciodmckaa
