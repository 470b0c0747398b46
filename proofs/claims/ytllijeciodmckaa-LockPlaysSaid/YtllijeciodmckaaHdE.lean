/-
  Holds: how they lie in cells, the code's and the reference's; a struct of two lists of them.
-/
import Derived.Test.YtllijeciodmckaaKLa
import Derived.Test.YtllijeciodmckaaRowO
import Derived.Test.YtllijeciodmckaaBs
import Derived.Test.YtllijeciodmckaaCb
import Derived.Test.YtllijeciodmckaaProg
namespace Go.Proofs.Ytllijeciodmckaa
open Go.RowKit
def Hd.cells (h : Hd) : List Value := [.int .i64 h.s, .string (bsOf h.t), .bool h.x]
def Hd.val (h : Hd) : Value := .agg #[.int .i64 h.s, .string (bsOf h.t), .bool h.x]
def EHd : Enc Hd where
  sz := 3
  f := Hd.cells
  len _ := rfl
  one c u hu := by
    simp only [Hd.cells, List.mem_cons, List.not_mem_nil, or_false] at hu
    rcases hu with rfl | rfl | rfl <;> rfl
instance : Inhabited Hd := ⟨⟨0, [], false⟩⟩
/-- The element j's three cells. -/
theorem cells_hd {cs : List Hd} {w : World} {b off : Nat} (hc : ∀ j u, (EHd.all cs)[j]? = some u → w.cell? ⟨b, off + j, none⟩ = some u) (j : Nat) (c : Hd) (hj : cs[j]? = some c) :
    w.cell? ⟨b, off + j * 3, none⟩ = some (.int .i64 c.s) ∧ w.cell? ⟨b, off + j * 3 + 1, none⟩ = some (.string (bsOf c.t)) ∧ w.cell? ⟨b, off + j * 3 + 2, none⟩ = some (.bool c.x) := by
  have h0 := hc _ _ ((Enc.all_get EHd cs j 0 c hj (by decide)).trans rfl)
  have h1 := hc _ _ ((Enc.all_get EHd cs j 1 c hj (by decide)).trans rfl)
  have h2 := hc _ _ ((Enc.all_get EHd cs j 2 c hj (by decide)).trans rfl)
  exact ⟨h0, by rw [Nat.add_assoc]; exact h1, by rw [Nat.add_assoc]; exact h2⟩
theorem hd_info : (Try.prog.info? 101).map (fun i => (i.zero, i.size, i.bytes)) = some (some (.agg #[.int .i64 0, .string ⟨#[]⟩, .bool false]), 3, 32) := by kernel_rfl
theorem rowTyHd : RowTy EHd Try.prog 94 101 ⟨0, [], false⟩ := by
  obtain ⟨i, h1, h2, h3, h4⟩ := info_parts hd_info
  exact ⟨Try.underlying94, i, _, h1, h2, h3, rfl, by rw [h4]; decide⟩
/-- A hold's variable lies in block p. -/
def HdB (w : World) (p : Nat) (x : Hd) (t : TypeId) : Prop := w.heap[p]? = some (.cells #[.int .i64 x.s, .string (bsOf x.t), .bool x.x] t (0, 0))
theorem HdB.lt {w : World} {p : Nat} {x : Hd} {t : TypeId} (h : HdB w p x t) : p < w.heap.size := (Array.getElem?_eq_some_iff.1 h).1
theorem HdB.past {w w' : World} {p : Nat} {x : Hd} {t : TypeId} (h : HdB w p x t) (b : Below w.heap.size w w') : HdB w' p x t := (b.block p h.lt).trans h
theorem HdB.new (w : World) (x : Hd) (t : TypeId) : HdB (w.alloc (.cells #[.int .i64 x.s, .string (bsOf x.t), .bool x.x] t)) w.heap.size x t := heap_alloc_new w _
theorem HdB.c {w : World} {p : Nat} {x : Hd} {t : TypeId} (h : HdB w p x t) : w.cell? ⟨p, 0, none⟩ = some (.int .i64 x.s) ∧ w.cell? ⟨p, 1, none⟩ = some (.string (bsOf x.t)) ∧ w.cell? ⟨p, 2, none⟩ = some (.bool x.x) := ⟨cell_blk h rfl, cell_blk h rfl, cell_blk h rfl⟩
/-- Two lists. -/
def lkV (ho : Option Addr) (hn hc : Nat) (wo : Option Addr) (wn wc : Nat) : Value := .agg #[.slice ho hn hc, .slice wo wn wc]
def LkB (w : World) (p : Nat) (ho : Option Addr) (hn hc : Nat) (wo : Option Addr) (wn wc : Nat) (t : TypeId) : Prop := w.heap[p]? = some (.cells #[.slice ho hn hc, .slice wo wn wc] t (0, 0))
section
variable {w w' : World} {p : Nat} {ho wo : Option Addr} {hn hc wn wc : Nat} {t : TypeId}
theorem LkB.lt (h : LkB w p ho hn hc wo wn wc t) : p < w.heap.size := (Array.getElem?_eq_some_iff.1 h).1
theorem LkB.past (h : LkB w p ho hn hc wo wn wc t) (b : Below w.heap.size w w') : LkB w' p ho hn hc wo wn wc t := (b.block p h.lt).trans h
theorem LkB.new (w : World) (ho : Option Addr) (hn hc : Nat) (wo : Option Addr) (wn wc : Nat) (t : TypeId) : LkB (w.alloc (.cells #[.slice ho hn hc, .slice wo wn wc] t)) w.heap.size ho hn hc wo wn wc t := heap_alloc_new w _
theorem LkB.c (h : LkB w p ho hn hc wo wn wc t) : w.cell? ⟨p, 0, none⟩ = some (.slice ho hn hc) ∧ w.cell? ⟨p, 1, none⟩ = some (.slice wo wn wc) := ⟨cell_blk h rfl, cell_blk h rfl⟩
end
/-- LOCKS AS A VALUE: they read as H and W. -/
def LkIs (w : World) (v : Value) (H W : List Hd) : Prop := ∃ ho hn hc wo wn wc, v = lkV ho hn hc wo wn wc ∧ IsR EHd w ho hn hc H ∧ IsR EHd w wo wn wc W
theorem LkIs.past {w w' : World} {v : Value} {H W : List Hd} (h : LkIs w v H W) (b : Below w.heap.size w w') : LkIs w' v H W := by
  obtain ⟨ho, hn, hc, wo, wn, wc, rfl, h1, h2⟩ := h
  exact ⟨ho, hn, hc, wo, wn, wc, rfl, h1.past b, h2.past b⟩
end Go.Proofs.Ytllijeciodmckaa
