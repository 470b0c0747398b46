/-
  What contracts say: a slice of bytes that is new, one that went on; a bool that is told.
-/
import Derived.Test.YtllijeciodmckaaBytes
import Derived.Test.YtllijeciodmckaaProg
namespace Go.Proofs.Ytllijeciodmckaa
open Go.RowKit

theorem info_u8 : (Try.prog.info? 5).map (fun i => (i.zero, i.size, i.bytes)) = some (some (.int .u8 0), 1, 1) := by kernel_rfl
theorem byteTy : ByteTy Try.prog 31 5 := ⟨Try.underlying31, Try.underlying5, info_parts info_u8⟩

/-- A NEW SLICE OF N BYTES l IS ANSWERED, AND NOTHING THAT WAS THERE HAS CHANGED. -/
def Fresh (w : World) (N : Nat) (l : List UInt8) (en : Ending) (w' : World) : Prop :=
  ∃ g cap, en = .returned (.slice (some ⟨g, 0, none⟩) N cap) ∧ OwnB w' 5 g N cap l ∧ Below w.heap.size w w' ∧ w.heap.size ≤ g
/-- THE ROW g WENT ON: N BYTES l ARE ANSWERED. -/
def Went (w : World) (g n N : Nat) (l : List UInt8) (en : Ending) (w' : World) : Prop :=
  ∃ g' cap, en = .returned (.slice (some ⟨g', 0, none⟩) N cap) ∧ OwnB w' 5 g' N cap l ∧ Puts w w' g n ∧ (g' = g ∨ w.heap.size ≤ g')
/-- A BOOL b IS ANSWERED, AND NOTHING THAT WAS THERE HAS CHANGED. -/
def Told (w : World) (b : Bool) (en : Ending) (w' : World) : Prop := en = .returned (.bool b) ∧ Below w.heap.size w w'
theorem ret_int {k : IntKind} {a b : Int} (h : a = b) : Ending.returned (.int k a) = .returned (.int k b) := by rw [h]
theorem below_on {w a b : World} (h : Below w.heap.size w a) (k : Below a.heap.size a b) : Below w.heap.size w b := h.trans (k.mono h.size)
theorem own_empty (w : World) : OwnB (w.alloc (.cells #[] 5)) 5 w.heap.size 0 0 [] :=
  ⟨rfl, Nat.le_refl _, Nat.zero_le _, #[], heap_alloc_new w _, rfl, rfl⟩

theorem below_puts {w a b : World} {o : Obj} {g n : Nat} (h : Below w.heap.size w a) (p : Puts (a.alloc o) b g n) (hg : a.heap.size ≤ g) : Below w.heap.size w b := by
  have hs := h.size
  exact (h.alloc hs o).trans (p.below (by omega) (by simp; omega))
theorem ge_new {a : World} {o : Obj} {g : Nat} (h : g = a.heap.size ∨ (a.alloc o).heap.size ≤ g) : a.heap.size ≤ g := by
  simp at h
  omega
theorem ge_old {a b : World} {g g' : Nat} {B : Nat} (d : Below B a b) (hB : B ≤ a.heap.size) (hg : B ≤ g) (h : g' = g ∨ b.heap.size ≤ g') : B ≤ g' := by
  have := d.size
  omega
end Go.Proofs.Ytllijeciodmckaa
