/-
  A value in a block of its own.
-/
import Derived.Test.YtllijeciodmckaaLaw4
namespace Go.Proofs.Ytllijeciodmckaa
open Go.RowKit
/-- Block g holds a value, and may be written. -/
structure VAt (w : World) (g : Nat) (k n : Int) (s : ByteArray) : Prop where
  c0 : w.cell? ⟨g, 0, none⟩ = some (.int .i64 k)
  c1 : w.cell? ⟨g, 1, none⟩ = some (.int .i64 n)
  c2 : w.cell? ⟨g, 2, none⟩ = some (.string s)
  f0 : w.frozen? ⟨g, 0, none⟩ = false
  f1 : w.frozen? ⟨g, 1, none⟩ = false
  f2 : w.frozen? ⟨g, 2, none⟩ = false
  lt : g < w.heap.size
section
variable {w w' : World} {g : Nat} {k n : Int} {s : ByteArray}
theorem VAt.past (h : VAt w g k n s) (b : Below w.heap.size w w') : VAt w' g k n s :=
  ⟨(b.cell h.lt).trans h.c0, (b.cell h.lt).trans h.c1, (b.cell h.lt).trans h.c2, (b.frozen h.lt).trans h.f0, (b.frozen h.lt).trans h.f1, (b.frozen h.lt).trans h.f2, Nat.lt_of_lt_of_le h.lt b.size⟩
theorem VAt.grown {row : Option Nat} (h : VAt w g k n s) (b : w.grownBy w' row) (hne : some g ≠ row) : VAt w' g k n s := by
  have hb := b.block g h.lt hne
  have ec : ∀ j, w'.cell? ⟨g, j, none⟩ = w.cell? ⟨g, j, none⟩ := fun j => World.cell?_of_block (w := w) hb
  have ef : ∀ j, w'.frozen? ⟨g, j, none⟩ = w.frozen? ⟨g, j, none⟩ := fun j => by simp [World.frozen?, hb]
  exact ⟨(ec _).trans h.c0, (ec _).trans h.c1, (ec _).trans h.c2, (ef _).trans h.f0, (ef _).trans h.f1, (ef _).trans h.f2, Nat.lt_of_lt_of_le h.lt b.size⟩
theorem VAt.alloc (h : VAt w g k n s) (o : Obj) : VAt (w.alloc o) g k n s := h.past ((Below.refl _ _).alloc (Nat.le_refl _) o)
theorem VAt.drew (h : VAt w g k n s) : VAt w.drew g k n s := h.past (Below.refl _ _).drew
theorem VAt.new (w : World) (k n : Int) (s : ByteArray) : VAt (w.alloc (.cells #[.int .i64 k, .int .i64 n, .string s] 55)) w.heap.size k n s :=
  ⟨by go_simp, by go_simp, by go_simp, by go_simp, by go_simp, by go_simp, by simp⟩
theorem VAt.set (h : VAt w g k n s) (k' n' : Int) (s' : ByteArray) : VAt (((w.setCell ⟨g, 0, none⟩ (.int .i64 k')).setCell ⟨g, 1, none⟩ (.int .i64 n')).setCell ⟨g, 2, none⟩ (.string s')) g k' n' s' := by
  obtain ⟨c0, c1, c2, f0, f1, f2, lt⟩ := h
  exact ⟨by go_simp, by go_simp, by go_simp, by go_simp, by go_simp, by go_simp, by simp [lt]⟩
theorem VAt.far (h : VAt w g k n s) {g' : Nat} (hne : g' ≠ g) (j : Nat) (v : Value) : VAt (w.setCell ⟨g', j, none⟩ v) g k n s := by
  obtain ⟨c0, c1, c2, f0, f1, f2, lt⟩ := h
  have hne' : g ≠ g' := fun h => hne h.symm
  exact ⟨by go_simp, by go_simp, by go_simp, by go_simp, by go_simp, by go_simp, by simp [lt]⟩
/-- Block g holds a byte. -/
structure UAt (w : World) (g : Nat) (u : UInt8) : Prop where
  c0 : w.cell? ⟨g, 0, none⟩ = some (.int .u8 (u.toNat : Int))
  lt : g < w.heap.size
theorem UAt.past {u : UInt8} (h : UAt w g u) (b : Below w.heap.size w w') : UAt w' g u := ⟨(b.cell h.lt).trans h.c0, Nat.lt_of_lt_of_le h.lt b.size⟩
theorem UAt.new (w : World) (u : UInt8) : UAt (w.alloc (.cells #[.int .u8 (u.toNat : Int)] 5)) w.heap.size u := ⟨by go_simp, by simp⟩
theorem UAt.far {u : UInt8} (h : UAt w g u) {g' : Nat} (hne : g' ≠ g) (j : Nat) (v : Value) : UAt (w.setCell ⟨g', j, none⟩ v) g u := by
  obtain ⟨c0, lt⟩ := h
  have hne' : g ≠ g' := fun h => hne h.symm
  exact ⟨by go_simp, by simp [lt]⟩
end
theorem one_conv (w : World) (g : Nat) (u : UInt8) (h : w.cell? ⟨g, 0, none⟩ = some (.int .u8 (u.toNat : Int))) : (convert 31 9 (.slice (some ⟨g, 0, none⟩) 1 1)).run Try.prog w = .ok (.string ⟨#[u]⟩) w := by
  have hb : IsB w (some ⟨g, 0, none⟩) 1 1 [u] := by
    refine ⟨rfl, Nat.le_refl _, by simp [maxLen], (fun h => by cases h), fun a ha j v hv => ?_⟩
    obtain rfl := Option.some.inj ha
    cases j with
    | zero =>
      obtain rfl : u = v := by simpa using hv
      exact h
    | succ j => simp at hv
  exact hb.conv byteTy Try.underlying9
end Go.Proofs.Ytllijeciodmckaa
