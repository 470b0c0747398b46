/-
  Rows of rows of whatever: each header lies in a cell.
-/
import Derived.Test.YtllijeciodmckaaRow
namespace Go.Proofs.Ytllijeciodmckaa
open Go.RowKit

/-- A slice's header. -/
structure HdR where
  a : Option Addr
  n : Nat
  c : Nat
def HdR.v (h : HdR) : Value := .slice h.a h.n h.c
def EH : Enc HdR := ⟨1, fun h => [h.v], fun _ => rfl, fun x u hu => by
  obtain rfl := List.mem_singleton.1 hu
  rfl⟩
theorem EH_get : ∀ (hs : List HdR) (j : Nat), (EH.all hs)[j]? = hs[j]?.map HdR.v
  | [], j => rfl
  | h :: hs, 0 => rfl
  | h :: hs, j + 1 => by rw [Enc.all_cons]; exact EH_get hs j
/-- The headers hs read as the rows ls. -/
def Rd {α : Type} (E : Enc α) (w : World) (hs : List HdR) (ls : List (List α)) : Prop :=
  hs.length = ls.length ∧ ∀ (j : Nat) (h : HdR) (l : List α), hs[j]? = some h → ls[j]? = some l → IsR E w h.a h.n h.c l
/-- All of it lies in blocks from B on. -/
def Frm (B : Nat) (ao : Option Addr) : Prop := ∀ a, ao = some a → B ≤ a.block
def FrmH (B : Nat) (hs : List HdR) : Prop := ∀ h ∈ hs, Frm B h.a
section
variable {α : Type} {E : Enc α} {w w' : World} {hs hs' : List HdR} {ls ls' : List (List α)} {B : Nat}
theorem Rd.past (h : Rd E w hs ls) (b : Below w.heap.size w w') : Rd E w' hs ls := ⟨h.1, fun j x l hx hl => (h.2 j x l hx hl).past b⟩
theorem Rd.nil : Rd E w [] [] := ⟨rfl, fun j x l hx _ => by simp at hx⟩
theorem Rd.append (h : Rd E w hs ls) (k : Rd E w hs' ls') : Rd E w (hs ++ hs') (ls ++ ls') := by
  refine ⟨by simp [h.1, k.1], fun j x l hx hl => ?_⟩
  by_cases hj : j < hs.length
  · rw [List.getElem?_append_left hj] at hx
    rw [List.getElem?_append_left (by rw [← h.1]; exact hj)] at hl
    exact h.2 j x l hx hl
  · rw [List.getElem?_append_right (by omega)] at hx
    rw [List.getElem?_append_right (by rw [← h.1]; omega), ← h.1] at hl
    exact k.2 _ x l hx hl
theorem Rd.one {x : HdR} {l : List α} (h : IsR E w x.a x.n x.c l) : Rd E w [x] [l] := by
  refine ⟨rfl, fun j y m hy hm => ?_⟩
  cases j with
  | zero =>
    obtain rfl : x = y := by simpa using hy
    obtain rfl : l = m := by simpa using hm
    exact h
  | succ j => simp at hy
theorem Rd.take (h : Rd E w hs ls) (n : Nat) : Rd E w (hs.take n) (ls.take n) := by
  refine ⟨by simp [h.1], fun j x l hx hl => ?_⟩
  rw [List.getElem?_take] at hx hl
  split at hx
  · rw [if_pos (by assumption)] at hl
    exact h.2 j x l hx hl
  · cases hx
theorem Rd.drop (h : Rd E w hs ls) (n : Nat) : Rd E w (hs.drop n) (ls.drop n) := by
  refine ⟨by simp [h.1], fun j x l hx hl => ?_⟩
  rw [List.getElem?_drop] at hx hl
  exact h.2 _ x l hx hl
/-- A header's length is its row's. -/
theorem Rd.len (h : Rd E w hs ls) {j : Nat} {x : HdR} {l : List α} (hx : hs[j]? = some x) (hl : ls[j]? = some l) : l.length = x.n := (h.2 j x l hx hl).len
theorem Frm.mono {B' : Nat} {ao : Option Addr} (h : Frm B ao) (hb : B' ≤ B) : Frm B' ao := fun a ha => Nat.le_trans hb (h a ha)
theorem FrmH.mono {B' : Nat} (h : FrmH B hs) (hb : B' ≤ B) : FrmH B' hs := fun x hx => (h x hx).mono hb
end
/-- THE SLICE ao, n, c OF SLICES READS AS THE ROWS ls, AND LIES IN BLOCKS FROM B ON. -/
def IsRR {α : Type} (E : Enc α) (w : World) (B : Nat) (ao : Option Addr) (n c : Nat) (ls : List (List α)) : Prop :=
  ∃ hs, IsR EH w ao n c hs ∧ Rd E w hs ls ∧ Frm B ao ∧ FrmH B hs
section
variable {α : Type} {E : Enc α} {w w' : World} {B : Nat} {ao : Option Addr} {n c : Nat} {ls : List (List α)}
theorem IsRR.past (h : IsRR E w B ao n c ls) (b : Below w.heap.size w w') : IsRR E w' B ao n c ls := by
  obtain ⟨hs, h1, h2, h3⟩ := h
  exact ⟨hs, h1.past b, h2.past b, h3⟩
theorem IsRR.mono {B' : Nat} (h : IsRR E w B ao n c ls) (hb : B' ≤ B) : IsRR E w B' ao n c ls := by
  obtain ⟨hs, h1, h2, h3, h4⟩ := h
  exact ⟨hs, h1, h2, h3.mono hb, h4.mono hb⟩
theorem IsRR.len (h : IsRR E w B ao n c ls) : ls.length = n := by
  obtain ⟨hs, h1, h2, _⟩ := h
  rw [← h2.1]
  exact h1.len
theorem IsRR.nil (w : World) (B : Nat) : IsRR E w B none 0 0 [] := ⟨[], IsR.nilR w, Rd.nil, (show Frm B none from fun a h => by cases h), (show FrmH B [] from fun h hx => by cases hx)⟩
/-- The header at place j, in its cell. -/
theorem IsRR.at (h : IsRR E w B ao n c ls) {j : Nat} {l : List α} (hl : ls[j]? = some l) :
    ∃ (b off : Nat) (x : HdR), ao = some ⟨b, off, none⟩ ∧ b < w.heap.size ∧ w.cell? ⟨b, off + j, none⟩ = some (.slice x.a x.n x.c) ∧ IsR E w x.a x.n x.c l := by
  obtain ⟨hs, h1, h2, _⟩ := h
  have hj := (List.getElem?_eq_some_iff.1 hl).1
  have hn : 0 < n := by have := h1.len; have := h2.1; omega
  obtain ⟨x, hx⟩ : ∃ x, hs[j]? = some x := ⟨hs[j]'(by rw [h2.1]; exact hj), List.getElem?_eq_getElem _⟩
  obtain ⟨b, off, rfl, hb, hc⟩ := h1.open hn (by decide)
  exact ⟨b, off, x, rfl, hb, hc j _ (by rw [EH_get, hx]; rfl), h2.2 j x l hx hl⟩
end
end Go.Proofs.Ytllijeciodmckaa
