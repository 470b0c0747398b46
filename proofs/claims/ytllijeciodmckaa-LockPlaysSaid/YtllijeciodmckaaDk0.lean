/-
  What changes and what stays, by sets of blocks (out of XDk: not both in one claim).
-/
import Derived.Test.YtllijeciodmckaaRowT
import Derived.Test.YtllijeciodmckaaBytes
namespace Go.Proofs.Ytllijeciodmckaa
open Go.RowKit
/-- FROM w TO w' ONLY NEW BLOCKS CAME, AND BLOCKS OF S WERE WRITTEN. -/
structure Kp (w w' : World) (S : Nat → Prop) : Prop where
  os : w'.os = w.os
  tape : w'.tape = w.tape
  output : w'.output = w.output
  size : w.heap.size ≤ w'.heap.size
  block : ∀ k, k < w.heap.size → ¬ S k → w'.heap[k]? = w.heap[k]?
section
variable {w w1 w' : World} {S T : Nat → Prop}
theorem Kp.refl (w : World) (S : Nat → Prop) : Kp w w S := ⟨rfl, rfl, rfl, Nat.le_refl _, fun _ _ _ => rfl⟩
theorem Kp.drew (w : World) (S : Nat → Prop) : Kp w w.drew S := ⟨rfl, rfl, rfl, Nat.le_refl _, fun _ _ _ => rfl⟩
theorem Kp.trans (h : Kp w w1 S) (k : Kp w1 w' T) (hs : ∀ q, q < w.heap.size → T q → S q) : Kp w w' S :=
  ⟨k.os.trans h.os, k.tape.trans h.tape, k.output.trans h.output, Nat.le_trans h.size k.size, fun q hq hn => (k.block q (Nat.lt_of_lt_of_le hq h.size) (fun ht => hn (hs q hq ht))).trans (h.block q hq hn)⟩
theorem Kp.ofBelow (h : Below w.heap.size w w') (S : Nat → Prop) : Kp w w' S := ⟨h.os, h.tape, h.output, h.size, fun k hk _ => h.block k hk⟩
theorem Kp.ofGrown {row : Option Nat} (h : w.grownBy w' row) (hs : ∀ g, row = some g → S g) : Kp w w' S :=
  ⟨h.os, h.tape, h.output, h.size, fun k hk hn => h.block k hk (fun e => hn (hs k e.symm))⟩
theorem Kp.below {B : Nat} (h : Kp w w' S) (hB : B ≤ w.heap.size) (hs : ∀ k, S k → B ≤ k) : Below B w w' :=
  ⟨h.os, h.tape, h.output, h.size, fun k hk => h.block k (by omega) (fun q => by have := hs k q; omega)⟩
theorem Kp.mono (h : Kp w w' S) (hs : ∀ k, k < w.heap.size → S k → T k) : Kp w w' T := ⟨h.os, h.tape, h.output, h.size, fun k hk hn => h.block k hk (fun q => hn (hs k hk q))⟩
theorem Kp.set (w : World) (g i : Nat) (v : Value) (hs : S g) : Kp w (w.setCell ⟨g, i, none⟩ v) S :=
  ⟨rfl, by simp, rfl, by simp, fun k _ hn => heap_setCell_other w _ k v (fun e => hn (by rw [e]; exact hs))⟩
/-- A slice that lies in none of S's blocks. -/
def Far (S : Nat → Prop) (ao : Option Addr) : Prop := ∀ a, ao = some a → ¬ S a.block
theorem IsB.kp {ao : Option Addr} {n c : Nat} {l : List UInt8} (h : IsB w ao n c l) (k : Kp w w' S) (hf : Far S ao) : IsB w' ao n c l :=
  ⟨h.len, h.le, h.max, h.nil, fun a ha j u hu => by
    have e : (a.add j).block = a.block := by unfold Addr.add; split <;> rfl
    have hc := h.cell a ha j u hu
    rw [World.cell?_of_block (w := w) (a := a.add j) (k.block _ (World.block_lt_of_cell? w _ hc) (by rw [e]; exact hf a ha))]
    exact hc⟩
theorem OwnB.kp {e : TypeId} {g n c : Nat} {l : List UInt8} (h : OwnB w e g n c l) (k : Kp w w' S) (hf : ¬ S g) : OwnB w' e g n c l := h.kept (k.block g h.lt hf)
theorem IsR.kp {α : Type} {E : Enc α} {ao : Option Addr} {n c : Nat} {l : List α} (h : IsR E w ao n c l) (k : Kp w w' S) (hf : Far S ao) : IsR E w' ao n c l :=
  ⟨h.len, h.le, h.max, h.nil, fun a ha j u hu => by
    have e : (a.add j).block = a.block := by unfold Addr.add; split <;> rfl
    have hc := h.cell a ha j u hu
    rw [World.cell?_of_block (w := w) (a := a.add j) (k.block _ (World.block_lt_of_cell? w _ hc) (by rw [e]; exact hf a ha))]
    exact hc⟩
theorem OwnR.kp {α : Type} {E : Enc α} {e : TypeId} {g n c : Nat} {l : List α} (h : OwnR E w e g n c l) (k : Kp w w' S) (hf : ¬ S g) : OwnR E w' e g n c l := h.kept (k.block g h.lt hf)
end

/-- What came to S came anew. -/
def Ext (w : World) (S S' : Nat → Prop) : Prop := ∀ k, S' k → S k ∨ w.heap.size ≤ k
section
variable {w w' : World} {S T : Nat → Prop}
theorem Ext.refl (w : World) (S : Nat → Prop) : Ext w S S := fun _ h => .inl h
theorem Ext.far {S' : Nat → Prop} {ao : Option Addr} (h : Ext w S S') (hf : Far S ao) (hl : ∀ a, ao = some a → a.block < w.heap.size) : Far S' ao := fun a ha q => by
  rcases h _ q with h1 | h1
  · exact hf a ha h1
  · have := hl a ha; omega
theorem Ext.ge {S' : Nat → Prop} {B : Nat} (h : Ext w S S') (hB : B ≤ w.heap.size) (hs : ∀ k, S k → B ≤ k) : ∀ k, S' k → B ≤ k := fun k hk => by
  rcases h k hk with h1 | h1
  · exact hs k h1
  · omega
theorem Ext.trans {S' S'' : Nat → Prop} (h : Ext w S S') (k : Ext w' S' S'') (hw : w.heap.size ≤ w'.heap.size) : Ext w S S'' := fun q hq => by
  rcases k q hq with h1 | h1
  · exact h q h1
  · exact .inr (Nat.le_trans hw h1)
end
end Go.Proofs.Ytllijeciodmckaa
