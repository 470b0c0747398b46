/-
  What a disk is: its pages as written, as synced, what is not synced, its power; how it lies in blocks; what changes and what stays.
-/
import Derived.Test.YtpfhggalbdjjmaaRowT
import Derived.Test.YtpfhggalbdjjmaaTy
namespace Go.Proofs.Ytpfhggalbdjjmaa
open Go.RowKit

/-- Sixty-four bytes: noughts behind. -/
def pad (l : List UInt8) : List UInt8 := (l ++ List.replicate 64 0).take 64
theorem pad_length (l : List UInt8) : (pad l).length = 64 := by simp [pad]
theorem pad_of {l : List UInt8} (h : l.length = 64) : pad l = l := by
  unfold pad
  rw [List.take_append_of_le_length (by omega), List.take_of_length_le (by omega)]
theorem pad_pad (l : List UInt8) : pad (pad l) = pad l := pad_of (pad_length l)
theorem pad_short {l : List UInt8} (h : l.length ≤ 64) : pad l = l ++ List.replicate (64 - l.length) 0 := by
  unfold pad
  rw [List.take_append, List.take_of_length_le h, List.take_replicate, Nat.min_eq_left (by omega)]
theorem pad_get (l : List UInt8) (j : Nat) (h : j < l.length) (h2 : j < 64) : (pad l)[j]? = l[j]? := by
  unfold pad
  rw [List.getElem?_take_of_lt h2, List.getElem?_append_left h]
/-- A page in cells. -/
def encPg : Enc (List UInt8) := ⟨64, fun l => bcs (pad l), fun l => by rw [bcs_length, pad_length], fun l => bcs_one _⟩
/-- A Write that is not synced, in cells. -/
def wrC (x : Nat × List UInt8) : List Value := .int .i64 (x.1 : Int) :: bcs (pad x.2)
theorem wrC_length (x : Nat × List UInt8) : (wrC x).length = 65 := by simp [wrC, bcs_length, pad_length]
theorem wrC_one (x : Nat × List UInt8) : ∀ u ∈ wrC x, u.oneCell' = true := by
  intro u hu
  rcases List.mem_cons.1 hu with rfl | h
  · rfl
  · exact bcs_one _ u h
def encWr : Enc (Nat × List UInt8) := ⟨65, wrC, wrC_length, wrC_one⟩

/-- A DISK. -/
structure Dk where
  left : Int
  gone : Bool
  last : List (List UInt8)
  kept : List (List UInt8)
  pend : List (Nat × List UInt8)
/-- The page p as it reads, as it is synced. -/
def Dk.pg (s : Dk) (p : Nat) : List UInt8 := pad (s.last.getD p [])
def Dk.kp (s : Dk) (p : Nat) : List UInt8 := pad (s.kept.getD p [])

/-- FROM w TO w' ONLY NEW BLOCKS CAME, AND BLOCKS OF S WERE WRITTEN. -/
structure Kp (w w' : World) (S : Nat → Prop) : Prop where
  os : w'.os = w.os
  tape : w'.tape = w.tape
  output : w'.output = w.output
  size : w.heap.size ≤ w'.heap.size
  block : ∀ k, k < w.heap.size → ¬ S k → w'.heap[k]? = w.heap[k]?
section
variable {w w1 w' : World} {S T : Nat → Prop}
theorem Kp.refl (w : World) (S : Nat → Prop) : Kp w w S := ⟨rfl, rfl, rfl, Nat.le_refl _, fun _ _ _ => rfl⟩
theorem Kp.drew (w : World) (S : Nat → Prop) : Kp w w.drew S := ⟨rfl, rfl, rfl, Nat.le_refl _, fun _ _ _ => rfl⟩
theorem Kp.trans (h : Kp w w1 S) (k : Kp w1 w' T) (hs : ∀ q, q < w.heap.size → T q → S q) : Kp w w' S :=
  ⟨k.os.trans h.os, k.tape.trans h.tape, k.output.trans h.output, Nat.le_trans h.size k.size, fun q hq hn => (k.block q (Nat.lt_of_lt_of_le hq h.size) (fun ht => hn (hs q hq ht))).trans (h.block q hq hn)⟩
theorem Kp.ofBelow (h : Below w.heap.size w w') (S : Nat → Prop) : Kp w w' S := ⟨h.os, h.tape, h.output, h.size, fun k hk _ => h.block k hk⟩
theorem Kp.ofGrown {row : Option Nat} (h : w.grownBy w' row) (hs : ∀ g, row = some g → S g) : Kp w w' S :=
  ⟨h.os, h.tape, h.output, h.size, fun k hk hn => h.block k hk (fun e => hn (hs k e.symm))⟩
theorem Kp.below {B : Nat} (h : Kp w w' S) (hB : B ≤ w.heap.size) (hs : ∀ k, S k → B ≤ k) : Below B w w' :=
  ⟨h.os, h.tape, h.output, h.size, fun k hk => h.block k (by omega) (fun q => by have := hs k q; omega)⟩
theorem Kp.mono (h : Kp w w' S) (hs : ∀ k, k < w.heap.size → S k → T k) : Kp w w' T := ⟨h.os, h.tape, h.output, h.size, fun k hk hn => h.block k hk (fun q => hn (hs k hk q))⟩
theorem Kp.set (w : World) (g i : Nat) (v : Value) (hs : S g) : Kp w (w.setCell ⟨g, i, none⟩ v) S :=
  ⟨rfl, by simp, rfl, by simp, fun k _ hn => heap_setCell_other w _ k v (fun e => hn (by rw [e]; exact hs))⟩
/-- A slice that lies in none of S's blocks. -/
def Far (S : Nat → Prop) (ao : Option Addr) : Prop := ∀ a, ao = some a → ¬ S a.block
theorem IsB.kp {ao : Option Addr} {n c : Nat} {l : List UInt8} (h : IsB w ao n c l) (k : Kp w w' S) (hf : Far S ao) : IsB w' ao n c l :=
  ⟨h.len, h.le, h.max, h.nil, fun a ha j u hu => by
    have e : (a.add j).block = a.block := by unfold Addr.add; split <;> rfl
    have hc := h.cell a ha j u hu
    rw [World.cell?_of_block (w := w) (a := a.add j) (k.block _ (World.block_lt_of_cell? w _ hc) (by rw [e]; exact hf a ha))]
    exact hc⟩
theorem OwnB.kp {e : TypeId} {g n c : Nat} {l : List UInt8} (h : OwnB w e g n c l) (k : Kp w w' S) (hf : ¬ S g) : OwnB w' e g n c l := h.kept (k.block g h.lt hf)
theorem IsR.kp {α : Type} {E : Enc α} {ao : Option Addr} {n c : Nat} {l : List α} (h : IsR E w ao n c l) (k : Kp w w' S) (hf : Far S ao) : IsR E w' ao n c l :=
  ⟨h.len, h.le, h.max, h.nil, fun a ha j u hu => by
    have e : (a.add j).block = a.block := by unfold Addr.add; split <;> rfl
    have hc := h.cell a ha j u hu
    rw [World.cell?_of_block (w := w) (a := a.add j) (k.block _ (World.block_lt_of_cell? w _ hc) (by rw [e]; exact hf a ha))]
    exact hc⟩
theorem OwnR.kp {α : Type} {E : Enc α} {e : TypeId} {g n c : Nat} {l : List α} (h : OwnR E w e g n c l) (k : Kp w w' S) (hf : ¬ S g) : OwnR E w' e g n c l := h.kept (k.block g h.lt hf)
end

/-- The cells of a disk's own block. -/
def dkC (left : Int) (gone : Bool) (L K n : Nat) (ao : Option Addr) (m c : Nat) : Array Value :=
  #[.int .i64 left, .int .u32 (if gone then 1 else 0), .slice (some ⟨L, 0, none⟩) n n, .slice (some ⟨K, 0, none⟩) n n, .slice ao m c]
/-- THE DISK s LIES IN BLOCK d, its pages in L and K, what is not synced at ao. -/
structure DkAt (w : World) (d L K n : Nat) (ao : Option Addr) (m c : Nat) (s : Dk) : Prop where
  blk : w.heap[d]? = some (.cells (dkC s.left s.gone L K n ao m c) 67 (0, 0))
  last : OwnR encPg w 74 L n n s.last
  kept : OwnR encPg w 74 K n n s.kept
  pend : TxtR encWr w 76 (d + 1) ao m c s.pend
  LK : L ≠ K
  Ld : L < d
  Kd : K < d
  pages : ∀ x ∈ s.pend, x.1 < n
  small : n ≤ 4096
section
variable {w w' : World} {d L K n : Nat} {ao : Option Addr} {m c : Nat} {s : Dk}
theorem DkAt.lt (h : DkAt w d L K n ao m c s) : d < w.heap.size := (Array.getElem?_eq_some_iff.1 h.blk).1
theorem DkAt.free (h : DkAt w d L K n ao m c s) (j : Nat) : w.frozen? ⟨d, j, none⟩ = false := frozen_of_row w d j _ _ h.blk
theorem DkAt.c0 (h : DkAt w d L K n ao m c s) : w.cell? ⟨d, 0, none⟩ = some (.int .i64 s.left) := by rw [cell_of_row w d 0 _ _ (0, 0) h.blk]; rfl
theorem DkAt.c1 (h : DkAt w d L K n ao m c s) : w.cell? ⟨d, 1, none⟩ = some (.int .u32 (if s.gone then 1 else 0)) := by rw [cell_of_row w d 1 _ _ (0, 0) h.blk]; rfl
theorem DkAt.c2 (h : DkAt w d L K n ao m c s) : w.cell? ⟨d, 2, none⟩ = some (.slice (some ⟨L, 0, none⟩) n n) := by rw [cell_of_row w d 2 _ _ (0, 0) h.blk]; rfl
theorem DkAt.c3 (h : DkAt w d L K n ao m c s) : w.cell? ⟨d, 3, none⟩ = some (.slice (some ⟨K, 0, none⟩) n n) := by rw [cell_of_row w d 3 _ _ (0, 0) h.blk]; rfl
theorem DkAt.c4 (h : DkAt w d L K n ao m c s) : w.cell? ⟨d, 4, none⟩ = some (.slice ao m c) := by rw [cell_of_row w d 4 _ _ (0, 0) h.blk]; rfl
theorem TxtR.kept {α : Type} {E : Enc α} {e : TypeId} {B : Nat} {l : List α} (h : TxtR E w e B ao n c l) (hb : ∀ z, Go.Proofs.Ytpfhggalbdjjmaa.blk ao = some z → w'.heap[z]? = w.heap[z]?) : TxtR E w' e B ao n c l := by
  rcases h.either with h | ⟨g, rfl, o, hg⟩
  · exact ⟨.inl h⟩
  · exact ⟨.inr ⟨g, rfl, o.kept (hb g rfl), hg⟩⟩
theorem TxtR.ge {α : Type} {E : Enc α} {e : TypeId} {B : Nat} {l : List α} (h : TxtR E w e B ao n c l) : ∀ z, Go.Proofs.Ytpfhggalbdjjmaa.blk ao = some z → B ≤ z := by
  rcases h.either with ⟨rfl, _⟩ | ⟨g, rfl, o, hg⟩
  · intro z hz; cases hz
  · intro z hz
    cases hz
    exact hg
/-- A store into the disk's own block. -/
theorem DkAt.set (h : DkAt w d L K n ao m c s) (j : Nat) (v : Value) (s' : Dk) (m' c' : Nat) (ao' : Option Addr) (hc : (dkC s.left s.gone L K n ao m c).set! j v = dkC s'.left s'.gone L K n ao' m' c')
    (h1 : s'.last = s.last) (h2 : s'.kept = s.kept) (hp : TxtR encWr w 76 (d + 1) ao' m' c' s'.pend) (hpg : ∀ x ∈ s'.pend, x.1 < n) : DkAt (w.setCell ⟨d, j, none⟩ v) d L K n ao' m' c' s' := by
  have hL := h.Ld
  have hK := h.Kd
  refine ⟨?_, ?_, ?_, hp.kept fun z hz => ?_, h.LK, hL, hK, hpg, h.small⟩
  · rw [heap_setCell_same w d j _ _ v h.blk, ← hc]
    simp
  · rw [h1]; exact h.last.kept (heap_setCell_other w _ L v (by simp; omega))
  · rw [h2]; exact h.kept.kept (heap_setCell_other w _ K v (by simp; omega))
  · have := hp.ge z hz
    exact heap_setCell_other w _ z v (by simp; omega)
theorem DkAt.left (h : DkAt w d L K n ao m c s) (x : Int) : DkAt (w.setCell ⟨d, 0, none⟩ (.int .i64 x)) d L K n ao m c { s with left := x } := h.set 0 _ _ _ _ _ rfl rfl rfl h.pend h.pages
theorem DkAt.gone (h : DkAt w d L K n ao m c s) (b : Bool) : DkAt (w.setCell ⟨d, 1, none⟩ (.int .u32 (if b then 1 else 0))) d L K n ao m c { s with gone := b } := h.set 1 _ _ _ _ _ rfl rfl rfl h.pend h.pages
theorem DkAt.noPend (h : DkAt w d L K n ao m c s) : DkAt (w.setCell ⟨d, 4, none⟩ (.slice none 0 0)) d L K n none 0 0 { s with pend := [] } := h.set 4 _ _ _ _ _ rfl rfl rfl (TxtR.nil _ _ _) (by simp)
theorem DkAt.drew (h : DkAt w d L K n ao m c s) : DkAt w.drew d L K n ao m c s := ⟨h.blk, h.last.drew, h.kept.drew, h.pend.kept fun _ _ => rfl, h.LK, h.Ld, h.Kd, h.pages, h.small⟩
theorem DkAt.past (h : DkAt w d L K n ao m c s) (b : Below w.heap.size w w') : DkAt w' d L K n ao m c s :=
  ⟨(b.block d h.lt).trans h.blk, h.last.past b, h.kept.past b, h.pend.past b, h.LK, h.Ld, h.Kd, h.pages, h.small⟩

/-- The blocks that a disk has. -/
def ownD (d L K : Nat) (ao : Option Addr) (k : Nat) : Prop := k = d ∨ k = L ∨ k = K ∨ Go.Proofs.Ytpfhggalbdjjmaa.blk ao = some k
theorem DkAt.owns (h : DkAt w d L K n ao m c s) : ∀ k, ownD d L K ao k → k < w.heap.size := by
  rintro k (rfl | rfl | rfl | hk)
  · exact h.lt
  · exact h.last.lt
  · exact h.kept.lt
  · exact h.pend.lt k hk
theorem DkAt.kp {S : Nat → Prop} (h : DkAt w d L K n ao m c s) (k : Kp w w' S) (hs : ∀ q, ownD d L K ao q → ¬ S q) : DkAt w' d L K n ao m c s :=
  ⟨(k.block d h.lt (hs d (.inl rfl))).trans h.blk, h.last.kp k (hs L (.inr (.inl rfl))), h.kept.kp k (hs K (.inr (.inr (.inl rfl)))), h.pend.kept fun z hz => k.block z (h.pend.lt z hz) (hs z (.inr (.inr (.inr hz)))), h.LK, h.Ld, h.Kd, h.pages, h.small⟩
end
/-- THE DISK s OF n PAGES LIES IN BLOCK d; its blocks are S's. -/
def IsD (w : World) (d n : Nat) (S : Nat → Prop) (s : Dk) : Prop := ∃ L K ao m c, DkAt w d L K n ao m c s ∧ ∀ k, S k ↔ ownD d L K ao k
/-- What came to S came anew. -/
def Ext (w : World) (S S' : Nat → Prop) : Prop := ∀ k, S' k → S k ∨ w.heap.size ≤ k
section
variable {w w' : World} {d n : Nat} {S T : Nat → Prop} {s : Dk}
theorem IsD.lt (h : IsD w d n S s) : ∀ k, S k → k < w.heap.size := by
  obtain ⟨L, K, ao, m, c, h, hs⟩ := h
  exact fun k hk => h.owns k ((hs k).1 hk)
theorem IsD.kp (h : IsD w d n S s) (k : Kp w w' T) (hs : ∀ q, S q → ¬ T q) : IsD w' d n S s := by
  obtain ⟨L, K, ao, m, c, h, hS⟩ := h
  exact ⟨L, K, ao, m, c, h.kp k (fun q hq => hs q ((hS q).2 hq)), hS⟩
theorem IsD.past (h : IsD w d n S s) (b : Below w.heap.size w w') : IsD w' d n S s := by
  obtain ⟨L, K, ao, m, c, h, hS⟩ := h
  exact ⟨L, K, ao, m, c, h.past b, hS⟩
theorem IsD.drew (h : IsD w d n S s) : IsD w.drew d n S s := h.past (Below.refl _ _).drew
theorem IsD.lasts (h : IsD w d n S s) : s.last.length = n := by obtain ⟨L, K, ao, m, c, h, _⟩ := h; exact h.last.len
theorem IsD.kepts (h : IsD w d n S s) : s.kept.length = n := by obtain ⟨L, K, ao, m, c, h, _⟩ := h; exact h.kept.len
theorem IsD.small (h : IsD w d n S s) : n ≤ 4096 := by obtain ⟨L, K, ao, m, c, h, _⟩ := h; exact h.small
theorem Ext.refl (w : World) (S : Nat → Prop) : Ext w S S := fun _ h => .inl h
theorem Ext.far {S' : Nat → Prop} {ao : Option Addr} (h : Ext w S S') (hf : Far S ao) (hl : ∀ a, ao = some a → a.block < w.heap.size) : Far S' ao := fun a ha q => by
  rcases h _ q with h1 | h1
  · exact hf a ha h1
  · have := hl a ha; omega
theorem Ext.ge {S' : Nat → Prop} {B : Nat} (h : Ext w S S') (hB : B ≤ w.heap.size) (hs : ∀ k, S k → B ≤ k) : ∀ k, S' k → B ≤ k := fun k hk => by
  rcases h k hk with h1 | h1
  · exact hs k h1
  · omega
end
end Go.Proofs.Ytpfhggalbdjjmaa
