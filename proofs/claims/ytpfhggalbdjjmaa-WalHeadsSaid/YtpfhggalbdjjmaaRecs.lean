/-
  Rows of slices of bytes of the call's own, or nil ('Recs'); the front of a slice of bytes.
-/
import Derived.Test.YtpfhggalbdjjmaaRowT
import Derived.Test.YtpfhggalbdjjmaaTxt
import Derived.Test.YtpfhggalbdjjmaaTake
import Derived.Test.YtpfhggalbdjjmaaIsP
namespace Go.Proofs.Ytpfhggalbdjjmaa
open Go.RowKit
set_option linter.unusedSimpArgs false

/-- 'b[:c]'. -/
theorem IsB_head {w : World} {ao : Option Addr} {n cap : Nat} {l : List UInt8} (h : IsB w ao n cap l) (c : Nat) (hc : c ≤ n) :
    ∃ ao2, (∀ w' : World, (Instr.slice 31 (.slice ao n cap) none (some (.int .i64 c)) none).run Try.prog w' = .ok (.slice ao2 c cap) w') ∧ IsB w ao2 c cap (l.take c) ∧ (∀ a2, ao2 = some a2 → ∃ a, ao = some a ∧ a2.block = a.block) := by
  have hle := h.le
  by_cases hn : 0 < n
  · obtain ⟨b, off, rfl, _⟩ := IsB_open h hn
    exact ⟨_, fun w' => headB_run b off n cap c w' hc hle, IsB_take h hc, fun a2 h2 => ⟨a2, h2, rfl⟩⟩
  · obtain rfl : n = 0 := by omega
    obtain rfl : c = 0 := by omega
    have hrun : ∀ w' : World, (Instr.slice 31 (.slice ao 0 cap) none (some (.int .i64 (0 : Nat))) none).run Try.prog w' = .ok (sliced ao 0 0 cap 1) w' := fun w' => by
      rw [run_slice_h w' 31 ao 0 cap (by kernel_rfl) .i64 ((0 : Nat) : Int) (by omega) (by omega), elemT]
      simp [Result.andThen]
    by_cases he : cap = 0
    · refine ⟨ao, fun w' => by rw [hrun, sliced, if_pos he]; simp, ⟨by simp, Nat.zero_le _, h.max, h.nil, fun a ha j u hu => by simp at hu⟩, fun a2 h2 => ⟨a2, h2, rfl⟩⟩
    · refine ⟨ao.map fun x => x.add 0, fun w' => by rw [hrun, sliced, if_neg he]; simp, ⟨by simp, Nat.zero_le _, h.max, fun q => h.nil (by simpa using q), fun a ha j u hu => by simp at hu⟩, fun a2 h2 => ?_⟩
      obtain ⟨b, hb, rfl⟩ := Option.map_eq_some_iff.1 h2
      exact ⟨b, hb, block_add b 0⟩
/-- A slice's header in a cell. -/
abbrev Hd := Option Addr × Nat × Nat
def encSl : Enc Hd := ⟨1, fun h => [.slice h.1 h.2.1 h.2.2], fun _ => rfl, fun x u hu => by
  obtain rfl := List.mem_singleton.1 hu
  rfl⟩
theorem encSl_get : ∀ (hs : List Hd) (j : Nat), (encSl.all hs)[j]? = hs[j]?.map fun h => .slice h.1 h.2.1 h.2.2
  | [], j => rfl
  | h :: hs, 0 => rfl
  | h :: hs, j + 1 => by rw [Enc.all_cons]; exact encSl_get hs j
theorem sl_info : (Try.prog.info? 31).map (fun i => (i.zero, i.size, i.bytes)) = some (some (.slice none 0 0), 1, 24) := by kernel_rfl
theorem sl_ty : RowTy encSl Try.prog 22 31 (none, 0, 0) := by
  obtain ⟨i, h1, h2, h3, h4⟩ := info_parts sl_info
  exact ⟨Try.underlying22, i, _, h1, h2, h3, rfl, by omega⟩
/-- THE SLICE ro, rn, rc OF SLICES OF BYTES IS THE CALL's OWN (all from block B on), or nil, AND READS AS ps. -/
def Recs (w : World) (B : Nat) (ro : Option Addr) (rn rc : Nat) (ps : List (List UInt8)) : Prop :=
  ∃ hs : List Hd, TxtR encSl w 31 B ro rn rc hs ∧ hs.length = ps.length ∧
    ∀ (j : Nat) (h : Hd) (p : List UInt8), hs[j]? = some h → ps[j]? = some p → IsB w h.1 h.2.1 h.2.2 p ∧ ∀ a : Addr, h.1 = some a → B ≤ a.block ∧ a.block < w.heap.size ∧ blk ro ≠ some a.block
section
variable {w w' : World} {B : Nat} {ro : Option Addr} {rn rc : Nat} {ps : List (List UInt8)}
theorem Recs.nil (w : World) (B : Nat) : Recs w B none 0 0 [] := ⟨[], TxtR.nil _ _ _, rfl, fun j h p q => by simp at q⟩
theorem Recs.len (h : Recs w B ro rn rc ps) : ps.length = rn := by
  obtain ⟨hs, h1, h2, _⟩ := h
  rw [← h2]; exact h1.len
theorem Recs.kept {r : Nat} (h : Recs w B ro rn rc ps) (g : w.grownBy w' (some r)) (hr : r < B) : Recs w' B ro rn rc ps := by
  obtain ⟨hs, h1, h2, h3⟩ := h
  refine ⟨hs, h1.grown g (fun z hz q => ?_), h2, fun j h p a b => ?_⟩
  · have := h1.either
    rcases this with ⟨rfl, _⟩ | ⟨g0, rfl, _, hB⟩
    · cases hz
    · cases hz
      have e : r = g0 := Option.some.inj q
      omega
  · obtain ⟨x, y⟩ := h3 j h p a b
    exact ⟨x.grown g (fun a ha q => by have := (y a ha).1; have := Option.some.inj q; omega), fun a ha => ⟨(y a ha).1, Nat.lt_of_lt_of_le (y a ha).2.1 g.size, (y a ha).2.2⟩⟩
theorem Recs.past (h : Recs w B ro rn rc ps) (b : Below w.heap.size w w') : Recs w' B ro rn rc ps := by
  obtain ⟨hs, h1, h2, h3⟩ := h
  refine ⟨hs, h1.past b, h2, fun j h p a c => ?_⟩
  obtain ⟨x, y⟩ := h3 j h p a c
  exact ⟨x.past b, fun a ha => ⟨(y a ha).1, Nat.lt_of_lt_of_le (y a ha).2.1 b.size, (y a ha).2.2⟩⟩
theorem Recs.isP (h : Recs w B ro rn rc ps) : IsP w ro rn ps := by
  obtain ⟨hs, h1, h2, h3⟩ := h
  have hl := h1.len
  refine ⟨by omega, h1.isR.has, fun a ha j hj => ?_⟩
  have hj1 : j < hs.length := by omega
  have hj2 : j < ps.length := by omega
  have e1 := List.getElem?_eq_getElem hj1
  have e2 := List.getElem?_eq_getElem hj2
  refine ⟨_, _, _, h1.isR.cell a ha j _ (by rw [encSl_get, e1]; rfl), ?_⟩
  have := (h3 j _ _ e1 e2).1
  simpa [List.getD, hj2] using this
/-- One more. -/
theorem Recs.snoc (hs : List Hd) (h2 : hs.length = ps.length) (h3 : ∀ (j : Nat) (h : Hd) (p : List UInt8), hs[j]? = some h → ps[j]? = some p → IsB w h.1 h.2.1 h.2.2 p ∧ ∀ a : Addr, h.1 = some a → B ≤ a.block ∧ a.block < w.heap.size ∧ blk ro ≠ some a.block)
    (bo : Option Addr) (bn bc : Nat) (p : List UInt8) (hp : IsB w bo bn bc p) (hb : ∀ a : Addr, bo = some a → B ≤ a.block ∧ a.block < w.heap.size ∧ blk ro ≠ some a.block)
    (g' c' n' : Nat) (hT : TxtR encSl w' 31 B (some ⟨g', 0, none⟩) n' c' (hs ++ [(bo, bn, bc)])) (gr : w.grownBy w' (blk ro)) (hg : blk ro = some g' ∨ w.heap.size ≤ g') : Recs w' B (some ⟨g', 0, none⟩) n' c' (ps ++ [p]) := by
  have key : ∀ (h : Hd) (q : List UInt8), IsB w h.1 h.2.1 h.2.2 q → (∀ a : Addr, h.1 = some a → B ≤ a.block ∧ a.block < w.heap.size ∧ blk ro ≠ some a.block) → IsB w' h.1 h.2.1 h.2.2 q ∧ ∀ a : Addr, h.1 = some a → B ≤ a.block ∧ a.block < w'.heap.size ∧ blk (some ⟨g', 0, none⟩) ≠ some a.block := fun h q x y =>
    ⟨x.grown gr (fun a ha e => (y a ha).2.2 e.symm), fun a ha => by
      obtain ⟨y1, y2, y3⟩ := y a ha
      refine ⟨y1, Nat.lt_of_lt_of_le y2 gr.size, fun e => ?_⟩
      have e : g' = a.block := Option.some.inj e
      rcases hg with hg | hg
      · exact y3 (by rw [hg, e])
      · omega⟩
  refine ⟨_, hT, by simp [h2], fun j h q a c => ?_⟩
  by_cases hj : j < hs.length
  · rw [List.getElem?_append_left hj] at a
    rw [List.getElem?_append_left (by omega)] at c
    obtain ⟨x, y⟩ := h3 j h q a c
    exact key h q x y
  · rw [List.getElem?_append_right (by omega)] at a
    rw [List.getElem?_append_right (by omega)] at c
    have hj0 : j - hs.length = 0 := by
      have := (List.getElem?_eq_some_iff.1 a).1
      simp at this
      omega
    rw [hj0] at a
    rw [show j - ps.length = 0 by omega] at c
    obtain rfl : (bo, bn, bc) = h := by simpa using a
    obtain rfl : p = q := by simpa using c
    exact key _ _ hp hb
end
end Go.Proofs.Ytpfhggalbdjjmaa
