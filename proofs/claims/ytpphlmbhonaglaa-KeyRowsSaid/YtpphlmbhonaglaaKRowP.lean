/-
  Rows of keys, plain: bytes one behind the other stand as the rows do.
-/
import Derived.Test.YtpphlmbhonaglaaKeyR
import Derived.Test.YtpphlmbhonaglaaRowT
namespace Go.Proofs.Ytpphlmbhonaglaa
open Go.RowKit

/-- Keys, one behind the other. -/
def encK (l : List V) : List UInt8 := l.flatMap keyB
theorem encK_cons (v : V) (l : List V) : encK (v :: l) = keyB v ++ encK l := rfl
theorem encK_snoc (l : List V) (v : V) : encK (l ++ [v]) = encK l ++ keyB v := by simp [encK]
theorem encK_length : ∀ l : List V, (∀ v ∈ l, Vok v) → (encK l).length ≤ 200 * l.length
  | [], _ => by simp [encK]
  | v :: l, h => by
    have h1 := (key_len v (h v (by simp))).2
    have h2 := encK_length l (fun x hx => h x (by simp [hx]))
    rw [encK_cons, List.length_append, List.length_cons]
    omega
/-- How one row stands to another as long. -/
def cmpRow : List V → List V → Int
  | x :: a, y :: b => or2 (x.cmp y) (cmpRow a b)
  | _, _ => 0
theorem encK_cmp : ∀ (a b : List V), a.length = b.length → (∀ v ∈ a, Vok v) → (∀ v ∈ b, Vok v) → cmpL (encK a) (encK b) = cmpRow a b
  | [], [], _, _, _ => rfl
  | x :: a, y :: b, hl, ha, hb => by
    rw [encK_cons, encK_cons, key_cmp x y (ha x (by simp)) (hb y (by simp)), encK_cmp a b (by simpa using hl) (fun v hv => ha v (by simp [hv])) (fun v hv => hb v (by simp [hv]))]
    rfl
theorem cmpRow_drop (a b : List V) (i : Nat) (x y : V) (hx : a[i]? = some x) (hy : b[i]? = some y) : cmpRow (a.drop i) (b.drop i) = or2 (x.cmp y) (cmpRow (a.drop (i + 1)) (b.drop (i + 1))) := by
  obtain ⟨h1, rfl⟩ := List.getElem?_eq_some_iff.1 hx
  obtain ⟨h2, rfl⟩ := List.getElem?_eq_some_iff.1 hy
  rw [List.drop_eq_getElem_cons h1, List.drop_eq_getElem_cons h2, cmpRow]
theorem set_next (L : List V) (k j : Nat) (x y : V) (h : L[j]? = some x) : (L.take (j + 1)).set k y = (L.take j).set k y ++ [if j = k then y else x] := by
  obtain ⟨hj, hx⟩ := List.getElem?_eq_some_iff.1 h
  have ht : L.take (j + 1) = L.take j ++ [x] := by rw [List.take_add_one, h]; rfl
  have hl : (L.take j).length = j := by rw [List.length_take]; omega
  rw [ht]
  by_cases e : j = k
  · subst e
    rw [if_pos rfl, List.set_append_right _ _ (by omega), hl, Nat.sub_self, List.set_cons_zero]
    congr 1
    rw [List.set_eq_of_length_le (by omega)]
  · rw [if_neg e]
    by_cases hk : k < j
    · rw [List.set_append_left _ _ (by omega)]
    · rw [List.set_eq_of_length_le (by rw [List.length_append, hl]; simp; omega), List.set_eq_of_length_le (by omega)]
/-- New bytes in a region: from block N on. -/
structure Fr (N : Nat) (w : World) (g : Nat) (l : List UInt8) : Prop where
  isB : IsB w (some ⟨g, 0, none⟩) l.length l.length l
  ge : N ≤ g
theorem Fr.past {N : Nat} {w w' : World} {g : Nat} {l : List UInt8} (h : Fr N w g l) (b : Below w.heap.size w w') : Fr N w' g l := ⟨h.isB.past b, h.ge⟩
theorem Fr.grown {N : Nat} {w w' : World} {g : Nat} {l : List UInt8} {row : Option Nat} (h : Fr N w g l) (b : w.grownBy w' row) (hne : ∀ z, row = some z → z < N) : Fr N w' g l :=
  ⟨h.isB.grown b (fun a ha e => by cases ha; exact absurd (hne g e.symm) (by have := h.ge; omega)), h.ge⟩
/-- A new row of one value. -/
structure FrV (N : Nat) (w : World) (g : Nat) (v : V) : Prop where
  isR : IsR EV w (some ⟨g, 0, none⟩) 1 1 [v]
  ge : N ≤ g
theorem FrV.past {N : Nat} {w w' : World} {g : Nat} {v : V} (h : FrV N w g v) (b : Below w.heap.size w w') : FrV N w' g v := ⟨h.isR.past b, h.ge⟩
theorem FrV.grown {N : Nat} {w w' : World} {g : Nat} {v : V} {row : Option Nat} (h : FrV N w g v) (b : w.grownBy w' row) (hne : ∀ z, row = some z → z < N) : FrV N w' g v :=
  ⟨h.isR.grown b (fun a ha e => by cases ha; exact absurd (hne g e.symm) (by have := h.ge; omega)), h.ge⟩
theorem one_vv (v : V) (w : World) : IsR EV (w.alloc (.cells #[.int .i64 v.k, .int .i64 v.n, .string v.s] 39)) (some ⟨w.heap.size, 0, none⟩) 1 1 [v] := (OwnR.ofBlk (E := EV) (l := [v]) (n := 1) (heap_alloc_new w _) rfl rfl (by omega)).isR
theorem nab_next {A C : Option Addr} {ga N : Nat} (h : ∀ z, blk A = some z → blk C ≠ some z) (hlt : ∀ z, blk C = some z → z < N) (hg : blk A = some ga ∨ N ≤ ga) : ∀ z, blk (some ⟨ga, 0, none⟩) = some z → blk C ≠ some z := by
  intro z hz hc
  cases hz
  rcases hg with hg | hg
  · exact h _ hg hc
  · exact absurd (hlt _ hc) (by simp; omega)
theorem nab_next' {A C : Option Addr} {gb N : Nat} (h : ∀ z, blk A = some z → blk C ≠ some z) (hlt : ∀ z, blk A = some z → z < N) (hg : blk C = some gb ∨ N ≤ gb) : ∀ z, blk A = some z → blk (some ⟨gb, 0, none⟩) ≠ some z := by
  intro z hz hc
  cases hc
  rcases hg with hg | hg
  · exact h _ hz hg
  · exact absurd (hlt _ hz) (by simp; omega)
theorem na_next {A : Option Addr} {S : Nat → Prop} {ga N : Nat} (h : ∀ z, S z → blk A ≠ some z) (hlt : ∀ z, S z → z < N) (hg : blk A = some ga ∨ N ≤ ga) : ∀ z, S z → blk (some ⟨ga, 0, none⟩) ≠ some z := by
  intro z hz hc
  cases hc
  rcases hg with hg | hg
  · exact h _ hz hg
  · exact absurd (hlt _ hz) (by simp; omega)
end Go.Proofs.Ytpphlmbhonaglaa
