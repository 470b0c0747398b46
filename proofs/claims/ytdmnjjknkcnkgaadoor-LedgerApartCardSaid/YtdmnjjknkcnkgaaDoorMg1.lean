/-
  Elements with rows behind their cells (changes, transactions, lists of them): read as plain data; each level's blocks have a property Q.
  What contracts say: a slice of bytes that is new, one that went on; a bool that is told.
  Values, plain: whether two are the same, what is wrong with one.
  A value: how one lies in cells.
  Changes, transactions, blocks, ledgers as plain data: how they lie in cells.
  Rows of whatever, of the call's own or nil; append to them in a region that draws its order.
  slices.Clone of changes, transactions, rows of them, blocks, values: of nil too (by gen_lgc.py).
  Rows of the call's own whose elements lead on: in blocks that have a property, what they lead to beside the row's own block; append to one.
  Blocks that are made, read and written whole. Of no program.
  A block's cells; a store of a whole block.
-/
import Derived.Test.YtdmnjjknkcnkgaaDoorMg0
import Derived.Test.YtdmnjjknkcnkgaaDoorProg
import Derived.WalkKit
import Derived.WalkSpells
import Derived.WalkLawsBesides
import Derived.Laws.Rows
import Derived.Lib.Hide
import Derived.Still
import Derived.StillTailTactics
import Derived.Deep.RegionHeld
import Derived.Great.BuildSlice
namespace Go.Proofs.YtdmnjjknkcnkgaaDoor
open Go.RowKit

/-- HOW AN ELEMENT LIES IN CELLS, AND WHAT LIES BEHIND THEM. -/
structure Dn (α : Type) where
  β : Type
  E : Enc β
  pos : 0 < E.sz
  R : World → (Nat → Prop) → β → α → Prop
  past : ∀ {w w' : World} {Q : Nat → Prop} {b : β} {x : α}, R w Q b x → Below w.heap.size w w' → R w' Q b x
  grown : ∀ {w w' : World} {Q : Nat → Prop} {b : β} {x : α} {g : Nat}, R w Q b x → w.grownBy w' (some g) → ¬ Q g → R w' Q b x
  imp : ∀ {w : World} {Q Q' : Nat → Prop} {b : β} {x : α}, R w Q b x → (∀ k, k < w.heap.size → Q k → Q' k) → R w Q' b x
theorem addr_block (a : Addr) (j : Nat) : (a.add j).block = a.block := by unfold Addr.add; split <;> rfl
section
variable {β : Type} {E : Enc β} {w w' : World} {ro : Option Addr} {m d : Nat} {l : List β}
theorem IsR.grownD {row : Option Nat} (h : IsR E w ro m d l) (hg : w.grownBy w' row) (hne : 0 < m → ∀ a, ro = some a → some a.block ≠ row) : IsR E w' ro m d l :=
  ⟨h.len, h.le, h.max, h.nil, fun a ha j u hu => by
    have hl := (List.getElem?_eq_some_iff.1 hu).1
    rw [E.all_length, h.len] at hl
    have hn : 0 < m := by
      rcases Nat.eq_zero_or_pos m with e | e
      · rw [e] at hl; omega
      · exact e
    exact hg.cell (h.cell a ha j u hu) (by rw [addr_block]; exact hne hn a ha)⟩
theorem IsR.ltD (h : IsR E w ro m d l) (hz : 0 < E.sz) : 0 < m → ∀ a, ro = some a → a.block < w.heap.size := fun hn a ha => by
  obtain ⟨b, off, hb, hl, _⟩ := h.open hn hz
  rw [hb] at ha
  cases ha
  exact hl
end
/-- A slice that holds something lies in a block that has the property. -/
def FrmD (Q : Nat → Prop) (n : Nat) (ao : Option Addr) : Prop := 0 < n → ∀ a, ao = some a → Q a.block
/-- What lies in the cells of a row, and what it reads as. -/
def RdD {α : Type} (D : Dn α) (w : World) (Q : Nat → Prop) (bs : List D.β) (ls : List α) : Prop :=
  bs.length = ls.length ∧ ∀ (j : Nat) (b : D.β) (x : α), bs[j]? = some b → ls[j]? = some x → D.R w Q b x
/-- THE SLICE ao, n, c READS AS ls, DOWN TO THE GROUND. -/
def IsD {α : Type} (D : Dn α) (w : World) (Q : Nat → Prop) (ao : Option Addr) (n c : Nat) (ls : List α) : Prop :=
  ∃ bs : List D.β, IsR D.E w ao n c bs ∧ FrmD Q n ao ∧ RdD D w Q bs ls
section
variable {α : Type} {D : Dn α} {w w' : World} {Q Q' : Nat → Prop} {bs bs' : List D.β} {ls ls' : List α} {ao : Option Addr} {n c : Nat}
theorem RdD.past (h : RdD D w Q bs ls) (b : Below w.heap.size w w') : RdD D w' Q bs ls := ⟨h.1, fun j x l hx hl => D.past (h.2 j x l hx hl) b⟩
theorem RdD.grown {g : Nat} (h : RdD D w Q bs ls) (k : w.grownBy w' (some g)) (hg : ¬ Q g) : RdD D w' Q bs ls := ⟨h.1, fun j x l hx hl => D.grown (h.2 j x l hx hl) k hg⟩
theorem RdD.imp (h : RdD D w Q bs ls) (hq : ∀ k, k < w.heap.size → Q k → Q' k) : RdD D w Q' bs ls := ⟨h.1, fun j x l hx hl => D.imp (h.2 j x l hx hl) hq⟩
theorem RdD.nil : RdD D w Q [] [] := ⟨rfl, fun j x l hx _ => by simp at hx⟩
theorem RdD.append (h : RdD D w Q bs ls) (k : RdD D w Q bs' ls') : RdD D w Q (bs ++ bs') (ls ++ ls') := by
  refine ⟨by simp [h.1, k.1], fun j x l hx hl => ?_⟩
  by_cases hj : j < bs.length
  · rw [List.getElem?_append_left hj] at hx
    rw [List.getElem?_append_left (by rw [← h.1]; exact hj)] at hl
    exact h.2 j x l hx hl
  · rw [List.getElem?_append_right (by omega)] at hx
    rw [List.getElem?_append_right (by rw [← h.1]; omega), ← h.1] at hl
    exact k.2 _ x l hx hl
theorem RdD.one {b : D.β} {x : α} (h : D.R w Q b x) : RdD D w Q [b] [x] := by
  refine ⟨rfl, fun j y m hy hm => ?_⟩
  cases j with
  | zero =>
    obtain rfl : b = y := by simpa using hy
    obtain rfl : x = m := by simpa using hm
    exact h
  | succ j => simp at hy
theorem RdD.get (h : RdD D w Q bs ls) {j : Nat} {x : α} (hl : ls[j]? = some x) : ∃ b, bs[j]? = some b ∧ D.R w Q b x := by
  have hj := (List.getElem?_eq_some_iff.1 hl).1
  obtain ⟨b, hb⟩ : ∃ b, bs[j]? = some b := ⟨bs[j]'(by rw [h.1]; exact hj), List.getElem?_eq_getElem _⟩
  exact ⟨b, hb, h.2 j b x hb hl⟩
/-- One of a row is put anew. -/
theorem RdD.set (h : RdD D w Q bs ls) {j : Nat} {b : D.β} {x : α} (hl : ls[j]? = some x) (hb : D.R w Q b x) : RdD D w Q (bs.set j b) ls := by
  refine ⟨by rw [List.length_set]; exact h.1, fun i y m hy hm => ?_⟩
  rw [List.getElem?_set] at hy
  split at hy
  · rename_i e
    subst e
    split at hy
    · obtain rfl := Option.some.inj hy
      rw [hl] at hm
      obtain rfl := Option.some.inj hm
      exact hb
    · cases hy
  · exact h.2 i y m hy hm
theorem IsD.past (h : IsD D w Q ao n c ls) (b : Below w.heap.size w w') : IsD D w' Q ao n c ls := by
  obtain ⟨bs, h1, h2, h3⟩ := h
  exact ⟨bs, h1.past b, h2, h3.past b⟩
theorem IsD.grown {g : Nat} (h : IsD D w Q ao n c ls) (k : w.grownBy w' (some g)) (hg : ¬ Q g) : IsD D w' Q ao n c ls := by
  obtain ⟨bs, h1, h2, h3⟩ := h
  exact ⟨bs, h1.grownD k (fun hn a ha e => hg (Option.some.inj e ▸ h2 hn a ha)), h2, h3.grown k hg⟩
theorem IsD.imp (h : IsD D w Q ao n c ls) (hq : ∀ k, k < w.heap.size → Q k → Q' k) : IsD D w Q' ao n c ls := by
  obtain ⟨bs, h1, h2, h3⟩ := h
  exact ⟨bs, h1, fun hn a ha => hq _ (h1.ltD D.pos hn a ha) (h2 hn a ha), h3.imp hq⟩
theorem IsD.len (h : IsD D w Q ao n c ls) : ls.length = n := by
  obtain ⟨bs, h1, h2, h3⟩ := h
  rw [← h3.1]
  exact h1.len
theorem IsD.nil (w : World) (Q : Nat → Prop) : IsD D w Q none 0 0 [] := ⟨[], IsR.nilR w, fun h => absurd h (by omega), RdD.nil⟩
/-- The element at place j: its cells, and what lies behind them. -/
theorem IsD.at (h : IsD D w Q ao n c ls) {j : Nat} {x : α} (hl : ls[j]? = some x) :
    ∃ (g off : Nat) (b : D.β), ao = some ⟨g, off, none⟩ ∧ g < w.heap.size ∧ Q g ∧ (∀ (k : Nat) (u : Value), (D.E.f b)[k]? = some u → w.cell? ⟨g, off + (j * D.E.sz + k), none⟩ = some u) ∧ D.R w Q b x := by
  have hln := h.len
  obtain ⟨bs, h1, h2, h3⟩ := h
  have hj := (List.getElem?_eq_some_iff.1 hl).1
  obtain ⟨b, hb, hr⟩ := h3.get hl
  obtain ⟨g, off, rfl, hg, hc⟩ := h1.open (by omega) D.pos
  refine ⟨g, off, b, rfl, hg, h2 (by omega) _ rfl, fun k u hu => hc _ u ?_, hr⟩
  have hk := (List.getElem?_eq_some_iff.1 hu).1
  rw [D.E.len] at hk
  rw [D.E.all_get bs j k b hb hk]
  exact hu
end
/-- Elements that lie in their cells alone. -/
def flatD {α : Type} (E : Enc α) (h : 0 < E.sz) : Dn α := ⟨α, E, h, fun _ _ b x => b = x, fun h _ => h, fun h _ _ => h, fun h _ => h⟩
/-- Slices of elements. -/
def rowD {α : Type} (D : Dn α) : Dn (List α) := ⟨HdR, EH, by decide, fun w Q h l => IsD D w Q h.a h.n h.c l, fun h b => h.past b, fun h k hg => h.grown k hg, fun h hq => h.imp hq⟩
/-- Something plain with a slice beside it. -/
def recD {α γ : Type} (D : Dn α) (E : Enc (γ × HdR)) (hp : 0 < E.sz) : Dn (γ × List α) :=
  ⟨γ × HdR, E, hp, fun w Q b x => b.1 = x.1 ∧ IsD D w Q b.2.a b.2.n b.2.c x.2, fun h b => ⟨h.1, h.2.past b⟩, fun h k hg => ⟨h.1, h.2.grown k hg⟩, fun h hq => ⟨h.1, h.2.imp hq⟩⟩
theorem lists_eq {β : Type} {bs l : List β} (h3 : bs.length = l.length) (h4 : ∀ (j : Nat) (b x : β), bs[j]? = some b → l[j]? = some x → b = x) : bs = l := List.ext_getElem? fun j => by
  rcases Nat.lt_or_ge j bs.length with q | q
  · rw [List.getElem?_eq_getElem q, List.getElem?_eq_getElem (by rw [← h3]; exact q)]
    exact congrArg some (h4 j _ _ (List.getElem?_eq_getElem q) (List.getElem?_eq_getElem (by rw [← h3]; exact q)))
  · rw [List.getElem?_eq_none q, List.getElem?_eq_none (by rw [← h3]; exact q)]
section
variable {β : Type} {E : Enc β} {w w' : World} {Q : Nat → Prop} {ao : Option Addr} {n c : Nat} {l : List β}
theorem IsD.flat {hp : 0 < E.sz} (h : IsD (flatD E hp) w Q ao n c l) : IsR E w ao n c l := by
  obtain ⟨bs, h1, -, h3, h4⟩ := h
  have e : bs = l := lists_eq (β := β) h3 h4
  rw [← e]
  exact h1
theorem RdD.flat (E : Enc β) (hp : 0 < E.sz) (w : World) (Q : Nat → Prop) (l : List β) : RdD (flatD E hp) w Q l l :=
  ⟨rfl, fun _ _ _ h k => Option.some.inj (h.symm.trans k)⟩
theorem IsR.deep (h : IsR E w ao n c l) (hp : 0 < E.sz) (hQ : FrmD Q n ao) : IsD (flatD E hp) w Q ao n c l := ⟨l, h, hQ, RdD.flat E hp w Q l⟩
/-- What can be read at all lies in some block. -/
theorem IsR.deepT (h : IsR E w ao n c l) (hp : 0 < E.sz) : IsD (flatD E hp) w (fun _ => True) ao n c l := h.deep hp fun _ _ _ => trivial
end
/-- THE ROW IN BLOCK g IS THE CALL's OWN AND READS AS ls. -/
def OwnD {α : Type} (D : Dn α) (w : World) (Q : Nat → Prop) (e : TypeId) (g n c : Nat) (ls : List α) : Prop := ∃ bs : List D.β, OwnR D.E w e g n c bs ∧ RdD D w Q bs ls
section
variable {α : Type} {D : Dn α} {w w' : World} {Q Q' : Nat → Prop} {ls : List α} {e : TypeId} {g n c : Nat}
theorem OwnD.isD (h : OwnD D w Q e g n c ls) (hQ : Q g) : IsD D w Q (some ⟨g, 0, none⟩) n c ls := by
  obtain ⟨bs, h1, h2⟩ := h
  exact ⟨bs, h1.isR, fun _ a ha => by cases ha; exact hQ, h2⟩
theorem OwnD.past (h : OwnD D w Q e g n c ls) (b : Below w.heap.size w w') : OwnD D w' Q e g n c ls := by
  obtain ⟨bs, h1, h2⟩ := h
  exact ⟨bs, h1.past b, h2.past b⟩
theorem OwnD.grown {r : Nat} (h : OwnD D w Q e g n c ls) (k : w.grownBy w' (some r)) (hr : ¬ Q r) (hne : g ≠ r) : OwnD D w' Q e g n c ls := by
  obtain ⟨bs, h1, h2⟩ := h
  exact ⟨bs, h1.grown k (fun q => hne (Option.some.inj q)), h2.grown k hr⟩
end
theorem take_put {α : Type} (c y : List α) {a m N : Nat} (hy : y.length = m) (h1 : a + m ≤ N) (h2 : N ≤ c.length) : (c.take a ++ y ++ c.drop (a + m)).take N = (c.take N).take a ++ y ++ (c.take N).drop (a + m) := by
  have e1 : (c.take a ++ y).length = a + m := by rw [List.length_append, List.length_take, hy]; omega
  rw [List.take_append, List.take_of_length_le (l := c.take a ++ y) (by omega), e1, List.take_drop, List.take_take, Nat.min_eq_left (show a ≤ N by omega), show a + m + (N - (a + m)) = N by omega]
theorem set_low {β α : Type} {bs : List β} {ls : List α} {P : β → α → Prop} {j : Nat} {nb : β} {x : α} (hj : j < bs.length) (hx : ls[j]? = some x) (hd : ∀ (k : Nat) (b : β) (y : α), k < j → bs[k]? = some b → ls[k]? = some y → P b y) (hn : P nb x) :
    ∀ (k : Nat) (b : β) (y : α), k < j + 1 → (bs.set j nb)[k]? = some b → ls[k]? = some y → P b y := fun k b y hk h1 h2 => by
  by_cases hkj : k = j
  · subst hkj
    rw [List.getElem?_set_self hj] at h1
    obtain rfl := Option.some.inj h1
    rw [hx] at h2
    obtain rfl := Option.some.inj h2
    exact hn
  · rw [List.getElem?_set_ne (Ne.symm hkj)] at h1
    exact hd k b y (by omega) h1 h2
theorem set_high {β : Type} {bs bs' : List β} {j : Nat} {nb : β} (he : ∀ k, j ≤ k → bs'[k]? = bs[k]?) : ∀ k, j + 1 ≤ k → (bs'.set j nb)[k]? = bs[k]? := fun k hk => by
  rw [List.getElem?_set_ne (show j ≠ k by omega)]
  exact he k (by omega)
/-- A store of a whole element into a row of the call's own. -/
theorem OwnR.setAll {β : Type} {E : Enc β} {w : World} {e : TypeId} {g n c : Nat} {l : List β} (h : OwnR E w e g n c l) (i : Nat) (x : β) (hi : i < n) (cur' : Array Value) (w' : World) (hw : w'.heap[g]? = some (.cells cur' e (0, 0)))
    (hc : ∀ cur, w.heap[g]? = some (.cells cur e (0, 0)) → cur'.toList = cur.toList.take (i * E.sz) ++ E.f x ++ cur.toList.drop (i * E.sz + E.sz)) : OwnR E w' e g n c (l.set i x) := by
  have hln := h.len
  have hle := h.le
  have hmx := h.max
  obtain ⟨cur, hg, hs, ht⟩ := h.row
  have hcc := hc cur hg
  have h1 : i * E.sz + E.sz ≤ n * E.sz := by rw [← Nat.succ_mul]; exact Nat.mul_le_mul_right _ hi
  have h2 : n * E.sz ≤ c * E.sz := Nat.mul_le_mul_right _ hle
  have hcl : cur.toList.length = c * E.sz := by rw [Array.length_toList, hs]
  refine ⟨by rw [List.length_set]; exact hln, hle, hmx, cur', hw, ?_, ?_⟩
  · rw [← Array.length_toList, hcc, List.length_append, List.length_append, List.length_take, List.length_drop, E.len, hcl]
    omega
  · rw [hcc, E.all_set l i x (by omega), ← ht, Nat.succ_mul]
    exact take_put cur.toList (E.f x) (E.len x) h1 (by omega)
theorem put1L {α : Type} (L : List α) (a : Nat) (u : α) (h : a < L.length) : L.set a u = L.take a ++ [u] ++ L.drop (a + 1) := by
  rw [List.set_eq_take_append_cons_drop, if_pos h, List.append_assoc]
  rfl
theorem put2L {α : Type} (L : List α) (a : Nat) (u v : α) (h : a + 1 < L.length) : (L.set a u).set (a + 1) v = L.take a ++ [u, v] ++ L.drop (a + 2) := by
  have e : (L.take a ++ [u]).length = a + 1 := by rw [List.length_append, List.length_take]; simp; omega
  rw [put1L (L.set a u) (a + 1) v (by rw [List.length_set]; exact h), put1L L a u (by omega), List.take_append_of_le_length (by omega), List.take_of_length_le (by omega), List.drop_append, List.drop_eq_nil_of_le («as» := L.take a ++ [u]) (by omega), e, List.drop_drop, List.nil_append]
  simp
theorem put3L {α : Type} (L : List α) (a : Nat) (u v x : α) (h : a + 2 < L.length) : ((L.set a u).set (a + 1) v).set (a + 2) x = L.take a ++ [u, v, x] ++ L.drop (a + 3) := by
  have e : (L.take a ++ [u, v]).length = a + 2 := by rw [List.length_append, List.length_take]; simp; omega
  rw [put1L ((L.set a u).set (a + 1) v) (a + 2) x (by rw [List.length_set, List.length_set]; exact h), put2L L a u v (by omega), List.take_append_of_le_length (by omega), List.take_of_length_le (by omega), List.drop_append, List.drop_eq_nil_of_le («as» := L.take a ++ [u, v]) (by omega), e, List.drop_drop, List.nil_append]
  simp
section
variable {β : Type} {E : Enc β} {w : World} {e : TypeId} {g n c : Nat} {l : List β}
theorem OwnR.room (h : OwnR E w e g n c l) {i : Nat} (hi : i < n) {cur : Array Value} (hg : w.heap[g]? = some (.cells cur e (0, 0))) : i * E.sz + E.sz ≤ cur.toList.length := by
  obtain ⟨cur', hg', hs, -⟩ := h.row
  rw [hg] at hg'
  obtain rfl : cur = cur' := by simpa using hg'
  have h1 : i * E.sz + E.sz ≤ n * E.sz := by rw [← Nat.succ_mul]; exact Nat.mul_le_mul_right _ hi
  have h2 : n * E.sz ≤ c * E.sz := Nat.mul_le_mul_right _ h.le
  rw [Array.length_toList, hs]
  omega
theorem OwnR.put1 (h : OwnR E w e g n c l) (i : Nat) (hi : i < n) (x : β) (v0 : Value) (hf : E.f x = [v0]) : OwnR E (w.setCell ⟨g, i, none⟩ v0) e g n c (l.set i x) := by
  obtain ⟨cur, hg, -, -⟩ := h.row
  have hz : E.sz = 1 := by rw [← E.len x, hf]; rfl
  have hr := h.room hi hg
  refine h.setAll i x hi (cur.setIfInBounds i v0) _ (heap_setCell_same hg) fun cur' hg' => ?_
  rw [hg] at hg'
  obtain rfl : cur = cur' := by simpa using hg'
  rw [hz] at hr ⊢
  rw [hf, Array.toList_setIfInBounds, put1L _ _ _ (by omega), Nat.mul_one]
theorem OwnR.put2 (h : OwnR E w e g n c l) (i : Nat) (hi : i < n) (x : β) (v0 v1 : Value) (hf : E.f x = [v0, v1]) : OwnR E ((w.setCell ⟨g, i * 2, none⟩ v0).setCell ⟨g, i * 2 + 1, none⟩ v1) e g n c (l.set i x) := by
  obtain ⟨cur, hg, -, -⟩ := h.row
  have hz : E.sz = 2 := by rw [← E.len x, hf]; rfl
  have hr := h.room hi hg
  refine h.setAll i x hi ((cur.setIfInBounds (i * 2) v0).setIfInBounds (i * 2 + 1) v1) _ (heap_setCell_same (heap_setCell_same hg)) fun cur' hg' => ?_
  rw [hg] at hg'
  obtain rfl : cur = cur' := by simpa using hg'
  rw [hz] at hr ⊢
  rw [hf, Array.toList_setIfInBounds, Array.toList_setIfInBounds, put2L _ _ _ _ (by omega)]
theorem OwnR.put3 (h : OwnR E w e g n c l) (i : Nat) (hi : i < n) (x : β) (v0 v1 v2 : Value) (hf : E.f x = [v0, v1, v2]) : OwnR E (((w.setCell ⟨g, i * 3, none⟩ v0).setCell ⟨g, i * 3 + 1, none⟩ v1).setCell ⟨g, i * 3 + 2, none⟩ v2) e g n c (l.set i x) := by
  obtain ⟨cur, hg, -, -⟩ := h.row
  have hz : E.sz = 3 := by rw [← E.len x, hf]; rfl
  have hr := h.room hi hg
  refine h.setAll i x hi (((cur.setIfInBounds (i * 3) v0).setIfInBounds (i * 3 + 1) v1).setIfInBounds (i * 3 + 2) v2) _ (heap_setCell_same (heap_setCell_same (heap_setCell_same hg))) fun cur' hg' => ?_
  rw [hg] at hg'
  obtain rfl : cur = cur' := by simpa using hg'
  rw [hz] at hr ⊢
  rw [hf, Array.toList_setIfInBounds, Array.toList_setIfInBounds, Array.toList_setIfInBounds, put3L _ _ _ _ _ (by omega)]
theorem OwnR.freeD (h : OwnR E w e g n c l) (i : Nat) : w.frozen? ⟨g, i, none⟩ = false := by
  obtain ⟨cur, hg, -, -⟩ := h.row
  exact free_blk hg
end
end Go.Proofs.YtdmnjjknkcnkgaaDoor
namespace Go.Proofs.YtdmnjjknkcnkgaaDoor
open Go.RowKit

theorem info_u8 : (Tryd.prog.info? 5).map (fun i => (i.zero, i.size, i.bytes)) = some (some (.int .u8 0), 1, 1) := by kernel_rfl
theorem byteTy : ByteTy Tryd.prog 44 5 := ⟨Tryd.underlying44, Tryd.underlying5, info_parts info_u8⟩

/-- A NEW SLICE OF N BYTES l IS ANSWERED, AND NOTHING THAT WAS THERE HAS CHANGED. -/
def Fresh (w : World) (N : Nat) (l : List UInt8) (en : Ending) (w' : World) : Prop :=
  ∃ g cap, en = .returned (.slice (some ⟨g, 0, none⟩) N cap) ∧ OwnB w' 5 g N cap l ∧ Below w.heap.size w w' ∧ w.heap.size ≤ g
/-- THE ROW g WENT ON: N BYTES l ARE ANSWERED. -/
def Went (w : World) (g n N : Nat) (l : List UInt8) (en : Ending) (w' : World) : Prop :=
  ∃ g' cap, en = .returned (.slice (some ⟨g', 0, none⟩) N cap) ∧ OwnB w' 5 g' N cap l ∧ Puts w w' g n ∧ (g' = g ∨ w.heap.size ≤ g')
/-- A BOOL b IS ANSWERED, AND NOTHING THAT WAS THERE HAS CHANGED. -/
def Told (w : World) (b : Bool) (en : Ending) (w' : World) : Prop := en = .returned (.bool b) ∧ Below w.heap.size w w'
theorem ret_int {k : IntKind} {a b : Int} (h : a = b) : Ending.returned (.int k a) = .returned (.int k b) := by rw [h]
theorem below_on {w a b : World} (h : Below w.heap.size w a) (k : Below a.heap.size a b) : Below w.heap.size w b := h.trans (k.mono h.size)
theorem own_empty (w : World) : OwnB (w.alloc (.cells #[] 5)) 5 w.heap.size 0 0 [] :=
  ⟨rfl, Nat.le_refl _, Nat.zero_le _, #[], heap_alloc_new w _, rfl, rfl⟩

theorem below_puts {w a b : World} {o : Obj} {g n : Nat} (h : Below w.heap.size w a) (p : Puts (a.alloc o) b g n) (hg : a.heap.size ≤ g) : Below w.heap.size w b := by
  have hs := h.size
  exact (h.alloc hs o).trans (p.below (by omega) (by simp; omega))
theorem ge_new {a : World} {o : Obj} {g : Nat} (h : g = a.heap.size ∨ (a.alloc o).heap.size ≤ g) : a.heap.size ≤ g := by
  simp at h
  omega
theorem ge_old {a b : World} {g g' : Nat} {B : Nat} (d : Below B a b) (hB : B ≤ a.heap.size) (hg : B ≤ g) (h : g' = g ∨ b.heap.size ≤ g') : B ≤ g' := by
  have := d.size
  omega
end Go.Proofs.YtdmnjjknkcnkgaaDoor
namespace Go.Proofs.YtdmnjjknkcnkgaaDoor
open Go.RowKit

/-- A value's three cells. -/
abbrev vv (k n : Int) (s : ByteArray) : Value := .agg #[.int .i64 k, .int .i64 n, .string s]
/-- Whether two are the same. -/
def eqV (k n : Int) (s : ByteArray) (k' n' : Int) (s' : ByteArray) : Bool := k == k' && (n == n' && s.toList == s'.toList)
set_option maxRecDepth 100000 in
theorem run_eql_val (k n : Int) (s : ByteArray) (k' n' : Int) (s' : ByteArray) (w : World) :
    (binOp .eql 36 (vv k n s) (vv k' n' s')).run Tryd.prog w = .ok (.bool (eqV k n s k' n' s')) w := by
  unfold vv eqV
  go_simp
  by_cases h1 : k = k' <;> by_cases h2 : n = n' <;> by_cases h3 : s.toList = s'.toList <;> simp [h1, h2, h3]
/-- What is wrong with one. -/
def chkV (k n : Int) (s : ByteArray) : Int :=
  if k = 0 then (if n = 0 ∧ s.toList.isEmpty = true then 0 else 1)
  else if k = 1 then (if n = 0 ∨ n = 1 then (if s.toList.isEmpty = true then 0 else 1) else 1)
  else if k = 2 then (if s.toList.isEmpty = true then 0 else 1)
  else if k = 3 then (if n = 0 then (if (60 : Int) < (s.size : Int) then 5 else 0) else 1)
  else 3
end Go.Proofs.YtdmnjjknkcnkgaaDoor
namespace Go.Proofs.YtdmnjjknkcnkgaaDoor
open Go.RowKit

/-- A value. -/
structure V where
  k : Int
  n : Int
  s : ByteArray
def V.val (v : V) : Value := vv v.k v.n v.s
def V0 : V := ⟨0, 0, ⟨#[]⟩⟩
def EV : Enc V where
  sz := 3
  f v := [.int .i64 v.k, .int .i64 v.n, .string v.s]
  len _ := rfl
  one v u hu := by
    simp only [List.mem_cons, List.not_mem_nil, or_false] at hu
    rcases hu with rfl | rfl | rfl <;> rfl
theorem info_val : (Tryd.prog.info? 36).map (fun i => (i.zero, i.size, i.bytes)) = some (some (.agg #[.int .i64 0, .int .i64 0, .string ⟨#[]⟩]), 3, 32) := by kernel_rfl
theorem rowTyV : RowTy EV Tryd.prog 37 36 V0 := by
  obtain ⟨i, hi, hz, hs, hb⟩ := info_parts info_val
  exact ⟨Tryd.underlying37, i, _, hi, hz, hs, rfl, by rw [hb]; decide⟩
/-- The cells of the value at place i. -/
theorem cells_v {w : World} {b off : Nat} {l : List V} (h : ∀ j u, (EV.all l)[j]? = some u → w.cell? ⟨b, off + j, none⟩ = some u) (i : Nat) (v : V) (hv : l[i]? = some v) :
    w.cell? ⟨b, off + i * 3, none⟩ = some (.int .i64 v.k) ∧ w.cell? ⟨b, off + i * 3 + 1, none⟩ = some (.int .i64 v.n) ∧ w.cell? ⟨b, off + i * 3 + 2, none⟩ = some (.string v.s) := by
  have g := fun j (hj : j < 3) => EV.all_get l i j v hv hj
  exact ⟨h _ _ (g 0 (by decide)), h _ _ (g 1 (by decide)), h _ _ (g 2 (by decide))⟩
end Go.Proofs.YtdmnjjknkcnkgaaDoor
namespace Go.Proofs.YtdmnjjknkcnkgaaDoor
open Go.RowKit

/-- A sum. -/
structure H32 where
  l : List UInt8
  len : l.length = 32
/-- A change: its table, what it does, its row. -/
abbrev Chg := (ByteArray × Int) × List V
/-- A transaction: its number, its changes. -/
abbrev Txn := Int × List Chg
structure Blk where
  n : Int
  prev : H32
  root : H32
  count : Int
theorem bcs_1cell (l : List UInt8) : ∀ u ∈ bcs l, u.oneCell' = true := by
  intro u hu
  obtain ⟨x, -, rfl⟩ := List.mem_map.1 hu
  rfl
theorem bcs_32 (l : List UInt8) : (bcs l).length = l.length := by simp [bcs]
def ECh : Enc ((ByteArray × Int) × HdR) where
  sz := 3
  f x := [.string x.1.1, .int .i64 x.1.2, .slice x.2.a x.2.n x.2.c]
  len _ := rfl
  one x u hu := by
    simp only [List.mem_cons, List.not_mem_nil, or_false] at hu
    rcases hu with rfl | rfl | rfl <;> rfl
def ETx : Enc (Int × HdR) where
  sz := 2
  f x := [.int .i64 x.1, .slice x.2.a x.2.n x.2.c]
  len _ := rfl
  one x u hu := by
    simp only [List.mem_cons, List.not_mem_nil, or_false] at hu
    rcases hu with rfl | rfl <;> rfl
def Blk.cs (b : Blk) : List Value := .int .i64 b.n :: (bcs b.prev.l ++ (bcs b.root.l ++ [.int .i64 b.count]))
theorem Blk.cs_len (b : Blk) : b.cs.length = 66 := by simp [Blk.cs, bcs, b.prev.len, b.root.len]
def EBk : Enc Blk where
  sz := 66
  f b := b.cs
  len b := b.cs_len
  one b u hu := by
    unfold Blk.cs at hu
    rcases List.mem_cons.1 hu with rfl | hu
    · rfl
    rcases List.mem_append.1 hu with hu | hu
    · exact bcs_1cell _ u hu
    rcases List.mem_append.1 hu with hu | hu
    · exact bcs_1cell _ u hu
    · obtain rfl := List.mem_singleton.1 hu
      rfl
def EHs : Enc H32 where
  sz := 32
  f h := bcs h.l
  len h := by rw [bcs_32, h.len]
  one h u hu := bcs_1cell _ u hu
def DV : Dn V := flatD EV (by decide)
def DC : Dn Chg := recD DV ECh (by decide)
def DT : Dn Txn := recD DC ETx (by decide)
def DB : Dn Blk := flatD EBk (by decide)
def DTs : Dn (List Txn) := rowD DT
theorem chg_info : (Tryd.prog.info? 39).map (fun i => (i.zero, i.size, i.bytes)) = some (some (.agg #[.string ⟨#[]⟩, .int .i64 0, .slice none 0 0]), 3, 48) := by kernel_rfl
theorem rowTyCh : RowTy ECh Tryd.prog 30 39 ((⟨#[]⟩, 0), ⟨none, 0, 0⟩) := by
  obtain ⟨i, h1, h2, h3, h4⟩ := info_parts chg_info
  exact ⟨Tryd.underlying30, i, _, h1, h2, h3, rfl, by rw [h4]; decide⟩
theorem tx_info : (Tryd.prog.info? 32).map (fun i => (i.zero, i.size, i.bytes)) = some (some (.agg #[.int .i64 0, .slice none 0 0]), 2, 32) := by kernel_rfl
theorem rowTyTx : RowTy ETx Tryd.prog 25 32 (0, ⟨none, 0, 0⟩) := by
  obtain ⟨i, h1, h2, h3, h4⟩ := info_parts tx_info
  exact ⟨Tryd.underlying25, i, _, h1, h2, h3, rfl, by rw [h4]; decide⟩
theorem txs_info : (Tryd.prog.info? 25).map (fun i => (i.zero, i.size, i.bytes)) = some (some (.slice none 0 0), 1, 24) := by kernel_rfl
theorem rowTyTxs : RowTy EH Tryd.prog 27 25 ⟨none, 0, 0⟩ := by
  obtain ⟨i, h1, h2, h3, h4⟩ := info_parts txs_info
  exact ⟨Tryd.underlying27, i, _, h1, h2, h3, rfl, by rw [h4]; decide⟩
def H0s : H32 := ⟨List.replicate 32 0, rfl⟩
def Blk0 : Blk := ⟨0, H0s, H0s, 0⟩
theorem blk_info : (Tryd.prog.info? 79).map (fun i => (i.zero, i.size, i.bytes)) = some (some (.agg Blk0.cs.toArray), 66, 80) := by kernel_rfl
theorem rowTyBk : RowTy EBk Tryd.prog 26 79 Blk0 := by
  obtain ⟨i, h1, h2, h3, h4⟩ := info_parts blk_info
  exact ⟨Tryd.underlying26, i, _, h1, h2, h3, rfl, by rw [h4]; decide⟩
theorem hash_info : (Tryd.prog.info? 47).map (fun i => (i.zero, i.size, i.bytes)) = some (some (.agg (bcs H0s.l).toArray), 32, 32) := by kernel_rfl
theorem rowTyHs : RowTy EHs Tryd.prog 97 47 H0s := by
  obtain ⟨i, h1, h2, h3, h4⟩ := info_parts hash_info
  exact ⟨Tryd.underlying97, i, _, h1, h2, h3, rfl, by rw [h4]; decide⟩
/-- A ledger. -/
structure Lgr where
  next : Int
  op : List Txn
  bl : List Blk
  ts : List (List Txn)
/-- Its slices read so. -/
structure LgR (w : World) (Q : Nat → Prop) (oa : Option Addr) (on oc : Nat) (ba : Option Addr) (bn bc : Nat) (ta : Option Addr) (tn tc : Nat) (L : Lgr) : Prop where
  op : IsD DT w Q oa on oc L.op
  bl : IsD DB w Q ba bn bc L.bl
  ts : IsD DTs w Q ta tn tc L.ts
def lgV (next : Int) (oa : Option Addr) (on oc : Nat) (ba : Option Addr) (bn bc : Nat) (ta : Option Addr) (tn tc : Nat) : Value := .agg #[.int .i64 next, .slice oa on oc, .slice ba bn bc, .slice ta tn tc]
section
variable {w w' : World} {Q Q' : Nat → Prop} {oa : Option Addr} {on oc : Nat} {ba : Option Addr} {bn bc : Nat} {ta : Option Addr} {tn tc : Nat} {L : Lgr}
theorem LgR.past (h : LgR w Q oa on oc ba bn bc ta tn tc L) (b : Below w.heap.size w w') : LgR w' Q oa on oc ba bn bc ta tn tc L := ⟨h.op.past b, h.bl.past b, h.ts.past b⟩
theorem LgR.grown {g : Nat} (h : LgR w Q oa on oc ba bn bc ta tn tc L) (k : w.grownBy w' (some g)) (hg : ¬ Q g) : LgR w' Q oa on oc ba bn bc ta tn tc L := ⟨h.op.grown k hg, h.bl.grown k hg, h.ts.grown k hg⟩
theorem LgR.imp (h : LgR w Q oa on oc ba bn bc ta tn tc L) (hq : ∀ k, k < w.heap.size → Q k → Q' k) : LgR w Q' oa on oc ba bn bc ta tn tc L := ⟨h.op.imp hq, h.bl.imp hq, h.ts.imp hq⟩
end
end Go.Proofs.YtdmnjjknkcnkgaaDoor
namespace Go.Proofs.YtdmnjjknkcnkgaaDoor
open Go.RowKit
/-- A ROW OF THE CALL's OWN, OR NIL. -/
structure TxtR {α : Type} (E : Enc α) (w : World) (e : TypeId) (B : Nat) (ao : Option Addr) (n c : Nat) (l : List α) : Prop where
  either : (ao = none ∧ n = 0 ∧ c = 0 ∧ l = []) ∨ ∃ g, ao = some ⟨g, 0, none⟩ ∧ OwnR E w e g n c l ∧ B ≤ g
/-- The block that a slice lies in. -/
def blk (ao : Option Addr) : Option Nat := ao.map (·.block)
section
variable {α : Type} {E : Enc α} {w w' : World} {e : TypeId} {B : Nat} {ao : Option Addr} {n c : Nat} {l : List α}
theorem TxtR.nil (w : World) (e : TypeId) (B : Nat) : TxtR E w e B none 0 0 [] := ⟨.inl ⟨rfl, rfl, rfl, rfl⟩⟩
theorem TxtR.isR (h : TxtR E w e B ao n c l) : IsR E w ao n c l := by
  rcases h.either with ⟨rfl, rfl, rfl, rfl⟩ | ⟨g, rfl, o, _⟩
  · exact IsR.nilR w
  · exact o.isR
theorem TxtR.len (h : TxtR E w e B ao n c l) : l.length = n := h.isR.len
theorem TxtR.past (h : TxtR E w e B ao n c l) (b : Below w.heap.size w w') : TxtR E w' e B ao n c l := by
  rcases h.either with h | ⟨g, rfl, o, hg⟩
  · exact ⟨.inl h⟩
  · exact ⟨.inr ⟨g, rfl, o.past b, hg⟩⟩
theorem TxtR.grown {row : Option Nat} (h : TxtR E w e B ao n c l) (b : w.grownBy w' row) (hne : ∀ z, blk ao = some z → row ≠ some z) : TxtR E w' e B ao n c l := by
  rcases h.either with h | ⟨g, rfl, o, hg⟩
  · exact ⟨.inl h⟩
  · exact ⟨.inr ⟨g, rfl, o.grown b (fun e => hne g rfl e.symm), hg⟩⟩
theorem TxtR.lt (h : TxtR E w e B ao n c l) : ∀ z, blk ao = some z → z < w.heap.size := by
  rcases h.either with ⟨rfl, _⟩ | ⟨g, rfl, o, _⟩
  · intro z hz; cases hz
  · intro z hz
    cases hz
    exact o.lt
theorem puts_grown' {g n : Nat} (h : Puts w w' g n) : w.grownBy w' (some g) := ⟨h.os, h.tape, h.output, h.size, fun k hk hne => h.block k hk (fun e => hne (by rw [e]))⟩
/-- append, in a region that draws: what has grown is the row's own block, or nothing that was there. -/
theorem wp_append_r {P : Program} {zero : α} {o : Oper} {a : Act} {K : Act → World → Prop} {Q : Exit → Act → World → Prop} (s x : Operand) (t tx : TypeId)
    (ho : o.op = .call { callee := .builtin .append, args := #[s, x], argTypes := #[t, tx] }) (hB : RowTy E P t e zero) (hsv : a.eval s = .slice ao n c) (h : TxtR E w e B ao n c l) (hBw : B ≤ w.heap.size)
    (X : Value) (hx : a.eval x = X) (m : Nat) (cs : List α) (hs : Src P E.sz tx X m (E.all cs) w) (hcl : cs.length = m) (hpos : 0 < m) (N : Nat) (hN : n + m = N) (L : List α) (hL : l ++ cs = L) (hmax : N ≤ 1000000)
    (hK : ∀ g' c' w', TxtR E w' e B (some ⟨g', 0, none⟩) N c' L → w.grownBy w' (blk ao) → (blk ao = some g' ∨ w.heap.size ≤ g') → Below B w w' → K (a.put o.dst (.slice (some ⟨g', 0, none⟩) N c')) w') : o.wp P a w K Q := by
  subst hN
  subst hL
  rcases h.either with ⟨rfl, rfl, rfl, rfl⟩ | ⟨g, rfl, ow, hg⟩
  · obtain ⟨cap', w', hr, h1, h2⟩ := run_append_nr (P := P) w t tx o.type e hB 0 rfl X m cs hs hcl hpos (by omega)
    unfold Oper.wp execOp
    simp only [ho, resolve, invoke, builtin, Sem.run_bind, Sem.run_pure, Result.andThen_ok, List.map_toArray, List.map_cons, List.map_nil, hsv, hx, hr]
    have e0 : 0 + m = m := Nat.zero_add m
    have hh := hK w.heap.size cap' w' ⟨.inr ⟨_, rfl, by rw [e0]; exact h1, hBw⟩⟩ ⟨h2.os, h2.tape, h2.output, h2.size, fun k hk _ => h2.block k hk⟩ (.inr (Nat.le_refl _)) (h2.mono hBw)
    rw [e0] at hh
    exact hh
  · obtain ⟨g', cap', w', hr, h1, h2, h3⟩ := run_append_or (P := P) w t tx o.type e hB g n c l ow X m cs hs hcl hmax
    unfold Oper.wp execOp
    simp only [ho, resolve, invoke, builtin, Sem.run_bind, Sem.run_pure, Result.andThen_ok, List.map_toArray, List.map_cons, List.map_nil, hsv, hx, hr]
    exact hK g' cap' w' ⟨.inr ⟨_, rfl, h1, by rcases h3 with rfl | h3; exact hg; exact Nat.le_trans hBw h3⟩⟩ (puts_grown' h2) (by rcases h3 with rfl | h3; exact .inl rfl; exact .inr h3) (h2.below hg hBw)
end
end Go.Proofs.YtdmnjjknkcnkgaaDoor
namespace Go.Proofs.YtdmnjjknkcnkgaaDoor
open Go.RowKit

theorem own_emptyR' {α : Type} {E : Enc α} (w : World) (e : TypeId) : OwnR E (w.alloc (.cells #[] e)) e w.heap.size 0 0 [] :=
  ⟨rfl, Nat.le_refl _, Nat.zero_le _, #[], heap_alloc_new w _, by simp, by simp [Enc.all]⟩
theorem eqlS_nil' {P : Program} (w : World) (t e : TypeId) (h : P.underlying t = some (.slice e)) (a : Addr) (n c : Nat) : (binOp .eql t (.slice (some a) n c) (.slice none 0 0)).run P w = .ok (.bool false) w := by
  simpa using Lib.run_eql_slice_nil w t e (some a) n c 0 0 h
theorem eqlS_nil0 {P : Program} (w : World) (t e : TypeId) (h : P.underlying t = some (.slice e)) : (binOp .eql t (.slice none 0 0) (.slice none 0 0)).run P w = .ok (.bool true) w := by
  simpa using Lib.run_eql_slice_nil w t e none 0 0 0 0 h
set_option maxRecDepth 100000 in
theorem kclone_ch (w : World) (ao : Option Addr) (n c : Nat) (l : List ((ByteArray × Int) × HdR)) (h : IsR ECh w ao n c l) (hm : n ≤ 1000000) :
    Calls Tryd.prog 56 #[.slice ao n c] w fun e w' => ∃ ao' c', e = .returned (.slice ao' n c') ∧ TxtR ECh w' 39 w.heap.size ao' n c' l ∧ Below w.heap.size w w' := by
  have hln := h.len
  rcases ao with - | a
  · obtain rfl : c = 0 := h.nil rfl
    obtain rfl : n = 0 := by have := h.le; omega
    obtain rfl : l = [] := List.eq_nil_of_length_eq_zero hln
    have hnil := fun w' : World => eqlS_nil0 (P := Tryd.prog) w' 30 39 Tryd.underlying30
    go_enter Tryd.func56, Tryd.ntmps56
    go_wp2_with fail
    go_ret
    exact ⟨none, 0, rfl, TxtR.nil _ _ _, Below.refl _ _⟩
  · have o0 : OwnR ECh (w.alloc (.cells #[] 39)) 39 w.heap.size 0 0 [] := own_emptyR' w _
    have B0 : Below w.heap.size w (w.alloc (.cells #[] 39)) := (Below.refl _ _).alloc (Nat.le_refl _) _
    have hs := (h.past B0).src (P := Tryd.prog) Tryd.underlying30
    have hnil := fun w' : World => eqlS_nil' (P := Tryd.prog) w' 30 39 Tryd.underlying30 a n c
    go_enter Tryd.func56, Tryd.ntmps56
    go_wp2_with (at_builtin; refine wpList_append_or rfl _ _ 30 30 rfl 39 rowTyCh w.heap.size 0 0 [] rfl o0 _ rfl n l hs hln n (Nat.zero_add n) l rfl (by omega) ?_; intro g1 c1 w1 o1 p1 q1)
    go_ret
    exact ⟨_, c1, rfl, ⟨.inr ⟨_, rfl, o1, by rcases q1 with rfl | q1; exact Nat.le_refl _; rw [World.size_alloc] at q1; omega⟩⟩, B0.trans (p1.below (Nat.le_refl _) B0.size)⟩
set_option maxRecDepth 100000 in
theorem kclone_tx (w : World) (ao : Option Addr) (n c : Nat) (l : List (Int × HdR)) (h : IsR ETx w ao n c l) (hm : n ≤ 1000000) :
    Calls Tryd.prog 71 #[.slice ao n c] w fun e w' => ∃ ao' c', e = .returned (.slice ao' n c') ∧ TxtR ETx w' 32 w.heap.size ao' n c' l ∧ Below w.heap.size w w' := by
  have hln := h.len
  rcases ao with - | a
  · obtain rfl : c = 0 := h.nil rfl
    obtain rfl : n = 0 := by have := h.le; omega
    obtain rfl : l = [] := List.eq_nil_of_length_eq_zero hln
    have hnil := fun w' : World => eqlS_nil0 (P := Tryd.prog) w' 25 32 Tryd.underlying25
    go_enter Tryd.func71, Tryd.ntmps71
    go_wp2_with fail
    go_ret
    exact ⟨none, 0, rfl, TxtR.nil _ _ _, Below.refl _ _⟩
  · have o0 : OwnR ETx (w.alloc (.cells #[] 32)) 32 w.heap.size 0 0 [] := own_emptyR' w _
    have B0 : Below w.heap.size w (w.alloc (.cells #[] 32)) := (Below.refl _ _).alloc (Nat.le_refl _) _
    have hs := (h.past B0).src (P := Tryd.prog) Tryd.underlying25
    have hnil := fun w' : World => eqlS_nil' (P := Tryd.prog) w' 25 32 Tryd.underlying25 a n c
    go_enter Tryd.func71, Tryd.ntmps71
    go_wp2_with (at_builtin; refine wpList_append_or rfl _ _ 25 25 rfl 32 rowTyTx w.heap.size 0 0 [] rfl o0 _ rfl n l hs hln n (Nat.zero_add n) l rfl (by omega) ?_; intro g1 c1 w1 o1 p1 q1)
    go_ret
    exact ⟨_, c1, rfl, ⟨.inr ⟨_, rfl, o1, by rcases q1 with rfl | q1; exact Nat.le_refl _; rw [World.size_alloc] at q1; omega⟩⟩, B0.trans (p1.below (Nat.le_refl _) B0.size)⟩
set_option maxRecDepth 100000 in
theorem kclone_txs (w : World) (ao : Option Addr) (n c : Nat) (l : List (HdR)) (h : IsR EH w ao n c l) (hm : n ≤ 1000000) :
    Calls Tryd.prog 63 #[.slice ao n c] w fun e w' => ∃ ao' c', e = .returned (.slice ao' n c') ∧ TxtR EH w' 25 w.heap.size ao' n c' l ∧ Below w.heap.size w w' := by
  have hln := h.len
  rcases ao with - | a
  · obtain rfl : c = 0 := h.nil rfl
    obtain rfl : n = 0 := by have := h.le; omega
    obtain rfl : l = [] := List.eq_nil_of_length_eq_zero hln
    have hnil := fun w' : World => eqlS_nil0 (P := Tryd.prog) w' 27 25 Tryd.underlying27
    go_enter Tryd.func63, Tryd.ntmps63
    go_wp2_with fail
    go_ret
    exact ⟨none, 0, rfl, TxtR.nil _ _ _, Below.refl _ _⟩
  · have o0 : OwnR EH (w.alloc (.cells #[] 25)) 25 w.heap.size 0 0 [] := own_emptyR' w _
    have B0 : Below w.heap.size w (w.alloc (.cells #[] 25)) := (Below.refl _ _).alloc (Nat.le_refl _) _
    have hs := (h.past B0).src (P := Tryd.prog) Tryd.underlying27
    have hnil := fun w' : World => eqlS_nil' (P := Tryd.prog) w' 27 25 Tryd.underlying27 a n c
    go_enter Tryd.func63, Tryd.ntmps63
    go_wp2_with (at_builtin; refine wpList_append_or rfl _ _ 27 27 rfl 25 rowTyTxs w.heap.size 0 0 [] rfl o0 _ rfl n l hs hln n (Nat.zero_add n) l rfl (by omega) ?_; intro g1 c1 w1 o1 p1 q1)
    go_ret
    exact ⟨_, c1, rfl, ⟨.inr ⟨_, rfl, o1, by rcases q1 with rfl | q1; exact Nat.le_refl _; rw [World.size_alloc] at q1; omega⟩⟩, B0.trans (p1.below (Nat.le_refl _) B0.size)⟩
set_option maxRecDepth 100000 in
theorem kclone_bk (w : World) (ao : Option Addr) (n c : Nat) (l : List (Blk)) (h : IsR EBk w ao n c l) (hm : n ≤ 1000000) :
    Calls Tryd.prog 44 #[.slice ao n c] w fun e w' => ∃ ao' c', e = .returned (.slice ao' n c') ∧ TxtR EBk w' 79 w.heap.size ao' n c' l ∧ Below w.heap.size w w' := by
  have hln := h.len
  rcases ao with - | a
  · obtain rfl : c = 0 := h.nil rfl
    obtain rfl : n = 0 := by have := h.le; omega
    obtain rfl : l = [] := List.eq_nil_of_length_eq_zero hln
    have hnil := fun w' : World => eqlS_nil0 (P := Tryd.prog) w' 26 79 Tryd.underlying26
    go_enter Tryd.func44, Tryd.ntmps44
    go_wp2_with fail
    go_ret
    exact ⟨none, 0, rfl, TxtR.nil _ _ _, Below.refl _ _⟩
  · have o0 : OwnR EBk (w.alloc (.cells #[] 79)) 79 w.heap.size 0 0 [] := own_emptyR' w _
    have B0 : Below w.heap.size w (w.alloc (.cells #[] 79)) := (Below.refl _ _).alloc (Nat.le_refl _) _
    have hs := (h.past B0).src (P := Tryd.prog) Tryd.underlying26
    have hnil := fun w' : World => eqlS_nil' (P := Tryd.prog) w' 26 79 Tryd.underlying26 a n c
    go_enter Tryd.func44, Tryd.ntmps44
    go_wp2_with (at_builtin; refine wpList_append_or rfl _ _ 26 26 rfl 79 rowTyBk w.heap.size 0 0 [] rfl o0 _ rfl n l hs hln n (Nat.zero_add n) l rfl (by omega) ?_; intro g1 c1 w1 o1 p1 q1)
    go_ret
    exact ⟨_, c1, rfl, ⟨.inr ⟨_, rfl, o1, by rcases q1 with rfl | q1; exact Nat.le_refl _; rw [World.size_alloc] at q1; omega⟩⟩, B0.trans (p1.below (Nat.le_refl _) B0.size)⟩
set_option maxRecDepth 100000 in
theorem kclone_vs (w : World) (ao : Option Addr) (n c : Nat) (l : List (V)) (h : IsR EV w ao n c l) (hm : n ≤ 1000000) :
    Calls Tryd.prog 57 #[.slice ao n c] w fun e w' => ∃ ao' c', e = .returned (.slice ao' n c') ∧ TxtR EV w' 36 w.heap.size ao' n c' l ∧ Below w.heap.size w w' := by
  have hln := h.len
  rcases ao with - | a
  · obtain rfl : c = 0 := h.nil rfl
    obtain rfl : n = 0 := by have := h.le; omega
    obtain rfl : l = [] := List.eq_nil_of_length_eq_zero hln
    have hnil := fun w' : World => eqlS_nil0 (P := Tryd.prog) w' 37 36 Tryd.underlying37
    go_enter Tryd.func57, Tryd.ntmps57
    go_wp2_with fail
    go_ret
    exact ⟨none, 0, rfl, TxtR.nil _ _ _, Below.refl _ _⟩
  · have o0 : OwnR EV (w.alloc (.cells #[] 36)) 36 w.heap.size 0 0 [] := own_emptyR' w _
    have B0 : Below w.heap.size w (w.alloc (.cells #[] 36)) := (Below.refl _ _).alloc (Nat.le_refl _) _
    have hs := (h.past B0).src (P := Tryd.prog) Tryd.underlying37
    have hnil := fun w' : World => eqlS_nil' (P := Tryd.prog) w' 37 36 Tryd.underlying37 a n c
    go_enter Tryd.func57, Tryd.ntmps57
    go_wp2_with (at_builtin; refine wpList_append_or rfl _ _ 37 37 rfl 36 rowTyV w.heap.size 0 0 [] rfl o0 _ rfl n l hs hln n (Nat.zero_add n) l rfl (by omega) ?_; intro g1 c1 w1 o1 p1 q1)
    go_ret
    exact ⟨_, c1, rfl, ⟨.inr ⟨_, rfl, o1, by rcases q1 with rfl | q1; exact Nat.le_refl _; rw [World.size_alloc] at q1; omega⟩⟩, B0.trans (p1.below (Nat.le_refl _) B0.size)⟩
end Go.Proofs.YtdmnjjknkcnkgaaDoor
namespace Go.Proofs.YtdmnjjknkcnkgaaDoor
open Go.RowKit
set_option linter.unusedSimpArgs false
def FrG (B : Nat) (b : Nat) : Prop := B ≤ b
def FrGN (B : Nat) (ao : Option Addr) (b : Nat) : Prop := B ≤ b ∧ blk ao ≠ some b
theorem TxtR.zero {β : Type} {E : Enc β} {w : World} {e : TypeId} {B : Nat} {ao : Option Addr} {n c : Nat} {l : List β} (h : TxtR E w e B ao n c l) : TxtR E w e 0 ao n c l := ⟨h.either.imp id fun ⟨g, h1, h2, _⟩ => ⟨g, h1, h2, Nat.zero_le _⟩⟩
theorem TxtR.geB {β : Type} {E : Enc β} {w : World} {e : TypeId} {B : Nat} {ao : Option Addr} {n c : Nat} {l : List β} (h : TxtR E w e B ao n c l) : ∀ z, blk ao = some z → B ≤ z := fun z hz => by
  rcases h.either with ⟨rfl, -⟩ | ⟨g, rfl, -, hg⟩
  · cases hz
  · cases hz; exact hg
theorem grown_none {w w' : World} (h : w.grownBy w' none) : Below w.heap.size w w' := ⟨h.os, h.tape, h.output, h.size, fun b hb => h.block b hb (by simp)⟩
section
variable {α : Type} {D : Dn α} {w w' : World} {Q Q' : Nat → Prop} {bs : List D.β} {ls : List α} {ao : Option Addr} {n c : Nat} {e : TypeId} {row : Option Nat}
theorem RdD.grownO (h : RdD D w Q bs ls) (g : w.grownBy w' row) (hr : ∀ r, row = some r → ¬ Q r) : RdD D w' Q bs ls := by
  cases row with
  | none => exact h.past (grown_none g)
  | some r => exact h.grown g (hr r rfl)
theorem IsD.grownO (h : IsD D w Q ao n c ls) (g : w.grownBy w' row) (hr : ∀ r, row = some r → ¬ Q r) : IsD D w' Q ao n c ls := by
  cases row with
  | none => exact h.past (grown_none g)
  | some r => exact h.grown g (hr r rfl)
/-- THE SLICE ao, n, c IS THE CALL's OWN (OR NIL) AND READS AS ls. -/
structure TxD {α : Type} (D : Dn α) (w : World) (e : TypeId) (Q : Nat → Prop) (ao : Option Addr) (n c : Nat) (bs : List D.β) (ls : List α) : Prop where
  row : TxtR D.E w e 0 ao n c bs
  frm : ∀ z, blk ao = some z → Q z
  rd : RdD D w (fun b => Q b ∧ blk ao ≠ some b) bs ls
theorem TxD.past (h : TxD D w e Q ao n c bs ls) (b : Below w.heap.size w w') : TxD D w' e Q ao n c bs ls := ⟨h.row.past b, h.frm, h.rd.past b⟩
theorem TxD.grownO (h : TxD D w e Q ao n c bs ls) (g : w.grownBy w' row) (hr : ∀ r, row = some r → ¬ Q r) : TxD D w' e Q ao n c bs ls :=
  ⟨h.row.grown g fun z hz e => hr z e (h.frm z hz), h.frm, h.rd.grownO g fun r e hq => hr r e hq.1⟩
theorem TxD.imp (h : TxD D w e Q ao n c bs ls) (hq : ∀ k, k < w.heap.size → Q k → Q' k) : TxD D w e Q' ao n c bs ls :=
  ⟨h.row, fun z hz => hq z (h.row.lt z hz) (h.frm z hz), h.rd.imp fun k hk hh => ⟨hq k hk hh.1, hh.2⟩⟩
theorem TxD.isD (h : TxD D w e Q ao n c bs ls) : IsD D w Q ao n c ls :=
  ⟨bs, h.row.isR, fun hn a ha => h.frm _ (by rw [ha]; rfl), h.rd.imp fun k _ hh => hh.1⟩
theorem TxD.len (h : TxD D w e Q ao n c bs ls) : ls.length = n := h.isD.len
theorem TxD.nil (w : World) (e : TypeId) (Q : Nat → Prop) : TxD D w e Q none 0 0 [] [] := ⟨TxtR.nil .., (fun z hz => by cases hz), RdD.nil⟩
/-- A copy is answered, in memory of its own. -/
def CopiedIs {α : Type} (D : Dn α) (e : TypeId) (w : World) (n : Nat) (ls : List α) (en : Ending) (w' : World) : Prop :=
  ∃ ao' c' bs', en = .returned (.slice ao' n c') ∧ TxD D w' e (FrG w.heap.size) ao' n c' bs' ls ∧ Below w.heap.size w w'
/-- One more was put behind. -/
theorem TxD.app {Qx : Nat → Prop} {b : D.β} {x : α} {g' c' : Nat} (h : TxD D w e Q ao n c bs ls) (hx : D.R w Qx b x) (hne : ∀ z, blk ao = some z → ¬ Qx z) (o' : TxtR D.E w' e 0 (some ⟨g', 0, none⟩) (n + 1) c' (bs ++ [b])) (g : w.grownBy w' (blk ao)) (hg' : blk ao = some g' ∨ w.heap.size ≤ g') :
    TxD D w' e (fun k => Q k ∨ Qx k ∨ w.heap.size ≤ k) (some ⟨g', 0, none⟩) (n + 1) c' (bs ++ [b]) (ls ++ [x]) := by
  have key : ∀ k, k < w.heap.size → blk ao ≠ some k → blk (some (⟨g', 0, none⟩ : Addr)) ≠ some k := by
    intro k hk hn e
    have e2 : g' = k := Option.some.inj e
    rcases hg' with q | q
    · exact hn (by rw [q, e2])
    · omega
  refine ⟨o', fun z hz => ?_, ?_⟩
  · have e2 : g' = z := Option.some.inj hz
    rcases hg' with q | q
    · exact .inl (h.frm z (by rw [q, e2]))
    · exact .inr (.inr (by omega))
  · have r1 : RdD D w (fun k => (Q k ∨ Qx k ∨ w.heap.size ≤ k) ∧ blk ao ≠ some k ∧ k < w.heap.size) bs ls := h.rd.imp fun k hk hh => ⟨.inl hh.1, hh.2, hk⟩
    have r2 : RdD D w (fun k => (Q k ∨ Qx k ∨ w.heap.size ≤ k) ∧ blk ao ≠ some k ∧ k < w.heap.size) [b] [x] := RdD.one (D.imp hx fun k hk hh => ⟨.inr (.inl hh), fun e => hne k e hh, hk⟩)
    exact ((r1.append r2).grownO g fun r e hq => hq.2.1 e).imp fun k _ hh => ⟨hh.1, key k hh.2.2 hh.2.1⟩
end
end Go.Proofs.YtdmnjjknkcnkgaaDoor
namespace Go.Proofs.YtdmnjjknkcnkgaaDoor
open Go.RowKit

/-- A variable that is an array: its block is new and holds zeros. -/
theorem wpList_alloc_blk {P : Program} {w : World} {ops : Array Oper} {rest : List Oper} {o : Oper} {a : Act} {Q : Exit → Act → World → Prop} (hgd : o.guard = none) (t : TypeId) (ho : o.op = .alloc t) (Z : Array Value)
    (hz : (P.info? t).map (fun i => i.zero) = some (some (.agg Z)))
    (hK : ∀ w' g, Hid (w'.heap[g]? = some (.cells Z t (0, 0))) → Below w.heap.size w w' → w.heap.size ≤ g → wpList P ops Q rest (a.put o.dst (.pointer (some ⟨g, 0, none⟩))) w') :
    wpList P ops Q (o :: rest) a w := by
  refine wpList_plain hgd fun K hK' => ?_
  have h0 : (zeroValue t).run P w = .ok (.agg Z) w := by
    cases hq : P.info? t with
    | none => simp [hq] at hz
    | some i =>
      simp [hq] at hz
      simp [zeroValue, typeInfo, hq, hz]
  have hr : (Instr.alloc t true (.tuple #[])).run P w = .ok (.pointer (some ⟨w.heap.size, 0, none⟩)) (w.alloc (.cells Z t)) := by
    simp [Instr.alloc, h0, newVar, newRow, Value.cells]
  unfold Oper.wp execOp
  simp only [ho, Sem.run_bind, Sem.run_pure, Result.andThen_ok, hr]
  exact hK' _ _ (hK _ _ (heap_alloc_new w _) ((Below.refl _ _).alloc (Nat.le_refl _) _) (Nat.le_refl _))
/-- A value is put together: the kernel reckons it. -/
theorem wpList_build_at {P : Program} {ops : Array Oper} {rest : List Oper} {o : Oper} {a : Act} {w : World} {Q : Exit → Act → World → Prop} (hg : o.guard = none) (t : TypeId) (parts : Array (Nat × Operand)) (ho : o.op = .build t parts) (V : Array Value)
    (hf : P.built t (parts.map fun (i, x) => (i, a.eval x)).toList = some V) (h : wpList P ops Q rest (a.put o.dst (.agg V)) w) : wpList P ops Q (o :: rest) a w :=
  wpList_build hg t parts ho (by rw [hf]; rfl) (by rw [hf]; exact h)
/-- An array of whatever is read whole, is written whole. -/
theorem wpList_load_blk {P : Program} {w : World} {ops : Array Oper} {rest : List Oper} {o : Oper} {a : Act} {Q : Exit → Act → World → Prop} (hgd : o.guard = none) (ty : TypeId) (x : Operand) (ho : o.op = .load ty x)
    (g : Nat) (cs : Array Value) (hx : a.eval x = .pointer (some ⟨g, 0, none⟩)) (t : TypeId) (hg : Hid (w.heap[g]? = some (.cells cs t (0, 0)))) (n : Nat) (e : TypeId) (hu : P.underlying ty = some (.array n e)) (N : Nat) (hi : (P.info? ty).map (·.size) = some N) (hl : cs.size = N)
    (hK : wpList P ops Q rest (a.put o.dst (.agg cs)) w) : wpList P ops Q (o :: rest) a w :=
  wpList_load_row hgd ty x ho g hx t cs (0, 0) _ hg.out hu rfl (by rw [hi, hl]) hK
theorem wpList_store_blk {P : Program} {w : World} {ops : Array Oper} {rest : List Oper} {o : Oper} {a : Act} {Q : Exit → Act → World → Prop} (hgd : o.guard = none) (ty : TypeId) (x y : Operand) (ho : o.op = .store ty x y)
    (g : Nat) (old cs : Array Value) (hx : a.eval x = .pointer (some ⟨g, 0, none⟩)) (hy : a.eval y = .agg cs) (t : TypeId) (hg : Hid (w.heap[g]? = some (.cells old t (0, 0)))) (N : Nat) (hi : (P.info? ty).map (·.size) = some N) (hl : old.size = N) (hm : cs.size = N) (h1 : cs.all (·.oneCell') = true)
    (hK : ∀ w', Hid (w'.heap[g]? = some (.cells cs t (0, 0))) → w.grownBy w' (some g) → wpList P ops Q rest (a.put o.dst undef) w') :
    wpList P ops Q (o :: rest) a w := by
  refine wpList_store_row hgd ty x y ho g cs hx hy t old hg.out (by rw [hi, hm]) (by rw [hl, hm]) h1 (hK _ (setRow_heap w g _ _ _ _ hg.out) ⟨rfl, rfl, rfl, by simp, fun k _ hk => setRow_other w g k _ (fun e => hk (by rw [e]))⟩)

theorem wp_alloc_blk {P : Program} {w : World} {o : Oper} {a : Act} {K : Act → World → Prop} {Q : Exit → Act → World → Prop} (t : TypeId) (ho : o.op = .alloc t) (Z : Array Value)
    (hz : (P.info? t).map (fun i => i.zero) = some (some (.agg Z)))
    (hK : ∀ w' g, Hid (w'.heap[g]? = some (.cells Z t (0, 0))) → Below w.heap.size w w' → w.heap.size ≤ g → K (a.put o.dst (.pointer (some ⟨g, 0, none⟩))) w') : o.wp P a w K Q := by
  have h0 : (zeroValue t).run P w = .ok (.agg Z) w := by
    cases hq : P.info? t with
    | none => simp [hq] at hz
    | some i =>
      simp [hq] at hz
      simp [zeroValue, typeInfo, hq, hz]
  have hr : (Instr.alloc t true (.tuple #[])).run P w = .ok (.pointer (some ⟨w.heap.size, 0, none⟩)) (w.alloc (.cells Z t)) := by
    simp [Instr.alloc, h0, newVar, newRow, Value.cells]
  unfold Oper.wp execOp
  simp only [ho, Sem.run_bind, Sem.run_pure, Result.andThen_ok, hr]
  exact hK _ _ (heap_alloc_new w _) ((Below.refl _ _).alloc (Nat.le_refl _) _) (Nat.le_refl _)
/-- A load of several cells, wherever they lie. -/
theorem run_load_cells {P : Program} (w : World) (ty : TypeId) (a : Addr) (l : List Value) (hagg : ∀ w, (isAgg ty).run P w = .ok true w) (hi : (P.info? ty).map (·.size) = some l.length) (h : ∀ j v, l[j]? = some v → w.cell? (a.add j) = some v) : (loadVar ty a).run P w = .ok (.agg l.toArray) w := by
  have hl : (loadCells a l.length).run P w = .ok l.toArray w := run_loadCells_list (P := P) w a l h
  cases hq : P.info? ty with
  | none => simp [hq] at hi
  | some i =>
    have hs : i.size = l.length := by simpa [hq] using hi
    simp [loadVar, Sem.run_bind, hagg, sizeOf, typeInfo, hq, hs, hl]
theorem wp_load_cells {P : Program} {o : Oper} {a : Act} {w : World} {K : Act → World → Prop} {Q : Exit → Act → World → Prop} (ty : TypeId) (x : Operand) (ho : o.op = .load ty x)
    (p : Addr) (hx : a.eval x = .pointer (some p)) (l : List Value) (hc : ∀ j v, l[j]? = some v → w.cell? (p.add j) = some v) (hagg : ∀ w, (isAgg ty).run P w = .ok true w) (hi : (P.info? ty).map (·.size) = some l.length)
    (h : K (a.put o.dst (.agg l.toArray)) w) : o.wp P a w K Q := by
  unfold Oper.wp execOp
  simp only [ho, hx, Instr.loadAt, Instr.sureAddr, Sem.run_bind, Sem.run_pure, Result.andThen_ok, run_load_cells w ty p l hagg hi hc]
  exact h
theorem wpList_load_cells {P : Program} {ops : Array Oper} {rest : List Oper} {o : Oper} {a : Act} {w : World} {Q : Exit → Act → World → Prop} (hgd : o.guard = none) (ty : TypeId) (x : Operand) (ho : o.op = .load ty x)
    (p : Addr) (hx : a.eval x = .pointer (some p)) (l : List Value) (hc : ∀ j v, l[j]? = some v → w.cell? (p.add j) = some v) (hagg : ∀ w, (isAgg ty).run P w = .ok true w) (hi : (P.info? ty).map (·.size) = some l.length)
    (h : wpList P ops Q rest (a.put o.dst (.agg l.toArray)) w) : wpList P ops Q (o :: rest) a w :=
  wpList_plain hgd fun _ hK => wp_load_cells ty x ho p hx l hc hagg hi (hK _ _ h)
theorem yieldsIf_load_cells {P : Program} {ops : Array Oper} {S : World → Prop} {op : Oper} {a : Act} (hw : Region.wanted op (yielded ops a.tmps) = true) (ty : TypeId) (x : Operand) (ho : op.op = .load ty x)
    (p : Addr) (hx : a.eval x = .pointer (some p)) (l : List Value) (hS : ∀ w, S w → ∀ j v, l[j]? = some v → w.cell? (p.add j) = some v) (hagg : ∀ w, (isAgg ty).run P w = .ok true w) (hi : (P.info? ty).map (·.size) = some l.length) : YieldsIf P ops S op (.agg l.toArray) a :=
  .inl ⟨hw, fun w hw' => by
    unfold execOp
    simp only [ho, hx, Instr.loadAt, Instr.sureAddr, Sem.run_bind, Sem.run_pure, Result.andThen_ok, run_load_cells w ty p l hagg hi (hS w hw')]⟩
/-- A slice literal of one element of several cells. -/
theorem wp_buildSlice_one {P : Program} {o : Oper} {a : Act} {w : World} {K : Act → World → Prop} {Q : Exit → Act → World → Prop} (t e : TypeId) (x : Operand) (ho : o.op = .buildSlice t 1 #[(0, x)]) (C : List Value) (sz : Nat) (hx : a.eval x = .agg C.toArray) (hC : C.length = sz) (hsz : 0 < sz) (hs2 : sz ≤ 1000)
    (hu : P.underlying t = some (.slice e)) (hi : ∃ i z, P.info? e = some i ∧ i.zero = some z ∧ i.size = sz)
    (hK : ∀ w', w'.heap[w.heap.size]? = some (.cells C.toArray e (0, 0)) → Below w.heap.size w w' → w.heap.size < w'.heap.size → K (a.put o.dst (.slice (some ⟨w.heap.size, 0, none⟩) 1 1)) w') : o.wp P a w K Q := by
  obtain ⟨i, z, h1, h2, h3⟩ := hi
  have e0 : (#[(0, x)].map fun (i, x) => (i, a.eval x)).toList = ([Value.agg C.toArray].zipIdx 0).map fun x => (x.2, x.1) := by
    simp [hx]
  refine wp_buildSlice t e 1 _ ho C.toArray i z hu h1 h2 (by rw [h3]; omega) (by rw [h3]; omega) ?_ (hK _ (heap_alloc_new w _) ((Below.refl _ _).alloc (Nat.le_refl _) _) (by simp))
  rw [e0, h3, Great.fill_whole hsz _ _ (fun v hv => by
    obtain rfl := List.mem_singleton.1 hv
    simp [Value.cells, hC]) (by simp)]
  simp [Value.cells]
end Go.Proofs.YtdmnjjknkcnkgaaDoor
namespace Go.Proofs.YtdmnjjknkcnkgaaDoor
open Go.RowKit

/-- Block g holds the cells cs. -/
def Bk (w : World) (g : Nat) (cs : Array Value) (t : TypeId) : Prop := w.heap[g]? = some (.cells cs t (0, 0))
section
variable {w w' : World} {g : Nat} {cs : Array Value} {t : TypeId}
theorem Bk.lt (h : Bk w g cs t) : g < w.heap.size := (Array.getElem?_eq_some_iff.1 h).1
theorem Bk.past (h : Bk w g cs t) (b : Below w.heap.size w w') : Bk w' g cs t := (b.block g h.lt).trans h
theorem Bk.grown {r : Option Nat} (h : Bk w g cs t) (b : w.grownBy w' r) (hne : some g ≠ r) : Bk w' g cs t := (b.block g h.lt hne).trans h
theorem Bk.c (h : Bk w g cs t) {i : Nat} {v : Value} (hv : cs[i]? = some v) : w.cell? ⟨g, i, none⟩ = some v := cell_blk h hv
theorem Bk.new (w : World) (cs : Array Value) (t : TypeId) : Bk (w.alloc (.cells cs t)) w.heap.size cs t := heap_alloc_new w _
theorem Bk.alloc (h : Bk w g cs t) (o : Obj) : Bk (w.alloc o) g cs t := (Below.heap_alloc w o g h.lt).trans h
end
theorem wp_store_blkT {P : Program} {w : World} {o : Oper} {a : Act} {K : Act → World → Prop} {Q : Exit → Act → World → Prop} (ty : TypeId) (x y : Operand) (ho : o.op = .store ty x y)
    (g : Nat) (old cs : Array Value) (hx : a.eval x = .pointer (some ⟨g, 0, none⟩)) (hy : a.eval y = .agg cs) (t : TypeId) (hg : Hid (w.heap[g]? = some (.cells old t (0, 0)))) (N : Nat) (hi : (P.info? ty).map (·.size) = some N) (hl : old.size = N) (hm : cs.size = N) (h1 : cs.all (·.oneCell') = true)
    (hK : ∀ w', Hid (w'.heap[g]? = some (.cells cs t (0, 0))) → w.grownBy w' (some g) → K (a.put o.dst undef) w') : o.wp P a w K Q := by
  refine wp_store_row ty x y ho g cs hx hy t old hg.out (by rw [hi, hm]) (by rw [hl, hm]) h1 (hK _ (setRow_heap w g _ _ _ _ hg.out) ⟨rfl, rfl, rfl, by simp, fun k _ hk => setRow_other w g k _ (fun e => hk (by rw [e]))⟩)
end Go.Proofs.YtdmnjjknkcnkgaaDoor
