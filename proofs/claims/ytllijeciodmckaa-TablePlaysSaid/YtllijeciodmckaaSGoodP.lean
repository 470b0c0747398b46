/-
  The valid schema that the laws make of a raw one: in plain words; its parts.
-/
import Derived.Test.YtllijeciodmckaaCo
import Derived.Test.YtllijeciodmckaaW9
import Derived.Test.YtllijeciodmckaaInv
namespace Go.Proofs.Ytllijeciodmckaa
open Go.RowKit

theorem letter_conv (w : World) (x : Int) (u : UInt8) (h : x = (u.toNat : Int)) : (convert 31 9 (.slice (some ⟨w.heap.size, 0, none⟩) 1 1)).run Try.prog (w.alloc (.cells #[.int .u8 x] 5)) = .ok (.string (bsOf [u])) (w.alloc (.cells #[.int .u8 x] 5)) := by
  subst h
  have i1 := isB_lit w #[.int .u8 (u.toNat : Int)] 5 [u] 1 rfl rfl (by omega)
  exact i1.conv byteTy Try.underlying9
/-- The names, the columns, the key. -/
def gNm (nn : Int) : List UInt8 := [113, UInt8.ofNat (97 + (wth nn 26).toNat)]
def gAt (cs : List Co) (i : Nat) : Co :=
  match cs[i]? with
  | some c => ⟨[UInt8.ofNat (97 + i)], 1 + wth c.kind 3, c.null⟩
  | none => ⟨[UInt8.ofNat (97 + i)], 2, false⟩
def gCols (cs : List Co) (j : Nat) : List Co := (List.range j).map (gAt cs)
theorem gCols_len (cs : List Co) (j : Nat) : (gCols cs j).length = j := by simp [gCols]
theorem gCols_next (cs : List Co) (j : Nat) : gCols cs j ++ [gAt cs j] = gCols cs (j + 1) := by simp [gCols, List.range_succ]
def gN (cs : List Co) : Nat := if cs.length = 0 then 1 else min cs.length 6
def gKey (cs : List Co) (key : Int) : Nat := (wth key (gN cs : Nat)).toNat
def noNull (c : Co) : Co := ⟨c.name, c.kind, false⟩
def gFin (cs : List Co) (key : Int) : List Co := (gCols cs (gN cs)).set (gKey cs key) (noNull (gAt cs (gKey cs key)))
theorem gN_pos (cs : List Co) : 1 ≤ gN cs ∧ gN cs ≤ 6 := by unfold gN; split <;> omega
theorem gKey_lt (cs : List Co) (key : Int) : gKey cs key < gN cs ∧ (gKey cs key : Int) = wth key (gN cs : Nat) := by
  have h := gN_pos cs
  have h1 := wth_lo key (gN cs : Nat) (by omega)
  have h2 := wth_hi key (gN cs : Nat) (by omega)
  unfold gKey
  omega
theorem gFin_len (cs : List Co) (key : Int) : (gFin cs key).length = gN cs := by unfold gFin; rw [List.length_set, gCols_len]
theorem all_set_null : ∀ (l : List Co) (k : Nat) (x : Co), l[k]? = some x → (encCo.all l).set (k * 3 + 2) (.bool false) = encCo.all (l.set k (noNull x))
  | [], k, x, h => by simp at h
  | y :: l, 0, x, h => by
    obtain rfl : y = x := by simpa using h
    rw [encCo.all_cons, List.set_cons_zero, encCo.all_cons]
    rfl
  | y :: l, k + 1, x, h => by
    have ih := all_set_null l k x (by simpa using h)
    rw [encCo.all_cons, List.set_cons_succ, encCo.all_cons, ← ih, show (k + 1) * 3 + 2 = (k * 3 + 2) + 3 by omega]
    show ([_, _, _] ++ encCo.all l).set (k * 3 + 2 + 3) _ = _
    rfl
theorem OwnR.null {w : World} {e : TypeId} {g n cap : Nat} {l : List Co} (h : OwnR encCo w e g n cap l) (k : Nat) (x : Co) (hx : l[k]? = some x) : OwnR encCo (w.setCell ⟨g, k * 3 + 2, none⟩ (.bool false)) e g n cap (l.set k (noNull x)) := by
  obtain ⟨cur, h1, h2, h3⟩ := h.row
  have hk : k < l.length := (List.getElem?_eq_some_iff.1 hx).1
  have hl := h.len
  refine ⟨by rw [List.length_set]; exact h.len, h.le, h.max, cur.setIfInBounds (k * 3 + 2) (.bool false), heap_setCell_same h1, by simpa using h2, ?_⟩
  rw [Array.toList_setIfInBounds, List.take_set, h3]
  exact all_set_null l k x hx
theorem OwnR.cell3 {w : World} {e : TypeId} {g n cap : Nat} {l : List Co} (h : OwnR encCo w e g n cap l) (k : Nat) (x : Co) (hx : l[k]? = some x) : w.cell? ⟨g, k * 3, none⟩ = some (.string (bsOf x.name)) ∧ w.cell? ⟨g, k * 3 + 1, none⟩ = some (.int .i64 x.kind) ∧ w.cell? ⟨g, k * 3 + 2, none⟩ = some (.bool x.null) := by
  have hI := h.isR
  have hc : ∀ j u, (encCo.all l)[j]? = some u → w.cell? ⟨g, 0 + j, none⟩ = some u := fun j u hu => by
    have := hI.cell _ rfl j u hu
    rwa [Addr.add_lit] at this
  have := cells_co hc k x hx
  simpa using this
theorem OwnR.free {w : World} {e : TypeId} {g n cap : Nat} {l : List Co} (h : OwnR encCo w e g n cap l) (i : Nat) : w.frozen? ⟨g, i, none⟩ = false := by
  obtain ⟨cur, h1, _⟩ := h.row
  exact free_blk h1
/-- A valid schema is made. -/
def GoodIs (w : World) (nn : Int) (cs : List Co) (key : Int) (only : Bool) (en : Ending) (w' : World) : Prop :=
  ∃ g c, en = .returned (scV (gNm nn) (some ⟨g, 0, none⟩) (gN cs) c (gKey cs key : Nat) only) ∧ OwnR encCo w' 156 g (gN cs) c (gFin cs key) ∧ Below w.heap.size w w' ∧ w.heap.size ≤ g
end Go.Proofs.Ytllijeciodmckaa
