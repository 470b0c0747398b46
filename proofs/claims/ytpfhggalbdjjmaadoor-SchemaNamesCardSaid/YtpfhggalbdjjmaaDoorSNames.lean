/-
  schema's names: which names are taken; the words of the language are, once a name was held against them.
-/
import Derived.Test.YtpfhggalbdjjmaaDoorReader
import Derived.Maps.OwnSet
import Derived.StillTailTactics
namespace Go.Proofs.YtpfhggalbdjjmaaDoor
open Go.RowKit Go.ChangeMaps Go.ChangeShapes Go.WideShapes Go.WideMaps Go.MapKept
open Go.Maps (Keyed string_keyed)

/-- The words of the language. -/
def wordsT : List String := ["and", "begin", "bool", "by", "commit", "count", "create", "delete", "desc", "drop", "false", "from", "group", "insert", "int", "into", "is", "join", "key", "limit", "max", "min", "not", "null", "on", "only", "or", "order", "primary", "rollback", "savepoint", "select", "set", "sum", "table", "text", "to", "true", "update", "values", "where"]
def wordsB : List (List UInt8) := wordsT.map fun s => s.toUTF8.data.toList
theorem wordsB_len : wordsB.length = 41 := rfl
theorem wordsB_short : ∀ l ∈ wordsB, l.length ≤ 12 := by decide +kernel
def bsOf (l : List UInt8) : ByteArray := ⟨l.toArray⟩
theorem bsOf_toList (l : List UInt8) : (bsOf l).data.toList = l := by simp [bsOf]
theorem bsOf_data (s : ByteArray) : bsOf s.data.toList = s := by simp [bsOf]
theorem bsOf_size (l : List UInt8) : (bsOf l).size = l.length := by simp [bsOf, ByteArray.size]
/-- THE WORDS ARE LAID. -/
def WL (w : World) : Prop := ∃ t fr, w.heap[0]? = some (.cells (wordsB.map fun l => Value.string (bsOf l)).toArray t fr)
theorem WL.lt {w : World} (h : WL w) : 0 < w.heap.size := by
  obtain ⟨t, fr, h⟩ := h
  exact (Array.getElem?_eq_some_iff.1 h).1
/-- BLOCK b IS THE SET OF THE NAMES T. -/
def SetIs (w : World) (b n : Nat) (T : List (List UInt8)) : Prop :=
  ∃ D : DataW Unit, w.ownsMap Tryd.prog 9 unitElem b n D ∧ ∀ l : List UInt8, Maps.has D (.string l) = T.contains l
section
variable {w w' : World} {g b n : Nat} {T : List (List UInt8)}
theorem SetIs.lt (h : SetIs w b n T) : b < w.heap.size := by
  obtain ⟨D, h, _⟩ := h
  exact h.lt
theorem SetIs.kept {row : Option Nat} (h : SetIs w b n T) (g : w.grownBy w' row) (hne : some b ≠ row) : SetIs w' b n T := by
  obtain ⟨D, h, hT⟩ := h
  exact ⟨D, h.kept g hne, hT⟩
theorem SetIs.past (h : SetIs w b n T) (k : Below w.heap.size w w') : SetIs w' b n T := h.kept (below_grown none k) (by simp)
theorem WL.kept {row : Option Nat} (h : WL w) (g : w.grownBy w' row) (hne : some 0 ≠ row) : WL w' := by
  have hl := h.lt
  obtain ⟨t, fr, h⟩ := h
  exact ⟨t, fr, (g.block _ hl hne).trans h⟩
theorem WL.past (h : WL w) (k : Below w.heap.size w w') : WL w' := h.kept (below_grown none k) (by simp)
/-- The cells of a set of names. -/
def nmC (d m : Int) (mp : Option Nat) : Array Value := #[.int .u32 d, .int .i32 m, .int .u32 0, .map mp]
def NmB (w : World) (g : Nat) (d m : Int) (mp : Option Nat) : Prop := w.heap[g]? = some (.cells (nmC d m mp) 68 (0, 0))
theorem NmB.lt {d m : Int} {mp : Option Nat} (h : NmB w g d m mp) : g < w.heap.size := (Array.getElem?_eq_some_iff.1 h).1
theorem NmB.kept {d m : Int} {mp : Option Nat} {row : Option Nat} (h : NmB w g d m mp) (k : w.grownBy w' row) (hne : some g ≠ row) : NmB w' g d m mp := (k.block _ h.lt hne).trans h
theorem NmB.past {d m : Int} {mp : Option Nat} (h : NmB w g d m mp) (k : Below w.heap.size w w') : NmB w' g d m mp := h.kept (below_grown none k) (by simp)
theorem NmB.c0 {d m : Int} {mp : Option Nat} (h : NmB w g d m mp) : w.cell? ⟨g, 0, none⟩ = some (.int .u32 d) := cell_blk h rfl
theorem NmB.c1 {d m : Int} {mp : Option Nat} (h : NmB w g d m mp) : w.cell? ⟨g, 1, none⟩ = some (.int .i32 m) := cell_blk h rfl
theorem NmB.c3 {d m : Int} {mp : Option Nat} (h : NmB w g d m mp) : w.cell? ⟨g, 3, none⟩ = some (.map mp) := cell_blk h rfl
theorem NmB.free {d m : Int} {mp : Option Nat} (h : NmB w g d m mp) (i : Nat) : w.frozen? ⟨g, i, none⟩ = false := free_blk h
end
/-- A name is taken. -/
def TakeIs (w : World) (g b n : Nat) (d m : Int) (T : List (List UInt8)) (en : Ending) (w' : World) : Prop :=
  en = .returned (.tuple #[]) ∧ NmB w' g d m (some b) ∧ SetIs w' b (n + 1) T ∧ w.grownBy w' (some b)
theorem map_ty : Tryd.prog.underlying 66 = some (.map 9 54) := Tryd.underlying66
theorem zero_unit (w : World) : (zeroValue 54).run Tryd.prog w = .ok (.agg #[]) w := by kernel_rfl
theorem sameKey_string (a b : List UInt8) : (Lit.string a).sameKey (.string b) = (a == b) := rfl
set_option maxRecDepth 100000 in
set_option maxHeartbeats 1000000 in
theorem take_any (w : World) (g b n : Nat) (d m : Int) (T : List (List UInt8)) (l : List UInt8) (hN : NmB w g d m (some b)) (hS : SetIs w b n T) (hgb : g ≠ b) (hn : n ≤ 1000000) (hl : l.length ≤ maxLen) :
    Calls Tryd.prog 26 #[.pointer (some ⟨g, 0, none⟩), .string (bsOf l)] w (TakeIs w g b n d m (l :: T)) := by
  obtain ⟨D, hD, hT⟩ := hS
  have c3 := hN.c3
  have K : Keyed Tryd.prog 9 := string_keyed Tryd.underlying9
  have hkey : keyOf Tryd.prog 9 (.string (bsOf l)) = some (.string l) := by
    have := keyOf_string_mk (P := Tryd.prog) (k := 9) Tryd.underlying9 (s := bsOf l) (by rw [bsOf_size]; exact hl)
    rwa [bsOf_toList] at this
  go_enter Tryd.func26, Tryd.ntmps26
  go_wp2_with (at_mapUpdate; refine wpList_mapUpdate_in _ rfl _ _ _ 66 rfl 9 54 K map_ty unitElem b n D rfl hD (by unfold maxLen; omega) _ _ (.string l) rfl rfl hkey (.agg []) [] unitElem_mk ?_; intro w1 h1 t1)
  go_end0
  refine ⟨rfl, hN.kept t1.grown (by simpa using hgb), ⟨_, h1, fun k => ?_⟩, t1.grown⟩
  by_cases e : k = l
  · subst e
    rw [Maps.has_put_same hD.isMap (show WideAt.IsKeyLit (Lit.string k) from trivial)]
    simp
  · rw [Maps.has_put_other (fun h => e (by simpa using h)), hT k]
    simp [e]
end Go.Proofs.YtpfhggalbdjjmaaDoor
