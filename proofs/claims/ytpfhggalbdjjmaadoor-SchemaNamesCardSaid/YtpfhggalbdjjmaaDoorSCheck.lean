/-
  schema.Check.
-/
import Derived.Test.YtpfhggalbdjjmaaDoorSName
import Derived.Test.YtpfhggalbdjjmaaDoorRow
namespace Go.Proofs.YtpfhggalbdjjmaaDoor
open Go.RowKit Go.ChangeMaps Go.ChangeShapes Go.WideShapes Go.WideMaps Go.MapKept

/-- A column. -/
structure Co where
  name : List UInt8
  kind : Int
  null : Bool
def Co.cells (c : Co) : List Value := [.string (bsOf c.name), .int .i64 c.kind, .bool c.null]
def encCo : Enc Co where
  sz := 3
  f := Co.cells
  len _ := rfl
  one c u hu := by
    simp only [Co.cells, List.mem_cons, List.not_mem_nil, or_false] at hu
    rcases hu with rfl | rfl | rfl <;> rfl
/-- The element j's three cells. -/
theorem cells_co {cs : List Co} {w : World} {b off : Nat} (hc : ∀ j u, (encCo.all cs)[j]? = some u → w.cell? ⟨b, off + j, none⟩ = some u) (j : Nat) (c : Co) (hj : cs[j]? = some c) :
    w.cell? ⟨b, off + j * 3, none⟩ = some (.string (bsOf c.name)) ∧ w.cell? ⟨b, off + j * 3 + 1, none⟩ = some (.int .i64 c.kind) ∧ w.cell? ⟨b, off + j * 3 + 2, none⟩ = some (.bool c.null) := by
  have h0 := hc _ _ ((Enc.all_get encCo cs j 0 c hj (by decide)).trans rfl)
  have h1 := hc _ _ ((Enc.all_get encCo cs j 1 c hj (by decide)).trans rfl)
  have h2 := hc _ _ ((Enc.all_get encCo cs j 2 c hj (by decide)).trans rfl)
  exact ⟨h0, by rw [Nat.add_assoc]; exact h1, by rw [Nat.add_assoc]; exact h2⟩
/-- A schema. -/
structure Sc where
  name : List UInt8
  cols : List Co
  key : Int
  only : Bool
def scV (l : List UInt8) (ao : Option Addr) (n c : Nat) (key : Int) (only : Bool) : Value := .agg #[.string (bsOf l), .slice ao n c, .int .i64 key, .bool only]
/-- What is wrong with it. -/
def colE (T : List (List UInt8)) (c : Co) : Int := if (spelt c.name && !T.contains c.name) = true then (if 1 ≤ c.kind ∧ c.kind ≤ 3 then 0 else 3) else 12
def colsE : List (List UInt8) → List Co → Int
  | _, [] => 0
  | T, c :: r => if colE T c = 0 then colsE (c.name :: T) r else colE T c
def keyE (cs : List Co) (key : Int) : Int := if key < 0 ∨ (cs.length : Int) ≤ key then 1 else if (cs.getD key.toNat ⟨[], 0, false⟩).null = true then 13 else 0
def wordsR : List (List UInt8) := wordsB.reverse
def scE (l : List UInt8) (cs : List Co) (key : Int) : Int :=
  if (spelt l && !wordsR.contains l) = true then (if 1 ≤ cs.length ∧ cs.length ≤ 6 then (if colsE wordsR cs = 0 then keyE cs key else colsE wordsR cs) else 4) else 12
theorem kind_any (k : Int) (w : World) : Calls Tryd.prog 27 #[.int .i64 k] w fun e w' => e = .returned (.bool (decide (1 ≤ k ∧ k ≤ 3))) ∧ w = w' := by
  by_cases h1 : k = 1
  · subst h1
    go_enter Tryd.func27, Tryd.ntmps27
    go_wp2_with fail
    go_ret
    exact ⟨rfl, rfl⟩
  by_cases h2 : k = 2
  · subst h2
    go_enter Tryd.func27, Tryd.ntmps27
    go_wp2_with fail
    go_ret
    exact ⟨rfl, rfl⟩
  have e1 : (k == 1) = false := by simp [h1]
  have e2 : (k == 2) = false := by simp [h2]
  obtain ⟨b, hb⟩ : ∃ b, (k == 3) = b := ⟨_, rfl⟩
  have hd : Hid (decide (1 ≤ k ∧ k ≤ 3) = b) := by
    show _ = _
    rw [← hb, Bool.eq_iff_iff]
    simp
    omega
  clear h1 h2
  go_enter Tryd.func27, Tryd.ntmps27
  go_wp2_with fail
  go_ret
  exact ⟨by rw [hd.out]; rfl, rfl⟩
set_option maxRecDepth 100000 in
set_option maxHeartbeats 1000000 in
theorem checkKey_any (w : World) (l : List UInt8) (ao : Option Addr) (n c : Nat) (cs : List Co) (key : Int) (only : Bool) (h : IsR encCo w ao n c cs) :
    Calls Tryd.prog 28 #[scV l ao n c key only] w fun e w' => e = .returned (.int .i64 (keyE cs key)) ∧ Below w.heap.size w w' := by
  have hln := h.len
  have hmx := h.max
  have hle := h.le
  unfold maxLen at hmx
  have B1 : Below w.heap.size w (w.alloc (.cells #[.string (bsOf l), .slice ao n c, .int .i64 key, .bool only] 24)) := (Below.refl _ _).alloc (Nat.le_refl _) _
  unfold scV
  by_cases h0 : key < 0
  · have e : keyE cs key = 1 := if_pos (.inl h0)
    have HE := Lib.hid e
    clear e
    go_enter Tryd.func28, Tryd.ntmps28
    go_wp2_with fail
    go_ret
    exact ⟨by rw [HE.out]; rfl, B1⟩
  by_cases h1 : (n : Int) ≤ key
  · have e : keyE cs key = 1 := if_pos (.inr (by omega))
    have HE := Lib.hid e
    clear e
    go_enter Tryd.func28, Tryd.ntmps28
    go_wp2_with fail
    go_ret
    exact ⟨by rw [HE.out]; rfl, B1⟩
  obtain ⟨j, rfl⟩ : ∃ j : Nat, key = (j : Int) := ⟨key.toNat, by omega⟩
  have hjn : j < n := by omega
  have hji : (j : Int) < (n : Int) := by omega
  obtain ⟨v, hv⟩ : ∃ v, cs[j]? = some v := ⟨cs[j]'(by omega), List.getElem?_eq_getElem _⟩
  obtain ⟨b, off, rfl, hb, hc⟩ := h.open (by omega) (by decide)
  obtain ⟨-, -, c2⟩ := cells_co hc j v hv
  rw [← B1.cell hb] at c2
  have e : keyE cs (j : Int) = if v.null = true then 13 else 0 := by
    unfold keyE
    rw [if_neg (by omega), Int.toNat_natCast, List.getD_eq_getElem?_getD, hv]
    rfl
  obtain ⟨x, hx⟩ : ∃ x, v.null = x := ⟨_, rfl⟩
  rw [hx] at e c2
  have HE := Lib.hid e
  clear e hx hc hv
  cases x <;>
  · go_enter Tryd.func28, Tryd.ntmps28
    go_wp2_with fail
    go_ret
    exact ⟨by rw [HE.out]; rfl, B1⟩
end Go.Proofs.YtpfhggalbdjjmaaDoor
