/-
  The order of values, plain: of two one stands ahead, or they are the same; what stands ahead of one that stands ahead, stands ahead.
-/
import Derived.Test.YtllijeciodmckaaVal
namespace Go.Proofs.Ytllijeciodmckaa

/-- How a stands to b, b to c, a to c: as an order has it. -/
structure Tri (x y z : Int) : Prop where
  vx : x = -1 ∨ x = 0 ∨ x = 1
  vy : y = -1 ∨ y = 0 ∨ y = 1
  vz : z = -1 ∨ z = 0 ∨ z = 1
  le : x ≤ 0 → y ≤ 0 → z ≤ 0
  lt1 : x < 0 → y ≤ 0 → z < 0
  lt2 : x ≤ 0 → y < 0 → z < 0
  z1 : x = 0 → z = y
  z2 : y = 0 → z = x
def or2 (a b : Int) : Int := if a = 0 then b else a
theorem or3_two (a b c : Int) : or3 a b c = or2 a (or2 b c) := rfl
theorem Tri.or {x y z x' y' z' : Int} (h : Tri x y z) (k : Tri x' y' z') : Tri (or2 x x') (or2 y y') (or2 z z') := by
  obtain ⟨a1, a2, a3, a4, a5, a6, a7, a8⟩ := h
  obtain ⟨b1, b2, b3, b4, b5, b6, b7, b8⟩ := k
  unfold or2
  constructor <;> (repeat' split) <;> omega
theorem Tri.ints (a b c : Int) : Tri (cmpI a b) (cmpI b c) (cmpI a c) := by
  unfold cmpI
  constructor <;> (repeat' split) <;> omega
/-- Of two rows of bytes. -/
def cmpL : List UInt8 → List UInt8 → Int
  | [], [] => 0
  | [], _ :: _ => -1
  | _ :: _, [] => 1
  | x :: a, y :: b => or2 (cmpI x.toNat y.toNat) (cmpL a b)
theorem cmpL_less : ∀ a b : List UInt8, (if Op.bytesLess a b = true then (-1 : Int) else if (a == b) = true then 0 else 1) = cmpL a b
  | [], [] => rfl
  | [], _ :: _ => rfl
  | _ :: _, [] => rfl
  | x :: a, y :: b => by
    have ih := cmpL_less a b
    have e1 : (x < y) ↔ x.toNat < y.toNat := UInt8.lt_iff_toNat_lt
    have e2 : (x = y) ↔ x.toNat = y.toNat := UInt8.toNat_inj.symm
    simp only [cmpL, ← ih, Op.bytesLess, or2, cmpI, List.cons_beq_cons, Bool.or_eq_true, Bool.and_eq_true, decide_eq_true_eq, beq_iff_eq, e1, e2]
    by_cases h1 : x.toNat < y.toNat
    · have h2 : ¬ x.toNat = y.toNat := by omega
      simp [h1, h2]
    · by_cases h2 : x.toNat = y.toNat
      · simp [h2]
      · have h3 : y.toNat < x.toNat := by omega
        simp [h1, h2, h3]
theorem cmpS_list (a b : ByteArray) : cmpS a b = cmpL a.toList b.toList := cmpL_less _ _
theorem cmpL_val : ∀ a b : List UInt8, cmpL a b = -1 ∨ cmpL a b = 0 ∨ cmpL a b = 1
  | [], [] => .inr (.inl rfl)
  | [], _ :: _ => .inl rfl
  | _ :: _, [] => .inr (.inr rfl)
  | x :: a, y :: b => by
    have ih := cmpL_val a b
    unfold cmpL or2 cmpI
    (repeat' split) <;> omega
theorem Tri.lists : ∀ a b c : List UInt8, Tri (cmpL a b) (cmpL b c) (cmpL a c)
  | [], [], c => by
    have h := cmpL_val [] c
    cases c <;> constructor <;> simp [cmpL]
  | [], y :: b, [] => by constructor <;> simp [cmpL]
  | [], y :: b, z :: c => by
    have h := cmpL_val (y :: b) (z :: c)
    rw [show cmpL [] (y :: b) = -1 from rfl, show cmpL [] (z :: c) = -1 from rfl]
    constructor <;> omega
  | x :: a, [], [] => by constructor <;> simp [cmpL]
  | x :: a, [], z :: c => by
    have h := cmpL_val (x :: a) (z :: c)
    rw [show cmpL [] (z :: c) = -1 from rfl, show cmpL (x :: a) [] = 1 from rfl]
    constructor <;> omega
  | x :: a, y :: b, [] => by
    have h := cmpL_val (x :: a) (y :: b)
    rw [show cmpL (y :: b) [] = 1 from rfl, show cmpL (x :: a) [] = 1 from rfl]
    constructor <;> omega
  | x :: a, y :: b, z :: c => (Tri.ints _ _ _).or (Tri.lists a b c)
theorem cmpI_swap (a b : Int) : cmpI b a = -cmpI a b := by
  unfold cmpI
  (repeat' split) <;> omega
theorem cmpI_zero (a b : Int) : cmpI a b = 0 ↔ a = b := by
  unfold cmpI
  (repeat' split) <;> omega
theorem cmpL_swap : ∀ a b : List UInt8, cmpL b a = -cmpL a b
  | [], [] => rfl
  | [], _ :: _ => rfl
  | _ :: _, [] => rfl
  | x :: a, y :: b => by
    have ih := cmpL_swap a b
    have h := cmpI_swap x.toNat y.toNat
    unfold cmpL or2
    rw [h, ih]
    (repeat' split) <;> omega
theorem cmpL_zero : ∀ a b : List UInt8, cmpL a b = 0 ↔ a = b
  | [], [] => by simp [cmpL]
  | [], _ :: _ => by simp [cmpL]
  | _ :: _, [] => by simp [cmpL]
  | x :: a, y :: b => by
    have ih := cmpL_zero a b
    have h := cmpI_zero x.toNat y.toNat
    have e2 : (x = y) ↔ x.toNat = y.toNat := UInt8.toNat_inj.symm
    simp only [cmpL, or2, List.cons.injEq, e2, ← ih]
    split
    · simp only [show x.toNat = y.toNat by omega, true_and]
    · constructor
      · intro h2
        omega
      · rintro ⟨h2, _⟩
        omega
section
variable (k n : Int) (s : ByteArray) (k' n' : Int) (s' : ByteArray) (k'' n'' : Int) (s'' : ByteArray)
theorem Tri.vals : Tri (cmpV k n s k' n' s') (cmpV k' n' s' k'' n'' s'') (cmpV k n s k'' n'' s'') := by
  simp only [cmpV, or3_two, cmpS_list]
  exact (Tri.ints _ _ _).or ((Tri.ints _ _ _).or (Tri.lists _ _ _))
theorem cmpV_swap : cmpV k' n' s' k n s = -cmpV k n s k' n' s' := by
  simp only [cmpV, or3_two, cmpS_list, or2]
  have h1 := cmpI_swap k k'
  have h2 := cmpI_swap n n'
  have h3 := cmpL_swap s.toList s'.toList
  rw [h1, h2, h3]
  (repeat' split) <;> omega
theorem cmpV_zero : (cmpV k n s k' n' s' == 0) = eqV k n s k' n' s' := by
  have h1 := cmpI_zero k k'
  have h2 := cmpI_zero n n'
  have h3 := cmpL_zero s.toList s'.toList
  simp only [cmpV, or3_two, cmpS_list, or2, eqV]
  rw [Bool.eq_iff_iff]
  simp only [beq_iff_eq, Bool.and_eq_true, ← h1, ← h2, ← h3]
  (repeat' split) <;> constructor <;> (try rintro ⟨_, _, _⟩) <;> omega
theorem cmpV_self : cmpV k n s k n s = 0 := cmpV_eq (by simp [eqV])
end
end Go.Proofs.Ytllijeciodmckaa
