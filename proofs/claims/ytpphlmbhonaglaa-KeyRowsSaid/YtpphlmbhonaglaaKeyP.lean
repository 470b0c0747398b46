/-
  Keys, plain: values as bytes, and that the bytes stand in the values' order.
-/
import Derived.Test.YtpphlmbhonaglaaOrd6
import Derived.Test.YtpphlmbhonaglaaRowB
namespace Go.Proofs.Ytpphlmbhonaglaa
open Go.RowKit

/-- A Text's bytes: behind each 0 a 255. -/
def esc : List UInt8 → List UInt8
  | [] => []
  | c :: r => if c = 0 then 0 :: 255 :: esc r else c :: esc r
/-- A number's k lowest bytes, the highest first. -/
def be : Nat → Nat → List UInt8
  | 0, _ => []
  | k + 1, x => UInt8.ofNat (x / 256 ^ k % 256) :: be k x
/-- How a valid value is written. -/
def keyB (v : V) : List UInt8 :=
  if v.k = 1 then [1, UInt8.ofNat v.n.toNat] else if v.k = 2 then 2 :: be 8 (v.n + 9223372036854775808).toNat
  else if v.k = 3 then 3 :: (esc v.s.toList ++ [0, 1]) else [0]
theorem be_length : ∀ k x, (be k x).length = k
  | 0, _ => rfl
  | k + 1, x => by rw [be, List.length_cons, be_length k x]
theorem be_get : ∀ (k x i : Nat), i < k → (be k x)[i]? = some (UInt8.ofNat (x / 256 ^ (k - 1 - i) % 256))
  | k + 1, x, 0, _ => by simp [be]
  | k + 1, x, i + 1, h => by
    rw [be, List.getElem?_cons_succ, be_get k x i (by omega)]
    congr 5
    omega
theorem be_take (k x i : Nat) (h : i < k) : (be k x).take (i + 1) = (be k x).take i ++ [UInt8.ofNat (x / 256 ^ (k - 1 - i) % 256)] := by
  rw [List.take_add_one, be_get k x i h]
  rfl
theorem esc_length : ∀ l : List UInt8, l.length ≤ (esc l).length ∧ (esc l).length ≤ 2 * l.length
  | [] => by simp [esc]
  | c :: r => by
    have := esc_length r
    rw [esc]
    split <;> simp <;> omega
theorem esc_append : ∀ a b : List UInt8, esc (a ++ b) = esc a ++ esc b
  | [], _ => rfl
  | c :: r, b => by
    rw [List.cons_append, esc, esc, esc_append r b]
    split <;> rfl
theorem ofNat_toNat {x : Nat} (h : x < 256) : (UInt8.ofNat x).toNat = x := by rw [UInt8.toNat_ofNat']; omega
theorem be_cmp : ∀ (k u v : Nat) (r t : List UInt8), cmpL (be k u ++ r) (be k v ++ t) = or2 (cmpI (u % 256 ^ k : Nat) (v % 256 ^ k : Nat)) (cmpL r t)
  | 0, u, v, r, t => by simp [be, or2, cmpI, Nat.mod_one]
  | k + 1, u, v, r, t => by
    have h1 : u % 256 ^ (k + 1) = u % 256 ^ k + 256 ^ k * (u / 256 ^ k % 256) := by rw [Nat.pow_succ, Nat.mod_mul]
    have h2 : v % 256 ^ (k + 1) = v % 256 ^ k + 256 ^ k * (v / 256 ^ k % 256) := by rw [Nat.pow_succ, Nat.mod_mul]
    have p : 0 < 256 ^ k := Nat.pow_pos (by omega)
    have m1 := Nat.mod_lt u p
    have m2 := Nat.mod_lt v p
    rw [be, be, List.cons_append, List.cons_append, cmpL, be_cmp k u v r t, ofNat_toNat (Nat.mod_lt _ (by omega)), ofNat_toNat (Nat.mod_lt _ (by omega)), h1, h2]
    generalize u / 256 ^ k % 256 = d
    generalize v / 256 ^ k % 256 = e
    generalize u % 256 ^ k = a at *
    generalize v % 256 ^ k = b at *
    generalize 256 ^ k = P at *
    rcases Nat.lt_trichotomy d e with q | rfl | q
    · have q2 : P * (d + 1) ≤ P * e := Nat.mul_le_mul_left _ q
      rw [Nat.mul_succ] at q2
      have c1 : cmpI (d : Nat) (e : Nat) = -1 := by unfold cmpI; rw [if_pos (by omega)]
      have c2 : cmpI ((a + P * d : Nat) : Int) ((b + P * e : Nat) : Int) = -1 := by unfold cmpI; rw [if_pos (by omega)]
      rw [c1, c2]
      rfl
    · have c1 : cmpI (d : Nat) (d : Nat) = 0 := by unfold cmpI; simp
      have c2 : cmpI ((a + P * d : Nat) : Int) ((b + P * d : Nat) : Int) = cmpI (a : Nat) (b : Nat) := by
        unfold cmpI
        (repeat' split) <;> omega
      rw [c1, c2]
      rfl
    · have q2 : P * (e + 1) ≤ P * d := Nat.mul_le_mul_left _ q
      rw [Nat.mul_succ] at q2
      have c1 : cmpI (d : Nat) (e : Nat) = 1 := by unfold cmpI; rw [if_neg (by omega), if_pos (by omega)]
      have c2 : cmpI ((a + P * d : Nat) : Int) ((b + P * e : Nat) : Int) = 1 := by unfold cmpI; rw [if_neg (by omega), if_pos (by omega)]
      rw [c1, c2]
      rfl
theorem cmpI_same (a : Int) : cmpI a a = 0 := by unfold cmpI; simp
theorem cmpL_same (c : UInt8) (a b : List UInt8) : cmpL (c :: a) (c :: b) = cmpL a b := by
  rw [cmpL, cmpI_same]
  rfl
theorem cmpL_ahead (c d : UInt8) (a b : List UInt8) (h : c.toNat < d.toNat) : cmpL (c :: a) (d :: b) = -1 := by
  have : cmpI c.toNat d.toNat = -1 := by unfold cmpI; rw [if_pos (by omega)]
  rw [cmpL, this]
  rfl
theorem cmpL_behind (c d : UInt8) (a b : List UInt8) (h : d.toNat < c.toNat) : cmpL (c :: a) (d :: b) = 1 := by
  have : cmpI c.toNat d.toNat = 1 := by unfold cmpI; rw [if_neg (by omega), if_pos (by omega)]
  rw [cmpL, this]
  rfl
theorem pos_of_ne {c : UInt8} (h : c ≠ 0) : (0 : UInt8).toNat < c.toNat := by
  show 0 < c.toNat
  have : c.toNat ≠ 0 := fun e => h (UInt8.toNat_inj.1 e)
  omega
theorem esc_cmp : ∀ (a b r t : List UInt8), cmpL (esc a ++ 0 :: 1 :: r) (esc b ++ 0 :: 1 :: t) = or2 (cmpL a b) (cmpL r t)
  | [], [], r, t => by
    show cmpL (0 :: 1 :: r) (0 :: 1 :: t) = _
    rw [cmpL_same, cmpL_same]
    rfl
  | [], d :: b, r, t => by
    rw [esc, esc]
    show cmpL (0 :: 1 :: r) _ = -1
    by_cases h : d = 0
    · rw [if_pos h, List.cons_append, List.cons_append, cmpL_same, cmpL_ahead _ _ _ _ (by decide)]
    · rw [if_neg h, List.cons_append, cmpL_ahead _ _ _ _ (pos_of_ne h)]
  | c :: a, [], r, t => by
    rw [esc, esc]
    show cmpL _ (0 :: 1 :: t) = 1
    by_cases h : c = 0
    · rw [if_pos h, List.cons_append, List.cons_append, cmpL_same, cmpL_behind _ _ _ _ (by decide)]
    · rw [if_neg h, List.cons_append, cmpL_behind _ _ _ _ (pos_of_ne h)]
  | c :: a, d :: b, r, t => by
    have ih := esc_cmp a b r t
    by_cases hc : c = 0
    · subst hc
      by_cases hd : d = 0
      · subst hd
        rw [esc, esc, if_pos rfl, if_pos rfl, List.cons_append, List.cons_append, List.cons_append, List.cons_append, cmpL_same, cmpL_same, ih, cmpL_same]
      · rw [esc, esc, if_pos rfl, if_neg hd, List.cons_append, List.cons_append, List.cons_append, cmpL_ahead _ _ _ _ (pos_of_ne hd), cmpL_ahead _ _ _ _ (pos_of_ne hd)]
        rfl
    · by_cases hd : d = 0
      · subst hd
        rw [esc, esc, if_neg hc, if_pos rfl, List.cons_append, List.cons_append, List.cons_append, cmpL_behind _ _ _ _ (pos_of_ne hc), cmpL_behind _ _ _ _ (pos_of_ne hc)]
        rfl
      · rw [esc, esc, if_neg hc, if_neg hd, List.cons_append, List.cons_append]
        rcases Nat.lt_trichotomy c.toNat d.toNat with q | q | q
        · rw [cmpL_ahead _ _ _ _ q, cmpL_ahead _ _ _ _ q]
          rfl
        · obtain rfl := UInt8.toNat_inj.1 q
          rw [cmpL_same, cmpL_same, ih]
        · rw [cmpL_behind _ _ _ _ q, cmpL_behind _ _ _ _ q]
          rfl
def V.cmp (x y : V) : Int := cmpV x.k x.n x.s y.k y.n y.s
theorem cmpS_empty : cmpS ByteArray.empty ByteArray.empty = 0 := by rw [cmpS_list]; exact (cmpL_zero _ _).2 rfl
theorem cmp_kind {x y : V} (h : x.k ≠ y.k) : x.cmp y = cmpI x.k y.k := by
  have : cmpI x.k y.k ≠ 0 := fun e => h ((cmpI_zero _ _).1 e)
  unfold V.cmp
  rw [cmpV, or3, if_neg this]
theorem cmp_num (k n n' : Int) : V.cmp ⟨k, n, ByteArray.empty⟩ ⟨k, n', ByteArray.empty⟩ = cmpI n n' := by
  unfold V.cmp
  simp only [cmpV, cmpI_same, cmpS_empty]
  unfold or3
  (repeat' split) <;> omega
theorem cmp_text (s s' : ByteArray) : V.cmp ⟨3, 0, s⟩ ⟨3, 0, s'⟩ = cmpL s.toList s'.toList := by
  unfold V.cmp
  simp only [cmpV, cmpI_same, cmpS_list]
  rfl
theorem Vok.kind {v : V} (h : Vok v) : v.k = 0 ∨ v.k = 1 ∨ v.k = 2 ∨ v.k = 3 := by cases h <;> simp
theorem key_head (v : V) (h : Vok v) : ∃ r, keyB v = UInt8.ofNat v.k.toNat :: r := by
  cases h with
  | none => exact ⟨[], rfl⟩
  | bool n hn => exact ⟨_, rfl⟩
  | int n hn => exact ⟨_, rfl⟩
  | text s hs => exact ⟨_, rfl⟩
/-- Bytes stand as their values do; where the values are the same, what is behind them decides. -/
theorem key_cmp (x y : V) (hx : Vok x) (hy : Vok y) (r t : List UInt8) : cmpL (keyB x ++ r) (keyB y ++ t) = or2 (x.cmp y) (cmpL r t) := by
  by_cases hk : x.k = y.k
  · cases hx with
    | none =>
      cases hy with
      | none =>
        rw [cmp_num, cmpI_same]
        exact cmpL_same 0 r t
      | _ => exact absurd hk (by simp)
    | bool n hn =>
      cases hy with
      | bool n' hn' =>
        rw [cmp_num]
        show cmpL (1 :: UInt8.ofNat n.toNat :: r) (1 :: UInt8.ofNat n'.toNat :: t) = _
        rw [cmpL_same]
        rcases hn with rfl | rfl <;> rcases hn' with rfl | rfl <;> rfl
      | _ => exact absurd hk (by simp)
    | int n hn =>
      cases hy with
      | int n' hn' =>
        rw [cmp_num]
        show cmpL (2 :: (be 8 _ ++ r)) (2 :: (be 8 _ ++ t)) = _
        rw [cmpL_same, be_cmp]
        congr 1
        have e : (256 : Nat) ^ 8 = 18446744073709551616 := by decide
        rw [e]
        dsimp only
        unfold cmpI
        (repeat' split) <;> omega
      | _ => exact absurd hk (by simp)
    | text s hs =>
      cases hy with
      | text s' hs' =>
        rw [cmp_text, ← esc_cmp]
        show cmpL (3 :: ((esc s.toList ++ [0, 1]) ++ r)) (3 :: ((esc s'.toList ++ [0, 1]) ++ t)) = _
        rw [cmpL_same, List.append_assoc, List.append_assoc]
        rfl
      | _ => exact absurd hk (by simp)
  · rw [cmp_kind hk]
    obtain ⟨p, e1⟩ := key_head x hx
    obtain ⟨q, e2⟩ := key_head y hy
    have k1 := hx.kind
    have k2 := hy.kind
    have hne : cmpI x.k y.k ≠ 0 := fun e => hk ((cmpI_zero _ _).1 e)
    have ec : cmpI (UInt8.ofNat x.k.toNat).toNat (UInt8.ofNat y.k.toNat).toNat = cmpI x.k y.k := by
      rw [ofNat_toNat (by omega), ofNat_toNat (by omega)]
      congr 1 <;> omega
    rw [e1, e2, List.cons_append, List.cons_append, cmpL, ec]
    unfold or2
    rw [if_neg hne, if_neg hne]
theorem key_len (v : V) (h : Vok v) : 1 ≤ (keyB v).length ∧ (keyB v).length ≤ 200 := by
  cases h with
  | none => exact ⟨by decide, by decide⟩
  | bool n hn => exact ⟨by simp [keyB], by simp [keyB]⟩
  | int n hn => exact ⟨by simp [keyB], by simp [keyB, be_length]⟩
  | text s hs =>
    have h1 := esc_length s.toList
    have h2 : s.toList.length = s.size := by rw [ByteArray.toList_eq]; rfl
    have e : keyB ⟨3, 0, s⟩ = 3 :: (esc s.toList ++ [0, 1]) := rfl
    rw [e]
    simp
    omega
end Go.Proofs.Ytpphlmbhonaglaa
