/-
  Valid values.
  Keys, plain: values as bytes, and that the bytes stand in the values' order.
  Indices, plain: entries in the order of their bytes.
  Entries, as they lie in memory; slices.Grow and Concat of them (by gen_ixd.py).
  index: an entry's compare, the search, find (by gen_ixf.py).
  index: its list is read and put (sync/atomic's Pointer); an index in memory; all, Len (by gen_ixa.py).
  The contracts of what package code writes by: longer, low.
  The contract of key.Bytes.
  index: a row's entry (by gen_ixe.py).
  index: replace, Add, Drop, Build (by gen_ixm.py).
  index: Keys, From (by gen_ixk.py).
  index: Keys, From.
-/
import Derived.Test.YtjacaammlkjodaaV
import Derived.Test.YtjacaammlkjodaaVCmp
import Derived.Test.YtjacaammlkjodaaTabP
import Derived.Test.YtjacaammlkjodaaConc
import Derived.Test.YtjacaammlkjodaaBs
import Derived.Test.YtjacaammlkjodaaShelf
import Derived.Test.YtjacaammlkjodaaTabD
import Derived.Laws.Pointers
import Derived.Laws.LoneSync
import Derived.Lib.Builder
import Derived.Test.YtjacaammlkjodaaTy
import Derived.Test.YtjacaammlkjodaaRCmpT
import Derived.Test.YtjacaammlkjodaaVAt
import Derived.Test.YtjacaammlkjodaaTabH
import Derived.Test.YtjacaammlkjodaaSlc
import Derived.Test.YtjacaammlkjodaaRowA
import Derived.Test.YtjacaammlkjodaaFit
namespace Go.Proofs.Ytjacaammlkjodaa
open Go.RowKit

/-- A valid value. -/
inductive Vok : V → Prop
  | none : Vok ⟨0, 0, ByteArray.empty⟩
  | bool (n : Int) : n = 0 ∨ n = 1 → Vok ⟨1, n, ByteArray.empty⟩
  | int (n : Int) : -9223372036854775808 ≤ n ∧ n ≤ 9223372036854775807 → Vok ⟨2, n, ByteArray.empty⟩
  | text (s : ByteArray) : s.size ≤ 60 → Vok ⟨3, 0, s⟩
end Go.Proofs.Ytjacaammlkjodaa
namespace Go.Proofs.Ytjacaammlkjodaa
open Go.RowKit

/-- A Text's bytes: behind each 0 a 255. -/
def esc : List UInt8 → List UInt8
  | [] => []
  | c :: r => if c = 0 then 0 :: 255 :: esc r else c :: esc r
/-- A number's k lowest bytes, the highest first. -/
def be : Nat → Nat → List UInt8
  | 0, _ => []
  | k + 1, x => UInt8.ofNat (x / 256 ^ k % 256) :: be k x
/-- How a valid value is written. -/
def keyB (v : V) : List UInt8 :=
  if v.k = 1 then [1, UInt8.ofNat v.n.toNat] else if v.k = 2 then 2 :: be 8 (v.n + 9223372036854775808).toNat
  else if v.k = 3 then 3 :: (esc v.s.toList ++ [0, 1]) else [0]
theorem be_length : ∀ k x, (be k x).length = k
  | 0, _ => rfl
  | k + 1, x => by rw [be, List.length_cons, be_length k x]
theorem be_get : ∀ (k x i : Nat), i < k → (be k x)[i]? = some (UInt8.ofNat (x / 256 ^ (k - 1 - i) % 256))
  | k + 1, x, 0, _ => by simp [be]
  | k + 1, x, i + 1, h => by
    rw [be, List.getElem?_cons_succ, be_get k x i (by omega)]
    congr 5
    omega
theorem be_take (k x i : Nat) (h : i < k) : (be k x).take (i + 1) = (be k x).take i ++ [UInt8.ofNat (x / 256 ^ (k - 1 - i) % 256)] := by
  rw [List.take_add_one, be_get k x i h]
  rfl
theorem esc_length : ∀ l : List UInt8, l.length ≤ (esc l).length ∧ (esc l).length ≤ 2 * l.length
  | [] => by simp [esc]
  | c :: r => by
    have := esc_length r
    rw [esc]
    split <;> simp <;> omega
theorem esc_append : ∀ a b : List UInt8, esc (a ++ b) = esc a ++ esc b
  | [], _ => rfl
  | c :: r, b => by
    rw [List.cons_append, esc, esc, esc_append r b]
    split <;> rfl
theorem ofNat_toNat {x : Nat} (h : x < 256) : (UInt8.ofNat x).toNat = x := by rw [UInt8.toNat_ofNat']; omega
theorem be_cmp : ∀ (k u v : Nat) (r t : List UInt8), cmpL (be k u ++ r) (be k v ++ t) = or2 (cmpI (u % 256 ^ k : Nat) (v % 256 ^ k : Nat)) (cmpL r t)
  | 0, u, v, r, t => by simp [be, or2, cmpI, Nat.mod_one]
  | k + 1, u, v, r, t => by
    have h1 : u % 256 ^ (k + 1) = u % 256 ^ k + 256 ^ k * (u / 256 ^ k % 256) := by rw [Nat.pow_succ, Nat.mod_mul]
    have h2 : v % 256 ^ (k + 1) = v % 256 ^ k + 256 ^ k * (v / 256 ^ k % 256) := by rw [Nat.pow_succ, Nat.mod_mul]
    have p : 0 < 256 ^ k := Nat.pow_pos (by omega)
    have m1 := Nat.mod_lt u p
    have m2 := Nat.mod_lt v p
    rw [be, be, List.cons_append, List.cons_append, cmpL, be_cmp k u v r t, ofNat_toNat (Nat.mod_lt _ (by omega)), ofNat_toNat (Nat.mod_lt _ (by omega)), h1, h2]
    generalize u / 256 ^ k % 256 = d
    generalize v / 256 ^ k % 256 = e
    generalize u % 256 ^ k = a at *
    generalize v % 256 ^ k = b at *
    generalize 256 ^ k = P at *
    rcases Nat.lt_trichotomy d e with q | rfl | q
    · have q2 : P * (d + 1) ≤ P * e := Nat.mul_le_mul_left _ q
      rw [Nat.mul_succ] at q2
      have c1 : cmpI (d : Nat) (e : Nat) = -1 := by unfold cmpI; rw [if_pos (by omega)]
      have c2 : cmpI ((a + P * d : Nat) : Int) ((b + P * e : Nat) : Int) = -1 := by unfold cmpI; rw [if_pos (by omega)]
      rw [c1, c2]
      rfl
    · have c1 : cmpI (d : Nat) (d : Nat) = 0 := by unfold cmpI; simp
      have c2 : cmpI ((a + P * d : Nat) : Int) ((b + P * d : Nat) : Int) = cmpI (a : Nat) (b : Nat) := by
        unfold cmpI
        (repeat' split) <;> omega
      rw [c1, c2]
      rfl
    · have q2 : P * (e + 1) ≤ P * d := Nat.mul_le_mul_left _ q
      rw [Nat.mul_succ] at q2
      have c1 : cmpI (d : Nat) (e : Nat) = 1 := by unfold cmpI; rw [if_neg (by omega), if_pos (by omega)]
      have c2 : cmpI ((a + P * d : Nat) : Int) ((b + P * e : Nat) : Int) = 1 := by unfold cmpI; rw [if_neg (by omega), if_pos (by omega)]
      rw [c1, c2]
      rfl
theorem cmpI_same (a : Int) : cmpI a a = 0 := by unfold cmpI; simp
theorem cmpL_same (c : UInt8) (a b : List UInt8) : cmpL (c :: a) (c :: b) = cmpL a b := by
  rw [cmpL, cmpI_same]
  rfl
theorem cmpL_ahead (c d : UInt8) (a b : List UInt8) (h : c.toNat < d.toNat) : cmpL (c :: a) (d :: b) = -1 := by
  have : cmpI c.toNat d.toNat = -1 := by unfold cmpI; rw [if_pos (by omega)]
  rw [cmpL, this]
  rfl
theorem cmpL_behind (c d : UInt8) (a b : List UInt8) (h : d.toNat < c.toNat) : cmpL (c :: a) (d :: b) = 1 := by
  have : cmpI c.toNat d.toNat = 1 := by unfold cmpI; rw [if_neg (by omega), if_pos (by omega)]
  rw [cmpL, this]
  rfl
theorem pos_of_ne {c : UInt8} (h : c ≠ 0) : (0 : UInt8).toNat < c.toNat := by
  show 0 < c.toNat
  have : c.toNat ≠ 0 := fun e => h (UInt8.toNat_inj.1 e)
  omega
theorem esc_cmp : ∀ (a b r t : List UInt8), cmpL (esc a ++ 0 :: 1 :: r) (esc b ++ 0 :: 1 :: t) = or2 (cmpL a b) (cmpL r t)
  | [], [], r, t => by
    show cmpL (0 :: 1 :: r) (0 :: 1 :: t) = _
    rw [cmpL_same, cmpL_same]
    rfl
  | [], d :: b, r, t => by
    rw [esc, esc]
    show cmpL (0 :: 1 :: r) _ = -1
    by_cases h : d = 0
    · rw [if_pos h, List.cons_append, List.cons_append, cmpL_same, cmpL_ahead _ _ _ _ (by decide)]
    · rw [if_neg h, List.cons_append, cmpL_ahead _ _ _ _ (pos_of_ne h)]
  | c :: a, [], r, t => by
    rw [esc, esc]
    show cmpL _ (0 :: 1 :: t) = 1
    by_cases h : c = 0
    · rw [if_pos h, List.cons_append, List.cons_append, cmpL_same, cmpL_behind _ _ _ _ (by decide)]
    · rw [if_neg h, List.cons_append, cmpL_behind _ _ _ _ (pos_of_ne h)]
  | c :: a, d :: b, r, t => by
    have ih := esc_cmp a b r t
    by_cases hc : c = 0
    · subst hc
      by_cases hd : d = 0
      · subst hd
        rw [esc, esc, if_pos rfl, if_pos rfl, List.cons_append, List.cons_append, List.cons_append, List.cons_append, cmpL_same, cmpL_same, ih, cmpL_same]
      · rw [esc, esc, if_pos rfl, if_neg hd, List.cons_append, List.cons_append, List.cons_append, cmpL_ahead _ _ _ _ (pos_of_ne hd), cmpL_ahead _ _ _ _ (pos_of_ne hd)]
        rfl
    · by_cases hd : d = 0
      · subst hd
        rw [esc, esc, if_neg hc, if_pos rfl, List.cons_append, List.cons_append, List.cons_append, cmpL_behind _ _ _ _ (pos_of_ne hc), cmpL_behind _ _ _ _ (pos_of_ne hc)]
        rfl
      · rw [esc, esc, if_neg hc, if_neg hd, List.cons_append, List.cons_append]
        rcases Nat.lt_trichotomy c.toNat d.toNat with q | q | q
        · rw [cmpL_ahead _ _ _ _ q, cmpL_ahead _ _ _ _ q]
          rfl
        · obtain rfl := UInt8.toNat_inj.1 q
          rw [cmpL_same, cmpL_same, ih]
        · rw [cmpL_behind _ _ _ _ q, cmpL_behind _ _ _ _ q]
          rfl
theorem cmpS_empty : cmpS ByteArray.empty ByteArray.empty = 0 := by rw [cmpS_list]; exact (cmpL_zero _ _).2 rfl
theorem cmp_kind {x y : V} (h : x.k ≠ y.k) : x.cmp y = cmpI x.k y.k := by
  have : cmpI x.k y.k ≠ 0 := fun e => h ((cmpI_zero _ _).1 e)
  unfold V.cmp
  rw [cmpV, or3, if_neg this]
theorem cmp_num (k n n' : Int) : V.cmp ⟨k, n, ByteArray.empty⟩ ⟨k, n', ByteArray.empty⟩ = cmpI n n' := by
  unfold V.cmp
  simp only [cmpV, cmpI_same, cmpS_empty]
  unfold or3
  (repeat' split) <;> omega
theorem cmp_text (s s' : ByteArray) : V.cmp ⟨3, 0, s⟩ ⟨3, 0, s'⟩ = cmpL s.toList s'.toList := by
  unfold V.cmp
  simp only [cmpV, cmpI_same, cmpS_list]
  rfl
theorem Vok.kind {v : V} (h : Vok v) : v.k = 0 ∨ v.k = 1 ∨ v.k = 2 ∨ v.k = 3 := by cases h <;> simp
theorem key_head (v : V) (h : Vok v) : ∃ r, keyB v = UInt8.ofNat v.k.toNat :: r := by
  cases h with
  | none => exact ⟨[], rfl⟩
  | bool n hn => exact ⟨_, rfl⟩
  | int n hn => exact ⟨_, rfl⟩
  | text s hs => exact ⟨_, rfl⟩
/-- Bytes stand as their values do; where the values are the same, what is behind them decides. -/
theorem key_cmp (x y : V) (hx : Vok x) (hy : Vok y) (r t : List UInt8) : cmpL (keyB x ++ r) (keyB y ++ t) = or2 (x.cmp y) (cmpL r t) := by
  by_cases hk : x.k = y.k
  · cases hx with
    | none =>
      cases hy with
      | none =>
        rw [cmp_num, cmpI_same]
        exact cmpL_same 0 r t
      | _ => exact absurd hk (by simp)
    | bool n hn =>
      cases hy with
      | bool n' hn' =>
        rw [cmp_num]
        show cmpL (1 :: UInt8.ofNat n.toNat :: r) (1 :: UInt8.ofNat n'.toNat :: t) = _
        rw [cmpL_same]
        rcases hn with rfl | rfl <;> rcases hn' with rfl | rfl <;> rfl
      | _ => exact absurd hk (by simp)
    | int n hn =>
      cases hy with
      | int n' hn' =>
        rw [cmp_num]
        show cmpL (2 :: (be 8 _ ++ r)) (2 :: (be 8 _ ++ t)) = _
        rw [cmpL_same, be_cmp]
        congr 1
        have e : (256 : Nat) ^ 8 = 18446744073709551616 := by decide
        rw [e]
        dsimp only
        unfold cmpI
        (repeat' split) <;> omega
      | _ => exact absurd hk (by simp)
    | text s hs =>
      cases hy with
      | text s' hs' =>
        rw [cmp_text, ← esc_cmp]
        show cmpL (3 :: ((esc s.toList ++ [0, 1]) ++ r)) (3 :: ((esc s'.toList ++ [0, 1]) ++ t)) = _
        rw [cmpL_same, List.append_assoc, List.append_assoc]
        rfl
      | _ => exact absurd hk (by simp)
  · rw [cmp_kind hk]
    obtain ⟨p, e1⟩ := key_head x hx
    obtain ⟨q, e2⟩ := key_head y hy
    have k1 := hx.kind
    have k2 := hy.kind
    have hne : cmpI x.k y.k ≠ 0 := fun e => hk ((cmpI_zero _ _).1 e)
    have ec : cmpI (UInt8.ofNat x.k.toNat).toNat (UInt8.ofNat y.k.toNat).toNat = cmpI x.k y.k := by
      rw [ofNat_toNat (by omega), ofNat_toNat (by omega)]
      congr 1 <;> omega
    rw [e1, e2, List.cons_append, List.cons_append, cmpL, ec]
    unfold or2
    rw [if_neg hne, if_neg hne]
theorem key_len (v : V) (h : Vok v) : 1 ≤ (keyB v).length ∧ (keyB v).length ≤ 200 := by
  cases h with
  | none => exact ⟨by decide, by decide⟩
  | bool n hn => exact ⟨by simp [keyB], by simp [keyB]⟩
  | int n hn => exact ⟨by simp [keyB], by simp [keyB, be_length]⟩
  | text s hs =>
    have h1 := esc_length s.toList
    have h2 : s.toList.length = s.size := by rw [ByteArray.toList_eq]; rfl
    have e : keyB ⟨3, 0, s⟩ = 3 :: (esc s.toList ++ [0, 1]) := rfl
    rw [e]
    simp
    omega
end Go.Proofs.Ytjacaammlkjodaa
namespace Go.Proofs.Ytjacaammlkjodaa

/-- An entry: a row's value, and its key. -/
structure En where
  v : V
  k : V
def En.ord (e : En) : List UInt8 := keyB e.v ++ keyB e.k
def En.cmp (a b : En) : Int := or2 (a.v.cmp b.v) (a.k.cmp b.k)
def Eok (e : En) : Prop := Vok e.v ∧ Vok e.k
theorem or2_zero (x : Int) : or2 x 0 = x := by unfold or2; split <;> omega
theorem ord_cmp {a b : En} (ha : Eok a) (hb : Eok b) : cmpL a.ord b.ord = a.cmp b := by
  unfold En.ord En.cmp
  rw [key_cmp _ _ ha.1 hb.1]
  have h := key_cmp a.k b.k ha.2 hb.2 [] []
  rw [List.append_nil, List.append_nil] at h
  rw [h, show cmpL [] [] = 0 from rfl, or2_zero]
theorem ord_inj {a b : En} (ha : Eok a) (hb : Eok b) (h : a.ord = b.ord) : a = b := by
  have h1 := ord_cmp ha hb
  rw [(cmpL_zero _ _).2 h] at h1
  unfold En.cmp or2 at h1
  obtain ⟨av, ak⟩ := a
  obtain ⟨bv, bk⟩ := b
  simp only at h1
  split at h1
  · rename_i h2
    rw [(V.cmp_zero _ _).1 h2, (V.cmp_zero _ _).1 h1.symm]
  · omega
theorem cmpL_more : ∀ (a : List UInt8), a ≠ [] → cmpL a [] = 1
  | [], h => absurd rfl h
  | _ :: _, _ => rfl
/-- An entry against the bytes of a value. -/
theorem ord_front {e : En} (he : Eok e) {v : V} (hv : Vok v) : cmpL e.ord (keyB v) = or2 (e.v.cmp v) 1 := by
  unfold En.ord
  have h := key_cmp e.v v he.1 hv (keyB e.k) []
  rw [List.append_nil] at h
  rw [h, cmpL_more _ (fun q => by have := (key_len e.k he.2).1; rw [q] at this; simp at this)]
theorem prefix_iff {e : En} (he : Eok e) {v : V} (hv : Vok v) : (keyB v).isPrefixOf e.ord = (e.v.cmp v == 0) := by
  cases q : e.v.cmp v == 0 with
  | true =>
    have : e.v = v := (V.cmp_zero _ _).1 (by simpa using q)
    rw [List.isPrefixOf_iff_prefix]
    unfold En.ord
    rw [this]
    exact List.prefix_append _ _
  | false =>
    have hne : e.v.cmp v ≠ 0 := by simpa using q
    cases q2 : (keyB v).isPrefixOf e.ord with
    | false => rfl
    | true =>
      exfalso
      obtain ⟨t, ht⟩ := List.isPrefixOf_iff_prefix.1 q2
      have h := key_cmp e.v v he.1 hv (keyB e.k) t
      rw [ht] at h
      rw [show keyB e.v ++ keyB e.k = e.ord from rfl, (cmpL_zero _ _).2 rfl] at h
      unfold or2 at h
      rw [if_neg hne] at h
      exact hne h.symm
/-- How many entries stand ahead of these bytes; whether they are there; where what is greater begins. -/
def atO (o : List UInt8) : List En → Nat
  | [] => 0
  | e :: es => if cmpL e.ord o < 0 then atO o es + 1 else 0
def hasO (o : List UInt8) (es : List En) : Bool :=
  match es[atO o es]? with
  | some e => decide (cmpL e.ord o = 0)
  | none => false
def nxO (o : List UInt8) (es : List En) : Nat := if hasO o es then atO o es + 1 else atO o es
def SrtE (es : List En) : Prop := es.Pairwise fun a b => cmpL a.ord b.ord < 0
def addE (e : En) (es : List En) : List En := es.take (atO e.ord es) ++ e :: es.drop (nxO e.ord es)
def dropE (e : En) (es : List En) : List En := es.take (atO e.ord es) ++ es.drop (nxO e.ord es)
def keysE (v : V) (es : List En) : List V := ((es.drop (atO (keyB v) es)).takeWhile fun e => (keyB v).isPrefixOf e.ord).map En.k
def fromE (v : V) (m : Int) (es : List En) : List V := ((es.drop (atO (keyB v) es)).take m.toNat).map En.k
structure Ents (es : List En) : Prop where
  srt : SrtE es
  ok : ∀ e ∈ es, Eok e
theorem Ents.nil : Ents [] := ⟨List.Pairwise.nil, fun e h => by cases h⟩
theorem at_leO (o : List UInt8) : ∀ es : List En, atO o es ≤ es.length
  | [] => Nat.le_refl _
  | e :: es => by
    unfold atO
    have := at_leO o es
    split <;> simp <;> omega
theorem at_ltO {o : List UInt8} : ∀ {es : List En} {i : Nat} {e : En}, es[i]? = some e → i < atO o es → cmpL e.ord o < 0
  | [], i, e, h, _ => by simp at h
  | x :: es, 0, e, h, hi => by
    unfold atO at hi
    obtain rfl : x = e := by simpa using h
    split at hi
    · assumption
    · omega
  | x :: es, i + 1, e, h, hi => by
    unfold atO at hi
    split at hi
    · exact at_ltO (es := es) (i := i) (by simpa using h) (by omega)
    · omega
theorem at_hereO {o : List UInt8} : ∀ {es : List En} {e : En}, es[atO o es]? = some e → ¬ cmpL e.ord o < 0
  | [], e, h => by simp at h
  | x :: es, e, h => by
    unfold atO at h
    split at h
    · exact at_hereO (es := es) (by simpa using h)
    · obtain rfl : x = e := by simpa using h
      assumption
theorem cmpL_trans {a b c : List UInt8} (h : cmpL a b < 0) (k : cmpL b c < 0) : cmpL a c < 0 := (Tri.lists a b c).lt1 h (by omega)
theorem SrtE.iff {o : List UInt8} {es : List En} (h : SrtE es) {i : Nat} {e : En} (he : es[i]? = some e) : cmpL e.ord o < 0 ↔ i < atO o es := by
  constructor
  · intro hc
    refine Nat.lt_of_not_le fun hle => ?_
    have hlen := (List.getElem?_eq_some_iff.1 he).1
    obtain ⟨x, hx⟩ : ∃ x, es[atO o es]? = some x := ⟨es[atO o es]'(by omega), List.getElem?_eq_getElem _⟩
    have hn := at_hereO hx
    rcases Nat.eq_or_lt_of_le hle with q | q
    · rw [q, he] at hx
      obtain rfl := Option.some.inj hx
      exact hn hc
    · obtain ⟨h1, rfl⟩ := List.getElem?_eq_some_iff.1 hx
      obtain ⟨h2, rfl⟩ := List.getElem?_eq_some_iff.1 he
      exact hn (cmpL_trans (List.pairwise_iff_getElem.1 h _ i h1 h2 q) hc)
  · exact at_ltO he
/-- The entries in two: those ahead of the bytes, and the others. -/
theorem SrtE.split {es : List En} (h : SrtE es) (o : List UInt8) : ∃ A B, es = A ++ B ∧ atO o es = A.length ∧ (∀ a ∈ A, cmpL a.ord o < 0) ∧
    ((hasO o es = false ∧ ∀ b ∈ B, 0 < cmpL b.ord o) ∨ (hasO o es = true ∧ ∃ x B', B = x :: B' ∧ x.ord = o ∧ ∀ b ∈ B', 0 < cmpL b.ord o)) := by
  induction es with
  | nil => exact ⟨[], [], rfl, rfl, (fun a h => by cases h), .inl ⟨rfl, fun b h => by cases h⟩⟩
  | cons e es ih =>
    obtain ⟨h1, h2⟩ := List.pairwise_cons.1 h
    by_cases he : cmpL e.ord o < 0
    · obtain ⟨A, B, rfl, ha, hA, hB⟩ := ih h2
      have e1 : atO o (e :: (A ++ B)) = atO o (A ++ B) + 1 := by rw [atO, if_pos he]
      have e2 : hasO o (e :: (A ++ B)) = hasO o (A ++ B) := by
        unfold hasO
        rw [e1, List.getElem?_cons_succ]
      refine ⟨e :: A, B, rfl, by rw [e1, ha]; rfl, fun a ha => ?_, by rw [e2]; exact hB⟩
      rcases List.mem_cons.1 ha with rfl | ha
      · exact he
      · exact hA a ha
    · have e1 : atO o (e :: es) = 0 := by rw [atO, if_neg he]
      have e2 : hasO o (e :: es) = decide (cmpL e.ord o = 0) := by
        unfold hasO
        rw [e1, List.getElem?_cons_zero]
      refine ⟨[], e :: es, rfl, e1, (fun a h => by cases h), ?_⟩
      have hgt : ∀ b ∈ es, 0 < cmpL b.ord o := fun b hb => by
        have h3 := h1 b hb
        have h4 := cmpL_swap b.ord o
        rcases Int.lt_or_eq_of_le (Int.not_lt.1 he) with h5 | h5
        · have h6 := cmpL_swap e.ord o
          have := cmpL_trans (a := o) (b := e.ord) (c := b.ord) (by omega) h3
          omega
        · have h6 := (cmpL_zero _ _).1 h5.symm
          rw [h6] at h3
          omega
      by_cases h0 : cmpL e.ord o = 0
      · exact .inr ⟨by rw [e2]; exact decide_eq_true h0, e, es, rfl, (cmpL_zero _ _).1 h0, hgt⟩
      · refine .inl ⟨by rw [e2]; exact decide_eq_false h0, fun b hb => ?_⟩
        rcases List.mem_cons.1 hb with rfl | hb
        · omega
        · exact hgt b hb
section
variable {es : List En} {e : En}
theorem Ents.has (h : Ents es) (he : Eok e) : hasO e.ord es = true ↔ e ∈ es := by
  obtain ⟨A, B, rfl, -, hA, hB⟩ := h.srt.split e.ord
  constructor
  · intro q
    rcases hB with ⟨q2, -⟩ | ⟨-, x, B', rfl, hx, -⟩
    · rw [q] at q2; cases q2
    · have hm : x ∈ A ++ x :: B' := List.mem_append_right _ List.mem_cons_self
      rw [← ord_inj (h.ok x hm) he hx]
      exact hm
  · intro hm
    rcases hB with ⟨-, hB⟩ | ⟨q, -⟩
    · rcases List.mem_append.1 hm with hm | hm
      · have := hA e hm; rw [(cmpL_zero _ _).2 rfl] at this; omega
      · have := hB e hm; rw [(cmpL_zero _ _).2 rfl] at this; omega
    · exact q
theorem Ents.cut (h : Ents es) (he : Eok e) (hm : e ∈ es) : ∃ A B, es = A ++ e :: B ∧ addE e es = A ++ e :: B ∧ dropE e es = A ++ B := by
  have hh := (h.has he).2 hm
  obtain ⟨A, B, rfl, ha, hA, hB⟩ := h.srt.split e.ord
  rcases hB with ⟨q2, -⟩ | ⟨-, x, B', rfl, hx, -⟩
  · rw [hh] at q2; cases q2
  · obtain rfl := ord_inj (h.ok x (List.mem_append_right _ List.mem_cons_self)) he hx
    have e1 : nxO x.ord (A ++ x :: B') = A.length + 1 := by unfold nxO; rw [if_pos hh, ha]
    refine ⟨A, B', rfl, ?_, ?_⟩
    · unfold addE; rw [ha, e1, List.take_left, List.drop_length_add_append]; rfl
    · unfold dropE; rw [ha, e1, List.take_left, List.drop_length_add_append]; rfl
theorem Ents.uncut (h : Ents es) (he : Eok e) (hm : ¬ e ∈ es) : ∃ A B, es = A ++ B ∧ addE e es = A ++ e :: B ∧ dropE e es = es ∧ (∀ a ∈ A, cmpL a.ord e.ord < 0) ∧ ∀ b ∈ B, 0 < cmpL b.ord e.ord := by
  have hh : hasO e.ord es = false := by
    cases q : hasO e.ord es with
    | false => rfl
    | true => exact absurd ((h.has he).1 q) hm
  obtain ⟨A, B, rfl, ha, hA, hB⟩ := h.srt.split e.ord
  rcases hB with ⟨-, hB⟩ | ⟨q2, -⟩
  · have e1 : nxO e.ord (A ++ B) = A.length := by unfold nxO; rw [hh, ha]; rfl
    refine ⟨A, B, rfl, ?_, ?_, hA, hB⟩
    · unfold addE; rw [ha, e1, List.take_left, List.drop_left]
    · unfold dropE; rw [ha, e1, List.take_left, List.drop_left]
  · rw [hh] at q2; cases q2
theorem Ents.mem_add (h : Ents es) (he : Eok e) (x : En) : x ∈ addE e es ↔ x = e ∨ x ∈ es := by
  by_cases hm : e ∈ es
  · obtain ⟨A, B, rfl, e1, -⟩ := h.cut he hm
    rw [e1]
    exact ⟨.inr, fun q => q.elim (fun q => by rw [q]; exact hm) id⟩
  · obtain ⟨A, B, rfl, e1, -⟩ := h.uncut he hm
    rw [e1]
    simp only [List.mem_append, List.mem_cons]
    exact ⟨fun q => by rcases q with q | q | q <;> simp [q], fun q => by rcases q with q | q | q <;> simp [q]⟩
theorem Ents.add (h : Ents es) (he : Eok e) : Ents (addE e es) := by
  refine ⟨?_, fun x hx => ?_⟩
  · by_cases hm : e ∈ es
    · obtain ⟨A, B, h1, e1, -⟩ := h.cut he hm
      rw [e1, ← h1]
      exact h.srt
    · obtain ⟨A, B, h1, e1, -, hA, hB⟩ := h.uncut he hm
      have hs := h.srt
      unfold SrtE at hs ⊢
      rw [h1, List.pairwise_append] at hs
      rw [e1, List.pairwise_append, List.pairwise_cons]
      have hB2 : ∀ b ∈ B, cmpL e.ord b.ord < 0 := fun b hb => by
        have := hB b hb
        have := cmpL_swap b.ord e.ord
        omega
      refine ⟨hs.1, ⟨hB2, hs.2.1⟩, fun a ha b hb => ?_⟩
      rcases List.mem_cons.1 hb with rfl | hb
      · exact hA a ha
      · exact cmpL_trans (hA a ha) (hB2 b hb)
  · rcases (h.mem_add he x).1 hx with rfl | hx
    · exact he
    · exact h.ok x hx
theorem Ents.add_len (h : Ents es) (he : Eok e) (hm : ¬ e ∈ es) : (addE e es).length = es.length + 1 := by
  obtain ⟨A, B, rfl, e1, -⟩ := h.uncut he hm
  rw [e1]
  simp
  omega
theorem Ents.irr (h : Ents es) {A B : List En} (hs : es = A ++ e :: B) : ¬ e ∈ A ++ B := by
  have hs2 := h.srt
  unfold SrtE at hs2
  rw [hs, List.pairwise_append, List.pairwise_cons] at hs2
  intro hm
  rcases List.mem_append.1 hm with hm | hm
  · have := hs2.2.2 e hm e List.mem_cons_self
    rw [(cmpL_zero _ _).2 rfl] at this
    omega
  · have := hs2.2.1.1 e hm
    rw [(cmpL_zero _ _).2 rfl] at this
    omega
theorem Ents.mem_drop (h : Ents es) (he : Eok e) (x : En) : x ∈ dropE e es ↔ x ∈ es ∧ x ≠ e := by
  by_cases hm : e ∈ es
  · obtain ⟨A, B, h1, -, e1⟩ := h.cut he hm
    have hn := h.irr h1
    rw [e1]
    constructor
    · intro hx
      refine ⟨?_, fun q => hn (q ▸ hx)⟩
      rw [h1]
      rcases List.mem_append.1 hx with hx | hx
      · exact List.mem_append_left _ hx
      · exact List.mem_append_right _ (List.mem_cons_of_mem _ hx)
    · rintro ⟨hx, hne⟩
      rw [h1] at hx
      rcases List.mem_append.1 hx with hx | hx
      · exact List.mem_append_left _ hx
      · rcases List.mem_cons.1 hx with q | hx
        · exact absurd q hne
        · exact List.mem_append_right _ hx
  · obtain ⟨A, B, -, -, e1, -⟩ := h.uncut he hm
    rw [e1]
    exact ⟨fun hx => ⟨hx, fun q => hm (q ▸ hx)⟩, fun q => q.1⟩
theorem Ents.drop (h : Ents es) (he : Eok e) : Ents (dropE e es) := by
  refine ⟨?_, fun x hx => h.ok x ((h.mem_drop he x).1 hx).1⟩
  by_cases hm : e ∈ es
  · obtain ⟨A, B, h1, -, e1⟩ := h.cut he hm
    have hs := h.srt
    unfold SrtE at hs ⊢
    rw [h1] at hs
    rw [e1]
    exact List.Pairwise.sublist (List.Sublist.append_left (List.sublist_cons_self _ _) _) hs
  · obtain ⟨A, B, -, -, e1, -⟩ := h.uncut he hm
    rw [e1]
    exact h.srt
theorem Ents.drop_len (h : Ents es) (he : Eok e) (hm : e ∈ es) : (dropE e es).length + 1 = es.length := by
  obtain ⟨A, B, rfl, -, e1⟩ := h.cut he hm
  rw [e1]
  simp
  omega
theorem Ents.drop_no (h : Ents es) (he : Eok e) (hm : ¬ e ∈ es) : dropE e es = es := by
  obtain ⟨A, B, -, -, e1, -⟩ := h.uncut he hm
  exact e1
theorem ents_ext : ∀ {a b : List En}, SrtE a → SrtE b → (∀ x, x ∈ a ↔ x ∈ b) → a = b
  | [], [], _, _, _ => rfl
  | [], y :: b, _, _, h => by have := (h y).2 List.mem_cons_self; cases this
  | x :: a, [], _, _, h => by have := (h x).1 List.mem_cons_self; cases this
  | x :: a, y :: b, ha, hb, h => by
    obtain ⟨ha1, ha2⟩ := List.pairwise_cons.1 ha
    obtain ⟨hb1, hb2⟩ := List.pairwise_cons.1 hb
    have irr : ∀ v : List UInt8, ¬ cmpL v v < 0 := fun v => by rw [(cmpL_zero _ _).2 rfl]; omega
    have e : x = y := by
      rcases List.mem_cons.1 ((h x).1 List.mem_cons_self) with e | hx
      · exact e
      rcases List.mem_cons.1 ((h y).2 List.mem_cons_self) with e | hy
      · exact e.symm
      have h1 := hb1 x hx
      have h2 := ha1 y hy
      have := cmpL_swap x.ord y.ord
      omega
    subst e
    refine congrArg (x :: ·) (ents_ext ha2 hb2 fun z => ⟨fun hz => ?_, fun hz => ?_⟩)
    · rcases List.mem_cons.1 ((h z).1 (List.mem_cons_of_mem _ hz)) with e | hz'
      · subst e; exact absurd (ha1 z hz) (irr _)
      · exact hz'
    · rcases List.mem_cons.1 ((h z).2 (List.mem_cons_of_mem _ hz)) with e | hz'
      · subst e; exact absurd (hb1 z hz) (irr _)
      · exact hz'
theorem while_filter {α : Type} {p : α → Bool} : ∀ {l : List α}, (l.Pairwise fun a b => p b = true → p a = true) → l.takeWhile p = l.filter p
  | [], _ => rfl
  | a :: l, h => by
    obtain ⟨h1, h2⟩ := List.pairwise_cons.1 h
    cases q : p a with
    | true => rw [List.takeWhile_cons_of_pos q, List.filter_cons_of_pos q, while_filter h2]
    | false =>
      rw [List.takeWhile_cons_of_neg (by rw [q]; decide), List.filter_cons_of_neg (by rw [q]; decide)]
      symm
      rw [List.filter_eq_nil_iff]
      intro b hb hp
      have := h1 b hb hp
      rw [q] at this
      cases this
/-- Behind the place of a value's bytes stand the entries of values that are not below it. -/
theorem Ents.from_at (h : Ents es) {v : V} (hv : Vok v) : es.drop (atO (keyB v) es) = es.filter fun e => decide (0 ≤ e.v.cmp v) := by
  obtain ⟨A, B, h1, ha, hA, hB⟩ := h.srt.split (keyB v)
  have hf : ∀ a ∈ es, cmpL a.ord (keyB v) = or2 (a.v.cmp v) 1 := fun a ha => ord_front (h.ok a ha) hv
  have hB2 : ∀ b ∈ B, 0 ≤ b.v.cmp v := fun b hb => by
    have hm : b ∈ es := by rw [h1]; exact List.mem_append_right _ hb
    have h2 := hf b hm
    have h3 : 0 ≤ cmpL b.ord (keyB v) := by
      rcases hB with ⟨-, hB⟩ | ⟨-, x, B', rfl, hx, hB⟩
      · have := hB b hb; omega
      · rcases List.mem_cons.1 hb with rfl | hb
        · rw [hx, (cmpL_zero _ _).2 rfl]; omega
        · have := hB b hb; omega
    unfold or2 at h2
    split at h2 <;> omega
  have hA2 : ∀ a ∈ A, ¬ 0 ≤ a.v.cmp v := fun a ha => by
    have hm : a ∈ es := by rw [h1]; exact List.mem_append_left _ ha
    have h2 := hf a hm
    have h3 := hA a ha
    unfold or2 at h2
    split at h2 <;> omega
  rw [ha, h1, List.drop_left, List.filter_append, List.filter_eq_nil_iff.2 (fun a ha => by simpa using hA2 a ha), List.nil_append, List.filter_eq_self.2 (fun b hb => by simpa using hB2 b hb)]
theorem Ents.le (h : Ents es) : es.Pairwise fun a b => a.v.cmp b.v < 0 ∨ (a.v = b.v ∧ a.k.cmp b.k < 0) := by
  refine List.Pairwise.imp_of_mem (fun {a b} ha hb hc => ?_) h.srt
  rw [ord_cmp (h.ok a ha) (h.ok b hb)] at hc
  unfold En.cmp or2 at hc
  split at hc
  · rename_i h0
    exact .inr ⟨(V.cmp_zero _ _).1 h0, hc⟩
  · exact .inl hc
theorem Ents.keys (h : Ents es) {v : V} (hv : Vok v) : keysE v es = (es.filter fun e => e.v.cmp v == 0).map En.k := by
  unfold keysE
  rw [h.from_at hv]
  have hp : ∀ e ∈ es, (keyB v).isPrefixOf e.ord = (e.v.cmp v == 0) := fun e he => prefix_iff (h.ok e he) hv
  have e1 : (es.filter fun e => decide (0 ≤ e.v.cmp v)).takeWhile (fun e => (keyB v).isPrefixOf e.ord) = (es.filter fun e => decide (0 ≤ e.v.cmp v)).filter (fun e => (keyB v).isPrefixOf e.ord) := by
    refine while_filter ?_
    refine List.Pairwise.imp_of_mem (fun {a b} ha hb hc => ?_) (List.Pairwise.sublist List.filter_sublist h.le)
    obtain ⟨ha1, ha2⟩ := List.mem_filter.1 ha
    obtain ⟨hb1, hb2⟩ := List.mem_filter.1 hb
    rw [hp a ha1, hp b hb1]
    intro q
    have q2 : b.v = v := (V.cmp_zero _ _).1 (by simpa using q)
    have q3 : 0 ≤ a.v.cmp v := by simpa using ha2
    rcases hc with hc | ⟨hc, -⟩
    · rw [q2] at hc; omega
    · rw [hc, q2, V.cmp_self]; rfl
  rw [e1, List.filter_filter]
  refine congrArg (List.map En.k) (List.filter_congr fun e he => ?_)
  rw [hp e he]
  cases q : e.v.cmp v == 0 with
  | false => simp
  | true =>
    have : e.v.cmp v = 0 := by simpa using q
    simp [this]
theorem Ents.froms (h : Ents es) {v : V} (hv : Vok v) (m : Int) : fromE v m es = ((es.filter fun e => decide (0 ≤ e.v.cmp v)).take m.toNat).map En.k := by
  unfold fromE
  rw [h.from_at hv]
end
end Go.Proofs.Ytjacaammlkjodaa
namespace Go.Proofs.Ytjacaammlkjodaa
open Go.RowKit
set_option linter.unusedSimpArgs false

/-- An entry as the program has it: its bytes, and its key. -/
structure Rn where
  o : List UInt8
  k : V
def En.raw (e : En) : Rn := ⟨e.ord, e.k⟩
def ER : Enc Rn where
  sz := 4
  f r := [.string (bsOf r.o), .int .i64 r.k.k, .int .i64 r.k.n, .string r.k.s]
  len _ := rfl
  one r u hu := by
    simp only [List.mem_cons, List.not_mem_nil, or_false] at hu
    rcases hu with rfl | rfl | rfl | rfl <;> rfl
theorem info_ent : (Try.prog.info? 112).map (fun i => (i.zero, i.size, i.bytes)) = some (some (.agg #[.string ⟨#[]⟩, .int .i64 0, .int .i64 0, .string ⟨#[]⟩]), 4, 48) := by kernel_rfl
theorem rowTyR : RowTy ER Try.prog 120 112 ⟨[], V0⟩ := by
  obtain ⟨i, hi, hz, hs, hb⟩ := info_parts info_ent
  exact ⟨Try.underlying120, i, _, hi, hz, hs, rfl, by rw [hb]; decide⟩
/-- The cells of the entry at place i. -/
theorem cells_r {w : World} {b off : Nat} {l : List Rn} (h : ∀ j u, (ER.all l)[j]? = some u → w.cell? ⟨b, off + j, none⟩ = some u) (i : Nat) (v : Rn) (hv : l[i]? = some v) :
    w.cell? ⟨b, off + i * 4, none⟩ = some (.string (bsOf v.o)) ∧ w.cell? ⟨b, off + i * 4 + 1, none⟩ = some (.int .i64 v.k.k) ∧ w.cell? ⟨b, off + i * 4 + 2, none⟩ = some (.int .i64 v.k.n) ∧ w.cell? ⟨b, off + i * 4 + 3, none⟩ = some (.string v.k.s) := by
  have g := fun j (hj : j < 4) => ER.all_get l i j v hv hj
  exact ⟨h _ _ (g 0 (by decide)), h _ _ (g 1 (by decide)), h _ _ (g 2 (by decide)), h _ _ (g 3 (by decide))⟩
theorem bsOf_list (l : List UInt8) : (bsOf l).data.toList = l := by simp [bsOf]
theorem cb_cmpL : ∀ a b : List UInt8, Go.Lib.compareBytes a b = cmpL a b
  | [], [] => rfl
  | [], _ :: _ => rfl
  | _ :: _, [] => rfl
  | a :: al, b :: bl => by
    rw [Go.Lib.compareBytes, cb_cmpL al bl]
    rcases Nat.lt_trichotomy a.toNat b.toNat with q | q | q
    · rw [cmpL_ahead _ _ _ _ q, if_pos (UInt8.lt_iff_toNat_lt.2 q)]
    · obtain rfl := UInt8.toNat_inj.1 q
      have h : ¬ a < a := fun h => Nat.lt_irrefl _ (UInt8.lt_iff_toNat_lt.1 h)
      rw [cmpL_same, if_neg h, if_neg h]
    · have h : ¬ a < b := fun h => by have := UInt8.lt_iff_toNat_lt.1 h; omega
      rw [cmpL_behind _ _ _ _ q, if_neg h, if_pos (UInt8.lt_iff_toNat_lt.2 q)]
set_option maxRecDepth 100000 in
/-- A new row with room for k, or nil. -/
theorem grow_e (k : Nat) (hk : k ≤ 1000000) (w : World) : Calls Try.prog 137 #[.slice none 0 0, .int .i64 k] w fun e w' => ∃ ao c, e = .returned (.slice ao 0 c) ∧ TxtR ER w' 112 w.heap.size ao 0 c [] ∧ Below w.heap.size w w' := by
  have hw : wrap64 ((k : Int) - 0) = k := by rw [Int.sub_zero]; exact IntWalk.wrap64_in _ (by omega)
  have hk2 : ¬ ((k : Int) < 0) := by omega
  by_cases h0 : 0 < k
  · have hk1 : (0 : Int) < (k : Int) := by omega
    go_enter Try.func137, Try.ntmps137
    go_wp2_with (at_builtin; refine wpList_append_nil_zr (E := ER) rfl _ _ 120 3 rfl 112 rowTyR .i64 .i64 Try.underlying3 k rfl rfl h0 hk (by decide) ?_; intro c w1 q1 o1 b1)
    go_ret
    exact ⟨_, c, rfl, ⟨.inr ⟨_, rfl, o1, Nat.le_refl _⟩⟩, b1⟩
  · obtain rfl : k = 0 := by omega
    go_enter Try.func137, Try.ntmps137
    go_wp2_with fail
    go_ret
    exact ⟨none, 0, rfl, TxtR.nil _ _ _, Below.refl _ _⟩
set_option maxRecDepth 100000 in
set_option maxHeartbeats 1000000 in
theorem concat_e (w : World) (B : Nat) (ao : Option Addr) (k c : Nat) (ls : List (List Rn)) (h : IsRR ER w B ao k c ls) (hk : k ≤ 1000) (N : Nat) (hN : ls.flatten.length = N) (hmx : N ≤ 100000) :
    Calls Try.prog 99 #[.slice ao k c] w fun e w' => ∃ ao' c', e = .returned (.slice ao' N c') ∧ TxtR ER w' 112 w.heap.size ao' N c' ls.flatten ∧ Below w.heap.size w w' := by
  have hln := h.len
  have next : ∀ j l, ls[j]? = some l → (ls.take (j + 1)).flatten = (ls.take j).flatten ++ l := fun j l hl => by
    obtain ⟨hj, rfl⟩ := List.getElem?_eq_some_iff.1 hl
    rw [List.take_succ_eq_append_getElem hj, List.flatten_append]
    simp
  have le : ∀ j, (ls.take j).flatten.length ≤ N := fun j => by
    rw [← hN]
    conv => rhs; rw [← List.take_append_drop j ls, List.flatten_append, List.length_append]
    exact Nat.le_add_right _ _
  have NX := Lib.hid next
  have LE := Lib.hid le
  clear next le
  go_enter Try.func99, Try.ntmps99
  go_wp2_with fail
  go_loopw [3, 11] (fun z i wr => ∃ j q : Nat, j ≤ k ∧ i = .int .i64 (j : Nat) ∧ z = .int .i64 (q : Nat) ∧ Hid (q = (ls.take j).flatten.length) ∧ w = wr) (fun _ i _ => k - (intOf i).toNat)
  case atStart => exact ⟨0, 0, by omega, rfl, rfl, rfl, rfl⟩
  case round =>
    obtain ⟨j, q, hj, rfl, rfl, hq, rfl⟩ := hrel
    by_cases hlt : j < k
    · have hlti : (j : Int) < (k : Int) := by omega
      obtain ⟨l, hl⟩ : ∃ l, ls[j]? = some l := ⟨ls[j]'(by omega), List.getElem?_eq_getElem _⟩
      obtain ⟨b, off, x, rfl, hb, hc, hx⟩ := h.at hl
      have e1 : (ls.take (j + 1)).flatten.length = q + x.n := by rw [NX.out j l hl, List.length_append, ← hq.out, hx.len]
      have hq2 : q + x.n ≤ N := by rw [← e1]; exact LE.out (j + 1)
      have HE := Lib.hid e1.symm
      have hneg : ¬ ((q : Int) + (x.n : Int) < 0) := by omega
      obtain ⟨xa, xn, xc⟩ := x
      simp only at hc HE hq2 hneg
      clear e1 hl hx
      go_wp2_with fail
      go_roundw
      case rel => exact ⟨j + 1, q + xn, by omega, by go_num, by go_num, HE.out, trivial⟩
      case measure => simp [intOf]; omega
    · have hlti : ¬ ((j : Int) < (k : Int)) := by omega
      obtain rfl : j = k := by omega
      obtain rfl : q = N := by rw [hq.out, ← hN, List.take_of_length_le (by omega)]
      go_wp2_with (go_at_call 137; refine (grow_e q (by omega) _).mono ?_; rintro en w1 ⟨ga, gc, rfl, o1, b1⟩)
      have B1 : Below w.heap.size w w1 := b1
      go_loopw [6, 27] (fun v i w2 => ∃ (j2 : Nat) (ao2 : Option Addr) (m c2 : Nat), j2 ≤ j ∧ i = .int .i64 (j2 : Nat) ∧ v = .slice ao2 m c2 ∧ TxtR ER w2 112 w.heap.size ao2 m c2 (ls.take j2).flatten ∧ Below w.heap.size w w2) (fun _ i _ => j - (intOf i).toNat)
      case atStart => exact ⟨0, ga, 0, gc, by omega, rfl, rfl, o1, B1⟩
      case round =>
        obtain ⟨j2, ao2, m, c2, hj2, rfl, rfl, o2, B2⟩ := hrel
        clear o1 b1 B1
        have hm := o2.len
        have hm2 := LE.out j2
        have hsz := B2.size
        by_cases hlt2 : j2 < j
        · have hlti2 : (j2 : Int) < (j : Int) := by omega
          obtain ⟨l, hl⟩ : ∃ l, ls[j2]? = some l := ⟨ls[j2]'(by omega), List.getElem?_eq_getElem _⟩
          obtain ⟨b, off, x, rfl, hb, hc, hx⟩ := h.at hl
          rw [← B2.cell hb] at hc
          have hx2 := hx.past B2
          have e1 := NX.out j2 l hl
          have HE := Lib.hid e1
          have hle2 : m + x.n ≤ 1000000 := by
            have := LE.out (j2 + 1)
            rw [e1, List.length_append, hm, hx.len] at this
            omega
          obtain ⟨xa, xn, xc⟩ := x
          simp only at hc hx2 hle2
          have hxl := hx2.len
          clear e1 hl hx hm
          go_wp2_with (at_builtin; refine wpList_append_txtR rfl _ _ 120 120 rfl 112 rowTyR w.heap.size ao2 m c2 _ rfl o2 hsz _ rfl xn l (hx2.src Try.underlying120) hxl hle2 ?_; intro a3 c3 w3 o3 b3)
          go_roundw
          case rel => exact ⟨j2 + 1, a3, m + xn, c3, by omega, by go_num, rfl, by rw [HE.out]; exact o3, B2.trans b3⟩
          case measure => simp [intOf]; omega
        · have hlti2 : ¬ ((j2 : Int) < (j : Int)) := by omega
          obtain rfl : j2 = j := by omega
          rw [List.take_of_length_le (by omega)] at o2
          obtain rfl : m = q := by rw [← o2.len, hN]
          go_wp2_with fail
          go_ret
          exact ⟨ao2, c2, rfl, o2, B2⟩
end Go.Proofs.Ytjacaammlkjodaa
namespace Go.Proofs.Ytjacaammlkjodaa
open Go.RowKit
set_option linter.unusedSimpArgs false
def rV (r : Rn) : Value := .agg #[.string (bsOf r.o), .int .i64 r.k.k, .int .i64 r.k.n, .string r.k.s]
def rC (r : Rn) : Array Value := #[.string (bsOf r.o), .int .i64 r.k.k, .int .i64 r.k.n, .string r.k.s]
theorem icmp_any (w : World) (q : List UInt8) (k n : Int) (s : ByteArray) (o : List UInt8) :
    Calls Try.prog 136 #[.agg #[.string (bsOf q), .int .i64 k, .int .i64 n, .string s], .string (bsOf o)] w fun e w' => e = .returned (.int .i64 (cmpL q o)) ∧ Below w.heap.size w w' := by
  have HC := fun w => Try.strings_Compare (bsOf q) (bsOf o) w
  simp only [bsOf_list, cb_cmpL] at HC
  obtain ⟨C, hC⟩ : ∃ C, cmpL q o = C := ⟨_, rfl⟩
  simp only [hC] at HC ⊢
  clear hC
  have B : Below w.heap.size w (w.alloc (.cells #[.string (bsOf q), .int .i64 k, .int .i64 n, .string s] 112)) := (Below.refl _ _).alloc (Nat.le_refl _) _
  go_enter Try.func136, Try.ntmps136
  go_wp2_with (go_at_call 165; refine (HC _).mono ?_; rintro e w1 ⟨rfl, rfl⟩)
  go_ret
  exact ⟨rfl, B⟩
set_option maxRecDepth 100000 in
set_option maxHeartbeats 2000000 in
theorem ibs_any (w : World) (ao : Option Addr) (n c : Nat) (es : List En) (h : IsR ER w ao n c (es.map En.raw)) (o : List UInt8) (hS : SrtE es) (hn : n ≤ 100000) :
    Calls Try.prog 135 #[.slice ao n c, .string (bsOf o), .func (.func 136) #[] #[]] w fun e w' => e = .returned (.tuple #[.int .i64 (atO o es : Nat), .bool (hasO o es)]) ∧ Below w.heap.size w w' := by
  have hln : es.length = n := by have := h.len; simpa using this
  have HI := fun (i : Nat) (e : En) (he : es[i]? = some e) => hS.iff (o := o) he
  have hNl := at_leO o es
  obtain ⟨N, hN⟩ : ∃ N, atO o es = N := ⟨_, rfl⟩
  have hH : hasO o es = (match es[N]? with | some e => decide (cmpL e.ord o = 0) | none => false) := by rw [← hN]; rfl
  simp only [hN] at HI hNl ⊢
  have HH := Lib.hid hH
  have HII := Lib.hid HI
  clear hN hH HI
  go_enter Try.func135, Try.ntmps135
  go_wp2_with fail
  go_loopw [9, 10] (fun z9 z10 wr => ∃ lo hi : Nat, z9 = .int .i64 (lo : Nat) ∧ z10 = .int .i64 (hi : Nat) ∧ lo ≤ N ∧ N ≤ hi ∧ hi ≤ n ∧ Below w.heap.size w wr) (fun z9 z10 _ => (intOf z10).toNat - (intOf z9).toNat)
  case atStart => exact ⟨0, n, rfl, rfl, Nat.zero_le _, by omega, Nat.le_refl _, Below.refl _ _⟩
  case round =>
    obtain ⟨lo, hi, rfl, rfl, hlN, hNh, hhn, B1⟩ := hrel
    by_cases hlt : lo < hi
    · have hlti : (lo : Int) < (hi : Int) := by omega
      obtain ⟨mid, hmid⟩ : ∃ mid, (lo + hi) / 2 = mid := ⟨_, rfl⟩
      have hm1 : lo ≤ mid ∧ mid < hi := by omega
      have hmi : ((lo : Int) + (hi : Int)) / 2 = (mid : Int) := by omega
      obtain ⟨e, he⟩ : ∃ e, es[mid]? = some e := ⟨es[mid]'(by omega), List.getElem?_eq_getElem _⟩
      obtain ⟨b, off, rfl, hb, hc⟩ := h.open (by omega) (by decide)
      obtain ⟨c0, c1, c2, c3⟩ := cells_r hc mid e.raw (by rw [List.getElem?_map, he]; rfl)
      rw [← B1.cell hb] at c0 c1 c2 c3
      have HI := HII.out mid e he
      obtain ⟨x, hx⟩ : ∃ x, e.raw = x := ⟨_, rfl⟩
      have hxo : x.o = e.ord := by rw [← hx]; rfl
      rw [hx] at c0 c1 c2 c3
      rw [← hxo] at HI
      obtain ⟨C, hC⟩ : ∃ C, cmpL x.o o = C := ⟨_, rfl⟩
      rw [hC] at HI
      have HC := fun w => icmp_any w x.o x.k.k x.k.n x.k.s o
      simp only [hC] at HC
      have HIh := Lib.hid HI
      have hmn : (mid : Int) < (n : Int) := by omega
      clear he hC hx hxo hmid HI
      by_cases hC0 : C < 0
      · have hlt2 : mid < N := HIh.out.1 hC0
        clear HIh
        go_wp2_with (go_at_call 136; refine (HC _).mono ?_; rintro en w2 ⟨rfl, b2⟩)
        go_roundw
        case rel => exact ⟨mid + 1, hi, by go_num, rfl, by omega, hNh, hhn, B1.trans (b2.mono B1.size)⟩
        case measure => simp [intOf]; omega
      · have hlt2 : ¬ mid < N := fun h => hC0 (HIh.out.2 h)
        clear HIh
        go_wp2_with (go_at_call 136; refine (HC _).mono ?_; rintro en w2 ⟨rfl, b2⟩)
        go_roundw
        case rel => exact ⟨lo, mid, rfl, rfl, hlN, by omega, by omega, B1.trans (b2.mono B1.size)⟩
        case measure => simp [intOf]; omega
    · have hlti : ¬ ((lo : Int) < (hi : Int)) := by omega
      obtain rfl : N = lo := by omega
      obtain rfl : hi = N := by omega
      by_cases hlr : hi < n
      · have hlri : (hi : Int) < (n : Int) := by omega
        obtain ⟨e, he⟩ : ∃ e, es[hi]? = some e := ⟨es[hi]'(by omega), List.getElem?_eq_getElem _⟩
        obtain ⟨b, off, rfl, hb, hc⟩ := h.open (by omega) (by decide)
        obtain ⟨c0, c1, c2, c3⟩ := cells_r hc hi e.raw (by rw [List.getElem?_map, he]; rfl)
        rw [← B1.cell hb] at c0 c1 c2 c3
        have hR := HH.out
        rw [he] at hR
        obtain ⟨x, hx⟩ : ∃ x, e.raw = x := ⟨_, rfl⟩
        have hxo : e.ord = x.o := by rw [← hx]; rfl
        rw [hx] at c0 c1 c2 c3
        simp only [hxo] at hR
        obtain ⟨C, hC⟩ : ∃ C, cmpL x.o o = C := ⟨_, rfl⟩
        rw [hC] at hR
        have HC := fun w => icmp_any w x.o x.k.k x.k.n x.k.s o
        simp only [hC] at HC
        have HR : Hid (hasO o es = (C == 0)) := by
          show _ = _
          rw [hR, Bool.eq_iff_iff]
          simp
        clear he hC hx hxo hR
        obtain ⟨q, hq⟩ : ∃ q, (C == 0) = q := ⟨_, rfl⟩
        rw [hq] at HR
        go_wp2_with (go_at_call 136; refine (HC _).mono ?_; rintro en w2 ⟨rfl, b2⟩)
        go_ret2
        exact ⟨by rw [HR.out, ← hq]; rfl, B1.trans (b2.mono B1.size)⟩
      · obtain rfl : hi = n := by omega
        have hR := HH.out
        rw [List.getElem?_eq_none (by omega)] at hR
        have HR := Lib.hid hR
        clear hR hlti hlr
        go_wp2_with fail
        try go_quiet (fail)
        try go_wp2_with fail
        go_ret2
        exact ⟨by rw [HR.out]; rfl, by first | exact B1 | exact below_drewN B1 _⟩
/-- find. -/
theorem ifind_any (w : World) (ao : Option Addr) (n c : Nat) (es : List En) (h : IsR ER w ao n c (es.map En.raw)) (o : List UInt8) (hS : SrtE es) (hn : n ≤ 100000) :
    Calls Try.prog 98 #[.slice ao n c, .string (bsOf o)] w fun e w' => e = .returned (.tuple #[.int .i64 (atO o es : Nat), .bool (hasO o es)]) ∧ Below w.heap.size w w' := by
  have HB := ibs_any w ao n c es h o hS hn
  obtain ⟨N, hN⟩ : ∃ N, atO o es = N := ⟨_, rfl⟩
  obtain ⟨tk, htk⟩ : ∃ tk, hasO o es = tk := ⟨_, rfl⟩
  simp only [hN, htk] at HB ⊢
  clear hN htk
  go_enter Try.func98, Try.ntmps98
  go_wp2_with (go_at_call 135; refine HB.mono ?_; rintro e w1 ⟨rfl, b1⟩)
  go_ret2
  exact ⟨rfl, b1⟩
end Go.Proofs.Ytjacaammlkjodaa
namespace Go.Proofs.Ytjacaammlkjodaa
open Go.RowKit
set_option linter.unusedSimpArgs false
theorem run_call_loadp {P : Program} {f : FuncId} {fn : Func} (hf : P.funcs[f]? = some fn) (hname : (fn.name == "runtime.NumGoroutine") = false) (hb : fn.body.isNone = true) (hn : Extern.findNext fn = none)
    (he : Extern.find fn = some (Extern.Atomic.loadT .ptr)) {a : Addr} {x : Option Addr} {w : World} (hc : w.cell? a = some (.pointer x)) :
    (callFunc f #[.pointer (some a)]).run P w = .ok (.value (.pointer x)) w := by
  rw [run_callFunc_extern hf hname hb hn he]
  change (Sem.run P (do Extern.Atomic.read .ptr (← asAddr (.pointer (some a)))) w).andThen _ = _
  simp [Extern.Atomic.read, asAddr, hc, Result.andThen]
theorem run_call_storep {P : Program} {f : FuncId} {fn : Func} (hf : P.funcs[f]? = some fn) (hname : (fn.name == "runtime.NumGoroutine") = false) (hb : fn.body.isNone = true) (hn : Extern.findNext fn = none)
    (he : Extern.find fn = some Extern.Atomic.storeT) {a : Addr} {y : Option Addr} {u : Value} {w : World} (hc : w.cell? a = some u) (hz : w.frozen? a = false) :
    (callFunc f #[.pointer (some a), .pointer y]).run P w = .ok (.value (.tuple #[])) (w.setCell a (.pointer y)) := by
  rw [run_callFunc_extern hf hname hb hn he]
  change (Sem.run P (do
    store (← asAddr (.pointer (some a))) (.pointer y) .atomic
    pure Extern.Atomic.none_) w).andThen _ = _
  simp [asAddr, hc, hz, run_store P w a (.pointer y) .atomic rfl, Result.andThen, Extern.Atomic.none_]
/-- A block with one list of entries. -/
def LB (w : World) (q : Nat) (ao : Option Addr) (n c : Nat) : Prop := Bk w q #[.slice ao n c] 120
theorem list_info : (Try.prog.info? 120).map (fun i => i.size) = some 1 := by kernel_rfl
theorem shape_bk {w : World} {q : Nat} {cs : Array Value} {t : TypeId} (h : Bk w q cs t) : w.shape? q = some (t, cs.size) := by
  unfold Bk at h
  simp [World.shape?, h]
theorem lies_list : liesAt Try.prog Try.prog.depth 120 (1 / Try.prog.cellsOf 120) 0 120 1 = true := by kernel_rfl
set_option maxRecDepth 100000 in
theorem pload_none (a : Addr) (w : World) (hc : w.cell? a = some (.pointer none)) :
    Calls Try.prog 102 #[.pointer (some a)] w fun e w' => e = .returned (.pointer none) ∧ w = w' := by
  have hl := run_call_loadp (P := Try.prog) Try.func139 (by kernel_rfl) (by kernel_rfl) (by kernel_rfl) (by kernel_rfl) hc
  have hv : (convert 105 101 (.pointer none)).run Try.prog w = .ok (.pointer none) w := by
    simp [convert, Conv.unsafePointer, run_underlying Try.underlying105, run_underlying Try.underlying101]
  go_enter Try.func102, Try.ntmps102
  go_wp2
  go_ret
  exact ⟨rfl, rfl⟩
set_option maxRecDepth 100000 in
theorem pload_some (a : Addr) (q : Nat) (v : Value) (w : World) (hc : w.cell? a = some (.pointer (some ⟨q, 0, none⟩))) (hq : Bk w q #[v] 120) :
    Calls Try.prog 102 #[.pointer (some a)] w fun e w' => e = .returned (.pointer (some ⟨q, 0, none⟩)) ∧ w = w' := by
  obtain ⟨j, hj, hz⟩ := Option.map_eq_some_iff.1 list_info
  have hl := run_call_loadp (P := Try.prog) Try.func139 (by kernel_rfl) (by kernel_rfl) (by kernel_rfl) (by kernel_rfl) hc
  have hv := Go.Lib.run_from_unsafe (P := Try.prog) (w := w) (u := 120) ⟨q, 0, none⟩ Try.underlying105 Try.underlying101 hj (shape_bk hq) lies_list
  go_enter Try.func102, Try.ntmps102
  go_wp2
  go_ret
  exact ⟨rfl, rfl⟩
set_option maxRecDepth 100000 in
theorem pstore_any (a : Addr) (q : Nat) (u v : Value) (w : World) (hc : w.cell? a = some u) (hf : w.frozen? a = false) (hq : Bk w q #[v] 120) :
    Calls Try.prog 100 #[.pointer (some a), .pointer (some ⟨q, 0, none⟩)] w fun e w' => e = .returned (.tuple #[]) ∧ w' = w.setCell a (.pointer (some ⟨q, 0, none⟩)) := by
  obtain ⟨j, hj, hz⟩ := Option.map_eq_some_iff.1 list_info
  have hst := run_call_storep (P := Try.prog) Try.func138 (by kernel_rfl) (by kernel_rfl) (by kernel_rfl) (by kernel_rfl) (y := some ⟨q, 0, none⟩) hc hf
  have hv := Go.Lib.run_to_unsafe (P := Try.prog) (w := w) ⟨q, 0, none⟩ Try.underlying101 Try.underlying105 hj (by omega) (shape_bk hq) (by simp)
  go_enter Try.func100, Try.ntmps100
  go_wp2
  go_end0
  exact ⟨rfl, rfl⟩
def xC (col key : Int) (p : Option Addr) : Array Value := #[.int .i64 col, .int .i64 key, .pointer p]
/-- Where the list lies: nowhere, or in a block of its own. -/
def LiB (w : World) (lo hi : Nat) (p : Option Addr) (es : List En) : Prop :=
  (p = none ∧ es = []) ∨ ∃ q ao n c, p = some ⟨q, 0, none⟩ ∧ Bk w q #[.slice ao n c] 120 ∧ lo ≤ q ∧ q < hi ∧ IsR ER w ao n c (es.map En.raw) ∧ ∀ a, ao = some a → lo ≤ a.block ∧ a.block < hi
/-- AN INDEX LIES IN BLOCK x; all of it in blocks from lo on, ahead of hi. -/
def IsX (w : World) (lo hi x : Nat) (col key : Int) (es : List En) : Prop :=
  ∃ p, Bk w x (xC col key p) 109 ∧ lo ≤ x ∧ x < hi ∧ LiB w lo hi p es ∧ Ents es
section
variable {w w' : World} {lo hi x : Nat} {col key : Int} {es : List En} {p : Option Addr}
theorem LiB.past (h : LiB w lo hi p es) (b : Below w.heap.size w w') : LiB w' lo hi p es := by
  rcases h with h | ⟨q, ao, n, c, h1, h2, h3, h4, h5, h6⟩
  · exact .inl h
  · exact .inr ⟨q, ao, n, c, h1, h2.past b, h3, h4, h5.past b, h6⟩
theorem IsX.past (h : IsX w lo hi x col key es) (b : Below w.heap.size w w') : IsX w' lo hi x col key es := by
  obtain ⟨p, h1, h2, h3, h4, h5⟩ := h
  exact ⟨p, h1.past b, h2, h3, h4.past b, h5⟩
theorem LiB.grown (h : LiB w lo hi p es) {r : Nat} (g : w.grownBy w' (some r)) (hr : r < lo ∨ hi ≤ r) : LiB w' lo hi p es := by
  rcases h with h | ⟨q, ao, n, c, h1, h2, h3, h4, h5, h6⟩
  · exact .inl h
  · refine .inr ⟨q, ao, n, c, h1, h2.grown g (fun e => ?_), h3, h4, h5.grown g (fun a ha e => ?_), h6⟩
    · have := Option.some.inj e; omega
    · have := Option.some.inj e; have := h6 a ha; omega
theorem IsX.grown (h : IsX w lo hi x col key es) {r : Nat} (g : w.grownBy w' (some r)) (hr : r < lo ∨ hi ≤ r) : IsX w' lo hi x col key es := by
  obtain ⟨p, h1, h2, h3, h4, h5⟩ := h
  exact ⟨p, h1.grown g (fun e => by have := Option.some.inj e; omega), h2, h3, h4.grown g hr, h5⟩
theorem IsX.ents (h : IsX w lo hi x col key es) : Ents es := by
  obtain ⟨p, h1, h2, h3, h4, h5⟩ := h
  exact h5
theorem IsX.lt (h : IsX w lo hi x col key es) : x < w.heap.size := by
  obtain ⟨p, h1, h2, h3, h4, h5⟩ := h
  exact h1.lt
end
theorem x_cells {w : World} {x : Nat} {col key : Int} {p : Option Addr} {t : TypeId} (h : Bk w x (xC col key p) t) : w.cell? ⟨x, 0, none⟩ = some (.int .i64 col) ∧ w.cell? ⟨x, 1, none⟩ = some (.int .i64 key) ∧ w.cell? ⟨x, 2, none⟩ = some (.pointer p) := ⟨h.c rfl, h.c rfl, h.c rfl⟩
/-- all. -/
theorem all_any (w : World) (lo hi x : Nat) (col key : Int) (es : List En) (h : IsX w lo hi x col key es) :
    Calls Try.prog 62 #[.pointer (some ⟨x, 0, none⟩)] w fun e w' => ∃ ao c, e = .returned (.slice ao es.length c) ∧ IsR ER w ao es.length c (es.map En.raw) ∧ (∀ a, ao = some a → lo ≤ a.block ∧ a.block < hi) ∧ w = w' := by
  obtain ⟨p, h1, h2, h3, h4, h5⟩ := h
  obtain ⟨c0, c1, c2⟩ := x_cells h1
  rcases h4 with ⟨rfl, rfl⟩ | ⟨q, ao, n, c, rfl, h6, h7, h8, h9, h10⟩
  · have HL := pload_none ⟨x, 2, none⟩ w c2
    go_enter Try.func62, Try.ntmps62
    go_wp2_with (go_at_call 102; refine HL.mono ?_; rintro e w1 ⟨rfl, rfl⟩)
    go_ret
    exact ⟨none, 0, rfl, IsR.nilR _, (fun a h => by cases h), rfl⟩
  · have HL := pload_some ⟨x, 2, none⟩ q _ w c2 h6
    have hn : n = es.length := by have := h9.len; simpa using this.symm
    subst hn
    have q0 : w.cell? ⟨q, 0, none⟩ = some (.slice ao es.length c) := h6.c rfl
    go_enter Try.func62, Try.ntmps62
    go_wp2_with (go_at_call 102; refine HL.mono ?_; rintro e w1 ⟨rfl, rfl⟩)
    go_ret
    exact ⟨ao, c, rfl, h9, h10, rfl⟩
/-- Len. -/
theorem len_any (w : World) (lo hi x : Nat) (col key : Int) (es : List En) (h : IsX w lo hi x col key es) :
    Calls Try.prog 29 #[.pointer (some ⟨x, 0, none⟩)] w fun e w' => e = .returned (.int .i64 (es.length : Nat)) ∧ w = w' := by
  have HA := all_any w lo hi x col key es h
  go_enter Try.func29, Try.ntmps29
  go_wp2_with (go_at_call 62; refine HA.mono ?_; rintro e w1 ⟨ao, c, rfl, -, -, rfl⟩)
  go_ret
  exact ⟨rfl, rfl⟩
end Go.Proofs.Ytjacaammlkjodaa
namespace Go.Proofs.Ytjacaammlkjodaa
open Go.RowKit

set_option maxHeartbeats 400000 in
/-- longer(b, more): a new slice of the same bytes. -/
theorem longer_any (ao : Option Addr) (n cap : Nat) (l : List UInt8) (more : Int) (w : World) (h : IsB w ao n cap l) (hn : n ≤ 1000000) (hm : 0 ≤ more ∧ more ≤ 1000000) :
    Calls Try.prog 149 #[.slice ao n cap, .int .i64 more] w (Fresh w n l) := by
  obtain ⟨m, rfl⟩ := Int.eq_ofNat_of_zero_le hm.1
  obtain ⟨i0, hi, hz0, hz1, hz2⟩ := info_parts info_u8
  have hm2 : m ≤ 1000000 := by omega
  clear hm
  go_enter Try.func149, Try.ntmps149
  go_wp2_with (first | (at_make; refine wpList_make_ob rfl _ _ 73 rfl 5 byteTy .i64 .i64 _ (n + m) rfl rfl (by omega) (by omega) ?_; intro w1 h1 hb1) | (at_builtin; refine wpList_append_ob rfl _ _ 73 73 rfl 5 byteTy _ 0 (n + m) [] rfl h1 _ rfl n l ((h.past hb1).src byteTy.ht) n (by omega) l rfl (by omega) ?_; intro g2 cap2 w2 ho2 hp2 hg2))
  go_ret
  have hs1 := h1.lt
  exact ⟨g2, cap2, rfl, ho2, hb1.trans (hp2.below (Nat.le_refl _) hb1.size), by omega⟩

def XU (x : Int) : Nat := (x % 18446744073709551616).toNat

theorem XU_lt (x : Int) : XU x < 18446744073709551616 := by unfold XU; omega
theorem u64_wrap (x : Int) : IntKind.u64.wrap x = (XU x : Int) := by
  simp [IntKind.wrap, IntKind.bits, IntKind.signed, XU]; omega

set_option maxHeartbeats 400000 in
theorem low_any (g n cap : Nat) (l : List UInt8) (x : Int) (k : Nat) (K : Int) (hK : K = (k : Int)) (w : World) (h : OwnB w 5 g n cap l) (hn : n ≤ 1000000) (hk : k ≤ 8) :
    Calls Try.prog 148 #[.slice (some ⟨g, 0, none⟩) n cap, .int .i64 x, .int .i64 K] w (Went w g n (n + k) (l ++ le k (XU x))) := by
  subst hK
  have hlt := Lib.hid (XU_lt x)
  go_enter Try.func148, Try.ntmps148
  go_wp2_with fail
  go_loopw [0, 7, 11] (fun v u i wr => ∃ j g' cap' q, j ≤ k ∧ i = .int .i64 (j : Nat) ∧ Hid (q = XU x / 256 ^ j) ∧ u = .int .u64 (q : Nat) ∧ v = .slice (some ⟨g', 0, none⟩) (n + j) cap' ∧ OwnB wr 5 g' (n + j) cap' (l ++ le j (XU x)) ∧ Puts w wr g n ∧ (g' = g ∨ w.heap.size ≤ g')) (fun _ _ i _ => k - (intOf i).toNat)
  case atStart => exact ⟨0, g, cap, XU x, by omega, rfl, by simp [Hid], by rw [u64_wrap], rfl, by simpa [le] using h, Puts.refl _ _ _, .inl rfl⟩
  case round =>
    obtain ⟨j, g', cap', q, hj, rfl, hq, rfl, rfl, ho, hp, hg'⟩ := hrel
    have hq0 : q ≤ XU x := by rw [hq.out]; exact Nat.div_le_self _ _
    have hq1 : q < 18446744073709551616 := by have := hlt.out; omega
    have hg := h.lt
    have HL : Hid (l ++ le j (XU x) ++ [UInt8.ofNat (q % 256)] = l ++ le (j + 1) (XU x)) := by rw [hq.out, le_snoc, List.append_assoc]; exact rfl
    clear hq0
    by_cases hlt' : j < k
    · go_wp2_with (at_builtin; refine wpList_append_ob rfl _ _ 73 73 rfl 5 byteTy g' (n + j) cap' (l ++ le j (XU x)) rfl (ho.alloc _) _ rfl 1 [UInt8.ofNat (q % 256)] (src_one byteTy.ht _ _ _ (bc_mod q)) (n + (j + 1)) (by omega) (l ++ le (j + 1) (XU x)) HL.out (by omega) ?_; intro g2 cap2 w2 ho2 hp2 hg2)
      go_roundw
      case rel =>
        exact ⟨j + 1, g2, cap2, q / 256, by omega, by go_num, by unfold Hid; rw [hq.out, Nat.div_div_eq_div_mul, ← Nat.pow_succ], by go_num, rfl, ho2, (hp.alloc _ hg).trans hp2 (by omega), by have := hp.size; simp at hg2; omega⟩
      case measure => simp [intOf]; omega
    · go_wp2_with fail
      go_ret
      obtain rfl : j = k := by omega
      exact ⟨g', cap', rfl, ho, hp, hg'⟩
end Go.Proofs.Ytjacaammlkjodaa
namespace Go.Proofs.Ytjacaammlkjodaa
open Go.RowKit
set_option linter.unusedSimpArgs false

theorem shr_byte (U i : Nat) : Value.int .u8 ((U : Int) / 2 ^ (8 * i) % 256) = bc (UInt8.ofNat (U / 256 ^ i % 256)) := by
  have e : (2 : Nat) ^ (8 * i) = 256 ^ i := by rw [Nat.pow_mul]
  rw [← bc_mod, ← e]
  push_cast
  rfl
set_option maxRecDepth 100000 in
set_option maxHeartbeats 1000000 in
theorem appendInt_any (g n cap : Nat) (l : List UInt8) (x : Int) (hx : -9223372036854775808 ≤ x ∧ x ≤ 9223372036854775807) (w : World) (h : OwnB w 5 g n cap l) (hn : n ≤ 1000) :
    Calls Try.prog 140 #[.slice (some ⟨g, 0, none⟩) n cap, .int .i64 x] w (Went w g n (n + 8) (l ++ be 8 (x + 9223372036854775808).toNat)) := by
  obtain ⟨U, hU⟩ : ∃ U : Nat, x + 9223372036854775808 = (U : Int) := ⟨(x + 9223372036854775808).toNat, by omega⟩
  have hU2 : U < 18446744073709551616 := by omega
  rw [hU, Int.toNat_natCast]
  have hw : IntKind.u64.wrap (IntKind.u64.wrap x + 9223372036854775808) = (U : Int) := by rw [u64_wrap, u64_wrap]; unfold XU; omega
  go_enter Try.func140, Try.ntmps140
  go_wp2_with fail
  clear hw hU hx
  go_loopw [0, 10] (fun v i wr => ∃ j g' cap', j ≤ 8 ∧ i = .int .i64 (j : Nat) ∧ v = .slice (some ⟨g', 0, none⟩) (n + j) cap' ∧ OwnB wr 5 g' (n + j) cap' (l ++ (be 8 U).take j) ∧ Puts w wr g n ∧ (g' = g ∨ w.heap.size ≤ g')) (fun _ i _ => 8 - (intOf i).toNat)
  case atStart => exact ⟨0, g, cap, by omega, rfl, rfl, by simpa using h, Puts.refl _ _ _, .inl rfl⟩
  case round =>
    obtain ⟨j, g', cap', hj, rfl, rfl, ho, hp, hg'⟩ := hrel
    have hg := h.lt
    by_cases hlt' : j < 8
    · have HL : Hid (l ++ (be 8 U).take j ++ [UInt8.ofNat (U / 256 ^ (7 - j) % 256)] = l ++ (be 8 U).take (j + 1)) := by unfold Hid; rw [be_take 8 U j hlt', List.append_assoc]
      go_wp2_with (at_builtin; refine wpList_append_ob rfl _ _ 73 73 rfl 5 byteTy g' (n + j) cap' (l ++ (be 8 U).take j) rfl (ho.alloc _) _ rfl 1 [UInt8.ofNat (U / 256 ^ (7 - j) % 256)] (src_one byteTy.ht _ _ _ (shr_byte U (7 - j))) (n + (j + 1)) (by omega) (l ++ (be 8 U).take (j + 1)) HL.out (by omega) ?_; intro g2 cap2 w2 ho2 hp2 hg2)
      go_roundw
      case rel => exact ⟨j + 1, g2, cap2, by omega, by go_num, rfl, ho2, (hp.alloc _ hg).trans hp2 (by omega), by have := hp.size; simp at hg2; omega⟩
      case measure => simp [intOf]; omega
    · have hj1 : ¬ ((j : Int) < 8) := by omega
      go_wp2_with fail
      go_ret
      obtain rfl : j = 8 := by omega
      rw [List.take_of_length_le (by rw [be_length]; omega)] at ho
      exact ⟨g', cap', rfl, ho, hp, hg'⟩
set_option maxRecDepth 100000 in
set_option maxHeartbeats 1000000 in
theorem appendText_any (g n cap : Nat) (l : List UInt8) (s : ByteArray) (hs : s.size ≤ 60) (w : World) (h : OwnB w 5 g n cap l) (hn : n ≤ 1000) :
    Calls Try.prog 141 #[.slice (some ⟨g, 0, none⟩) n cap, .string s] w (Went w g n (n + (esc s.toList ++ [0, 1]).length) (l ++ (esc s.toList ++ [0, 1]))) := by
  have us := Try.underlying9
  have HS := Lib.hid (toList_len s)
  obtain ⟨M, hM⟩ : ∃ M, (esc s.toList ++ [0, 1]).length = M := ⟨_, rfl⟩
  rw [hM]
  have HM := Lib.hid hM
  clear hM
  go_enter Try.func141, Try.ntmps141
  go_wp2_with fail
  go_loopw [0, 8] (fun v i wr => ∃ j g' cap' m, j ≤ s.size ∧ i = .int .i64 (j : Nat) ∧ Hid (m = (esc (s.toList.take j)).length) ∧ m ≤ 2 * j ∧ v = .slice (some ⟨g', 0, none⟩) (n + m) cap' ∧ OwnB wr 5 g' (n + m) cap' (l ++ esc (s.toList.take j)) ∧ Puts w wr g n ∧ (g' = g ∨ w.heap.size ≤ g')) (fun _ i _ => s.size - (intOf i).toNat)
  case atStart => exact ⟨0, g, cap, 0, by omega, rfl, rfl, by omega, rfl, by simpa [esc] using h, Puts.refl _ _ _, .inl rfl⟩
  case round =>
    obtain ⟨j, g', cap', m, hj, rfl, hm, hm2, rfl, ho, hp, hg'⟩ := hrel
    have hg := h.lt
    by_cases hlt' : j < s.size
    · have hlt2 : (j : Int) < (s.size : Int) := by omega
      obtain ⟨x, hx, ix⟩ := str_get s j hlt'
      have ix1 := fun w => ix 9 w us
      have HT : Hid (esc (s.toList.take (j + 1)) = esc (s.toList.take j) ++ esc [x]) := by
        unfold Hid
        rw [List.take_add_one, hx, esc_append]
        rfl
      clear ix hx
      by_cases h0 : x = 0
      · subst h0
        have HL : Hid (l ++ esc (s.toList.take j) ++ [0] ++ [255] = l ++ esc (s.toList.take (j + 1))) := by
          unfold Hid
          rw [HT.out, List.append_assoc, List.append_assoc]
          rfl
        have HN : Hid (m + 2 = (esc (s.toList.take (j + 1))).length) := by
          unfold Hid
          rw [HT.out, List.length_append, ← hm.out]
          rfl
        go_wp2_with (first
          | (at_builtin; refine wpList_append_ob rfl _ _ 73 73 rfl 5 byteTy g' (n + m) cap' (l ++ esc (s.toList.take j)) rfl (ho.alloc _) _ rfl 1 [0] (src_one byteTy.ht _ _ _ rfl) (n + (m + 1)) (by omega) _ rfl (by omega) ?_; intro g2 cap2 w2 ho2 hp2 hg2)
          | (at_builtin; refine wpList_append_ob rfl _ _ 73 73 rfl 5 byteTy g2 (n + (m + 1)) cap2 _ rfl (ho2.alloc _) _ rfl 1 [255] (src_one byteTy.ht _ _ _ rfl) (n + (m + 2)) (by omega) (l ++ esc (s.toList.take (j + 1))) HL.out (by omega) ?_; intro g3 cap3 w3 ho3 hp3 hg3))
        go_roundw
        case rel =>
          have p2 := (hp.alloc _ hg).trans hp2 (by omega)
          have s1 := hp.size
          have s2 := p2.size
          simp at hg2 hg3
          exact ⟨j + 1, g3, cap3, m + 2, by omega, by go_num, HN, by omega, rfl, ho3, (p2.alloc _ hg).trans hp3 (by omega), by omega⟩
        case measure => simp [intOf]; omega
      · have h1 : ((x.toNat : Int) == 0) = false := by
          have := pos_of_ne h0
          simp
          intro e
          exact h0 (UInt8.toNat_inj.1 (by simpa using e))
        have h2 : ¬ (x.toNat : Int) = 0 := by simpa using h1
        have HE : esc [x] = [x] := by rw [esc, if_neg h0]; rfl
        have HL : Hid (l ++ esc (s.toList.take j) ++ [x] = l ++ esc (s.toList.take (j + 1))) := by
          unfold Hid
          rw [HT.out, HE, List.append_assoc]
        have HN : Hid (m + 1 = (esc (s.toList.take (j + 1))).length) := by
          unfold Hid
          rw [HT.out, List.length_append, ← hm.out, HE]
          rfl
        clear HE h0
        go_wp2_with (at_builtin; refine wpList_append_ob rfl _ _ 73 73 rfl 5 byteTy g' (n + m) cap' (l ++ esc (s.toList.take j)) rfl (ho.alloc _) _ rfl 1 [x] (src_one byteTy.ht _ _ _ rfl) (n + (m + 1)) (by omega) (l ++ esc (s.toList.take (j + 1))) HL.out (by omega) ?_; intro g2 cap2 w2 ho2 hp2 hg2)
        go_roundw
        case rel => exact ⟨j + 1, g2, cap2, m + 1, by omega, by go_num, HN, by omega, rfl, ho2, (hp.alloc _ hg).trans hp2 (by omega), by have := hp.size; simp at hg2; omega⟩
        case measure => simp [intOf]; omega
    · have hj1 : ¬ ((j : Int) < (s.size : Int)) := by omega
      obtain rfl : j = s.size := by omega
      have e : s.toList.take s.size = s.toList := List.take_of_length_le (by rw [HS.out]; omega)
      rw [e] at ho hm
      obtain rfl : M = m + 2 := by rw [← HM.out, List.length_append, ← hm.out]; rfl
      go_wp2_with (at_builtin; refine wpList_append_ob rfl _ _ 73 73 rfl 5 byteTy g' (n + m) cap' (l ++ esc s.toList) rfl (ho.alloc _) _ rfl 2 [0, 1] (src_lit byteTy.ht _ _ _ 2 rfl rfl) (n + (m + 2)) (by omega) (l ++ (esc s.toList ++ [0, 1])) (List.append_assoc _ _ _) (by omega) ?_; intro g2 cap2 w2 ho2 hp2 hg2)
      go_ret
      exact ⟨g2, cap2, rfl, ho2, (hp.alloc _ hg).trans hp2 (by omega), by have := hp.size; simp at hg2; omega⟩
/-- NEW BYTES, with no room behind, are answered. -/
def FreshI (w : World) (l : List UInt8) (en : Ending) (w' : World) : Prop :=
  ∃ g, en = .returned (.slice (some ⟨g, 0, none⟩) l.length l.length) ∧ IsB w' (some ⟨g, 0, none⟩) l.length l.length l ∧ Below w.heap.size w w' ∧ w.heap.size ≤ g
theorem elemB (w' : World) : (sizeOf (Try.prog.elem 73)).run Try.prog w' = .ok 1 w' := by kernel_rfl
theorem IsB_trim {w : World} {ao : Option Addr} {n cap : Nat} {l : List UInt8} (h : IsB w ao n cap l) (h0 : 0 < n) : IsB w ao n n l :=
  ⟨h.len, Nat.le_refl _, Nat.le_trans h.le h.max, fun e => by have := h.nil e; have := h.le; omega, h.cell⟩
set_option maxRecDepth 100000 in
set_option maxHeartbeats 1000000 in
theorem keyBytes_any (v : V) (hv : Vok v) (w : World) : Calls Try.prog 103 #[v.val] w (FreshI w (keyB v)) := by
  have b0 : ∀ o, Below w.heap.size w (w.alloc o) := fun o => (Below.refl _ _).alloc (Nat.le_refl _) o
  have ow : ∀ (w : World) (u : UInt8) (x : Value), x = bc u → OwnB (w.alloc (.cells #[x] 5)) 5 w.heap.size 1 1 [u] := fun w u x hx => by
    subst hx
    exact ⟨rfl, Nat.le_refl _, by simp [maxLen], _, heap_alloc_new w _, rfl, rfl⟩
  have b1 : ∀ o o', Below w.heap.size w ((w.alloc o).alloc o') := fun o o' => (b0 o).alloc (b0 o).size o'
  cases hv with
  | none =>
    show Calls Try.prog 103 #[vv 0 0 ByteArray.empty] w _
    go_enter Try.func103, Try.ntmps103
    go_wp2_with fail
    go_ret
    have o := ow (w.alloc (.cells #[.int .i64 0, .int .i64 0, .string ByteArray.empty] 46)) 0 (.int .u8 0) rfl
    rw [World.size_alloc] at o
    exact ⟨w.heap.size + 1, rfl, o.isB, b1 _ _, by omega⟩
  | bool n hn =>
    rcases hn with rfl | rfl
    all_goals
      show Calls Try.prog 103 #[vv 1 _ ByteArray.empty] w _
      have b3 : ∀ o o' o'', Below w.heap.size w (((w.alloc o).alloc o').alloc o'') := fun o o' o'' => (b1 o o').alloc (b1 o o').size o''
      have o := fun y => ow (w.alloc (.cells #[.int .i64 1, .int .i64 y, .string ByteArray.empty] 46)) 1 (.int .u8 1) rfl
      have sr := fun y u (hu : Value.int .u8 y = bc u) => src_one (P := Try.prog) byteTy.ht ((w.alloc (.cells #[.int .i64 1, .int .i64 y, .string ByteArray.empty] 46)).alloc (.cells #[.int .u8 1] 5)) (.int .u8 y) u hu
      simp only [World.size_alloc] at o sr
      go_enter Try.func103, Try.ntmps103
      go_wp2_with (first
        | (at_builtin; (refine wpList_append_ob rfl _ _ 73 73 rfl 5 byteTy (w.heap.size + 1) 1 1 [1] rfl ((o 0).alloc _) _ rfl 1 [0] (sr 0 0 rfl) 2 (by omega) [1, 0] rfl (by omega) ?_); intro g2 c2 w2 o2 p2 q2; have h2 := o2.le)
        | (at_builtin; (refine wpList_append_ob rfl _ _ 73 73 rfl 5 byteTy (w.heap.size + 1) 1 1 [1] rfl ((o 1).alloc _) _ rfl 1 [1] (sr 1 1 rfl) 2 (by omega) [1, 1] rfl (by omega) ?_); intro g2 c2 w2 o2 p2 q2; have h2 := o2.le))
      go_ret
      exact ⟨g2, rfl, IsB_trim o2.isB (show 0 < 2 by omega), (b3 _ _ _).trans (p2.below (by omega) (b3 _ _ _).size), by simp at q2; omega⟩
  | int n hn =>
    show Calls Try.prog 103 #[vv 2 n ByteArray.empty] w _
    have o := ow (w.alloc (.cells #[.int .i64 2, .int .i64 n, .string ByteArray.empty] 46)) 2 (.int .u8 2) rfl
    have t0 := (VAt.new w 2 n ByteArray.empty).alloc (.cells #[.int .u8 2] 5)
    have B1 := b1 (.cells #[.int .i64 2, .int .i64 n, .string ByteArray.empty] 46) (.cells #[.int .u8 2] 5)
    rw [World.size_alloc] at o
    have HA := fun w' h' => appendInt_any (w.heap.size + 1) 1 1 [2] n hn w' h' (by omega)
    have E : keyB ⟨2, n, ByteArray.empty⟩ = [2] ++ be 8 (n + 9223372036854775808).toNat := rfl
    have EL : (keyB ⟨2, n, ByteArray.empty⟩).length = 9 := by rw [E, List.length_append, be_length]; rfl
    rw [← E] at HA
    unfold FreshI
    rw [EL]
    generalize keyB ⟨2, n, ByteArray.empty⟩ = KB at HA
    clear E EL
    go_enter Try.func103, Try.ntmps103
    go_wp2_with (go_at_call 140; (with_reducible refine (HA _ o).mono ?_); rintro e w2 ⟨g2, c2, rfl, o2, p2, q2⟩; have h2 := o2.le)
    go_ret
    exact ⟨g2, rfl, IsB_trim o2.isB (by omega), B1.trans (p2.below (by omega) B1.size), by have := B1.size; omega⟩
  | text s hs =>
    show Calls Try.prog 103 #[vv 3 0 s] w _
    have o := ow (w.alloc (.cells #[.int .i64 3, .int .i64 0, .string s] 46)) 3 (.int .u8 3) rfl
    have t0 := (VAt.new w 3 0 s).alloc (.cells #[.int .u8 3] 5)
    have B1 := b1 (.cells #[.int .i64 3, .int .i64 0, .string s] 46) (.cells #[.int .u8 3] 5)
    rw [World.size_alloc] at o
    have HA := fun w' h' => appendText_any (w.heap.size + 1) 1 1 [3] s hs w' h' (by omega)
    have E : keyB ⟨3, 0, s⟩ = [3] ++ (esc s.toList ++ [0, 1]) := rfl
    have EL : (keyB ⟨3, 0, s⟩).length = 1 + (esc s.toList ++ [0, 1]).length := by rw [E, List.length_append]; rfl
    rw [← E] at HA
    unfold FreshI
    rw [EL]
    generalize keyB ⟨3, 0, s⟩ = KB at HA
    generalize (esc s.toList ++ [0, 1]).length = M at HA
    clear E EL
    go_enter Try.func103, Try.ntmps103
    go_wp2_with (go_at_call 141; (with_reducible refine (HA _ o).mono ?_); rintro e w2 ⟨g2, c2, rfl, o2, p2, q2⟩; have h2 := o2.le)
    go_ret
    exact ⟨g2, rfl, IsB_trim o2.isB (by omega), B1.trans (p2.below (by omega) B1.size), by have := B1.size; omega⟩
end Go.Proofs.Ytjacaammlkjodaa
namespace Go.Proofs.Ytjacaammlkjodaa
open Go.RowKit
set_option linter.unusedSimpArgs false
/-- append to bytes that have no room: new ones. -/
theorem run_append_full {P : Program} (w : World) (t tx ty e : TypeId) (hB : ByteTy P t e) (ga : Addr) (n : Nat) (l : List UInt8) (h : IsB w (some ga) n n l)
    (x : Value) (m : Nat) (cs : List UInt8) (hs : Src P 1 tx x m (bcs cs) w) (h0 : 0 < m) (hmax : n + m ≤ 70368744177664) :
    ∃ g' cap' w', (Builtin.append_ #[t, tx] ty #[.slice (some ga) n n, x]).run P w = .ok (.slice (some ⟨g', 0, none⟩) (n + m) cap') w' ∧
      IsB w' (some ⟨g', 0, none⟩) (n + m) cap' (l ++ cs) ∧ Below w.heap.size w w' := by
  obtain ⟨i, hi, hz, hsize, hby⟩ := hB.info
  have ht := hB.ht
  have hs' : Src P i.size tx x m (bcs cs) w := by rw [hsize]; exact hs
  have hcl : cs.length = m := by have := hs.newsLen; rw [bcs_length, Nat.mul_one] at this; exact this
  have hln := h.len
  have hll : (l ++ cs).length = n + m := by rw [List.length_append, hln, hcl]
  have hdw : Below w.heap.size w w.drew := (Below.refl _ _).drew
  have hold : (Builtin.firstCells i.size n (.slice (some ga) n n)).run P w.drew = .ok (bcs l).toArray w.drew :=
    run_firstCells_some w.drew i.size n ga n n (bcs l) (by rw [bcs_length, hln, hsize, Nat.mul_one]) (fun j u hu => by
      rw [bcs_get] at hu
      obtain ⟨y, hy, rfl⟩ := Option.map_eq_some_iff.1 hu
      exact (h.past hdw).cell ga rfl j y hy)
  have hr := run_append_grow_src (P := P) w t tx ty e i (.int .u8 0) ht hi hz (some ga) n n (bcs l) hold x m (bcs cs) hs' (by omega) (by omega)
    (growslice_fits (by omega) (by rw [hby]; omega))
  have hge := grownCap_ge w (n + m) n e
  have hcm : grownCap w (n + m) n e ≤ maxLen := grownCap_le_maxLen w (n + m) n e (by simp only [maxLen]; omega)
  refine ⟨w.heap.size, grownCap w (n + m) n e, _, hr, OwnB.isB (e := e) ⟨hll, hge, hcm, _, heap_alloc_new w.drew _, ?_, ?_⟩, (Below.refl _ _).drew.alloc (Nat.le_refl _) _⟩
  · simp only [Array.size_append, List.size_toArray, size_zeroCells, List.length_append, bcs_length, Value.cells]
    simp
    omega
  · rw [← bcs_append]
    simp only [Array.toList_append]
    rw [← hll, ← bcs_length (l ++ cs)]
    exact List.take_left
theorem wp_append_full {P : Program} {w : World} {o : Oper} {a : Act} {K : Act → World → Prop} {Q : Exit → Act → World → Prop} (s x : Operand) (t tx : TypeId)
    (ho : o.op = .call { callee := .builtin .append, args := #[s, x], argTypes := #[t, tx] }) (e : TypeId) (hB : ByteTy P t e) (ga : Addr) (n : Nat) (l : List UInt8) (hsv : a.eval s = .slice (some ga) n n) (h : IsB w (some ga) n n l)
    (X : Value) (hx : a.eval x = X) (m : Nat) (cs : List UInt8) (hs : Src P 1 tx X m (bcs cs) w) (h0 : 0 < m) (hmax : n + m ≤ 70368744177664)
    (hK : ∀ g' cap' w', IsB w' (some ⟨g', 0, none⟩) (n + m) cap' (l ++ cs) → Below w.heap.size w w' → K (a.put o.dst (.slice (some ⟨g', 0, none⟩) (n + m) cap')) w') : o.wp P a w K Q := by
  obtain ⟨g', cap', w', hr, h1, h2⟩ := run_append_full (P := P) w t tx o.type e hB ga n l h X m cs hs h0 hmax
  unfold Oper.wp execOp
  simp only [ho, resolve, invoke, builtin, Sem.run_bind, Sem.run_pure, Result.andThen_ok, List.map_toArray, List.map_cons, List.map_nil, hsv, hx, hr]
  exact hK _ _ _ h1 h2
theorem szEn : (Try.prog.info? 112).map (·.size) = some 4 := by kernel_rfl
theorem en_cells {w : World} {r : Nat} {a b c d : Value} {t : TypeId} (h : Bk w r #[a, b, c, d] t) : w.cell? ⟨r, 0, none⟩ = some a ∧ w.cell? ⟨r, 1, none⟩ = some b ∧ w.cell? ⟨r, 2, none⟩ = some c ∧ w.cell? ⟨r, 3, none⟩ = some d := ⟨h.c rfl, h.c rfl, h.c rfl, h.c rfl⟩
/-- What stands while the region's operations come up. -/
inductive EntryOf1 (B : Nat) (p : Nat) (q : Nat) (r : Nat) (k1 : Int) (m1 : Int) (s1 : ByteArray) (k : Int) (m : Int) (s : ByteArray) (LA : List UInt8) (LB : List UInt8) (a0 : Act) (w0 : World) (L : Array Bool) (a : Act) (w : World) : Prop
  | mk (b0 b1 b2 b3 b4 b5 b6 b7 b8 : Bool) (x5 x6 x7 x8 x9 x10 x11 x12 : Value) (g1 : Nat) (g2 : Nat) (g3 : Nat) (c3 : Nat) (hL : L = #[b0, b1, b2, b3, b4, b5, b6, b7, b8]) (ha : a = ⟨((((((((a0.tmps.setIfInBounds 5 x5).setIfInBounds 6 x6).setIfInBounds 7 x7).setIfInBounds 8 x8).setIfInBounds 9 x9).setIfInBounds 10 x10).setIfInBounds 11 x11).setIfInBounds 12 x12), a0.defers⟩) (hb : Below B w0 w) (cd0 : Hid (b0 = true → x5 = .agg #[.int .i64 k1, .int .i64 m1, .string s1])) (cd1 : Hid (b1 = true → x6 = .slice (some ⟨g1, 0, none⟩) LA.length LA.length)) (cd2 : Hid (b2 = true → x7 = .agg #[.int .i64 k, .int .i64 m, .string s])) (cd3 : Hid (b3 = true → x8 = .slice (some ⟨g2, 0, none⟩) LB.length LB.length)) (cd4 : Hid (b4 = true → x9 = .slice (some ⟨g3, 0, none⟩) (LA.length + LB.length) c3)) (cd5 : Hid (b5 = true → x10 = .string (bsOf (LA ++ LB)))) (cd6 : Hid (b6 = true → x11 = .agg #[.int .i64 k, .int .i64 m, .string s])) (cd7 : Hid (b7 = true → x12 = .agg #[.string (bsOf (LA ++ LB)), .int .i64 k, .int .i64 m, .string s])) (f_p : Hid (VAt w p k1 m1 s1)) (f_q : Hid (VAt w q k m s)) (f_a : Hid (b1 = true → b4 = false → IsB w (some ⟨g1, 0, none⟩) LA.length LA.length LA)) (f_b : Hid (b3 = true → b4 = false → IsB w (some ⟨g2, 0, none⟩) LB.length LB.length LB)) (f_c : Hid (b4 = true → b5 = false → IsB w (some ⟨g3, 0, none⟩) (LA.length + LB.length) c3 (LA ++ LB))) (f_r : Hid (b8 = false → Bk w r #[.string ⟨#[]⟩, .int .i64 0, .int .i64 0, .string ⟨#[]⟩] 112)) (f_rs : Hid (b8 = true → Bk w r #[.string (bsOf (LA ++ LB)), .int .i64 k, .int .i64 m, .string s] 112)) : EntryOf1 B p q r k1 m1 s1 k m s LA LB a0 w0 L a w
set_option maxRecDepth 100000 in
set_option maxHeartbeats 2000000 in
theorem entryOf_any (w : World) (v kv : V) (hv : Vok v) (hk : Vok kv) :
    Calls Try.prog 97 #[vv v.k v.n v.s, vv kv.k kv.n kv.s] w fun e w' => e = .returned (.agg #[.string (bsOf (keyB v ++ keyB kv)), .int .i64 kv.k, .int .i64 kv.n, .string kv.s]) ∧ Below w.heap.size w w' := by
  have HKa0 := fun w => keyBytes_any v hv w
  have HKb0 := fun w => keyBytes_any kv hk w
  have hla := key_len v hv
  have hlb := key_len kv hk
  obtain ⟨LA, hLA⟩ : ∃ L, keyB v = L := ⟨_, rfl⟩
  obtain ⟨LB, hLB⟩ : ∃ L, keyB kv = L := ⟨_, rfl⟩
  simp only [hLA, hLB] at HKa0 HKb0 hla hlb ⊢
  clear hLA hLB hv hk
  obtain ⟨k1, m1, s1⟩ := v
  obtain ⟨k, m, s⟩ := kv
  have HKa : ∀ w, Calls Try.prog 103 #[vv k1 m1 s1] w fun e w' => ∃ g, e = .returned (.slice (some ⟨g, 0, none⟩) LA.length LA.length) ∧ IsB w' (some ⟨g, 0, none⟩) LA.length LA.length LA ∧ Below w.heap.size w w' ∧ w.heap.size ≤ g := HKa0
  have HKb : ∀ w, Calls Try.prog 103 #[vv k m s] w fun e w' => ∃ g, e = .returned (.slice (some ⟨g, 0, none⟩) LB.length LB.length) ∧ IsB w' (some ⟨g, 0, none⟩) LB.length LB.length LB ∧ Below w.heap.size w w' ∧ w.heap.size ≤ g := HKb0
  clear HKa0 HKb0
  have hB1 : 0 < LB.length := by omega
  have hB2 : LA.length + LB.length ≤ 70368744177664 := by omega
  clear hla hlb
  have B0' : Below w.heap.size w (((w.alloc (.cells #[.int .i64 k1, .int .i64 m1, .string s1] 46)).alloc (.cells #[.int .i64 k, .int .i64 m, .string s] 46)).alloc (.cells #[.string ⟨#[]⟩, .int .i64 0, .int .i64 0, .string ⟨#[]⟩] 112)) := (((Below.refl _ _).alloc (Nat.le_refl _) _).alloc (by simp) _).alloc (by simp; omega) _
  have hP : VAt (((w.alloc (.cells #[.int .i64 k1, .int .i64 m1, .string s1] 46)).alloc (.cells #[.int .i64 k, .int .i64 m, .string s] 46)).alloc (.cells #[.string ⟨#[]⟩, .int .i64 0, .int .i64 0, .string ⟨#[]⟩] 112)) w.heap.size k1 m1 s1 := ((VAt.new w k1 m1 s1).alloc _).alloc _
  have hQ : VAt (((w.alloc (.cells #[.int .i64 k1, .int .i64 m1, .string s1] 46)).alloc (.cells #[.int .i64 k, .int .i64 m, .string s] 46)).alloc (.cells #[.string ⟨#[]⟩, .int .i64 0, .int .i64 0, .string ⟨#[]⟩] 112)) (w.heap.size + 1) k m s := by
    have := (VAt.new (w.alloc (.cells #[.int .i64 k1, .int .i64 m1, .string s1] 46)) k m s).alloc (.cells #[.string ⟨#[]⟩, .int .i64 0, .int .i64 0, .string ⟨#[]⟩] 112)
    rwa [World.size_alloc] at this
  have hR : Bk (((w.alloc (.cells #[.int .i64 k1, .int .i64 m1, .string s1] 46)).alloc (.cells #[.int .i64 k, .int .i64 m, .string s] 46)).alloc (.cells #[.string ⟨#[]⟩, .int .i64 0, .int .i64 0, .string ⟨#[]⟩] 112)) (w.heap.size + 1 + 1) #[.string ⟨#[]⟩, .int .i64 0, .int .i64 0, .string ⟨#[]⟩] 112 := by
    have := Bk.new ((w.alloc (.cells #[.int .i64 k1, .int .i64 m1, .string s1] 46)).alloc (.cells #[.int .i64 k, .int .i64 m, .string s] 46)) #[.string ⟨#[]⟩, .int .i64 0, .int .i64 0, .string ⟨#[]⟩] 112
    rwa [World.size_alloc, World.size_alloc] at this
  simp only
  go_enter Try.func97, Try.ntmps97
  go_upto_region 1 with fail
  generalize ((w.alloc (.cells #[.int .i64 k1, .int .i64 m1, .string s1] 46)).alloc (.cells #[.int .i64 k, .int .i64 m, .string s] 46)).alloc (.cells #[.string ⟨#[]⟩, .int .i64 0, .int .i64 0, .string ⟨#[]⟩] 112) = W at B0' hP hQ hR ⊢
  obtain ⟨gp, hgp⟩ : ∃ p, w.heap.size = p := ⟨_, rfl⟩
  have HG := Lib.hid hgp
  have B0 : Below gp w W := by rw [← hgp]; exact B0'
  simp only [hgp] at hP hQ hR ⊢
  obtain ⟨q, hq⟩ : ∃ q, gp + 1 = q := ⟨_, rfl⟩
  obtain ⟨r, hr⟩ : ∃ r, gp + 1 + 1 = r := ⟨_, rfl⟩
  have hBr : gp ≤ r := by omega
  obtain ⟨p, hp⟩ : ∃ p, gp = p := ⟨_, rfl⟩
  simp only [hr] at hR ⊢
  simp only [hq] at hQ ⊢
  rw [hp] at hP
  simp only [hp]
  have hB0 : gp ≤ W.heap.size := by rw [hp]; exact Nat.le_of_lt hP.lt
  have hpr : some p ≠ some r := fun e => by have := Option.some.inj e; omega
  have hqr : some q ≠ some r := fun e => by have := Option.some.inj e; omega
  rw [hp] at hB0 hBr B0 HG
  clear hgp hq hr hp B0'
  refine region_inv (EntryOf1 p p q r k1 m1 s1 k m s LA LB) (by kernel_rfl) (by kernel_rfl) ?_ ?_ ?_
  · exact ⟨false, false, false, false, false, false, false, false, false, undef, undef, undef, undef, undef, undef, undef, undef, 0, 0, 0, 0, rfl, (by simp only [Act.put, List.setIfInBounds_toArray, List.set_cons_zero, List.set_cons_succ]), Below.refl _ _, (fun h => by cases h), (fun h => by cases h), (fun h => by cases h), (fun h => by cases h), (fun h => by cases h), (fun h => by cases h), (fun h => by cases h), (fun h => by cases h), (hP.drew), (hQ.drew), (fun h => by cases h), (fun h => by cases h), (fun h => by cases h), (fun h1 => hR.past (Below.refl _ _).drew), (fun h => by cases h)⟩
  · refine ⟨?_, ?_, ?_, ?_, ?_, ?_, ?_, ?_, ?_, trivial⟩
    · rintro L a w ⟨b0, b1, b2, b3, b4, b5, b6, b7, b8, x5, x6, x7, x8, x9, x10, x11, x12, g1, g2, g3, c3, rfl, rfl, hb, cd0, cd1, cd2, cd3, cd4, cd5, cd6, cd7, f_p, f_q, f_a, f_b, f_c, f_r, f_rs⟩ hf hd
      have hf' : b0 = false := hf
      subst hf'
      clear hf hd
      have W_p := f_p.out
      have W_q := f_q.out
      try simp only [List.setIfInBounds_toArray, List.set_cons_zero, List.set_cons_succ]
      obtain ⟨z0, z1, z2, -, -, -, -⟩ := W_p
      intro K hK
      rw [if_pos (by rfl)]
      go_simp
      exact hK.out _ _ ⟨true, b1, b2, b3, b4, b5, b6, b7, b8, (.agg #[.int .i64 k1, .int .i64 m1, .string s1]), x6, x7, x8, x9, x10, x11, x12, g1, g2, g3, c3, (by simp only [Act.put, List.setIfInBounds_toArray, List.set_cons_zero, List.set_cons_succ]), (by simp only [Act.put, List.setIfInBounds_toArray, List.set_cons_zero, List.set_cons_succ]), hb, (fun _ => rfl), cd1, cd2, cd3, cd4, cd5, cd6, cd7, f_p, f_q, f_a, f_b, f_c, f_r, f_rs⟩
    · rintro L a w ⟨b0, b1, b2, b3, b4, b5, b6, b7, b8, x5, x6, x7, x8, x9, x10, x11, x12, g1, g2, g3, c3, rfl, rfl, hb, cd0, cd1, cd2, cd3, cd4, cd5, cd6, cd7, f_p, f_q, f_a, f_b, f_c, f_r, f_rs⟩ hf hd
      have hf' : b1 = false := hf
      subst hf'
      have d0 : b0 = true := hd ⟨0, .data⟩ (by simp) rfl
      subst d0
      obtain rfl := cd0.out rfl
      clear hf hd
      have W_p := f_p.out
      have W_q := f_q.out
      try simp only [List.setIfInBounds_toArray, List.set_cons_zero, List.set_cons_succ]
      intro K hK
      rw [if_pos (by rfl)]
      go_simp
      go_at_call 103
      refine (HKa _).mono ?_
      rintro e w' ⟨g, rfl, i1, bx, _⟩
      exact hK.out _ _ ⟨true, true, b2, b3, b4, b5, b6, b7, b8, .agg #[.int .i64 k1, .int .i64 m1, .string s1], (.slice (some ⟨g, 0, none⟩) LA.length LA.length), x7, x8, x9, x10, x11, x12, g, g2, g3, c3, (by simp only [Act.put, List.setIfInBounds_toArray, List.set_cons_zero, List.set_cons_succ]), (by simp only [Act.put, List.setIfInBounds_toArray, List.set_cons_zero, List.set_cons_succ]), hb.trans (bx.mono (Nat.le_trans hB0 hb.size)), (fun _ => rfl), (fun _ => rfl), cd2, cd3, cd4, cd5, cd6, cd7, (f_p.out.past bx), (f_q.out.past bx), (fun _ _ => i1), (fun h0 h1 => (f_b.out h0 h1).past bx), (fun h0 h1 => (f_c.out h0 h1).past bx), (fun h1 => (f_r.out h1).past bx), (fun h0 => (f_rs.out h0).past bx)⟩
    · rintro L a w ⟨b0, b1, b2, b3, b4, b5, b6, b7, b8, x5, x6, x7, x8, x9, x10, x11, x12, g1, g2, g3, c3, rfl, rfl, hb, cd0, cd1, cd2, cd3, cd4, cd5, cd6, cd7, f_p, f_q, f_a, f_b, f_c, f_r, f_rs⟩ hf hd
      have hf' : b2 = false := hf
      subst hf'
      clear hf hd
      have W_p := f_p.out
      have W_q := f_q.out
      try simp only [List.setIfInBounds_toArray, List.set_cons_zero, List.set_cons_succ]
      obtain ⟨z0, z1, z2, -, -, -, -⟩ := W_q
      intro K hK
      rw [if_pos (by rfl)]
      go_simp
      exact hK.out _ _ ⟨b0, b1, true, b3, b4, b5, b6, b7, b8, x5, x6, (.agg #[.int .i64 k, .int .i64 m, .string s]), x8, x9, x10, x11, x12, g1, g2, g3, c3, (by simp only [Act.put, List.setIfInBounds_toArray, List.set_cons_zero, List.set_cons_succ]), (by simp only [Act.put, List.setIfInBounds_toArray, List.set_cons_zero, List.set_cons_succ]), hb, cd0, cd1, (fun _ => rfl), cd3, cd4, cd5, cd6, cd7, f_p, f_q, f_a, f_b, f_c, f_r, f_rs⟩
    · rintro L a w ⟨b0, b1, b2, b3, b4, b5, b6, b7, b8, x5, x6, x7, x8, x9, x10, x11, x12, g1, g2, g3, c3, rfl, rfl, hb, cd0, cd1, cd2, cd3, cd4, cd5, cd6, cd7, f_p, f_q, f_a, f_b, f_c, f_r, f_rs⟩ hf hd
      have hf' : b3 = false := hf
      subst hf'
      have d2 : b2 = true := hd ⟨2, .data⟩ (by simp) rfl
      subst d2
      have d1 : b1 = true := hd ⟨1, .chain⟩ (by simp) rfl
      subst d1
      obtain rfl := cd2.out rfl
      obtain rfl := cd1.out rfl
      clear hf hd
      have W_p := f_p.out
      have W_q := f_q.out
      try simp only [List.setIfInBounds_toArray, List.set_cons_zero, List.set_cons_succ]
      intro K hK
      rw [if_pos (by rfl)]
      go_simp
      go_at_call 103
      refine (HKb _).mono ?_
      rintro e w' ⟨g, rfl, i1, bx, _⟩
      exact hK.out _ _ ⟨b0, true, true, true, b4, b5, b6, b7, b8, x5, .slice (some ⟨g1, 0, none⟩) LA.length LA.length, .agg #[.int .i64 k, .int .i64 m, .string s], (.slice (some ⟨g, 0, none⟩) LB.length LB.length), x9, x10, x11, x12, g1, g, g3, c3, (by simp only [Act.put, List.setIfInBounds_toArray, List.set_cons_zero, List.set_cons_succ]), (by simp only [Act.put, List.setIfInBounds_toArray, List.set_cons_zero, List.set_cons_succ]), hb.trans (bx.mono (Nat.le_trans hB0 hb.size)), cd0, (fun _ => rfl), (fun _ => rfl), (fun _ => rfl), cd4, cd5, cd6, cd7, (f_p.out.past bx), (f_q.out.past bx), (fun h0 h1 => (f_a.out h0 h1).past bx), (fun _ _ => i1), (fun h0 h1 => (f_c.out h0 h1).past bx), (fun h1 => (f_r.out h1).past bx), (fun h0 => (f_rs.out h0).past bx)⟩
    · rintro L a w ⟨b0, b1, b2, b3, b4, b5, b6, b7, b8, x5, x6, x7, x8, x9, x10, x11, x12, g1, g2, g3, c3, rfl, rfl, hb, cd0, cd1, cd2, cd3, cd4, cd5, cd6, cd7, f_p, f_q, f_a, f_b, f_c, f_r, f_rs⟩ hf hd
      have hf' : b4 = false := hf
      subst hf'
      have d1 : b1 = true := hd ⟨1, .data⟩ (by simp) rfl
      subst d1
      have d3 : b3 = true := hd ⟨3, .data⟩ (by simp) rfl
      subst d3
      obtain rfl := cd1.out rfl
      obtain rfl := cd3.out rfl
      clear hf hd
      have W_p := f_p.out
      have W_q := f_q.out
      have W_a := f_a.out rfl rfl
      have W_b := f_b.out rfl rfl
      try simp only [List.setIfInBounds_toArray, List.set_cons_zero, List.set_cons_succ]
      intro K hK
      rw [if_pos (by rfl)]
      refine wp_append_full (.tmp 6) (.tmp 8) 73 73 rfl 5 byteTy ⟨g1, 0, none⟩ LA.length LA rfl W_a _ rfl LB.length LB (W_b.src byteTy.ht) hB1 hB2 fun g c w2 i1 bx => ?_
      exact hK.out _ _ ⟨b0, true, b2, true, true, b5, b6, b7, b8, x5, .slice (some ⟨g1, 0, none⟩) LA.length LA.length, x7, .slice (some ⟨g2, 0, none⟩) LB.length LB.length, (.slice (some ⟨g, 0, none⟩) (LA.length + LB.length) c), x10, x11, x12, g1, g2, g, c, (by simp only [Act.put, List.setIfInBounds_toArray, List.set_cons_zero, List.set_cons_succ]), (by simp only [Act.put, List.setIfInBounds_toArray, List.set_cons_zero, List.set_cons_succ]), hb.trans (bx.mono (Nat.le_trans hB0 hb.size)), cd0, (fun _ => rfl), cd2, (fun _ => rfl), (fun _ => rfl), cd5, cd6, cd7, (f_p.out.past bx), (f_q.out.past bx), (fun _ h => by cases h), (fun _ h => by cases h), (fun _ _ => i1), (fun h1 => (f_r.out h1).past bx), (fun h0 => (f_rs.out h0).past bx)⟩
    · rintro L a w ⟨b0, b1, b2, b3, b4, b5, b6, b7, b8, x5, x6, x7, x8, x9, x10, x11, x12, g1, g2, g3, c3, rfl, rfl, hb, cd0, cd1, cd2, cd3, cd4, cd5, cd6, cd7, f_p, f_q, f_a, f_b, f_c, f_r, f_rs⟩ hf hd
      have hf' : b5 = false := hf
      subst hf'
      have d4 : b4 = true := hd ⟨4, .data⟩ (by simp) rfl
      subst d4
      obtain rfl := cd4.out rfl
      clear hf hd
      have W_p := f_p.out
      have W_q := f_q.out
      have W_c := f_c.out rfl rfl
      try simp only [List.setIfInBounds_toArray, List.set_cons_zero, List.set_cons_succ]
      have cv : (convert 73 9 (.slice (some ⟨g3, 0, none⟩) (LA.length + LB.length) c3)).run Try.prog w = .ok (.string (bsOf (LA ++ LB))) w := W_c.conv byteTy Try.underlying9
      intro K hK
      rw [if_pos (by rfl)]
      go_simp
      exact hK.out _ _ ⟨b0, b1, b2, b3, true, true, b6, b7, b8, x5, x6, x7, x8, .slice (some ⟨g3, 0, none⟩) (LA.length + LB.length) c3, (.string (bsOf (LA ++ LB))), x11, x12, g1, g2, g3, c3, (by simp only [Act.put, List.setIfInBounds_toArray, List.set_cons_zero, List.set_cons_succ]), (by simp only [Act.put, List.setIfInBounds_toArray, List.set_cons_zero, List.set_cons_succ]), hb, cd0, cd1, cd2, cd3, (fun _ => rfl), (fun _ => rfl), cd6, cd7, f_p, f_q, (fun _ h => by cases h), (fun _ h => by cases h), (fun _ h => by cases h), f_r, f_rs⟩
    · rintro L a w ⟨b0, b1, b2, b3, b4, b5, b6, b7, b8, x5, x6, x7, x8, x9, x10, x11, x12, g1, g2, g3, c3, rfl, rfl, hb, cd0, cd1, cd2, cd3, cd4, cd5, cd6, cd7, f_p, f_q, f_a, f_b, f_c, f_r, f_rs⟩ hf hd
      have hf' : b6 = false := hf
      subst hf'
      clear hf hd
      have W_p := f_p.out
      have W_q := f_q.out
      try simp only [List.setIfInBounds_toArray, List.set_cons_zero, List.set_cons_succ]
      obtain ⟨z0, z1, z2, -, -, -, -⟩ := W_q
      intro K hK
      rw [if_pos (by rfl)]
      go_simp
      exact hK.out _ _ ⟨b0, b1, b2, b3, b4, b5, true, b7, b8, x5, x6, x7, x8, x9, x10, (.agg #[.int .i64 k, .int .i64 m, .string s]), x12, g1, g2, g3, c3, (by simp only [Act.put, List.setIfInBounds_toArray, List.set_cons_zero, List.set_cons_succ]), (by simp only [Act.put, List.setIfInBounds_toArray, List.set_cons_zero, List.set_cons_succ]), hb, cd0, cd1, cd2, cd3, cd4, cd5, (fun _ => rfl), cd7, f_p, f_q, f_a, f_b, f_c, f_r, f_rs⟩
    · rintro L a w ⟨b0, b1, b2, b3, b4, b5, b6, b7, b8, x5, x6, x7, x8, x9, x10, x11, x12, g1, g2, g3, c3, rfl, rfl, hb, cd0, cd1, cd2, cd3, cd4, cd5, cd6, cd7, f_p, f_q, f_a, f_b, f_c, f_r, f_rs⟩ hf hd
      have hf' : b7 = false := hf
      subst hf'
      have d5 : b5 = true := hd ⟨5, .data⟩ (by simp) rfl
      subst d5
      have d6 : b6 = true := hd ⟨6, .data⟩ (by simp) rfl
      subst d6
      obtain rfl := cd5.out rfl
      obtain rfl := cd6.out rfl
      clear hf hd
      have W_p := f_p.out
      have W_q := f_q.out
      try simp only [List.setIfInBounds_toArray, List.set_cons_zero, List.set_cons_succ]
      intro K hK
      rw [if_pos (by rfl)]
      go_simp
      exact hK.out _ _ ⟨b0, b1, b2, b3, b4, true, true, true, b8, x5, x6, x7, x8, x9, .string (bsOf (LA ++ LB)), .agg #[.int .i64 k, .int .i64 m, .string s], (.agg #[.string (bsOf (LA ++ LB)), .int .i64 k, .int .i64 m, .string s]), g1, g2, g3, c3, (by simp only [Act.put, List.setIfInBounds_toArray, List.set_cons_zero, List.set_cons_succ]), (by simp only [Act.put, List.setIfInBounds_toArray, List.set_cons_zero, List.set_cons_succ]), hb, cd0, cd1, cd2, cd3, cd4, (fun _ => rfl), (fun _ => rfl), (fun _ => rfl), f_p, f_q, f_a, f_b, (fun _ h => by cases h), f_r, f_rs⟩
    · rintro L a w ⟨b0, b1, b2, b3, b4, b5, b6, b7, b8, x5, x6, x7, x8, x9, x10, x11, x12, g1, g2, g3, c3, rfl, rfl, hb, cd0, cd1, cd2, cd3, cd4, cd5, cd6, cd7, f_p, f_q, f_a, f_b, f_c, f_r, f_rs⟩ hf hd
      have hf' : b8 = false := hf
      subst hf'
      have d7 : b7 = true := hd ⟨7, .data⟩ (by simp) rfl
      subst d7
      have d4 : b4 = true := hd ⟨4, .chain⟩ (by simp) rfl
      subst d4
      have d0 : b0 = true := hd ⟨0, .phase⟩ (by simp) rfl
      subst d0
      have d1 : b1 = true := hd ⟨1, .phase⟩ (by simp) rfl
      subst d1
      have d2 : b2 = true := hd ⟨2, .phase⟩ (by simp) rfl
      subst d2
      have d3 : b3 = true := hd ⟨3, .phase⟩ (by simp) rfl
      subst d3
      have d5 : b5 = true := hd ⟨5, .phase⟩ (by simp) rfl
      subst d5
      have d6 : b6 = true := hd ⟨6, .phase⟩ (by simp) rfl
      subst d6
      obtain rfl := cd7.out rfl
      obtain rfl := cd4.out rfl
      obtain rfl := cd0.out rfl
      obtain rfl := cd1.out rfl
      obtain rfl := cd2.out rfl
      obtain rfl := cd3.out rfl
      obtain rfl := cd5.out rfl
      obtain rfl := cd6.out rfl
      clear hf hd
      have W_p := f_p.out
      have W_q := f_q.out
      have W_r := f_r.out rfl
      try simp only [List.setIfInBounds_toArray, List.set_cons_zero, List.set_cons_succ]
      intro K hK
      rw [if_pos (by rfl)]
      refine wp_store_blkT 112 _ _ rfl r _ #[.string (bsOf (LA ++ LB)), .int .i64 k, .int .i64 m, .string s] rfl rfl _ (Lib.hid W_r) 4 szEn rfl rfl (by simp [Value.oneCell']) fun w2 h8 b8 => ?_
      have hb2 := hb.grown b8 (Nat.le_trans hB0 hb.size) (fun z hz => by cases hz; exact hBr)
      exact hK.out _ _ ⟨true, true, true, true, true, true, true, true, true, .agg #[.int .i64 k1, .int .i64 m1, .string s1], .slice (some ⟨g1, 0, none⟩) LA.length LA.length, .agg #[.int .i64 k, .int .i64 m, .string s], .slice (some ⟨g2, 0, none⟩) LB.length LB.length, .slice (some ⟨g3, 0, none⟩) (LA.length + LB.length) c3, .string (bsOf (LA ++ LB)), .agg #[.int .i64 k, .int .i64 m, .string s], .agg #[.string (bsOf (LA ++ LB)), .int .i64 k, .int .i64 m, .string s], g1, g2, g3, c3, (by simp only [Act.put, List.setIfInBounds_toArray, List.set_cons_zero, List.set_cons_succ]), (by simp only [Act.put, List.setIfInBounds_toArray, List.set_cons_zero, List.set_cons_succ]), hb2, (fun _ => rfl), (fun _ => rfl), (fun _ => rfl), (fun _ => rfl), (fun _ => rfl), (fun _ => rfl), (fun _ => rfl), (fun _ => rfl), (VAt.grown f_p.out b8 hpr), (VAt.grown f_q.out b8 hqr), (fun _ h => by cases h), (fun _ h => by cases h), (fun _ h => by cases h), (fun h => by cases h), (fun _ => h8.out)⟩
  · rintro act V ⟨b0, b1, b2, b3, b4, b5, b6, b7, b8, x5, x6, x7, x8, x9, x10, x11, x12, g1, g2, g3, c3, hL, rfl, hb, cd0, cd1, cd2, cd3, cd4, cd5, cd6, cd7, f_p, f_q, f_a, f_b, f_c, f_r, f_rs⟩
    have hL' : [true, true, true, true, true, true, true, true, true] = [b0, b1, b2, b3, b4, b5, b6, b7, b8] := congrArg Array.toList hL
    simp only [List.cons.injEq, and_true] at hL'
    obtain ⟨rfl, rfl, rfl, rfl, rfl, rfl, rfl, rfl, rfl⟩ := hL'
    obtain rfl := cd0.out rfl
    obtain rfl := cd1.out rfl
    obtain rfl := cd2.out rfl
    obtain rfl := cd3.out rfl
    obtain rfl := cd4.out rfl
    obtain rfl := cd5.out rfl
    obtain rfl := cd6.out rfl
    obtain rfl := cd7.out rfl
    have W_p := f_p.out
    have W_q := f_q.out
    have W_rs := f_rs.out rfl
    clear hL f_p f_q f_a f_b f_c f_r f_rs cd0 cd1 cd2 cd3 cd4 cd5 cd6 cd7
    simp only [List.setIfInBounds_toArray, List.set_cons_zero, List.set_cons_succ]
    obtain ⟨r0, r1, r2, r3⟩ := en_cells W_rs
    have BV : Below p w V := B0.trans ((Below.refl _ _).drew.trans hb)
    clear hb
    go_wp2_with fail
    refine bodyPost_ret (v := .agg #[.string (bsOf (LA ++ LB)), .int .i64 k, .int .i64 m, .string s]) (by simp [results, Try.results97, go_sem, r0, r1, r2, r3]) rfl ?_
    exact ⟨rfl, by rw [HG.out]; exact BV⟩
theorem place_any (w : World) (ra : Option Addr) (n c i : Nat) (hi : i < n) :
    Calls Try.prog 96 #[.slice ra n c, .int .i64 (i : Nat)] w fun e w' => e = .returned (.bool true) ∧ w = w' := by
  have h1 : (0 : Int) ≤ (i : Int) := by omega
  have h2 : (i : Int) < (n : Int) := by omega
  go_enter Try.func96, Try.ntmps96
  go_wp2_with fail
  go_ret
  exact ⟨rfl, rfl⟩
/-- What stands while the region's operations come up. -/
inductive Entry3 (B : Nat) (x : Nat) (r : Nat) (col : Nat) (key : Nat) (rb : Nat) (ro : Nat) (n : Nat) (c : Nat) (k1 : Int) (m1 : Int) (s1 : ByteArray) (k : Int) (m : Int) (s : ByteArray) (LO : List UInt8) (a0 : Act) (w0 : World) (L : Array Bool) (a : Act) (w : World) : Prop
  | mk (b0 b1 b2 b3 b4 b5 b6 b7 b8 b9 b10 b11 b12 b13 b14 b15 b16 : Bool) (x23 x24 x25 x26 x27 x28 x29 x30 x31 x32 x33 x34 x35 x36 x37 x5 : Value) (hL : L = #[b0, b1, b2, b3, b4, b5, b6, b7, b8, b9, b10, b11, b12, b13, b14, b15, b16]) (ha : a = ⟨((((((((((((((((a0.tmps.setIfInBounds 23 x23).setIfInBounds 24 x24).setIfInBounds 25 x25).setIfInBounds 26 x26).setIfInBounds 27 x27).setIfInBounds 28 x28).setIfInBounds 29 x29).setIfInBounds 30 x30).setIfInBounds 31 x31).setIfInBounds 32 x32).setIfInBounds 33 x33).setIfInBounds 34 x34).setIfInBounds 35 x35).setIfInBounds 36 x36).setIfInBounds 37 x37).setIfInBounds 5 x5), a0.defers⟩) (hb : Below B w0 w) (cd0 : Hid (b0 = true → x23 = .slice (some ⟨rb, ro, none⟩) n c)) (cd1 : Hid (b1 = true → x24 = .pointer (some ⟨x, 0, none⟩))) (cd2 : Hid (b2 = true → x25 = .pointer (some ⟨x, 0, none⟩))) (cd3 : Hid (b3 = true → x26 = .pointer (some ⟨x, 0, none⟩))) (cd4 : Hid (b4 = true → x27 = .int .i64 (col : Nat))) (cd5 : Hid (b5 = true → x28 = .pointer (some ⟨rb, ro + col * 3, none⟩))) (cd6 : Hid (b6 = true → x29 = .agg #[.int .i64 k1, .int .i64 m1, .string s1])) (cd7 : Hid (b7 = true → x30 = .slice (some ⟨rb, ro, none⟩) n c)) (cd8 : Hid (b8 = true → x31 = .pointer (some ⟨x, 0, none⟩))) (cd9 : Hid (b9 = true → x32 = .pointer (some ⟨x, 0, none⟩))) (cd10 : Hid (b10 = true → x33 = .pointer (some ⟨x, 1, none⟩))) (cd11 : Hid (b11 = true → x34 = .int .i64 (key : Nat))) (cd12 : Hid (b12 = true → x35 = .pointer (some ⟨rb, ro + key * 3, none⟩))) (cd13 : Hid (b13 = true → x36 = .agg #[.int .i64 k, .int .i64 m, .string s])) (cd14 : Hid (b14 = true → x37 = .agg #[.string (bsOf LO), .int .i64 k, .int .i64 m, .string s])) (cd16 : Hid (b16 = true → x5 = .bool true)) (f_r : Hid (b15 = false → Bk w r #[.string ⟨#[]⟩, .int .i64 0, .int .i64 0, .string ⟨#[]⟩] 112)) (f_rs : Hid (b15 = true → Bk w r #[.string (bsOf LO), .int .i64 k, .int .i64 m, .string s] 112)) : Entry3 B x r col key rb ro n c k1 m1 s1 k m s LO a0 w0 L a w
set_option maxRecDepth 100000 in
set_option maxHeartbeats 2000000 in
theorem entry_any (w : World) (x : Nat) (col key : Nat) (p : Option Addr) (hx : Bk w x (xC col key p) 109) (ra : Option Addr) (n c : Nat) (rv : List V) (h : IsR EV w ra n c rv) (hc : col < n) (hk : key < n) (hvc : Vok (kOf col rv)) (hvk : Vok (kOf key rv)) :
    Calls Try.prog 58 #[.pointer (some ⟨x, 0, none⟩), .slice ra n c] w fun e w' => e = .returned (.tuple #[.agg #[.string (bsOf (keyB (kOf col rv) ++ keyB (kOf key rv))), .int .i64 (kOf key rv).k, .int .i64 (kOf key rv).n, .string (kOf key rv).s], .bool true]) ∧ Below w.heap.size w w' := by
  have hln := h.len
  obtain ⟨v, hv⟩ : ∃ v, rv[col]? = some v := ⟨rv[col]'(by omega), List.getElem?_eq_getElem _⟩
  obtain ⟨kv, hkv⟩ : ∃ v, rv[key]? = some v := ⟨rv[key]'(by omega), List.getElem?_eq_getElem _⟩
  have e1 := kOf_get hv
  have e2 := kOf_get hkv
  simp only [e1, e2] at hvc hvk ⊢
  clear e1 e2
  obtain ⟨rb, ro, rfl, hrb, hcc⟩ := h.open (by omega) (by decide)
  obtain ⟨u0', u1', u2'⟩ := cells_v hcc col v hv
  obtain ⟨v0', v1', v2'⟩ := cells_v hcc key kv hkv
  obtain ⟨c0', c1', c2'⟩ := x_cells hx
  have hxB' := hx.lt
  have HE0 := fun w => entryOf_any w v kv hvc hvk
  obtain ⟨LO, hLO⟩ : ∃ L, keyB v ++ keyB kv = L := ⟨_, rfl⟩
  simp only [hLO] at HE0 ⊢
  clear hLO hvc hvk hv hkv hcc h
  obtain ⟨k1, m1, s1⟩ := v
  obtain ⟨k, m, s⟩ := kv
  simp only at HE0 u0' u1' u2' v0' v1' v2' ⊢
  have HE : ∀ w', Calls Try.prog 97 #[vv k1 m1 s1, vv k m s] w' fun e w'' => e = .returned (.agg #[.string (bsOf LO), .int .i64 k, .int .i64 m, .string s]) ∧ Below w'.heap.size w' w'' := HE0
  clear HE0
  have hci : (col : Int) < (n : Int) := by omega
  have hki : (key : Int) < (n : Int) := by omega
  have B0 : Below w.heap.size w (w.alloc (.cells #[.string ⟨#[]⟩, .int .i64 0, .int .i64 0, .string ⟨#[]⟩] 112)) := (Below.refl _ _).alloc (Nat.le_refl _) _
  have hR : Bk (w.alloc (.cells #[.string ⟨#[]⟩, .int .i64 0, .int .i64 0, .string ⟨#[]⟩] 112)) w.heap.size #[.string ⟨#[]⟩, .int .i64 0, .int .i64 0, .string ⟨#[]⟩] 112 := Bk.new w _ _
  go_enter Try.func58, Try.ntmps58
  go_upto_region 1 with fail
  generalize w.alloc (.cells #[.string ⟨#[]⟩, .int .i64 0, .int .i64 0, .string ⟨#[]⟩] 112) = W at B0 hR ⊢
  have HPl := place_any
  have c0 := (B0.cell hxB').trans c0'
  have c1 := (B0.cell hxB').trans c1'
  have hxW := Nat.lt_of_lt_of_le hxB' B0.size
  go_upto_region 3 with (first
    | (go_at_call 96; (with_reducible refine (place_any _ _ n c col hc).mono ?_); rintro e w1 ⟨rfl, rfl⟩)
    | (go_at_call 96; (with_reducible refine (place_any _ _ n c key hk).mono ?_); rintro e w1 ⟨rfl, rfl⟩))
  obtain ⟨gp, hgp⟩ : ∃ p, w.heap.size = p := ⟨_, rfl⟩
  have HG := Lib.hid hgp
  have B1 : Below gp w W := by rw [← hgp]; exact B0
  rw [hgp] at hR hxB' hrb
  simp only [hgp]
  have hB0 : gp ≤ W.heap.size := Nat.le_of_lt hR.lt
  have hxB : x < gp := hxB'
  have hrbB : rb < gp := hrb
  have u0 := (B1.cell hrb).trans u0'
  have u1 := (B1.cell hrb).trans u1'
  have u2 := (B1.cell hrb).trans u2'
  have v0 := (B1.cell hrb).trans v0'
  have v1 := (B1.cell hrb).trans v1'
  have v2 := (B1.cell hrb).trans v2'
  obtain ⟨r, hr⟩ : ∃ r, gp = r := ⟨_, rfl⟩
  have hBr : gp ≤ r := by omega
  have hR1 : Bk W r #[.string ⟨#[]⟩, .int .i64 0, .int .i64 0, .string ⟨#[]⟩] 112 := by rw [← hr]; exact hR
  have hrS : Hid (gp = r) := hr
  simp only [hr]
  rw [hr] at hB0 hBr B1 HG hxB hrbB
  clear hgp hr hR HPl hrS hxB' hrb u0' u1' u2' v0' v1' v2' c0' c1' c2' B0
  refine region_inv (Entry3 r x r col key rb ro n c k1 m1 s1 k m s LO) (by kernel_rfl) (by kernel_rfl) ?_ ?_ ?_
  · exact ⟨false, false, false, false, false, false, false, false, false, false, false, false, false, false, false, false, false, undef, undef, undef, undef, undef, undef, undef, undef, undef, undef, undef, undef, undef, undef, undef, .bool false, rfl, (by simp only [Act.put, List.setIfInBounds_toArray, List.set_cons_zero, List.set_cons_succ]), Below.refl _ _, (fun h => by cases h), (fun h => by cases h), (fun h => by cases h), (fun h => by cases h), (fun h => by cases h), (fun h => by cases h), (fun h => by cases h), (fun h => by cases h), (fun h => by cases h), (fun h => by cases h), (fun h => by cases h), (fun h => by cases h), (fun h => by cases h), (fun h => by cases h), (fun h => by cases h), (fun h => by cases h), (fun h1 => hR1.past (Below.refl _ _).drew), (fun h => by cases h)⟩
  · refine ⟨?_, ?_, ?_, ?_, ?_, ?_, ?_, ?_, ?_, ?_, ?_, ?_, ?_, ?_, ?_, ?_, ?_, trivial⟩
    · rintro L a w ⟨b0, b1, b2, b3, b4, b5, b6, b7, b8, b9, b10, b11, b12, b13, b14, b15, b16, x23, x24, x25, x26, x27, x28, x29, x30, x31, x32, x33, x34, x35, x36, x37, x5, rfl, rfl, hb, cd0, cd1, cd2, cd3, cd4, cd5, cd6, cd7, cd8, cd9, cd10, cd11, cd12, cd13, cd14, cd16, f_r, f_rs⟩ hf hd
      have hf' : b0 = false := hf
      subst hf'
      clear hf hd
      try simp only [List.setIfInBounds_toArray, List.set_cons_zero, List.set_cons_succ]
      intro K hK
      rw [if_pos (by rfl)]
      go_simp
      exact hK.out _ _ ⟨true, b1, b2, b3, b4, b5, b6, b7, b8, b9, b10, b11, b12, b13, b14, b15, b16, (.slice (some ⟨rb, ro, none⟩) n c), x24, x25, x26, x27, x28, x29, x30, x31, x32, x33, x34, x35, x36, x37, x5, (by simp only [Act.put, List.setIfInBounds_toArray, List.set_cons_zero, List.set_cons_succ]), (by simp only [Act.put, List.setIfInBounds_toArray, List.set_cons_zero, List.set_cons_succ]), hb, (fun _ => rfl), cd1, cd2, cd3, cd4, cd5, cd6, cd7, cd8, cd9, cd10, cd11, cd12, cd13, cd14, cd16, f_r, f_rs⟩
    · rintro L a w ⟨b0, b1, b2, b3, b4, b5, b6, b7, b8, b9, b10, b11, b12, b13, b14, b15, b16, x23, x24, x25, x26, x27, x28, x29, x30, x31, x32, x33, x34, x35, x36, x37, x5, rfl, rfl, hb, cd0, cd1, cd2, cd3, cd4, cd5, cd6, cd7, cd8, cd9, cd10, cd11, cd12, cd13, cd14, cd16, f_r, f_rs⟩ hf hd
      have hf' : b1 = false := hf
      subst hf'
      clear hf hd
      try simp only [List.setIfInBounds_toArray, List.set_cons_zero, List.set_cons_succ]
      intro K hK
      rw [if_pos (by rfl)]
      go_simp
      exact hK.out _ _ ⟨b0, true, b2, b3, b4, b5, b6, b7, b8, b9, b10, b11, b12, b13, b14, b15, b16, x23, (.pointer (some ⟨x, 0, none⟩)), x25, x26, x27, x28, x29, x30, x31, x32, x33, x34, x35, x36, x37, x5, (by simp only [Act.put, List.setIfInBounds_toArray, List.set_cons_zero, List.set_cons_succ]), (by simp only [Act.put, List.setIfInBounds_toArray, List.set_cons_zero, List.set_cons_succ]), hb, cd0, (fun _ => rfl), cd2, cd3, cd4, cd5, cd6, cd7, cd8, cd9, cd10, cd11, cd12, cd13, cd14, cd16, f_r, f_rs⟩
    · rintro L a w ⟨b0, b1, b2, b3, b4, b5, b6, b7, b8, b9, b10, b11, b12, b13, b14, b15, b16, x23, x24, x25, x26, x27, x28, x29, x30, x31, x32, x33, x34, x35, x36, x37, x5, rfl, rfl, hb, cd0, cd1, cd2, cd3, cd4, cd5, cd6, cd7, cd8, cd9, cd10, cd11, cd12, cd13, cd14, cd16, f_r, f_rs⟩ hf hd
      have hf' : b2 = false := hf
      subst hf'
      have d1 : b1 = true := hd ⟨1, .data⟩ (by simp) rfl
      subst d1
      obtain rfl := cd1.out rfl
      clear hf hd
      try simp only [List.setIfInBounds_toArray, List.set_cons_zero, List.set_cons_succ]
      intro K hK
      rw [if_pos (by rfl)]
      go_simp
      exact hK.out _ _ ⟨b0, true, true, b3, b4, b5, b6, b7, b8, b9, b10, b11, b12, b13, b14, b15, b16, x23, .pointer (some ⟨x, 0, none⟩), (.pointer (some ⟨x, 0, none⟩)), x26, x27, x28, x29, x30, x31, x32, x33, x34, x35, x36, x37, x5, (by simp only [Act.put, List.setIfInBounds_toArray, List.set_cons_zero, List.set_cons_succ]), (by simp only [Act.put, List.setIfInBounds_toArray, List.set_cons_zero, List.set_cons_succ]), hb, cd0, (fun _ => rfl), (fun _ => rfl), cd3, cd4, cd5, cd6, cd7, cd8, cd9, cd10, cd11, cd12, cd13, cd14, cd16, f_r, f_rs⟩
    · rintro L a w ⟨b0, b1, b2, b3, b4, b5, b6, b7, b8, b9, b10, b11, b12, b13, b14, b15, b16, x23, x24, x25, x26, x27, x28, x29, x30, x31, x32, x33, x34, x35, x36, x37, x5, rfl, rfl, hb, cd0, cd1, cd2, cd3, cd4, cd5, cd6, cd7, cd8, cd9, cd10, cd11, cd12, cd13, cd14, cd16, f_r, f_rs⟩ hf hd
      have hf' : b3 = false := hf
      subst hf'
      have d2 : b2 = true := hd ⟨2, .data⟩ (by simp) rfl
      subst d2
      obtain rfl := cd2.out rfl
      clear hf hd
      try simp only [List.setIfInBounds_toArray, List.set_cons_zero, List.set_cons_succ]
      intro K hK
      rw [if_pos (by rfl)]
      go_simp
      exact hK.out _ _ ⟨b0, b1, true, true, b4, b5, b6, b7, b8, b9, b10, b11, b12, b13, b14, b15, b16, x23, x24, .pointer (some ⟨x, 0, none⟩), (.pointer (some ⟨x, 0, none⟩)), x27, x28, x29, x30, x31, x32, x33, x34, x35, x36, x37, x5, (by simp only [Act.put, List.setIfInBounds_toArray, List.set_cons_zero, List.set_cons_succ]), (by simp only [Act.put, List.setIfInBounds_toArray, List.set_cons_zero, List.set_cons_succ]), hb, cd0, cd1, (fun _ => rfl), (fun _ => rfl), cd4, cd5, cd6, cd7, cd8, cd9, cd10, cd11, cd12, cd13, cd14, cd16, f_r, f_rs⟩
    · rintro L a w ⟨b0, b1, b2, b3, b4, b5, b6, b7, b8, b9, b10, b11, b12, b13, b14, b15, b16, x23, x24, x25, x26, x27, x28, x29, x30, x31, x32, x33, x34, x35, x36, x37, x5, rfl, rfl, hb, cd0, cd1, cd2, cd3, cd4, cd5, cd6, cd7, cd8, cd9, cd10, cd11, cd12, cd13, cd14, cd16, f_r, f_rs⟩ hf hd
      have hf' : b4 = false := hf
      subst hf'
      have d3 : b3 = true := hd ⟨3, .data⟩ (by simp) rfl
      subst d3
      obtain rfl := cd3.out rfl
      clear hf hd
      try simp only [List.setIfInBounds_toArray, List.set_cons_zero, List.set_cons_succ]
      have z0 := (hb.cell hxB).trans c0
      intro K hK
      rw [if_pos (by rfl)]
      go_simp
      exact hK.out _ _ ⟨b0, b1, b2, true, true, b5, b6, b7, b8, b9, b10, b11, b12, b13, b14, b15, b16, x23, x24, x25, .pointer (some ⟨x, 0, none⟩), (.int .i64 (col : Nat)), x28, x29, x30, x31, x32, x33, x34, x35, x36, x37, x5, (by simp only [Act.put, List.setIfInBounds_toArray, List.set_cons_zero, List.set_cons_succ]), (by simp only [Act.put, List.setIfInBounds_toArray, List.set_cons_zero, List.set_cons_succ]), hb, cd0, cd1, cd2, (fun _ => rfl), (fun _ => rfl), cd5, cd6, cd7, cd8, cd9, cd10, cd11, cd12, cd13, cd14, cd16, f_r, f_rs⟩
    · rintro L a w ⟨b0, b1, b2, b3, b4, b5, b6, b7, b8, b9, b10, b11, b12, b13, b14, b15, b16, x23, x24, x25, x26, x27, x28, x29, x30, x31, x32, x33, x34, x35, x36, x37, x5, rfl, rfl, hb, cd0, cd1, cd2, cd3, cd4, cd5, cd6, cd7, cd8, cd9, cd10, cd11, cd12, cd13, cd14, cd16, f_r, f_rs⟩ hf hd
      have hf' : b5 = false := hf
      subst hf'
      have d0 : b0 = true := hd ⟨0, .data⟩ (by simp) rfl
      subst d0
      have d4 : b4 = true := hd ⟨4, .data⟩ (by simp) rfl
      subst d4
      obtain rfl := cd0.out rfl
      obtain rfl := cd4.out rfl
      clear hf hd
      try simp only [List.setIfInBounds_toArray, List.set_cons_zero, List.set_cons_succ]
      intro K hK
      rw [if_pos (by rfl)]
      go_simp
      exact hK.out _ _ ⟨true, b1, b2, b3, true, true, b6, b7, b8, b9, b10, b11, b12, b13, b14, b15, b16, .slice (some ⟨rb, ro, none⟩) n c, x24, x25, x26, .int .i64 (col : Nat), (.pointer (some ⟨rb, ro + col * 3, none⟩)), x29, x30, x31, x32, x33, x34, x35, x36, x37, x5, (by simp only [Act.put, List.setIfInBounds_toArray, List.set_cons_zero, List.set_cons_succ]), (by simp only [Act.put, List.setIfInBounds_toArray, List.set_cons_zero, List.set_cons_succ]), hb, (fun _ => rfl), cd1, cd2, cd3, (fun _ => rfl), (fun _ => rfl), cd6, cd7, cd8, cd9, cd10, cd11, cd12, cd13, cd14, cd16, f_r, f_rs⟩
    · rintro L a w ⟨b0, b1, b2, b3, b4, b5, b6, b7, b8, b9, b10, b11, b12, b13, b14, b15, b16, x23, x24, x25, x26, x27, x28, x29, x30, x31, x32, x33, x34, x35, x36, x37, x5, rfl, rfl, hb, cd0, cd1, cd2, cd3, cd4, cd5, cd6, cd7, cd8, cd9, cd10, cd11, cd12, cd13, cd14, cd16, f_r, f_rs⟩ hf hd
      have hf' : b6 = false := hf
      subst hf'
      have d5 : b5 = true := hd ⟨5, .data⟩ (by simp) rfl
      subst d5
      obtain rfl := cd5.out rfl
      clear hf hd
      try simp only [List.setIfInBounds_toArray, List.set_cons_zero, List.set_cons_succ]
      have z0 := (hb.cell hrbB).trans u0
      have z1 := (hb.cell hrbB).trans u1
      have z2 := (hb.cell hrbB).trans u2
      intro K hK
      rw [if_pos (by rfl)]
      go_simp
      exact hK.out _ _ ⟨b0, b1, b2, b3, b4, true, true, b7, b8, b9, b10, b11, b12, b13, b14, b15, b16, x23, x24, x25, x26, x27, .pointer (some ⟨rb, ro + col * 3, none⟩), (.agg #[.int .i64 k1, .int .i64 m1, .string s1]), x30, x31, x32, x33, x34, x35, x36, x37, x5, (by simp only [Act.put, List.setIfInBounds_toArray, List.set_cons_zero, List.set_cons_succ]), (by simp only [Act.put, List.setIfInBounds_toArray, List.set_cons_zero, List.set_cons_succ]), hb, cd0, cd1, cd2, cd3, cd4, (fun _ => rfl), (fun _ => rfl), cd7, cd8, cd9, cd10, cd11, cd12, cd13, cd14, cd16, f_r, f_rs⟩
    · rintro L a w ⟨b0, b1, b2, b3, b4, b5, b6, b7, b8, b9, b10, b11, b12, b13, b14, b15, b16, x23, x24, x25, x26, x27, x28, x29, x30, x31, x32, x33, x34, x35, x36, x37, x5, rfl, rfl, hb, cd0, cd1, cd2, cd3, cd4, cd5, cd6, cd7, cd8, cd9, cd10, cd11, cd12, cd13, cd14, cd16, f_r, f_rs⟩ hf hd
      have hf' : b7 = false := hf
      subst hf'
      clear hf hd
      try simp only [List.setIfInBounds_toArray, List.set_cons_zero, List.set_cons_succ]
      intro K hK
      rw [if_pos (by rfl)]
      go_simp
      exact hK.out _ _ ⟨b0, b1, b2, b3, b4, b5, b6, true, b8, b9, b10, b11, b12, b13, b14, b15, b16, x23, x24, x25, x26, x27, x28, x29, (.slice (some ⟨rb, ro, none⟩) n c), x31, x32, x33, x34, x35, x36, x37, x5, (by simp only [Act.put, List.setIfInBounds_toArray, List.set_cons_zero, List.set_cons_succ]), (by simp only [Act.put, List.setIfInBounds_toArray, List.set_cons_zero, List.set_cons_succ]), hb, cd0, cd1, cd2, cd3, cd4, cd5, cd6, (fun _ => rfl), cd8, cd9, cd10, cd11, cd12, cd13, cd14, cd16, f_r, f_rs⟩
    · rintro L a w ⟨b0, b1, b2, b3, b4, b5, b6, b7, b8, b9, b10, b11, b12, b13, b14, b15, b16, x23, x24, x25, x26, x27, x28, x29, x30, x31, x32, x33, x34, x35, x36, x37, x5, rfl, rfl, hb, cd0, cd1, cd2, cd3, cd4, cd5, cd6, cd7, cd8, cd9, cd10, cd11, cd12, cd13, cd14, cd16, f_r, f_rs⟩ hf hd
      have hf' : b8 = false := hf
      subst hf'
      clear hf hd
      try simp only [List.setIfInBounds_toArray, List.set_cons_zero, List.set_cons_succ]
      intro K hK
      rw [if_pos (by rfl)]
      go_simp
      exact hK.out _ _ ⟨b0, b1, b2, b3, b4, b5, b6, b7, true, b9, b10, b11, b12, b13, b14, b15, b16, x23, x24, x25, x26, x27, x28, x29, x30, (.pointer (some ⟨x, 0, none⟩)), x32, x33, x34, x35, x36, x37, x5, (by simp only [Act.put, List.setIfInBounds_toArray, List.set_cons_zero, List.set_cons_succ]), (by simp only [Act.put, List.setIfInBounds_toArray, List.set_cons_zero, List.set_cons_succ]), hb, cd0, cd1, cd2, cd3, cd4, cd5, cd6, cd7, (fun _ => rfl), cd9, cd10, cd11, cd12, cd13, cd14, cd16, f_r, f_rs⟩
    · rintro L a w ⟨b0, b1, b2, b3, b4, b5, b6, b7, b8, b9, b10, b11, b12, b13, b14, b15, b16, x23, x24, x25, x26, x27, x28, x29, x30, x31, x32, x33, x34, x35, x36, x37, x5, rfl, rfl, hb, cd0, cd1, cd2, cd3, cd4, cd5, cd6, cd7, cd8, cd9, cd10, cd11, cd12, cd13, cd14, cd16, f_r, f_rs⟩ hf hd
      have hf' : b9 = false := hf
      subst hf'
      have d8 : b8 = true := hd ⟨8, .data⟩ (by simp) rfl
      subst d8
      obtain rfl := cd8.out rfl
      clear hf hd
      try simp only [List.setIfInBounds_toArray, List.set_cons_zero, List.set_cons_succ]
      intro K hK
      rw [if_pos (by rfl)]
      go_simp
      exact hK.out _ _ ⟨b0, b1, b2, b3, b4, b5, b6, b7, true, true, b10, b11, b12, b13, b14, b15, b16, x23, x24, x25, x26, x27, x28, x29, x30, .pointer (some ⟨x, 0, none⟩), (.pointer (some ⟨x, 0, none⟩)), x33, x34, x35, x36, x37, x5, (by simp only [Act.put, List.setIfInBounds_toArray, List.set_cons_zero, List.set_cons_succ]), (by simp only [Act.put, List.setIfInBounds_toArray, List.set_cons_zero, List.set_cons_succ]), hb, cd0, cd1, cd2, cd3, cd4, cd5, cd6, cd7, (fun _ => rfl), (fun _ => rfl), cd10, cd11, cd12, cd13, cd14, cd16, f_r, f_rs⟩
    · rintro L a w ⟨b0, b1, b2, b3, b4, b5, b6, b7, b8, b9, b10, b11, b12, b13, b14, b15, b16, x23, x24, x25, x26, x27, x28, x29, x30, x31, x32, x33, x34, x35, x36, x37, x5, rfl, rfl, hb, cd0, cd1, cd2, cd3, cd4, cd5, cd6, cd7, cd8, cd9, cd10, cd11, cd12, cd13, cd14, cd16, f_r, f_rs⟩ hf hd
      have hf' : b10 = false := hf
      subst hf'
      have d9 : b9 = true := hd ⟨9, .data⟩ (by simp) rfl
      subst d9
      obtain rfl := cd9.out rfl
      clear hf hd
      try simp only [List.setIfInBounds_toArray, List.set_cons_zero, List.set_cons_succ]
      intro K hK
      rw [if_pos (by rfl)]
      go_simp
      exact hK.out _ _ ⟨b0, b1, b2, b3, b4, b5, b6, b7, b8, true, true, b11, b12, b13, b14, b15, b16, x23, x24, x25, x26, x27, x28, x29, x30, x31, .pointer (some ⟨x, 0, none⟩), (.pointer (some ⟨x, 1, none⟩)), x34, x35, x36, x37, x5, (by simp only [Act.put, List.setIfInBounds_toArray, List.set_cons_zero, List.set_cons_succ]), (by simp only [Act.put, List.setIfInBounds_toArray, List.set_cons_zero, List.set_cons_succ]), hb, cd0, cd1, cd2, cd3, cd4, cd5, cd6, cd7, cd8, (fun _ => rfl), (fun _ => rfl), cd11, cd12, cd13, cd14, cd16, f_r, f_rs⟩
    · rintro L a w ⟨b0, b1, b2, b3, b4, b5, b6, b7, b8, b9, b10, b11, b12, b13, b14, b15, b16, x23, x24, x25, x26, x27, x28, x29, x30, x31, x32, x33, x34, x35, x36, x37, x5, rfl, rfl, hb, cd0, cd1, cd2, cd3, cd4, cd5, cd6, cd7, cd8, cd9, cd10, cd11, cd12, cd13, cd14, cd16, f_r, f_rs⟩ hf hd
      have hf' : b11 = false := hf
      subst hf'
      have d10 : b10 = true := hd ⟨10, .data⟩ (by simp) rfl
      subst d10
      obtain rfl := cd10.out rfl
      clear hf hd
      try simp only [List.setIfInBounds_toArray, List.set_cons_zero, List.set_cons_succ]
      have z0 := (hb.cell hxB).trans c1
      intro K hK
      rw [if_pos (by rfl)]
      go_simp
      exact hK.out _ _ ⟨b0, b1, b2, b3, b4, b5, b6, b7, b8, b9, true, true, b12, b13, b14, b15, b16, x23, x24, x25, x26, x27, x28, x29, x30, x31, x32, .pointer (some ⟨x, 1, none⟩), (.int .i64 (key : Nat)), x35, x36, x37, x5, (by simp only [Act.put, List.setIfInBounds_toArray, List.set_cons_zero, List.set_cons_succ]), (by simp only [Act.put, List.setIfInBounds_toArray, List.set_cons_zero, List.set_cons_succ]), hb, cd0, cd1, cd2, cd3, cd4, cd5, cd6, cd7, cd8, cd9, (fun _ => rfl), (fun _ => rfl), cd12, cd13, cd14, cd16, f_r, f_rs⟩
    · rintro L a w ⟨b0, b1, b2, b3, b4, b5, b6, b7, b8, b9, b10, b11, b12, b13, b14, b15, b16, x23, x24, x25, x26, x27, x28, x29, x30, x31, x32, x33, x34, x35, x36, x37, x5, rfl, rfl, hb, cd0, cd1, cd2, cd3, cd4, cd5, cd6, cd7, cd8, cd9, cd10, cd11, cd12, cd13, cd14, cd16, f_r, f_rs⟩ hf hd
      have hf' : b12 = false := hf
      subst hf'
      have d7 : b7 = true := hd ⟨7, .data⟩ (by simp) rfl
      subst d7
      have d11 : b11 = true := hd ⟨11, .data⟩ (by simp) rfl
      subst d11
      obtain rfl := cd7.out rfl
      obtain rfl := cd11.out rfl
      clear hf hd
      try simp only [List.setIfInBounds_toArray, List.set_cons_zero, List.set_cons_succ]
      intro K hK
      rw [if_pos (by rfl)]
      go_simp
      exact hK.out _ _ ⟨b0, b1, b2, b3, b4, b5, b6, true, b8, b9, b10, true, true, b13, b14, b15, b16, x23, x24, x25, x26, x27, x28, x29, .slice (some ⟨rb, ro, none⟩) n c, x31, x32, x33, .int .i64 (key : Nat), (.pointer (some ⟨rb, ro + key * 3, none⟩)), x36, x37, x5, (by simp only [Act.put, List.setIfInBounds_toArray, List.set_cons_zero, List.set_cons_succ]), (by simp only [Act.put, List.setIfInBounds_toArray, List.set_cons_zero, List.set_cons_succ]), hb, cd0, cd1, cd2, cd3, cd4, cd5, cd6, (fun _ => rfl), cd8, cd9, cd10, (fun _ => rfl), (fun _ => rfl), cd13, cd14, cd16, f_r, f_rs⟩
    · rintro L a w ⟨b0, b1, b2, b3, b4, b5, b6, b7, b8, b9, b10, b11, b12, b13, b14, b15, b16, x23, x24, x25, x26, x27, x28, x29, x30, x31, x32, x33, x34, x35, x36, x37, x5, rfl, rfl, hb, cd0, cd1, cd2, cd3, cd4, cd5, cd6, cd7, cd8, cd9, cd10, cd11, cd12, cd13, cd14, cd16, f_r, f_rs⟩ hf hd
      have hf' : b13 = false := hf
      subst hf'
      have d12 : b12 = true := hd ⟨12, .data⟩ (by simp) rfl
      subst d12
      obtain rfl := cd12.out rfl
      clear hf hd
      try simp only [List.setIfInBounds_toArray, List.set_cons_zero, List.set_cons_succ]
      have z0 := (hb.cell hrbB).trans v0
      have z1 := (hb.cell hrbB).trans v1
      have z2 := (hb.cell hrbB).trans v2
      intro K hK
      rw [if_pos (by rfl)]
      go_simp
      exact hK.out _ _ ⟨b0, b1, b2, b3, b4, b5, b6, b7, b8, b9, b10, b11, true, true, b14, b15, b16, x23, x24, x25, x26, x27, x28, x29, x30, x31, x32, x33, x34, .pointer (some ⟨rb, ro + key * 3, none⟩), (.agg #[.int .i64 k, .int .i64 m, .string s]), x37, x5, (by simp only [Act.put, List.setIfInBounds_toArray, List.set_cons_zero, List.set_cons_succ]), (by simp only [Act.put, List.setIfInBounds_toArray, List.set_cons_zero, List.set_cons_succ]), hb, cd0, cd1, cd2, cd3, cd4, cd5, cd6, cd7, cd8, cd9, cd10, cd11, (fun _ => rfl), (fun _ => rfl), cd14, cd16, f_r, f_rs⟩
    · rintro L a w ⟨b0, b1, b2, b3, b4, b5, b6, b7, b8, b9, b10, b11, b12, b13, b14, b15, b16, x23, x24, x25, x26, x27, x28, x29, x30, x31, x32, x33, x34, x35, x36, x37, x5, rfl, rfl, hb, cd0, cd1, cd2, cd3, cd4, cd5, cd6, cd7, cd8, cd9, cd10, cd11, cd12, cd13, cd14, cd16, f_r, f_rs⟩ hf hd
      have hf' : b14 = false := hf
      subst hf'
      have d6 : b6 = true := hd ⟨6, .data⟩ (by simp) rfl
      subst d6
      have d13 : b13 = true := hd ⟨13, .data⟩ (by simp) rfl
      subst d13
      obtain rfl := cd6.out rfl
      obtain rfl := cd13.out rfl
      clear hf hd
      try simp only [List.setIfInBounds_toArray, List.set_cons_zero, List.set_cons_succ]
      intro K hK
      rw [if_pos (by rfl)]
      go_simp
      go_at_call 97
      refine (HE _).mono ?_
      rintro e w' ⟨rfl, bx⟩
      exact hK.out _ _ ⟨b0, b1, b2, b3, b4, b5, true, b7, b8, b9, b10, b11, b12, true, true, b15, b16, x23, x24, x25, x26, x27, x28, .agg #[.int .i64 k1, .int .i64 m1, .string s1], x30, x31, x32, x33, x34, x35, .agg #[.int .i64 k, .int .i64 m, .string s], (.agg #[.string (bsOf LO), .int .i64 k, .int .i64 m, .string s]), x5, (by simp only [Act.put, List.setIfInBounds_toArray, List.set_cons_zero, List.set_cons_succ]), (by simp only [Act.put, List.setIfInBounds_toArray, List.set_cons_zero, List.set_cons_succ]), hb.trans (bx.mono (Nat.le_trans hB0 hb.size)), cd0, cd1, cd2, cd3, cd4, cd5, (fun _ => rfl), cd7, cd8, cd9, cd10, cd11, cd12, (fun _ => rfl), (fun _ => rfl), cd16, (fun h1 => (f_r.out h1).past bx), (fun h0 => (f_rs.out h0).past bx)⟩
    · rintro L a w ⟨b0, b1, b2, b3, b4, b5, b6, b7, b8, b9, b10, b11, b12, b13, b14, b15, b16, x23, x24, x25, x26, x27, x28, x29, x30, x31, x32, x33, x34, x35, x36, x37, x5, rfl, rfl, hb, cd0, cd1, cd2, cd3, cd4, cd5, cd6, cd7, cd8, cd9, cd10, cd11, cd12, cd13, cd14, cd16, f_r, f_rs⟩ hf hd
      have hf' : b15 = false := hf
      subst hf'
      have d14 : b14 = true := hd ⟨14, .data⟩ (by simp) rfl
      subst d14
      have d0 : b0 = true := hd ⟨0, .phase⟩ (by simp) rfl
      subst d0
      have d1 : b1 = true := hd ⟨1, .phase⟩ (by simp) rfl
      subst d1
      have d2 : b2 = true := hd ⟨2, .phase⟩ (by simp) rfl
      subst d2
      have d3 : b3 = true := hd ⟨3, .phase⟩ (by simp) rfl
      subst d3
      have d4 : b4 = true := hd ⟨4, .phase⟩ (by simp) rfl
      subst d4
      have d5 : b5 = true := hd ⟨5, .phase⟩ (by simp) rfl
      subst d5
      have d6 : b6 = true := hd ⟨6, .phase⟩ (by simp) rfl
      subst d6
      have d7 : b7 = true := hd ⟨7, .phase⟩ (by simp) rfl
      subst d7
      have d8 : b8 = true := hd ⟨8, .phase⟩ (by simp) rfl
      subst d8
      have d9 : b9 = true := hd ⟨9, .phase⟩ (by simp) rfl
      subst d9
      have d10 : b10 = true := hd ⟨10, .phase⟩ (by simp) rfl
      subst d10
      have d11 : b11 = true := hd ⟨11, .phase⟩ (by simp) rfl
      subst d11
      have d12 : b12 = true := hd ⟨12, .phase⟩ (by simp) rfl
      subst d12
      have d13 : b13 = true := hd ⟨13, .phase⟩ (by simp) rfl
      subst d13
      obtain rfl := cd14.out rfl
      obtain rfl := cd0.out rfl
      obtain rfl := cd1.out rfl
      obtain rfl := cd2.out rfl
      obtain rfl := cd3.out rfl
      obtain rfl := cd4.out rfl
      obtain rfl := cd5.out rfl
      obtain rfl := cd6.out rfl
      obtain rfl := cd7.out rfl
      obtain rfl := cd8.out rfl
      obtain rfl := cd9.out rfl
      obtain rfl := cd10.out rfl
      obtain rfl := cd11.out rfl
      obtain rfl := cd12.out rfl
      obtain rfl := cd13.out rfl
      clear hf hd
      have W_r := f_r.out rfl
      try simp only [List.setIfInBounds_toArray, List.set_cons_zero, List.set_cons_succ]
      intro K hK
      rw [if_pos (by rfl)]
      refine wp_store_blkT 112 _ _ rfl r _ #[.string (bsOf LO), .int .i64 k, .int .i64 m, .string s] rfl rfl _ (Lib.hid W_r) 4 szEn rfl rfl (by simp [Value.oneCell']) fun w2 h8 b8 => ?_
      have hb2 := hb.grown b8 (Nat.le_trans hB0 hb.size) (fun z hz => by cases hz; exact hBr)
      exact hK.out _ _ ⟨true, true, true, true, true, true, true, true, true, true, true, true, true, true, true, true, b16, .slice (some ⟨rb, ro, none⟩) n c, .pointer (some ⟨x, 0, none⟩), .pointer (some ⟨x, 0, none⟩), .pointer (some ⟨x, 0, none⟩), .int .i64 (col : Nat), .pointer (some ⟨rb, ro + col * 3, none⟩), .agg #[.int .i64 k1, .int .i64 m1, .string s1], .slice (some ⟨rb, ro, none⟩) n c, .pointer (some ⟨x, 0, none⟩), .pointer (some ⟨x, 0, none⟩), .pointer (some ⟨x, 1, none⟩), .int .i64 (key : Nat), .pointer (some ⟨rb, ro + key * 3, none⟩), .agg #[.int .i64 k, .int .i64 m, .string s], .agg #[.string (bsOf LO), .int .i64 k, .int .i64 m, .string s], x5, (by simp only [Act.put, List.setIfInBounds_toArray, List.set_cons_zero, List.set_cons_succ]), (by simp only [Act.put, List.setIfInBounds_toArray, List.set_cons_zero, List.set_cons_succ]), hb2, (fun _ => rfl), (fun _ => rfl), (fun _ => rfl), (fun _ => rfl), (fun _ => rfl), (fun _ => rfl), (fun _ => rfl), (fun _ => rfl), (fun _ => rfl), (fun _ => rfl), (fun _ => rfl), (fun _ => rfl), (fun _ => rfl), (fun _ => rfl), (fun _ => rfl), cd16, (fun h => by cases h), (fun _ => h8.out)⟩
    · rintro L a w ⟨b0, b1, b2, b3, b4, b5, b6, b7, b8, b9, b10, b11, b12, b13, b14, b15, b16, x23, x24, x25, x26, x27, x28, x29, x30, x31, x32, x33, x34, x35, x36, x37, x5, rfl, rfl, hb, cd0, cd1, cd2, cd3, cd4, cd5, cd6, cd7, cd8, cd9, cd10, cd11, cd12, cd13, cd14, cd16, f_r, f_rs⟩ hf hd
      have hf' : b16 = false := hf
      subst hf'
      have d15 : b15 = true := hd ⟨15, .chain⟩ (by simp) rfl
      subst d15
      have d0 : b0 = true := hd ⟨0, .phase⟩ (by simp) rfl
      subst d0
      have d1 : b1 = true := hd ⟨1, .phase⟩ (by simp) rfl
      subst d1
      have d2 : b2 = true := hd ⟨2, .phase⟩ (by simp) rfl
      subst d2
      have d3 : b3 = true := hd ⟨3, .phase⟩ (by simp) rfl
      subst d3
      have d4 : b4 = true := hd ⟨4, .phase⟩ (by simp) rfl
      subst d4
      have d5 : b5 = true := hd ⟨5, .phase⟩ (by simp) rfl
      subst d5
      have d6 : b6 = true := hd ⟨6, .phase⟩ (by simp) rfl
      subst d6
      have d7 : b7 = true := hd ⟨7, .phase⟩ (by simp) rfl
      subst d7
      have d8 : b8 = true := hd ⟨8, .phase⟩ (by simp) rfl
      subst d8
      have d9 : b9 = true := hd ⟨9, .phase⟩ (by simp) rfl
      subst d9
      have d10 : b10 = true := hd ⟨10, .phase⟩ (by simp) rfl
      subst d10
      have d11 : b11 = true := hd ⟨11, .phase⟩ (by simp) rfl
      subst d11
      have d12 : b12 = true := hd ⟨12, .phase⟩ (by simp) rfl
      subst d12
      have d13 : b13 = true := hd ⟨13, .phase⟩ (by simp) rfl
      subst d13
      have d14 : b14 = true := hd ⟨14, .phase⟩ (by simp) rfl
      subst d14
      obtain rfl := cd0.out rfl
      obtain rfl := cd1.out rfl
      obtain rfl := cd2.out rfl
      obtain rfl := cd3.out rfl
      obtain rfl := cd4.out rfl
      obtain rfl := cd5.out rfl
      obtain rfl := cd6.out rfl
      obtain rfl := cd7.out rfl
      obtain rfl := cd8.out rfl
      obtain rfl := cd9.out rfl
      obtain rfl := cd10.out rfl
      obtain rfl := cd11.out rfl
      obtain rfl := cd12.out rfl
      obtain rfl := cd13.out rfl
      obtain rfl := cd14.out rfl
      clear hf hd
      have W_rs := f_rs.out rfl
      try simp only [List.setIfInBounds_toArray, List.set_cons_zero, List.set_cons_succ]
      intro K hK
      rw [if_pos (by rfl)]
      go_simp
      exact hK.out _ _ ⟨true, true, true, true, true, true, true, true, true, true, true, true, true, true, true, true, true, .slice (some ⟨rb, ro, none⟩) n c, .pointer (some ⟨x, 0, none⟩), .pointer (some ⟨x, 0, none⟩), .pointer (some ⟨x, 0, none⟩), .int .i64 (col : Nat), .pointer (some ⟨rb, ro + col * 3, none⟩), .agg #[.int .i64 k1, .int .i64 m1, .string s1], .slice (some ⟨rb, ro, none⟩) n c, .pointer (some ⟨x, 0, none⟩), .pointer (some ⟨x, 0, none⟩), .pointer (some ⟨x, 1, none⟩), .int .i64 (key : Nat), .pointer (some ⟨rb, ro + key * 3, none⟩), .agg #[.int .i64 k, .int .i64 m, .string s], .agg #[.string (bsOf LO), .int .i64 k, .int .i64 m, .string s], (.bool true), (by simp only [Act.put, List.setIfInBounds_toArray, List.set_cons_zero, List.set_cons_succ]), (by simp only [Act.put, List.setIfInBounds_toArray, List.set_cons_zero, List.set_cons_succ]), hb, (fun _ => rfl), (fun _ => rfl), (fun _ => rfl), (fun _ => rfl), (fun _ => rfl), (fun _ => rfl), (fun _ => rfl), (fun _ => rfl), (fun _ => rfl), (fun _ => rfl), (fun _ => rfl), (fun _ => rfl), (fun _ => rfl), (fun _ => rfl), (fun _ => rfl), (fun _ => rfl), (fun h => by cases h), f_rs⟩
  · rintro act V ⟨b0, b1, b2, b3, b4, b5, b6, b7, b8, b9, b10, b11, b12, b13, b14, b15, b16, x23, x24, x25, x26, x27, x28, x29, x30, x31, x32, x33, x34, x35, x36, x37, x5, hL, rfl, hb, cd0, cd1, cd2, cd3, cd4, cd5, cd6, cd7, cd8, cd9, cd10, cd11, cd12, cd13, cd14, cd16, f_r, f_rs⟩
    have hL' : [true, true, true, true, true, true, true, true, true, true, true, true, true, true, true, true, true] = [b0, b1, b2, b3, b4, b5, b6, b7, b8, b9, b10, b11, b12, b13, b14, b15, b16] := congrArg Array.toList hL
    simp only [List.cons.injEq, and_true] at hL'
    obtain ⟨rfl, rfl, rfl, rfl, rfl, rfl, rfl, rfl, rfl, rfl, rfl, rfl, rfl, rfl, rfl, rfl, rfl⟩ := hL'
    obtain rfl := cd0.out rfl
    obtain rfl := cd1.out rfl
    obtain rfl := cd2.out rfl
    obtain rfl := cd3.out rfl
    obtain rfl := cd4.out rfl
    obtain rfl := cd5.out rfl
    obtain rfl := cd6.out rfl
    obtain rfl := cd7.out rfl
    obtain rfl := cd8.out rfl
    obtain rfl := cd9.out rfl
    obtain rfl := cd10.out rfl
    obtain rfl := cd11.out rfl
    obtain rfl := cd12.out rfl
    obtain rfl := cd13.out rfl
    obtain rfl := cd14.out rfl
    obtain rfl := cd16.out rfl
    have W_rs := f_rs.out rfl
    clear hL f_r f_rs cd0 cd1 cd2 cd3 cd4 cd5 cd6 cd7 cd8 cd9 cd10 cd11 cd12 cd13 cd14 cd16
    simp only [List.setIfInBounds_toArray, List.set_cons_zero, List.set_cons_succ]
    obtain ⟨r0, r1, r2, r3⟩ := en_cells W_rs
    have BV : Below r w V := B1.trans ((Below.refl _ _).drew.trans hb)
    clear hb
    go_wp2_with fail
    refine bodyPost_ret (v := .tuple #[.agg #[.string (bsOf LO), .int .i64 k, .int .i64 m, .string s], .bool true]) (by simp [results, Try.results58, go_sem, r0, r1, r2, r3]) rfl ?_
    exact ⟨rfl, by rw [HG.out]; exact BV⟩
end Go.Proofs.Ytjacaammlkjodaa
namespace Go.Proofs.Ytjacaammlkjodaa
open Go.RowKit
set_option linter.unusedSimpArgs false
theorem grown_set' {w w' : World} {g : Nat} (h : w.grownBy w' (some g)) (k : Nat) (v : Value) : w.grownBy (w'.setCell ⟨g, k, none⟩ v) (some g) :=
  ⟨h.os, h.tape, h.output, by simpa using h.size, fun b hb hne => (heap_setCell_other _ _ b _ (fun e => hne (by rw [e]))).trans (h.block b hb hne)⟩
theorem below_grownX {w w' : World} (h : Below w.heap.size w w') (g : Nat) : w.grownBy w' (some g) :=
  ⟨h.os, h.tape, h.output, h.size, fun b hb _ => h.block b hb⟩
theorem TxtR.alloc' {α : Type} {E : Enc α} {w : World} {e : TypeId} {B : Nat} {ao : Option Addr} {n c : Nat} {l : List α} (h : TxtR E w e B ao n c l) (o : Obj) : TxtR E (w.alloc o) e B ao n c l := by
  rcases h.either with ⟨h1, h2, h3, h4⟩ | ⟨g, rfl, og, hg⟩
  · subst h2
    exact h.past ((Below.refl _ _).alloc (Nat.le_refl _) o)
  · exact ⟨.inr ⟨g, rfl, og.alloc o, hg⟩⟩
theorem part3_lit {α : Type} {E : Enc α} (w : World) (t : TypeId) (x y z : HdR) (a b c : List α) (hx : IsR E w x.a x.n x.c a) (hy : IsR E w y.a y.n y.c b) (hz : IsR E w z.a z.n z.c c) :
    IsRR E (w.alloc (.cells #[.slice x.a x.n x.c, .slice y.a y.n y.c, .slice z.a z.n z.c] t)) 0 (some ⟨w.heap.size, 0, none⟩) 3 3 [a, b, c] :=
  ⟨[x, y, z], (OwnR.ofBlk (E := EH) (l := [x, y, z]) (n := 3) (heap_alloc_new w _) rfl rfl (by omega)).isR, (((Rd.one hx).append (Rd.one hy)).append (Rd.one hz)).past ((Below.refl _ _).alloc (Nat.le_refl _) _), (fun _ _ => Nat.zero_le _ : Frm 0 _), (fun _ _ _ _ => Nat.zero_le _ : FrmH 0 _)⟩
theorem elemE (w' : World) : (sizeOf (Try.prog.elem 120)).run Try.prog w' = .ok 4 w' := by kernel_rfl
theorem has_ltO {o : List UInt8} {es : List En} (h : hasO o es = true) : atO o es < es.length := by
  unfold hasO at h
  split at h
  · rename_i r hr
    exact (List.getElem?_eq_some_iff.1 hr).1
  · cases h
/-- An index is put anew: nothing else that was there has changed. -/
def XPost (w : World) (lo x : Nat) (col key : Int) (es2 : List En) (e : Ending) (w' : World) : Prop :=
  e = .returned (.tuple #[]) ∧ IsX w' lo w'.heap.size x col key es2 ∧ w.grownBy w' (some x)
theorem replace_end {w w4 : World} {lo x q NN c3 : Nat} {col key : Int} {p0 : Option Addr} {ao3 : Option Addr} {es2 : List En} (hX0 : Bk w x (xC col key p0) 109) (hlo : lo ≤ x) (hE2 : Ents es2) (B4 : Below w.heap.size w w4) (hQ : Bk w4 q #[.slice ao3 NN c3] 120) (hq3 : w.heap.size ≤ q) (iR4 : IsR ER w4 ao3 NN c3 (es2.map En.raw)) (hfr : ∀ a, ao3 = some a → w.heap.size ≤ a.block ∧ a.block < w4.heap.size) (_hl : es2.length = NN) :
    XPost w lo x col key es2 (.returned (.tuple #[])) (w4.setCell ⟨x, 2, none⟩ (.pointer (some ⟨q, 0, none⟩))) := by
  have hxw := hX0.lt
  have g5 : w4.grownBy (w4.setCell ⟨x, 2, none⟩ (.pointer (some ⟨q, 0, none⟩))) (some x) := grown_set' ⟨rfl, rfl, rfl, Nat.le_refl _, fun _ _ _ => rfl⟩ 2 _
  have hX4 : Bk w4 x (xC col key p0) 109 := hX0.past B4
  have hs : (w4.setCell ⟨x, 2, none⟩ (.pointer (some ⟨q, 0, none⟩))).heap.size = w4.heap.size := by simp
  refine ⟨rfl, ⟨some ⟨q, 0, none⟩, heap_setCell_same (i := 2) hX4, hlo, by rw [hs]; exact Nat.lt_of_lt_of_le hxw B4.size, .inr ⟨q, ao3, NN, c3, rfl, hQ.grown g5 (fun e => by have := Option.some.inj e; omega), by omega, by rw [hs]; exact hQ.lt, iR4.grown g5 (fun a ha e => by have := hfr a ha; have := Option.some.inj e; omega), fun a ha => ⟨by have := hfr a ha; omega, by rw [hs]; exact (hfr a ha).2⟩⟩, hE2⟩, grown_set' (below_grownX B4 x) 2 _⟩
set_option maxRecDepth 100000 in
set_option maxHeartbeats 2000000 in
theorem replace_any (w : World) (lo hi x : Nat) (col key : Int) (es : List En) (h : IsX w lo hi x col key es) (o : List UInt8) (k m : Int) (s : ByteArray) (ia : Option Addr) (im ic : Nat) (ls : List Rn) (hI : IsR ER w ia im ic ls) (him : im ≤ 10) (es2 : List En) (h2 : es2.map En.raw = (es.map En.raw).take (atO o es) ++ ls ++ (es.map En.raw).drop (nxO o es)) (hE2 : Ents es2) (hn : es.length ≤ 1000) :
    Calls Try.prog 59 #[.pointer (some ⟨x, 0, none⟩), .agg #[.string (bsOf o), .int .i64 k, .int .i64 m, .string s], .slice ia im ic] w (XPost w lo x col key es2) := by
  obtain ⟨p0, hX0, hlo, -, hL0, hE⟩ := id h
  have hxw := hX0.lt
  have B0 : Below w.heap.size w (w.alloc (.cells #[.string (bsOf o), .int .i64 k, .int .i64 m, .string s] 112)) := (Below.refl _ _).alloc (Nat.le_refl _) _
  have hP : Bk (w.alloc (.cells #[.string (bsOf o), .int .i64 k, .int .i64 m, .string s] 112)) w.heap.size #[.string (bsOf o), .int .i64 k, .int .i64 m, .string s] 112 := Bk.new w _ _
  have hNl := at_leO o es
  have hnx : nxO o es = if hasO o es then atO o es + 1 else atO o es := rfl
  have hlt := fun hh : hasO o es = true => has_ltO hh
  obtain ⟨NN, hNN⟩ : ∃ NN, (es2.map En.raw).length = NN := ⟨_, rfl⟩
  have hNNb : NN ≤ 3000 := by
    have := hI.len
    rw [← hNN, h2, List.length_append, List.length_append, List.length_take, List.length_drop, List.length_map]
    omega
  go_enter Try.func59, Try.ntmps59
  go_upto_region 1 with fail
  have hXW := h.past B0
  have iI0 := hI.past B0
  generalize w.alloc (.cells #[.string (bsOf o), .int .i64 k, .int .i64 m, .string s] 112) = W at B0 hP hXW iI0 ⊢
  obtain ⟨p, hp⟩ : ∃ p, w.heap.size = p := ⟨_, rfl⟩
  rw [hp] at hP
  simp only [hp]
  have HP := Lib.hid hp
  clear hp
  have HA := all_any W lo hi x col key es hXW
  go_upto_region 2 with (go_at_call 62; refine HA.mono ?_; rintro e w1 ⟨ao, c, rfl, iA, fA, rfl⟩)
  have HFi := ifind_any W ao es.length c es iA o hE.srt (by omega)
  obtain ⟨e0, e1, e2, e3⟩ := en_cells hP
  obtain ⟨N, hN⟩ : ∃ N, atO o es = N := ⟨_, rfl⟩
  obtain ⟨tk, htk⟩ : ∃ tk, hasO o es = tk := ⟨_, rfl⟩
  obtain ⟨nx, hnx'⟩ : ∃ nx, nxO o es = nx := ⟨_, rfl⟩
  obtain ⟨L, hL⟩ : ∃ L, es.length = L := ⟨_, rfl⟩
  simp only [hN, htk, hnx', hL] at HFi hNl hnx hlt h2 iA hn
  simp only [hL]
  have hle := iA.le
  have hml : (es.map En.raw).length = L := by rw [List.length_map, hL]
  clear HA hN htk hnx' hL
  go_upto_region 3 with (go_at_call 98; refine HFi.mono ?_; rintro e w2 ⟨rfl, b2⟩)
  have B2 := B0.trans (b2.mono B0.size)
  have iI2 := iI0.past b2
  have hNi : (N : Int) ≤ (L : Int) := by omega
  have hLi : (L : Int) ≤ (c : Int) := by omega
  have hNc : (N : Int) ≤ (c : Int) := by omega
  obtain ⟨A1, hrun1, i0, -⟩ := (iA.past b2).cut_l (P := Try.prog) (t := 120) (by kernel_rfl) elemE N hNl
  obtain ⟨A3, hrun3, iF, -⟩ := (iA.past b2).cut_h (P := Try.prog) (t := 120) (by kernel_rfl) elemE N hNl
  cases tk with
  | false =>
    have hnx2 : N = nx := hnx.symm
    subst hnx2
    clear hnx
    have iB : IsR ER w2 A1 (L - N) (c - N) ((es.map En.raw).drop N) := i0
    go_upto_region 6 with fail
    clear e0 e1 e2 e3 HFi hlt
    have hP3 : IsRR ER (w2.alloc (.cells #[.slice A3 N c, .slice ia im ic, .slice A1 (L - N) (c - N)] 120)) 0 (some ⟨w2.heap.size, 0, none⟩) 3 3 [(es.map En.raw).take N, ls, (es.map En.raw).drop N] := part3_lit w2 _ ⟨A3, N, c⟩ ⟨ia, im, ic⟩ ⟨A1, (L - N), (c - N)⟩ _ _ _ iF iI2 iB
    have hfl : [(es.map En.raw).take N, ls, (es.map En.raw).drop N].flatten.length = NN := by rw [← hNN, h2]; simp
    have HC := concat_e _ 0 _ 3 3 _ hP3 (by omega) NN hfl (by omega)
    have hflat : [(es.map En.raw).take N, ls, (es.map En.raw).drop N].flatten = es2.map En.raw := by rw [h2]; simp
    rw [hflat] at HC
    have BA := B2.alloc B2.size (.cells #[.slice A3 N c, .slice ia im ic, .slice A1 (L - N) (c - N)] 120)
    clear hP3 hfl hflat
    go_upto_region 7 with (go_at_call 99; refine HC.mono ?_; rintro e w3 ⟨ao3, c3, rfl, o3, b3⟩)
    all_goals
      have B3 := BA.trans (b3.mono BA.size)
      have hQ : Bk (w3.alloc (.cells #[.slice ao3 NN c3] 120)) w3.heap.size #[.slice ao3 NN c3] 120 := Bk.new w3 _ _
      have B4 := B3.alloc B3.size (.cells #[.slice ao3 NN c3] 120)
      have o4 := o3.alloc' (.cells #[.slice ao3 NN c3] 120)
      have hq3 : w.heap.size ≤ w3.heap.size := B3.size
      have hxA := Nat.lt_of_lt_of_le hxw BA.size
      have hfr : ∀ a, ao3 = some a → w.heap.size ≤ a.block ∧ a.block < (w3.alloc (.cells #[.slice ao3 NN c3] 120)).heap.size := fun a ha => by
        rcases o4.either with ⟨hz, -⟩ | ⟨g3, hz, og, hg3⟩
        · rw [hz] at ha; cases ha
        · rw [hz] at ha
          cases ha
          exact ⟨Nat.le_trans BA.size hg3, og.lt⟩
      have iR4 := o4.isR
      generalize hw4 : w3.alloc (.cells #[.slice ao3 NN c3] 120) = w4 at hQ B4 iR4 hfr ⊢
      obtain ⟨q, hq⟩ : ∃ q, w3.heap.size = q := ⟨_, rfl⟩
      rw [hq] at hQ hq3
      simp only [hq]
      clear hq o3 o4 b3 HC hw4
      have hX4 : Bk w4 x (xC col key p0) 109 := hX0.past B4
      obtain ⟨c0', c1', c2'⟩ := x_cells hX4
      have HS := pstore_any ⟨x, 2, none⟩ q _ _ w4 c2' (free_blk hX4) hQ
      go_wp2_with (go_at_call 100; refine HS.mono ?_; rintro e w5 ⟨rfl, rfl⟩)
      all_goals
        go_end0
        exact replace_end hX0 hlo hE2 B4 hQ hq3 iR4 hfr (by rw [← hNN]; simp)
  | true =>
    have hnx2 : nx = N + 1 := hnx
    have hlt2 := hlt rfl
    obtain ⟨A2, hrun2', i1, -⟩ := i0.cut_l (P := Try.prog) (t := 120) (by kernel_rfl) elemE 1 (by omega)
    have hrun2 : ∀ w', (Instr.slice 120 (.slice A1 (L - N) (c - N)) (some (.int .i64 1)) none none).run Try.prog w' = .ok (.slice A2 (L - N - 1) (c - N - 1)) w' := hrun2'
    rw [List.drop_drop, ← hnx2] at i1
    go_upto_region 6 with fail
    have iB := i1
    clear e0 e1 e2 e3 HFi hlt hnx hnx2 hrun2'
    have hP3 : IsRR ER (w2.alloc (.cells #[.slice A3 N c, .slice ia im ic, .slice A2 (L - N - 1) (c - N - 1)] 120)) 0 (some ⟨w2.heap.size, 0, none⟩) 3 3 [(es.map En.raw).take N, ls, (es.map En.raw).drop nx] := part3_lit w2 _ ⟨A3, N, c⟩ ⟨ia, im, ic⟩ ⟨A2, (L - N - 1), (c - N - 1)⟩ _ _ _ iF iI2 iB
    have hfl : [(es.map En.raw).take N, ls, (es.map En.raw).drop nx].flatten.length = NN := by rw [← hNN, h2]; simp
    have HC := concat_e _ 0 _ 3 3 _ hP3 (by omega) NN hfl (by omega)
    have hflat : [(es.map En.raw).take N, ls, (es.map En.raw).drop nx].flatten = es2.map En.raw := by rw [h2]; simp
    rw [hflat] at HC
    have BA := B2.alloc B2.size (.cells #[.slice A3 N c, .slice ia im ic, .slice A2 (L - N - 1) (c - N - 1)] 120)
    clear hP3 hfl hflat
    go_upto_region 7 with (go_at_call 99; refine HC.mono ?_; rintro e w3 ⟨ao3, c3, rfl, o3, b3⟩)
    all_goals
      have B3 := BA.trans (b3.mono BA.size)
      have hQ : Bk (w3.alloc (.cells #[.slice ao3 NN c3] 120)) w3.heap.size #[.slice ao3 NN c3] 120 := Bk.new w3 _ _
      have B4 := B3.alloc B3.size (.cells #[.slice ao3 NN c3] 120)
      have o4 := o3.alloc' (.cells #[.slice ao3 NN c3] 120)
      have hq3 : w.heap.size ≤ w3.heap.size := B3.size
      have hxA := Nat.lt_of_lt_of_le hxw BA.size
      have hfr : ∀ a, ao3 = some a → w.heap.size ≤ a.block ∧ a.block < (w3.alloc (.cells #[.slice ao3 NN c3] 120)).heap.size := fun a ha => by
        rcases o4.either with ⟨hz, -⟩ | ⟨g3, hz, og, hg3⟩
        · rw [hz] at ha; cases ha
        · rw [hz] at ha
          cases ha
          exact ⟨Nat.le_trans BA.size hg3, og.lt⟩
      have iR4 := o4.isR
      generalize hw4 : w3.alloc (.cells #[.slice ao3 NN c3] 120) = w4 at hQ B4 iR4 hfr ⊢
      obtain ⟨q, hq⟩ : ∃ q, w3.heap.size = q := ⟨_, rfl⟩
      rw [hq] at hQ hq3
      simp only [hq]
      clear hq o3 o4 b3 HC hw4
      have hX4 : Bk w4 x (xC col key p0) 109 := hX0.past B4
      obtain ⟨c0', c1', c2'⟩ := x_cells hX4
      have HS := pstore_any ⟨x, 2, none⟩ q _ _ w4 c2' (free_blk hX4) hQ
      go_wp2_with (go_at_call 100; refine HS.mono ?_; rintro e w5 ⟨rfl, rfl⟩)
      all_goals
        go_end0
        exact replace_end hX0 hlo hE2 B4 hQ hq3 iR4 hfr (by rw [← hNN]; simp)
theorem raw_lit (w : World) (r : Rn) : IsR ER (w.alloc (.cells #[.string (bsOf r.o), .int .i64 r.k.k, .int .i64 r.k.n, .string r.k.s] 112)) (some ⟨w.heap.size, 0, none⟩) 1 1 [r] := (OwnR.ofBlk (E := ER) (l := [r]) (n := 1) (heap_alloc_new w _) rfl rfl (by omega)).isR
def entOf (col key : Nat) (r : List V) : En := ⟨kOf col r, kOf key r⟩
theorem XPost.lift {w w1 w' : World} {lo x : Nat} {col key : Int} {es2 : List En} {e : Ending} (h : XPost w1 lo x col key es2 e w') (b : Below w.heap.size w w1) : XPost w lo x col key es2 e w' := by
  obtain ⟨h1, h2, h3⟩ := h
  refine ⟨h1, h2, ⟨h3.os.trans b.os, h3.tape.trans b.tape, h3.output.trans b.output, Nat.le_trans b.size h3.size, fun k hk hne => (h3.block k (Nat.lt_of_lt_of_le hk b.size) hne).trans (b.block k hk)⟩⟩
set_option maxRecDepth 100000 in
set_option maxHeartbeats 2000000 in
theorem add_any (w : World) (lo hi x : Nat) (col key : Nat) (es : List En) (h : IsX w lo hi x col key es) (ra : Option Addr) (n c : Nat) (rv : List V) (hr : IsR EV w ra n c rv) (hc : col < n) (hk : key < n) (hvc : Vok (kOf col rv)) (hvk : Vok (kOf key rv)) (hn : es.length ≤ 900) :
    Calls Try.prog 27 #[.pointer (some ⟨x, 0, none⟩), .slice ra n c] w (XPost w lo x col key (addE (entOf col key rv) es)) := by
  obtain ⟨p0, hX0, hlo, -, hL0, hE⟩ := id h
  have hOk : Eok (entOf col key rv) := ⟨hvc, hvk⟩
  have HE0 := entry_any w x col key p0 hX0 ra n c rv hr hc hk hvc hvk
  have HA2 := hE.add hOk
  have hraw : (addE (entOf col key rv) es).map En.raw = (es.map En.raw).take (atO (entOf col key rv).ord es) ++ [(entOf col key rv).raw] ++ (es.map En.raw).drop (nxO (entOf col key rv).ord es) := by unfold addE; simp [List.map_take, List.map_drop]
  have HE1 : Calls Try.prog 58 #[.pointer (some ⟨x, 0, none⟩), .slice ra n c] w fun e w' => e = .returned (.tuple #[.agg #[.string (bsOf (entOf col key rv).ord), .int .i64 (entOf col key rv).k.k, .int .i64 (entOf col key rv).k.n, .string (entOf col key rv).k.s], .bool true]) ∧ Below w.heap.size w w' := HE0
  generalize entOf col key rv = en at HE1 HA2 hraw
  have HE : Calls Try.prog 58 #[.pointer (some ⟨x, 0, none⟩), .slice ra n c] w fun e w' => e = .returned (.tuple #[.agg #[.string (bsOf en.raw.o), .int .i64 en.raw.k.k, .int .i64 en.raw.k.n, .string en.raw.k.s], .bool true]) ∧ Below w.heap.size w w' := HE1
  have horw : en.ord = en.raw.o := rfl
  rw [horw] at hraw
  obtain ⟨rw0, hrw⟩ : ∃ r, en.raw = r := ⟨_, rfl⟩
  rw [hrw] at HE hraw
  obtain ⟨es2, hes2⟩ : ∃ es2, addE en es = es2 := ⟨_, rfl⟩
  rw [hes2] at HA2 hraw ⊢
  clear HE0 HE1 hOk horw hrw hes2
  obtain ⟨o, k, m, s⟩ := rw0
  simp only at HE hraw
  go_enter Try.func27, Try.ntmps27
  go_upto_region 2 with (go_at_call 58; refine HE.mono ?_; rintro e w1 ⟨rfl, b1⟩)
  have hX1 := h.past b1
  have bE : Below w.heap.size w (w1.alloc (.cells #[.string (bsOf o), .int .i64 k, .int .i64 m, .string s] 112)) := b1.alloc b1.size _
  have hP : Bk (w1.alloc (.cells #[.string (bsOf o), .int .i64 k, .int .i64 m, .string s] 112)) w1.heap.size #[.string (bsOf o), .int .i64 k, .int .i64 m, .string s] 112 := Bk.new w1 _ _
  generalize w1.alloc (.cells #[.string (bsOf o), .int .i64 k, .int .i64 m, .string s] 112) = w2 at bE hP ⊢
  obtain ⟨p, hp⟩ : ∃ p, w1.heap.size = p := ⟨_, rfl⟩
  rw [hp] at hP
  simp only [hp]
  obtain ⟨e0, e1, e2, e3⟩ := en_cells hP
  have hX2 := h.past bE
  have hL := raw_lit w2 ⟨o, ⟨k, m, s⟩⟩
  have bL := bE.alloc bE.size (.cells #[.string (bsOf o), .int .i64 k, .int .i64 m, .string s] 112)
  have HR := replace_any _ lo hi x col key es (h.past bL) o k m s _ 1 1 _ hL (by omega) es2 hraw HA2 (by omega)
  have hpB := hP.lt
  clear hX1 hX2 hL hp
  go_wp2_with (go_at_call 59; refine HR.mono ?_; rintro e w3 ⟨rfl, hX3, g3⟩)
  go_end0
  exact XPost.lift ⟨rfl, hX3, g3⟩ bL
set_option maxRecDepth 100000 in
set_option maxHeartbeats 2000000 in
theorem drop_any (w : World) (lo hi x : Nat) (col key : Nat) (es : List En) (h : IsX w lo hi x col key es) (ra : Option Addr) (n c : Nat) (rv : List V) (hr : IsR EV w ra n c rv) (hc : col < n) (hk : key < n) (hvc : Vok (kOf col rv)) (hvk : Vok (kOf key rv)) (hn : es.length ≤ 900) :
    Calls Try.prog 24 #[.pointer (some ⟨x, 0, none⟩), .slice ra n c] w (XPost w lo x col key (dropE (entOf col key rv) es)) := by
  obtain ⟨p0, hX0, hlo, -, hL0, hE⟩ := id h
  have hOk : Eok (entOf col key rv) := ⟨hvc, hvk⟩
  have HE0 := entry_any w x col key p0 hX0 ra n c rv hr hc hk hvc hvk
  have HA2 := hE.drop hOk
  have hraw : (dropE (entOf col key rv) es).map En.raw = (es.map En.raw).take (atO (entOf col key rv).ord es) ++ [] ++ (es.map En.raw).drop (nxO (entOf col key rv).ord es) := by unfold dropE; simp [List.map_take, List.map_drop]
  have HE1 : Calls Try.prog 58 #[.pointer (some ⟨x, 0, none⟩), .slice ra n c] w fun e w' => e = .returned (.tuple #[.agg #[.string (bsOf (entOf col key rv).raw.o), .int .i64 (entOf col key rv).raw.k.k, .int .i64 (entOf col key rv).raw.k.n, .string (entOf col key rv).raw.k.s], .bool true]) ∧ Below w.heap.size w w' := HE0
  have horw : (entOf col key rv).ord = (entOf col key rv).raw.o := rfl
  rw [horw] at hraw
  obtain ⟨es2, hes2⟩ : ∃ es2, dropE (entOf col key rv) es = es2 := ⟨_, rfl⟩
  rw [hes2] at HA2 hraw ⊢
  generalize (entOf col key rv).raw = rw0 at HE1 hraw
  have HE := HE1
  clear HE0 HE1 hOk horw hes2
  obtain ⟨o, k, m, s⟩ := rw0
  simp only at HE hraw
  go_enter Try.func24, Try.ntmps24
  go_upto_region 2 with (go_at_call 58; refine HE.mono ?_; rintro e w1 ⟨rfl, b1⟩)
  have bE : Below w.heap.size w (w1.alloc (.cells #[.string (bsOf o), .int .i64 k, .int .i64 m, .string s] 112)) := b1.alloc b1.size _
  have hP : Bk (w1.alloc (.cells #[.string (bsOf o), .int .i64 k, .int .i64 m, .string s] 112)) w1.heap.size #[.string (bsOf o), .int .i64 k, .int .i64 m, .string s] 112 := Bk.new w1 _ _
  generalize w1.alloc (.cells #[.string (bsOf o), .int .i64 k, .int .i64 m, .string s] 112) = w2 at bE hP ⊢
  obtain ⟨p, hp⟩ : ∃ p, w1.heap.size = p := ⟨_, rfl⟩
  rw [hp] at hP
  simp only [hp]
  obtain ⟨e0, e1, e2, e3⟩ := en_cells hP
  have HR := replace_any _ lo hi x col key es (h.past bE) o k m s none 0 0 [] (IsR.nilR _) (by omega) es2 hraw HA2 (by omega)
  clear hp
  go_wp2_with (go_at_call 59; refine HR.mono ?_; rintro e w3 ⟨rfl, hX3, g3⟩)
  go_end0
  exact XPost.lift ⟨rfl, hX3, g3⟩ bE
/-- The entries of rows that were added. -/
def ixOf (col key : Nat) (rs : List (List V)) : List En := rs.foldl (fun es r => addE (entOf col key r) es) []
theorem ixOf_take {col key : Nat} {rs : List (List V)} {j : Nat} {r : List V} (h : rs[j]? = some r) : ixOf col key (rs.take (j + 1)) = addE (entOf col key r) (ixOf col key (rs.take j)) := by
  obtain ⟨h1, rfl⟩ := List.getElem?_eq_some_iff.1 h
  unfold ixOf
  rw [List.take_succ_eq_append_getElem h1, List.foldl_append]
  rfl
theorem addE_len (e : En) (es : List En) : (addE e es).length ≤ es.length + 1 := by
  have := at_leO e.ord es
  unfold addE nxO
  split <;> simp <;> omega
theorem ixOf_len (col key : Nat) (rs : List (List V)) : (ixOf col key rs).length ≤ rs.length := by
  have H : ∀ (l : List (List V)) (es : List En), (l.foldl (fun es r => addE (entOf col key r) es) es).length ≤ es.length + l.length := by
    intro l
    induction l with
    | nil => intro es; exact Nat.le_refl _
    | cons r l ih =>
      intro es
      have h1 := ih (addE (entOf col key r) es)
      have h2 := addE_len (entOf col key r) es
      rw [List.foldl_cons, List.length_cons]
      omega
  have := H rs []
  unfold ixOf
  simpa using this
set_option maxRecDepth 100000 in
set_option maxHeartbeats 2000000 in
theorem build_any (w : World) (l : List UInt8) (co : Option Addr) (cn cc : Nat) (ky : Nat) (only : Bool) (ro : Option Addr) (rn rc : Nat) (B : Nat) (rs : List (List V)) (h : IsRR EV w B ro rn rc rs) (col : Nat) (hV : ∀ r ∈ rs, col < r.length ∧ ky < r.length ∧ Vok (kOf col r) ∧ Vok (kOf ky r)) (hn : rn ≤ 800) :
    Calls Try.prog 18 #[tbV l co cn cc (ky : Nat) only ro rn rc, .int .i64 (col : Nat)] w fun e w' => ∃ x, e = .returned (.pointer (some ⟨x, 0, none⟩)) ∧ IsX w' w.heap.size w'.heap.size x col ky (ixOf col ky rs) ∧ Below w.heap.size w w' := by
  have hln := h.len
  have B0 : Below w.heap.size w (w.alloc (.cells #[.string (bsOf l), .slice co cn cc, .int .i64 (ky : Nat), .bool only, .slice ro rn rc] 37)) := (Below.refl _ _).alloc (Nat.le_refl _) _
  have hT : Bk (w.alloc (.cells #[.string (bsOf l), .slice co cn cc, .int .i64 (ky : Nat), .bool only, .slice ro rn rc] 37)) w.heap.size (tbC l co cn cc (ky : Nat) only ro rn rc) 37 := Bk.new w _ _
  unfold tbV
  go_enter Try.func18, Try.ntmps18
  go_upto_region 1 with fail
  generalize w.alloc (.cells #[.string (bsOf l), .slice co cn cc, .int .i64 (ky : Nat), .bool only, .slice ro rn rc] 37) = W at B0 hT ⊢
  obtain ⟨p, hp⟩ : ∃ p, w.heap.size = p := ⟨_, rfl⟩
  rw [hp] at hT
  simp only [hp]
  have HP := Lib.hid hp
  have hpW : w.heap.size ≤ W.heap.size := B0.size
  clear hp
  obtain ⟨t0, t1, t2, t3, t4⟩ := tb_cells hT
  go_upto_region 2 with fail
  have B1 := B0.alloc B0.size (.cells #[.int .i64 (col : Nat), .int .i64 (ky : Nat), .pointer none] 109)
  have hX : Bk (W.alloc (.cells #[.int .i64 (col : Nat), .int .i64 (ky : Nat), .pointer none] 109)) W.heap.size (xC col ky none) 109 := Bk.new W _ _
  have hT1 := hT.alloc (.cells #[.int .i64 (col : Nat), .int .i64 (ky : Nat), .pointer none] 109)
  generalize W.alloc (.cells #[.int .i64 (col : Nat), .int .i64 (ky : Nat), .pointer none] 109) = w1 at B1 hX hT1 ⊢
  obtain ⟨x, hx⟩ : ∃ x, W.heap.size = x := ⟨_, rfl⟩
  rw [hx] at hX hpW
  simp only [hx]
  clear hx t0 t1 t2 t3 t4
  obtain ⟨t0, t1, t2, t3, t4⟩ := tb_cells hT1
  go_wp2_with fail
  go_loopw [17] (fun i wr => ∃ j : Nat, j ≤ rn ∧ i = .int .i64 (j : Nat) ∧ IsX wr w.heap.size wr.heap.size x col ky (ixOf col ky (rs.take j)) ∧ Below w.heap.size w wr) (fun i _ => rn - (intOf i).toNat)
  case atStart => exact ⟨0, Nat.zero_le _, rfl, ⟨none, hX, hpW, hX.lt, .inl ⟨rfl, by simp [ixOf]⟩, by simpa [ixOf] using Ents.nil⟩, B1⟩
  case round =>
    obtain ⟨j, hj, rfl, hXj, hB⟩ := hrel
    clear hX hT hT1 B1 t0 t1 t2 t3 t4 B0
    by_cases hlt : j < rn
    · have hlti : (j : Int) < (rn : Int) := by omega
      obtain ⟨r, hr⟩ : ∃ r, rs[j]? = some r := ⟨rs[j]'(by omega), List.getElem?_eq_getElem _⟩
      obtain ⟨b, off, y, rfl, hbx, hc, hy⟩ := h.at hr
      obtain ⟨hv1, hv2, hv3, hv4⟩ := hV r (List.mem_of_getElem? hr)
      obtain ⟨ya, yn, yc⟩ := y
      simp only at hc hy
      have hyl := hy.len
      rw [← hB.cell hbx] at hc
      have hel : (ixOf col ky (rs.take j)).length ≤ 800 := by
        have := ixOf_len col ky (rs.take j)
        rw [List.length_take] at this
        omega
      have HA := add_any wr _ _ x col ky _ hXj ya yn yc r (hy.past hB) (by omega) (by omega) hv3 hv4 (by omega)
      rw [← ixOf_take hr] at HA
      obtain ⟨es2, hes⟩ : ∃ es2, ixOf col ky (rs.take (j + 1)) = es2 := ⟨_, rfl⟩
      rw [hes] at HA
      have HES := Lib.hid hes
      clear hes hel hv1 hv2 hv3 hv4 hr
      go_wp2_with (go_at_call 27; refine HA.mono ?_; rintro e w3 ⟨rfl, hX3, g3⟩)
      go_roundw
      case rel => exact ⟨j + 1, by omega, by go_num, by rw [HES.out]; exact hX3, hB.grown g3 hB.size (fun z hz => by cases hz; exact hpW)⟩
      case measure => simp [intOf]; omega
    · have hlti : ¬ ((j : Int) < (rn : Int)) := by omega
      obtain rfl : j = rn := by omega
      rw [List.take_of_length_le (by omega)] at hXj
      go_wp2_with fail
      go_ret
      exact ⟨x, rfl, hXj, hB⟩
end Go.Proofs.Ytjacaammlkjodaa
namespace Go.Proofs.Ytjacaammlkjodaa
open Go.RowKit
set_option linter.unusedSimpArgs false
theorem front_any (w : World) (v : V) (hv : Vok v) : Calls Try.prog 63 #[vv v.k v.n v.s] w fun e w' => e = .returned (.string (bsOf (keyB v))) ∧ Below w.heap.size w w' := by
  have HK0 := fun w => keyBytes_any v hv w
  obtain ⟨LA, hLA⟩ : ∃ L, keyB v = L := ⟨_, rfl⟩
  simp only [hLA] at HK0 ⊢
  clear hLA hv
  obtain ⟨k, m, s⟩ := v
  have HK : ∀ w, Calls Try.prog 103 #[vv k m s] w fun e w' => ∃ g, e = .returned (.slice (some ⟨g, 0, none⟩) LA.length LA.length) ∧ IsB w' (some ⟨g, 0, none⟩) LA.length LA.length LA ∧ Below w.heap.size w w' ∧ w.heap.size ≤ g := HK0
  clear HK0
  have B0 : Below w.heap.size w (w.alloc (.cells #[.int .i64 k, .int .i64 m, .string s] 46)) := (Below.refl _ _).alloc (Nat.le_refl _) _
  simp only
  go_enter Try.func63, Try.ntmps63
  go_wp2_with (go_at_call 103; refine (HK _).mono ?_; rintro e w1 ⟨g, rfl, i1, b1, -⟩; have cv : ∀ d, Try.prog.underlying d = some .string → (convert 73 d (.slice (some ⟨g, 0, none⟩) LA.length LA.length)).run Try.prog w1 = .ok (.string (bsOf LA)) w1 := fun d hd => i1.conv byteTy hd; have cv2 := cv 122 Try.underlying122)
  go_ret
  exact ⟨rfl, B0.trans (b1.mono B0.size)⟩
theorem begins_any (w : World) (f o : List UInt8) (k n : Int) (s : ByteArray) : Calls Try.prog 65 #[.string (bsOf f), .agg #[.string (bsOf o), .int .i64 k, .int .i64 n, .string s]] w fun e w' => e = .returned (.bool (f.isPrefixOf o)) ∧ Below w.heap.size w w' := by
  have HC := fun w => Try.strings_HasPrefix (bsOf o) (bsOf f) w
  simp only [bsOf_list, Go.Lib.hasPrefix] at HC
  obtain ⟨C, hC⟩ : ∃ C, f.isPrefixOf o = C := ⟨_, rfl⟩
  simp only [hC] at HC ⊢
  clear hC
  have B : Below w.heap.size w (w.alloc (.cells #[.string (bsOf o), .int .i64 k, .int .i64 n, .string s] 112)) := (Below.refl _ _).alloc (Nat.le_refl _) _
  go_enter Try.func65, Try.ntmps65
  go_wp2_with (go_at_call 104; refine (HC _).mono ?_; rintro e w1 ⟨rfl, rfl⟩)
  go_ret
  exact ⟨rfl, B⟩
/-- The count is one more; whether it goes on. -/
theorem goes_any (w : World) (nb mb j : Nat) (most : Int) (a b c d : Value) (hn : w.cell? ⟨nb, 0, none⟩ = some (.int .i64 (j : Nat))) (hf : w.frozen? ⟨nb, 0, none⟩ = false) (hm : w.cell? ⟨mb, 0, none⟩ = some (.int .i64 most)) (hne : nb ≠ mb) (hj : j ≤ 100000) (B : Nat) (hB : B ≤ nb) (hBw : B ≤ w.heap.size) :
    Calls Try.prog 66 #[.agg #[a, b, c, d], .pointer (some ⟨nb, 0, none⟩), .pointer (some ⟨mb, 0, none⟩)] w fun e w' => e = .returned (.bool (decide (((j + 1 : Nat) : Int) ≤ most))) ∧ Below B w w' ∧ w'.cell? ⟨nb, 0, none⟩ = some (.int .i64 ((j + 1 : Nat) : Int)) ∧ w'.frozen? ⟨nb, 0, none⟩ = false ∧ w'.cell? ⟨mb, 0, none⟩ = some (.int .i64 most) ∧ w.grownBy w' (some nb) := by
  have hnb : nb < w.heap.size := World.block_lt_of_cell? w _ hn
  have hmb : mb < w.heap.size := World.block_lt_of_cell? w _ hm
  have B0 : Below w.heap.size w (w.alloc (.cells #[a, b, c, d] 112)) := (Below.refl _ _).alloc (Nat.le_refl _) _
  have hn1 := (B0.cell hnb).trans hn
  have hf1 := (B0.frozen hnb).trans hf
  have hm1 := (B0.cell hmb).trans hm
  have G0 := below_grownX B0 nb
  have BB : Below B w (w.alloc (.cells #[a, b, c, d] 112)) := B0.mono hBw
  go_enter Try.func66, Try.ntmps66
  go_upto_region 1 with fail
  generalize w.alloc (.cells #[a, b, c, d] 112) = W at hn1 hf1 hm1 BB G0 ⊢
  clear B0
  have c1 : (W.setCell ⟨nb, 0, none⟩ (.int .i64 ((j : Int) + 1))).cell? ⟨nb, 0, none⟩ = some (.int .i64 ((j : Int) + 1)) := World.cell?_setCell_same _ _ _ hn1
  have c2 : (W.setCell ⟨nb, 0, none⟩ (.int .i64 ((j : Int) + 1))).frozen? ⟨nb, 0, none⟩ = false := by go_simp
  have c3 : (W.setCell ⟨nb, 0, none⟩ (.int .i64 ((j : Int) + 1))).cell? ⟨mb, 0, none⟩ = some (.int .i64 most) := (World.cell?_setCell_other _ ⟨nb, 0, none⟩ ⟨mb, 0, none⟩ _ (by intro e; cases e; exact hne rfl)).trans hm1
  have g2 : w.grownBy (W.setCell ⟨nb, 0, none⟩ (.int .i64 ((j : Int) + 1))) (some nb) := grown_set' G0 0 _
  have B2 : Below B w (W.setCell ⟨nb, 0, none⟩ (.int .i64 ((j : Int) + 1))) := BB.setCell (p := ⟨nb, 0, none⟩) hB _
  go_wp2_with fail
  go_ret
  have e1 : ((j + 1 : Nat) : Int) = (j : Int) + 1 := by omega
  rw [e1]
  exact ⟨rfl, B2, c1, c2, c3, g2⟩
theorem IsR.cut_lP {P : Program} {t : TypeId} {α : Type} {E : Enc α} {w : World} {ao : Option Addr} {n cap : Nat} {l : List α} (h : IsR E w ao n cap l) (ht : P.underlying t = some (.slice (P.elem t))) (hz : ∀ w', (sizeOf (P.elem t)).run P w' = .ok E.sz w') (c : Nat) (hc : c ≤ n) :
    ∃ ao2, (∀ w', (Instr.slice t (.slice ao n cap) (some (.int .i64 (c : Nat))) none none).run P w' = .ok (.slice ao2 (n - c) (cap - c)) w') ∧ IsR E w ao2 (n - c) (cap - c) (l.drop c) ∧ (∀ Pd : Nat → Prop, (∀ a, ao = some a → Pd a.block) → ∀ a, ao2 = some a → Pd a.block) := by
  have hle := h.le
  have hln := h.len
  refine ⟨if cap = c then ao else ao.map fun a => a.add (c * E.sz), fun w' => ?_, ?_, fun Pd hB a ha => ?_⟩
  · rw [run_slice_l w' t ao n cap ht .i64 (c : Int) (by omega) (by omega), hz]
    simp only [Result.andThen, sliced, Int.toNat_natCast]
  · have := h.part c n cap hc (Nat.le_refl _) hle (Nat.le_refl _)
    rwa [List.take_of_length_le (by rw [List.length_drop]; omega)] at this
  · split at ha
    · exact hB a ha
    · obtain ⟨b, hb, rfl⟩ := Option.map_eq_some_iff.1 ha
      rw [add_block]
      exact hB b hb
theorem while_take {α : Type} {p : α → Bool} : ∀ {l : List α} {j : Nat}, (∀ i e, i < j → l[i]? = some e → p e = true) → (l.length ≤ j ∨ ∃ e, l[j]? = some e ∧ p e = false) → l.takeWhile p = l.take j
  | [], j, _, _ => by simp
  | a :: l, 0, _, h => by
    rcases h with h | ⟨e, h1, h2⟩
    · simp at h
    · obtain rfl : a = e := by simpa using h1
      rw [List.takeWhile_cons_of_neg (by rw [h2]; decide)]
      rfl
  | a :: l, j + 1, hp, h => by
    have h0 := hp 0 a (by omega) rfl
    rw [List.takeWhile_cons_of_pos h0, List.take_succ_cons, while_take (l := l) (j := j) (fun i e hi he => hp (i + 1) e (by omega) (by simpa using he)) (by
      rcases h with h | ⟨e, h1, h2⟩
      · left; simpa using h
      · right; exact ⟨e, by simpa using h1, h2⟩)]
theorem TxtR.ge {α : Type} {E : Enc α} {w : World} {e : TypeId} {B : Nat} {ao : Option Addr} {n c : Nat} {l : List α} (h : TxtR E w e B ao n c l) {z : Nat} (hz : blk ao = some z) : B ≤ z := by
  rcases h.either with ⟨rfl, -⟩ | ⟨g, rfl, -, hg⟩
  · cases hz
  · cases hz
    exact hg
theorem TxtR.isRm {α : Type} {E : Enc α} {w : World} {e : TypeId} {B : Nat} {ao : Option Addr} {n c : Nat} {l : List α} (h : TxtR E w e B ao n c l) : l.length = n := h.isR.len
set_option maxRecDepth 100000 in
set_option maxHeartbeats 2000000 in
theorem keysB_any (w : World) (lo hi x : Nat) (col key : Int) (es : List En) (h : IsX w lo hi x col key es) (f : List UInt8) (hn : es.length ≤ 1000) :
    Calls Try.prog 64 #[.pointer (some ⟨x, 0, none⟩), .string (bsOf f), .func (.func 65) #[.string (bsOf f)] #[]] w fun e w' => ∃ ao c, e = .returned (.slice ao ((((es.drop (atO f es)).takeWhile fun e => f.isPrefixOf e.ord).map En.k)).length c) ∧ TxtR EV w' 46 w.heap.size ao ((((es.drop (atO f es)).takeWhile fun e => f.isPrefixOf e.ord).map En.k)).length c ((((es.drop (atO f es)).takeWhile fun e => f.isPrefixOf e.ord).map En.k)) ∧ Below w.heap.size w w' := by
  obtain ⟨p0, hX0, hlo, -, hL0, hE⟩ := id h
  have HA := all_any w lo hi x col key es h
  have hNl := at_leO f es
  obtain ⟨RES, hRES⟩ : ∃ RES, (((es.drop (atO f es)).takeWhile fun e => f.isPrefixOf e.ord).map En.k) = RES := ⟨_, rfl⟩
  rw [hRES]
  obtain ⟨N, hN⟩ : ∃ N, atO f es = N := ⟨_, rfl⟩
  obtain ⟨tk, htk⟩ : ∃ tk, hasO f es = tk := ⟨_, rfl⟩
  obtain ⟨L, hL⟩ : ∃ L, es.length = L := ⟨_, rfl⟩
  have HFi0 := fun (ao : Option Addr) (c : Nat) (w' : World) (hi : IsR ER w' ao L c (es.map En.raw)) => ifind_any w' ao L c es hi f hE.srt (by omega)
  simp only [hN, htk] at HFi0 hNl hRES
  simp only [hL] at HA hNl
  have HRS := Lib.hid hRES
  clear htk hRES hN
  go_enter Try.func64, Try.ntmps64
  go_upto_region 2 with (go_at_call 62; refine HA.mono ?_; rintro e w1 ⟨ao, c, rfl, iA, fA, rfl⟩)
  have HFi := HFi0 ao c w iA
  go_upto_region 3 with (go_at_call 98; refine HFi.mono ?_; rintro e w2 ⟨rfl, b2⟩)
  obtain ⟨A1, hrun1, i0, F0⟩ := (iA.past b2).cut_lP (P := Try.prog) (t := 120) (by kernel_rfl) elemE N hNl
  have hFhi : ∀ a, A1 = some a → a.block < hi := F0 (fun z => z < hi) (fun a ha => (fA a ha).2)
  have hBw2 : w.heap.size ≤ w2.heap.size := Nat.le_trans (Nat.le_refl _) b2.size
  go_wp2_with fail
  go_loopw [10, 25] (fun z i wr => ∃ (j : Nat) (a : Option Addr) (d : Nat), j ≤ L - N ∧ z = .slice a j d ∧ i = .int .i64 (j : Nat) ∧ TxtR EV wr 46 w.heap.size a j d (((es.drop N).take j).map En.k) ∧ Below w.heap.size w wr ∧ (∀ i e, i < j → (es.drop N)[i]? = some e → f.isPrefixOf e.ord = true)) (fun _ i _ => L - N - (intOf i).toNat)
  case atStart => exact ⟨0, none, 0, Nat.zero_le _, rfl, rfl, TxtR.nil _ _ _, b2, (fun i e hi => by omega)⟩
  case round =>
    obtain ⟨j, a, d, hj, rfl, rfl, oK, hB, hPr⟩ := hrel
    have hBr : w.heap.size ≤ wr.heap.size := Nat.le_trans (Nat.le_refl _) hB.size
    have hiL := i0.le
    by_cases hlt : j < L - N
    · have hlti : (j : Int) < ((L - N : Nat) : Int) := by omega
      obtain ⟨en, hen⟩ : ∃ en, es[N + j]? = some en := ⟨es[N + j]'(by omega), List.getElem?_eq_getElem _⟩
      have hen2 : (es.drop N)[j]? = some en := by rw [List.getElem?_drop]; exact hen
      obtain ⟨b, off, rfl, hb, hc⟩ := i0.open (by omega) (by decide)
      obtain ⟨c0, c1, c2, c3⟩ := cells_r hc j en.raw (by rw [← List.map_drop, List.getElem?_map, hen2]; rfl)
      have hbhi := hFhi _ rfl
      simp only at hbhi
      have hbB : b < w.heap.size := F0 (fun z => z < w.heap.size) (fun a ha => by obtain ⟨b9, o9, hao, hb9, -⟩ := iA.open (by omega) (by decide); rw [hao] at ha; cases ha; exact hb9) _ rfl
      have hbw0 : b < w.heap.size := Nat.lt_of_lt_of_le hbB (Nat.le_refl _)
      rw [b2.cell hbw0, ← hB.cell hbB] at c0 c1 c2 c3
      have hbw : b < wr.heap.size := Nat.lt_of_lt_of_le hbB hBr
      have hnext : (((es.drop N).take (j + 1)).map En.k) = (((es.drop N).take j).map En.k) ++ [en.k] := by
        obtain ⟨h1, h2⟩ := List.getElem?_eq_some_iff.1 hen2
        rw [List.take_succ_eq_append_getElem h1, h2, List.map_append]
        rfl
      obtain ⟨xo, hxo⟩ : ∃ xo, en.raw = xo := ⟨_, rfl⟩
      have hxk : en.k = xo.k := by rw [← hxo]; rfl
      have hxr : en.ord = xo.o := by rw [← hxo]; rfl
      rw [hxo] at c0 c1 c2 c3
      rw [hxk] at hnext
      have HCL0 : ∀ w', Below wr.heap.size wr w' → w.heap.size ≤ w'.heap.size → Calls Try.prog 65 #[.string (bsOf f), .agg #[.string (bsOf xo.o), .int .i64 xo.k.k, .int .i64 xo.k.n, .string xo.k.s]] w' fun e w'' => e = .returned (.bool (f.isPrefixOf xo.o)) ∧ Below w'.heap.size w' w'' := fun w' _ _ => begins_any w' f xo.o xo.k.k xo.k.n xo.k.s
      have HOR := Lib.hid hxr
      obtain ⟨o, xk⟩ := xo
      obtain ⟨k, m, s⟩ := xk
      simp only at c0 c1 c2 c3 hnext HCL0
      have HNX := Lib.hid hnext
      have HEN := Lib.hid hen2
      clear hnext hxo hxk hxr hc hen hen2
      have hE1 : Below wr.heap.size wr (wr.alloc (.cells #[.string (bsOf o), .int .i64 k, .int .i64 m, .string s] 112)) := (Below.refl _ _).alloc (Nat.le_refl _) _
      have hP : Bk (wr.alloc (.cells #[.string (bsOf o), .int .i64 k, .int .i64 m, .string s] 112)) wr.heap.size #[.string (bsOf o), .int .i64 k, .int .i64 m, .string s] 112 := Bk.new wr _ _
      go_upto_region 7 with fail
      generalize wr.alloc (.cells #[.string (bsOf o), .int .i64 k, .int .i64 m, .string s] 112) = W7 at hE1 hP ⊢
      obtain ⟨p, hp⟩ : ∃ p, wr.heap.size = p := ⟨_, rfl⟩
      have hpB : w.heap.size ≤ p := by rw [← hp]; exact hBr
      rw [hp] at hP
      simp only [hp]
      obtain ⟨e0, e1, e2, e3⟩ := en_cells hP
      have oK7 := oK.past hE1
      have hB7 := hB.trans (hE1.mono hBr)
      have hBr7 := Nat.le_trans hBr hE1.size
      have hp7 := hP.lt
      have HCL := HCL0 W7 hE1 hBr7
      obtain ⟨g, hg⟩ : ∃ g, f.isPrefixOf o = g := ⟨_, rfl⟩
      rw [hg] at HCL
      have HG := Lib.hid hg
      clear hg hp HCL0
      cases g with
      | true =>
        go_upto_region 8 with (go_at_call 65; refine HCL.mono ?_; rintro en8 w8 ⟨rfl, b80⟩; have b8 := b80.mono hBr7; have hP8 := hP.past b80)
        have oK8 := oK7.past b80
        have hB8 := hB7.trans b8
        obtain ⟨e0, e1, e2, e3⟩ := en_cells hP8
        have hLit : IsR EV (w8.alloc (.cells #[.int .i64 k, .int .i64 m, .string s] 46)) (some ⟨w8.heap.size, 0, none⟩) 1 1 [⟨k, m, s⟩] := (OwnR.ofBlk (E := EV) (l := [⟨k, m, s⟩]) (n := 1) (heap_alloc_new w8 _) rfl rfl (by omega)).isR
        have oK9 := oK8.alloc' (.cells #[.int .i64 k, .int .i64 m, .string s] 46)
        have hB9 := hB8.alloc (Nat.le_trans hBr7 b8.size) (.cells #[.int .i64 k, .int .i64 m, .string s] 46)
        have hw8 := hB8.size
        have hs9 : w.heap.size ≤ (w8.alloc (.cells #[.int .i64 k, .int .i64 m, .string s] 46)).heap.size := by rw [World.size_alloc]; omega
        have hp8 := hP8.lt
        clear c0 c1 c2 c3
        go_wp2_with (at_builtin; refine wpList_append_txtR rfl _ _ 41 41 rfl 46 rowTyV w.heap.size a j d _ rfl oK9 hs9 _ rfl 1 [⟨k, m, s⟩] (hLit.src Try.underlying41) rfl (by omega) ?_; intro a3 d3 w9 o9 b9)
        go_roundw
        case rel => exact ⟨j + 1, a3, d3, by omega, rfl, by go_num, by rw [HNX.out]; exact o9, hB9.trans (b9.mono (Nat.le_refl _)), fun i e hi he => (by rcases Nat.lt_or_eq_of_le (Nat.le_of_lt_succ hi) with q | q; exact hPr i e q he; (subst q; obtain rfl := Option.some.inj (HEN.out.symm.trans he); rw [HOR.out]; exact HG.out))⟩
        case measure => simp [intOf]; omega
      | false =>
        have HR : Hid (RES = ((es.drop N).take j).map En.k) := by
          show _ = _
          rw [← HRS.out]
          rw [while_take (j := j) hPr (.inr ⟨en, HEN.out, by rw [HOR.out]; exact HG.out⟩)]
        go_wp2_with (go_at_call 65; refine HCL.mono ?_; rintro en8 w8 ⟨rfl, b80⟩; have b8 := b80.mono hBr7; have hP8 := hP.past b80)
        go_ret
        have hl : RES.length = j := by rw [HR.out]; exact oK.isRm
        rw [hl, HR.out]
        exact ⟨a, d, rfl, oK7.past b80, hB7.trans b8⟩
    · have hlti : ¬ ((j : Int) < ((L - N : Nat) : Int)) := by omega
      obtain rfl : j = L - N := by omega
      have HR : Hid (RES = ((es.drop N).take (L - N)).map En.k) := by
        show _ = _
        rw [← HRS.out]
        rw [while_take (j := L - N) hPr (.inl (by rw [List.length_drop, hL]; exact Nat.le_refl _))]
      go_wp2_with fail
      go_ret
      have hl : RES.length = L - N := by rw [HR.out]; exact oK.isRm
      rw [hl, HR.out]
      exact ⟨a, d, rfl, oK, hB⟩
set_option maxRecDepth 100000 in
set_option maxHeartbeats 2000000 in
theorem keysF_any (w : World) (lo hi x : Nat) (col key : Int) (es : List En) (h : IsX w lo hi x col key es) (f : List UInt8) (hn : es.length ≤ 1000) (nb mb : Nat) (most : Int) (Bd : Nat) (hiB : hi ≤ Bd) (hBn : Bd ≤ nb) (hBw0 : Bd ≤ w.heap.size) (hn0 : w.cell? ⟨nb, 0, none⟩ = some (.int .i64 ((0 : Nat) : Int))) (hf0 : w.frozen? ⟨nb, 0, none⟩ = false) (hm0 : w.cell? ⟨mb, 0, none⟩ = some (.int .i64 most)) (hnm : nb ≠ mb) :
    Calls Try.prog 64 #[.pointer (some ⟨x, 0, none⟩), .string (bsOf f), .func (.func 66) #[] #[.pointer (some ⟨nb, 0, none⟩), .pointer (some ⟨mb, 0, none⟩)]] w fun e w' => ∃ ao c, e = .returned (.slice ao ((((es.drop (atO f es)).take most.toNat).map En.k)).length c) ∧ TxtR EV w' 46 w.heap.size ao ((((es.drop (atO f es)).take most.toNat).map En.k)).length c ((((es.drop (atO f es)).take most.toNat).map En.k)) ∧ Below Bd w w' := by
  obtain ⟨p0, hX0, hlo, -, hL0, hE⟩ := id h
  have hnb0 : nb < w.heap.size := World.block_lt_of_cell? w _ hn0
  have hmb0 : mb < w.heap.size := World.block_lt_of_cell? w _ hm0
  have HA := all_any w lo hi x col key es h
  have hNl := at_leO f es
  obtain ⟨RES, hRES⟩ : ∃ RES, (((es.drop (atO f es)).take most.toNat).map En.k) = RES := ⟨_, rfl⟩
  rw [hRES]
  obtain ⟨N, hN⟩ : ∃ N, atO f es = N := ⟨_, rfl⟩
  obtain ⟨tk, htk⟩ : ∃ tk, hasO f es = tk := ⟨_, rfl⟩
  obtain ⟨L, hL⟩ : ∃ L, es.length = L := ⟨_, rfl⟩
  have HFi0 := fun (ao : Option Addr) (c : Nat) (w' : World) (hi : IsR ER w' ao L c (es.map En.raw)) => ifind_any w' ao L c es hi f hE.srt (by omega)
  simp only [hN, htk] at HFi0 hNl hRES
  simp only [hL] at HA hNl
  have HRS := Lib.hid hRES
  clear htk hRES hN
  go_enter Try.func64, Try.ntmps64
  go_upto_region 2 with (go_at_call 62; refine HA.mono ?_; rintro e w1 ⟨ao, c, rfl, iA, fA, rfl⟩)
  have HFi := HFi0 ao c w iA
  go_upto_region 3 with (go_at_call 98; refine HFi.mono ?_; rintro e w2 ⟨rfl, b2⟩)
  obtain ⟨A1, hrun1, i0, F0⟩ := (iA.past b2).cut_lP (P := Try.prog) (t := 120) (by kernel_rfl) elemE N hNl
  have hFhi : ∀ a, A1 = some a → a.block < hi := F0 (fun z => z < hi) (fun a ha => (fA a ha).2)
  have hBw2 : Bd ≤ w2.heap.size := Nat.le_trans hBw0 b2.size
  go_wp2_with fail
  go_loopw [10, 25] (fun z i wr => ∃ (j : Nat) (a : Option Addr) (d : Nat), j ≤ L - N ∧ z = .slice a j d ∧ i = .int .i64 (j : Nat) ∧ TxtR EV wr 46 w.heap.size a j d (((es.drop N).take j).map En.k) ∧ Below Bd w wr ∧ wr.cell? ⟨nb, 0, none⟩ = some (.int .i64 (j : Nat)) ∧ wr.frozen? ⟨nb, 0, none⟩ = false ∧ wr.cell? ⟨mb, 0, none⟩ = some (.int .i64 most) ∧ Hid ((j : Int) ≤ most ∨ j = 0)) (fun _ i _ => L - N - (intOf i).toNat)
  case atStart => exact ⟨0, none, 0, Nat.zero_le _, rfl, rfl, TxtR.nil _ _ _, b2.mono hBw0, (b2.cell hnb0).trans hn0, (b2.frozen hnb0).trans hf0, (b2.cell hmb0).trans hm0, .inr rfl⟩
  case round =>
    obtain ⟨j, a, d, hj, rfl, rfl, oK, hB, hnR, hfR, hmR, hjR⟩ := hrel
    have hBr : Bd ≤ wr.heap.size := Nat.le_trans hBw0 hB.size
    have hiL := i0.le
    by_cases hlt : j < L - N
    · have hlti : (j : Int) < ((L - N : Nat) : Int) := by omega
      obtain ⟨en, hen⟩ : ∃ en, es[N + j]? = some en := ⟨es[N + j]'(by omega), List.getElem?_eq_getElem _⟩
      have hen2 : (es.drop N)[j]? = some en := by rw [List.getElem?_drop]; exact hen
      obtain ⟨b, off, rfl, hb, hc⟩ := i0.open (by omega) (by decide)
      obtain ⟨c0, c1, c2, c3⟩ := cells_r hc j en.raw (by rw [← List.map_drop, List.getElem?_map, hen2]; rfl)
      have hbhi := hFhi _ rfl
      simp only at hbhi
      have hbB : b < Bd := Nat.lt_of_lt_of_le hbhi hiB
      have hbw0 : b < w.heap.size := Nat.lt_of_lt_of_le hbB hBw0
      rw [b2.cell hbw0, ← hB.cell hbB] at c0 c1 c2 c3
      have hbw : b < wr.heap.size := Nat.lt_of_lt_of_le hbB hBr
      have hnext : (((es.drop N).take (j + 1)).map En.k) = (((es.drop N).take j).map En.k) ++ [en.k] := by
        obtain ⟨h1, h2⟩ := List.getElem?_eq_some_iff.1 hen2
        rw [List.take_succ_eq_append_getElem h1, h2, List.map_append]
        rfl
      obtain ⟨xo, hxo⟩ : ∃ xo, en.raw = xo := ⟨_, rfl⟩
      have hxk : en.k = xo.k := by rw [← hxo]; rfl
      have hxr : en.ord = xo.o := by rw [← hxo]; rfl
      rw [hxo] at c0 c1 c2 c3
      rw [hxk] at hnext
      have hHO := Lib.hid hxr
      have hwS := hB.size
      have HCL0 : ∀ w', Below wr.heap.size wr w' → Bd ≤ w'.heap.size → Calls Try.prog 66 #[.agg #[.string (bsOf xo.o), .int .i64 xo.k.k, .int .i64 xo.k.n, .string xo.k.s], .pointer (some ⟨nb, 0, none⟩), .pointer (some ⟨mb, 0, none⟩)] w' fun e w'' => e = .returned (.bool (decide (((j + 1 : Nat) : Int) ≤ most))) ∧ Below Bd w' w'' ∧ w''.cell? ⟨nb, 0, none⟩ = some (.int .i64 ((j + 1 : Nat) : Int)) ∧ w''.frozen? ⟨nb, 0, none⟩ = false ∧ w''.cell? ⟨mb, 0, none⟩ = some (.int .i64 most) ∧ w'.grownBy w'' (some nb) := fun w' hq hz => goes_any w' nb mb j most _ _ _ _ ((hq.cell (Nat.lt_of_lt_of_le hnb0 hwS)).trans hnR) ((hq.frozen (Nat.lt_of_lt_of_le hnb0 hwS)).trans hfR) ((hq.cell (Nat.lt_of_lt_of_le hmb0 hwS)).trans hmR) hnm (by omega) Bd hBn hz
      obtain ⟨o, xk⟩ := xo
      obtain ⟨k, m, s⟩ := xk
      simp only at c0 c1 c2 c3 hnext HCL0
      have HNX := Lib.hid hnext
      have HEN := Lib.hid hen2
      clear hnext hxo hxk hxr hc hen hen2
      have hE1 : Below wr.heap.size wr (wr.alloc (.cells #[.string (bsOf o), .int .i64 k, .int .i64 m, .string s] 112)) := (Below.refl _ _).alloc (Nat.le_refl _) _
      have hP : Bk (wr.alloc (.cells #[.string (bsOf o), .int .i64 k, .int .i64 m, .string s] 112)) wr.heap.size #[.string (bsOf o), .int .i64 k, .int .i64 m, .string s] 112 := Bk.new wr _ _
      go_upto_region 7 with fail
      generalize wr.alloc (.cells #[.string (bsOf o), .int .i64 k, .int .i64 m, .string s] 112) = W7 at hE1 hP ⊢
      have hpn : nb < wr.heap.size := Nat.lt_of_lt_of_le hnb0 hwS
      obtain ⟨p, hp⟩ : ∃ p, wr.heap.size = p := ⟨_, rfl⟩
      rw [hp] at hpn
      have hpB : Bd ≤ p := by rw [← hp]; exact hBr
      rw [hp] at hP
      simp only [hp]
      obtain ⟨e0, e1, e2, e3⟩ := en_cells hP
      have oK7 := oK.past hE1
      have hB7 := hB.trans (hE1.mono hBr)
      have hBr7 := Nat.le_trans hBr hE1.size
      have hp7 := hP.lt
      have HCL := HCL0 W7 hE1 hBr7
      obtain ⟨g, hg⟩ : ∃ g, decide (((j + 1 : Nat) : Int) ≤ most) = g := ⟨_, rfl⟩
      rw [hg] at HCL
      have HG := Lib.hid hg
      clear hg hp HCL0
      cases g with
      | true =>
        go_upto_region 8 with (go_at_call 66; refine HCL.mono ?_; rintro en8 w8 ⟨rfl, b8, n8, f8, m8, g8⟩; have hP8 := hP.grown g8 (fun e => by have := Option.some.inj e; omega))
        have oK8 := oK7.grown g8 (fun z hz e => by have := Option.some.inj e; have := oK7.ge hz; omega)
        have hB8 := hB7.trans b8
        obtain ⟨e0, e1, e2, e3⟩ := en_cells hP8
        have hLit : IsR EV (w8.alloc (.cells #[.int .i64 k, .int .i64 m, .string s] 46)) (some ⟨w8.heap.size, 0, none⟩) 1 1 [⟨k, m, s⟩] := (OwnR.ofBlk (E := EV) (l := [⟨k, m, s⟩]) (n := 1) (heap_alloc_new w8 _) rfl rfl (by omega)).isR
        have oK9 := oK8.alloc' (.cells #[.int .i64 k, .int .i64 m, .string s] 46)
        have hB9 := hB8.alloc (Nat.le_trans hBr7 b8.size) (.cells #[.int .i64 k, .int .i64 m, .string s] 46)
        have hw8 := hB8.size
        have hAl : Below w8.heap.size w8 (w8.alloc (.cells #[.int .i64 k, .int .i64 m, .string s] 46)) := (Below.refl _ _).alloc (Nat.le_refl _) _
        have hs9 : w.heap.size ≤ (w8.alloc (.cells #[.int .i64 k, .int .i64 m, .string s] 46)).heap.size := by rw [World.size_alloc]; omega
        have hp8 := hP8.lt
        clear c0 c1 c2 c3
        go_wp2_with (at_builtin; refine wpList_append_txtR rfl _ _ 41 41 rfl 46 rowTyV w.heap.size a j d _ rfl oK9 hs9 _ rfl 1 [⟨k, m, s⟩] (hLit.src Try.underlying41) rfl (by omega) ?_; intro a3 d3 w9 o9 b9)
        go_roundw
        case rel => exact ⟨j + 1, a3, d3, by omega, rfl, by go_num, by rw [HNX.out]; exact o9, hB9.trans (b9.mono hBw0), (b9.cell hnb0).trans ((hAl.cell (Nat.lt_of_lt_of_le hnb0 hw8)).trans n8), (b9.frozen hnb0).trans ((hAl.frozen (Nat.lt_of_lt_of_le hnb0 hw8)).trans f8), (b9.cell hmb0).trans ((hAl.cell (Nat.lt_of_lt_of_le hmb0 hw8)).trans m8), .inl (of_decide_eq_true HG.out)⟩
        case measure => simp [intOf]; omega
      | false =>
        have HR : Hid (RES = ((es.drop N).take j).map En.k) := by
          show _ = _
          rw [← HRS.out]
          rw [show most.toNat = j by have := of_decide_eq_false HG.out; rcases hjR.out with q | q <;> omega]
        go_wp2_with (go_at_call 66; refine HCL.mono ?_; rintro en8 w8 ⟨rfl, b8, n8, f8, m8, g8⟩; have hP8 := hP.grown g8 (fun e => by have := Option.some.inj e; omega))
        go_ret
        have hl : RES.length = j := by rw [HR.out]; exact oK.isRm
        rw [hl, HR.out]
        exact ⟨a, d, rfl, oK7.grown g8 (fun z hz e => by have := Option.some.inj e; have := oK7.ge hz; omega), hB7.trans b8⟩
    · have hlti : ¬ ((j : Int) < ((L - N : Nat) : Int)) := by omega
      obtain rfl : j = L - N := by omega
      have HR : Hid (RES = ((es.drop N).take (L - N)).map En.k) := by
        show _ = _
        rw [← HRS.out]
        rw [List.take_of_length_le (by rw [List.length_drop, hL]; rcases hjR.out with q | q <;> omega), List.take_of_length_le (by rw [List.length_drop, hL]; exact Nat.le_refl _)]
      go_wp2_with fail
      go_ret
      have hl : RES.length = L - N := by rw [HR.out]; exact oK.isRm
      rw [hl, HR.out]
      exact ⟨a, d, rfl, oK, hB⟩
end Go.Proofs.Ytjacaammlkjodaa
namespace Go.Proofs.Ytjacaammlkjodaa
open Go.RowKit
set_option linter.unusedSimpArgs false
set_option maxRecDepth 100000 in
theorem keys_any (w : World) (lo hi x : Nat) (col key : Int) (es : List En) (h : IsX w lo hi x col key es) (hn : es.length ≤ 1000) (v : V) (hv : Vok v) :
    Calls Try.prog 31 #[.pointer (some ⟨x, 0, none⟩), vv v.k v.n v.s] w fun e w' => ∃ ao c, e = .returned (.slice ao (keysE v es).length c) ∧ TxtR EV w' 46 w.heap.size ao (keysE v es).length c (keysE v es) ∧ Below w.heap.size w w' := by
  have hmf : ∀ (fn : Fn) (first cap : Array Value) (w : World), (Instr.makeFunc fn first cap).run Try.prog w = .ok (.func fn first cap) w := fun _ _ _ _ => rfl
  have HF0 := fun w => front_any w v hv
  have HK0 := fun (w' : World) (hx : IsX w' lo hi x col key es) => keysB_any w' lo hi x col key es hx (keyB v) hn
  have hRE : (((es.drop (atO (keyB v) es)).takeWhile fun e => (keyB v).isPrefixOf e.ord).map En.k) = keysE v es := rfl
  simp only [hRE] at HK0
  obtain ⟨RES, hRES⟩ : ∃ RES, keysE v es = RES := ⟨_, rfl⟩
  obtain ⟨f, hf⟩ : ∃ f, keyB v = f := ⟨_, rfl⟩
  simp only [hRES, hf] at HF0 HK0 ⊢
  clear hRE hRES hf hv
  obtain ⟨k, m, s⟩ := v
  simp only at HF0
  have B0 : Below w.heap.size w (w.alloc (.cells #[.int .i64 k, .int .i64 m, .string s] 46)) := (Below.refl _ _).alloc (Nat.le_refl _) _
  simp only
  go_enter Try.func31, Try.ntmps31
  go_upto_region 2 with (go_at_call 63; refine (HF0 _).mono ?_; rintro e w1 ⟨rfl, b1⟩)
  have B1 := B0.trans (b1.mono B0.size)
  have HK := HK0 w1 (h.past B1)
  go_wp2_with (go_at_call 64; refine HK.mono ?_; rintro e w2 ⟨ao, c, rfl, o2, b2⟩)
  go_ret
  exact ⟨ao, c, rfl, o2.lower B1.size, B1.trans (b2.mono B1.size)⟩
set_option maxRecDepth 100000 in
theorem from_any (w : World) (lo hi x : Nat) (col key : Int) (es : List En) (h : IsX w lo hi x col key es) (hhi : hi ≤ w.heap.size) (hn : es.length ≤ 1000) (v : V) (hv : Vok v) (most : Int) :
    Calls Try.prog 33 #[.pointer (some ⟨x, 0, none⟩), vv v.k v.n v.s, .int .i64 most] w fun e w' => ∃ ao c, e = .returned (.slice ao (fromE v most es).length c) ∧ TxtR EV w' 46 w.heap.size ao (fromE v most es).length c (fromE v most es) ∧ Below w.heap.size w w' := by
  have hmf : ∀ (fn : Fn) (first cap : Array Value) (w : World), (Instr.makeFunc fn first cap).run Try.prog w = .ok (.func fn first cap) w := fun _ _ _ _ => rfl
  have HF0 := fun w => front_any w v hv
  have HK0 := fun (w' : World) (hx : IsX w' lo hi x col key es) (nb mb : Nat) (Bd : Nat) (a1 : hi ≤ Bd) (a2 : Bd ≤ nb) (a3 : Bd ≤ w'.heap.size) (a4 : w'.cell? ⟨nb, 0, none⟩ = some (.int .i64 ((0 : Nat) : Int))) (a5 : w'.frozen? ⟨nb, 0, none⟩ = false) (a6 : w'.cell? ⟨mb, 0, none⟩ = some (.int .i64 most)) (a7 : nb ≠ mb) => keysF_any w' lo hi x col key es hx (keyB v) hn nb mb most Bd a1 a2 a3 a4 a5 a6 a7
  have hRE : (((es.drop (atO (keyB v) es)).take most.toNat).map En.k) = fromE v most es := rfl
  simp only [hRE] at HK0
  obtain ⟨RES, hRES⟩ : ∃ RES, fromE v most es = RES := ⟨_, rfl⟩
  obtain ⟨f, hf⟩ : ∃ f, keyB v = f := ⟨_, rfl⟩
  simp only [hRES, hf] at HF0 HK0 ⊢
  clear hRE hRES hf hv
  obtain ⟨k, m, s⟩ := v
  simp only at HF0
  simp only
  have B0 : Below w.heap.size w ((w.alloc (.cells #[.int .i64 k, .int .i64 m, .string s] 46)).alloc (.cells #[.int .i64 most] 3)) := ((Below.refl _ _).alloc (Nat.le_refl _) _).alloc (by simp) _
  have hV : VAt ((w.alloc (.cells #[.int .i64 k, .int .i64 m, .string s] 46)).alloc (.cells #[.int .i64 most] 3)) w.heap.size k m s := (VAt.new w k m s).alloc _
  have hM : Bk ((w.alloc (.cells #[.int .i64 k, .int .i64 m, .string s] 46)).alloc (.cells #[.int .i64 most] 3)) (w.heap.size + 1) #[.int .i64 most] 3 := by
    have := Bk.new (w.alloc (.cells #[.int .i64 k, .int .i64 m, .string s] 46)) #[.int .i64 most] 3
    rwa [World.size_alloc] at this
  go_enter Try.func33, Try.ntmps33
  go_upto_region 1 with fail
  generalize (w.alloc (.cells #[.int .i64 k, .int .i64 m, .string s] 46)).alloc (.cells #[.int .i64 most] 3) = W at B0 hV hM ⊢
  obtain ⟨p, hp⟩ : ∃ p, w.heap.size = p := ⟨_, rfl⟩
  obtain ⟨mb, hmb⟩ : ∃ mb, p + 1 = mb := ⟨_, rfl⟩
  rw [hp] at hM
  rw [hmb] at hM
  rw [hp] at hV
  simp only [hp, hmb]
  have hpmb : p < mb := by omega
  have hwp : w.heap.size = p := hp
  have HW := Lib.hid hwp
  clear hp hmb hwp
  go_upto_region 2 with fail
  have B1 := B0.alloc B0.size (.cells #[.int .i64 0] 3)
  have hV1 := hV.alloc (.cells #[.int .i64 0] 3)
  have hM1 := hM.alloc (.cells #[.int .i64 0] 3)
  have hNb : Bk (W.alloc (.cells #[.int .i64 0] 3)) W.heap.size #[.int .i64 0] 3 := Bk.new W _ _
  have hmW := hM.lt
  generalize W.alloc (.cells #[.int .i64 0] 3) = W1 at B1 hV1 hM1 hNb ⊢
  obtain ⟨nb, hnb⟩ : ∃ nb, W.heap.size = nb := ⟨_, rfl⟩
  rw [hnb] at hNb hmW
  simp only [hnb]
  clear hnb hV hM B0
  obtain ⟨q0, q1, q2, -, -, -, hpB⟩ := hV1
  have n0 : W1.cell? ⟨nb, 0, none⟩ = some (.int .i64 0) := hNb.c rfl
  have m0 : W1.cell? ⟨mb, 0, none⟩ = some (.int .i64 most) := hM1.c rfl
  have f0 : W1.frozen? ⟨nb, 0, none⟩ = false := free_blk hNb
  have hx1 := h.past B1
  have hwn : w.heap.size ≤ nb := by rw [HW.out]; omega
  go_wp2_with (first
    | (go_at_call 63; refine (HF0 _).mono ?_; rintro e w1 ⟨rfl, b1⟩; have hx2 := hx1.past b1; have B2 := B1.trans (b1.mono B1.size); have HK := HK0 w1 hx2 nb mb w.heap.size hhi hwn B2.size ((b1.cell hNb.lt).trans n0) ((b1.frozen hNb.lt).trans f0) ((b1.cell hM1.lt).trans m0) (by omega))
    | (go_at_call 64; refine HK.mono ?_; rintro e w2 ⟨ao, c, rfl, o2, b2⟩))
  go_ret
  exact ⟨ao, c, rfl, o2.lower B2.size, B2.trans b2⟩
end Go.Proofs.Ytjacaammlkjodaa
