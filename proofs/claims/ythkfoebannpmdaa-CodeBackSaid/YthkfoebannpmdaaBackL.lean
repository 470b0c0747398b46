/-
  CodeBack: the bytes, and what a reader holds of them on the way, in each of its three rounds.
-/
import Derived.Test.YthkfoebannpmdaaReads
namespace Go.Proofs.Ythkfoebannpmdaa
open Go.RowKit

def encI : List Int → List UInt8
  | [] => []
  | v :: r => le 8 (XU v) ++ encI r
def txt (s : ByteArray) : List UInt8 := le 2 s.size ++ s.data.toList
def encS : List ByteArray → List UInt8
  | [] => []
  | s :: r => txt s ++ encS r
theorem encI_snoc : ∀ (a : List Int) (v : Int), encI (a ++ [v]) = encI a ++ le 8 (XU v)
  | [], v => by simp [encI]
  | x :: a, v => by rw [List.cons_append, encI, encI_snoc a v, encI, List.append_assoc]
theorem encS_snoc : ∀ (a : List ByteArray) (v : ByteArray), encS (a ++ [v]) = encS a ++ txt v
  | [], v => by simp [encS]
  | x :: a, v => by rw [List.cons_append, encS, encS_snoc a v, encS, List.append_assoc]
theorem encI_take (vs : List Int) (j : Nat) (v : Int) (h : vs[j]? = some v) : encI (vs.take (j + 1)) = encI (vs.take j) ++ le 8 (XU v) := by
  obtain ⟨hj, rfl⟩ := List.getElem?_eq_some_iff.1 h
  rw [List.take_succ_eq_append_getElem hj, encI_snoc]
theorem encS_take (vs : List ByteArray) (j : Nat) (v : ByteArray) (h : vs[j]? = some v) : encS (vs.take (j + 1)) = encS (vs.take j) ++ txt v := by
  obtain ⟨hj, rfl⟩ := List.getElem?_eq_some_iff.1 h
  rw [List.take_succ_eq_append_getElem hj, encS_snoc]
theorem encI_drop (vs : List Int) (j : Nat) (v : Int) (h : vs[j]? = some v) : encI (vs.drop j) = le 8 (XU v) ++ encI (vs.drop (j + 1)) := by
  obtain ⟨hj, rfl⟩ := List.getElem?_eq_some_iff.1 h
  rw [List.drop_eq_getElem_cons hj, encI]
theorem encS_drop (vs : List ByteArray) (j : Nat) (v : ByteArray) (h : vs[j]? = some v) : encS (vs.drop j) = txt v ++ encS (vs.drop (j + 1)) := by
  obtain ⟨hj, rfl⟩ := List.getElem?_eq_some_iff.1 h
  rw [List.drop_eq_getElem_cons hj, encS]

/-- IN ROUND k, R BEING ALL THAT IS STILL TO BE READ OF THE WHOLE: what the reader holds, and its error. -/
def tl (k : Nat) : List UInt8 := if k = 1 then [7] else []
def St (k : Nat) (R l : List UInt8) (e : Int) : Prop :=
  (k = 2 ∧ ((e = 0 ∧ R ≠ [] ∧ l = R.dropLast) ∨ e = 8)) ∨ (k ≠ 2 ∧ e = 0 ∧ l = R ++ tl k)

theorem er_cut {m : Nat} {l : List UInt8} (h : l.length < m) : er m l 0 = 8 := by rw [er, if_neg (by omega), err1_zero]
theorem front (a r : List UInt8) : tk a.length (a ++ r) = a ∧ dr a.length (a ++ r) = r ∧ er a.length (a ++ r) 0 = 0 := by
  have h : a.length ≤ (a ++ r).length := by rw [List.length_append]; omega
  rw [tk, dr, er, if_pos h, if_pos h, if_pos h, List.take_left, List.drop_left]
  exact ⟨rfl, rfl, rfl⟩

theorem st_num (k : Nat) (a R l : List UInt8) (e : Int) (ha : a ≠ []) (h : St k (a ++ R) l e) :
    St k R (dN a.length l e) (eN a.length l e) ∧ (k ≠ 2 → vN a.length l e = wrap64 (num a)) := by
  rcases h with ⟨hk, ⟨rfl, _, rfl⟩ | rfl⟩ | ⟨hk, rfl, rfl⟩
  · refine ⟨.inl ⟨hk, ?_⟩, fun h => absurd hk h⟩
    rw [dN, eN, if_pos rfl, if_pos rfl]
    by_cases hR : R = []
    · subst hR
      refine .inr (er_cut ?_)
      rw [List.append_nil, List.length_dropLast]
      have := List.length_pos_iff.2 ha
      omega
    · rw [List.dropLast_append_of_ne_nil hR, (front a _).2.1, (front a _).2.2]
      exact .inl ⟨rfl, hR, rfl⟩
  · refine ⟨.inl ⟨hk, .inr ?_⟩, fun h => absurd hk h⟩
    rw [eN, if_neg (by omega)]
  · refine ⟨.inr ⟨hk, ?_, ?_⟩, fun _ => ?_⟩
    · rw [eN, if_pos rfl, List.append_assoc, (front a _).2.2]
    · rw [dN, if_pos rfl, List.append_assoc, (front a _).2.1]
    · rw [vN, if_pos rfl, List.append_assoc, (front a _).1]

theorem text_front (s : List UInt8) (hs : s.length < 65536) (r : List UInt8) : vT (le 2 s.length ++ (s ++ r)) 0 = s ∧ dT (le 2 s.length ++ (s ++ r)) 0 = r ∧ eT (le 2 s.length ++ (s ++ r)) 0 = 0 := by
  have h2 := front (le 2 s.length) (s ++ r)
  rw [le_length] at h2
  have e4 : num (le 2 s.length) = s.length := by rw [num_le]; omega
  have h3 := front s r
  rw [vT, dT, eT, if_pos rfl, if_pos rfl, if_pos rfl, h2.1, h2.2.1, h2.2.2, e4]
  exact h3
theorem text_cut (s : List UInt8) (hs : s.length < 65536) : eT ((le 2 s.length ++ s).dropLast) 0 = 8 := by
  rw [eT, if_pos rfl]
  by_cases h0 : s = []
  · subst h0
    rw [List.append_nil, List.length_nil]
    have e : (le 2 0).dropLast = [0] := by decide
    rw [e]
    decide +kernel
  · rw [List.dropLast_append_of_ne_nil h0]
    have h2 := front (le 2 s.length) s.dropLast
    rw [le_length] at h2
    have e4 : num (le 2 s.length) = s.length := by rw [num_le]; omega
    rw [h2.1, h2.2.1, h2.2.2, e4]
    refine er_cut ?_
    rw [List.length_dropLast]
    have := List.length_pos_iff.2 h0
    omega

theorem st_text (k : Nat) (s R l : List UInt8) (e : Int) (hs : s.length < 65536) (h : St k ((le 2 s.length ++ s) ++ R) l e) :
    St k R (dT l e) (eT l e) ∧ (k ≠ 2 → vT l e = s) := by
  rcases h with ⟨hk, ⟨rfl, _, rfl⟩ | rfl⟩ | ⟨hk, rfl, rfl⟩
  · refine ⟨.inl ⟨hk, ?_⟩, fun h => absurd hk h⟩
    by_cases hR : R = []
    · subst hR
      rw [List.append_nil]
      exact .inr (text_cut s hs)
    · rw [List.dropLast_append_of_ne_nil hR, List.append_assoc, (text_front s hs _).2.1, (text_front s hs _).2.2]
      exact .inl ⟨rfl, hR, rfl⟩
  · refine ⟨.inl ⟨hk, .inr ?_⟩, fun h => absurd hk h⟩
    rw [eT, if_neg (by omega)]
  · refine ⟨.inr ⟨hk, ?_, ?_⟩, fun _ => ?_⟩
    · rw [List.append_assoc, List.append_assoc, (text_front s hs _).2.2]
    · rw [List.append_assoc, List.append_assoc, (text_front s hs _).2.1]
    · rw [List.append_assoc, List.append_assoc, (text_front s hs _).1]

theorem st_end (k : Nat) (l : List UInt8) (e : Int) (h : St k [] l e) : endE l e = if k = 2 then 8 else if k = 1 then 9 else 0 := by
  rcases h with ⟨rfl, ⟨_, h, _⟩ | rfl⟩ | ⟨hk, rfl, rfl⟩
  · exact absurd rfl h
  · rw [endE, if_neg (by omega), if_pos rfl]
  · rw [if_neg hk, endE, if_pos rfl, List.nil_append]
    unfold tl
    by_cases h1 : k = 1
    · rw [if_pos h1, if_pos h1]; simp
    · rw [if_neg h1, if_neg h1]; simp

theorem wrap_le8 (v : Int) (hv : -9223372036854775808 ≤ v ∧ v ≤ 9223372036854775807) : wrap64 ((num (le 8 (XU v)) : Nat) : Int) = v := by
  rw [num_le]
  unfold XU wrap64
  omega
theorem wrap_le1 (n : Nat) (h : n ≤ 20) : wrap64 ((num (le 1 (XU (n : Int))) : Nat) : Int) = n := by
  rw [num_le, IntWalk.wrap64_in _ (by omega)]
  unfold XU
  omega

theorem st_byte (k x : Nat) (R l : List UInt8) (e : Int) (h : St k (le 1 x ++ R) l e) : St k R (dN 1 l e) (eN 1 l e) ∧ (k ≠ 2 → vN 1 l e = wrap64 ((num (le 1 x) : Nat) : Int)) := by
  have := st_num k (le 1 x) R l e (by rw [ne_eq, ← List.length_eq_zero_iff, le_length]; omega) h
  rwa [le_length] at this
theorem st_int (k : Nat) (v : Int) (hv : -9223372036854775808 ≤ v ∧ v ≤ 9223372036854775807) (R l : List UInt8) (e : Int) (h : St k (le 8 (XU v) ++ R) l e) : St k R (dN 8 l e) (eN 8 l e) ∧ (k ≠ 2 → vN 8 l e = v) := by
  have := st_num k (le 8 (XU v)) R l e (by rw [ne_eq, ← List.length_eq_zero_iff, le_length]; omega) h
  rwa [le_length, wrap_le8 v hv] at this
theorem st_txt (k : Nat) (s : ByteArray) (hs : s.size ≤ 200) (R l : List UInt8) (e : Int) (h : St k (txt s ++ R) l e) : St k R (dT l e) (eT l e) ∧ (k ≠ 2 → (⟨(vT l e).toArray⟩ : ByteArray) = s) := by
  have hl : s.data.toList.length = s.size := by simp
  unfold txt at h
  rw [← hl] at h
  have := st_text k s.data.toList R l e (by omega) h
  exact ⟨this.1, fun hk => by rw [this.2 hk]⟩

/-- THE SLICE ao, n READS AS THE TEXTS ss. -/
structure IsS (w : World) (ao : Option Addr) (n : Nat) (ss : List ByteArray) : Prop where
  len : ss.length = n
  max : n ≤ maxLen
  cell : 0 < n → ∃ b off, ao = some ⟨b, off, none⟩ ∧ ∀ j v, ss[j]? = some v → w.cell? ⟨b, off + j, none⟩ = some (.string v)
end Go.Proofs.Ythkfoebannpmdaa
