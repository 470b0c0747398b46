/-
  Tables, plain: rows in the order of their keys; where one stands; one more, one less.
-/
import Derived.Test.YtllijeciodmckaaVCmp
namespace Go.Proofs.Ytllijeciodmckaa

theorem V.tri (a b c : V) : Tri (a.cmp b) (b.cmp c) (a.cmp c) := Tri.vals ..
theorem V.cmp_swap (a b : V) : b.cmp a = -a.cmp b := cmpV_swap ..
theorem V.cmp_self (a : V) : a.cmp a = 0 := cmpV_self ..
theorem str_ext (s t : ByteArray) (h : s.toList = t.toList) : s = t := by
  rw [ByteArray.toList_eq, ByteArray.toList_eq] at h
  apply ByteArray.ext
  exact Array.ext' h
theorem V.cmp_zero (a b : V) : a.cmp b = 0 ↔ a = b := by
  constructor
  · intro h
    have h2 := cmpV_zero a.k a.n a.s b.k b.n b.s
    rw [show cmpV a.k a.n a.s b.k b.n b.s = 0 from h] at h2
    have h3 : eqV a.k a.n a.s b.k b.n b.s = true := by rw [← h2]; rfl
    simp only [eqV, Bool.and_eq_true, beq_iff_eq] at h3
    obtain ⟨k, n, s⟩ := a
    obtain ⟨k', n', s'⟩ := b
    obtain ⟨h4, h5, h6⟩ := h3
    simp only at h4 h5 h6
    rw [h4, h5, str_ext _ _ h6]
  · rintro rfl
    exact V.cmp_self _
/-- A row's key. -/
def kOf (key : Nat) (r : List V) : V := r.getD key V0
/-- How many rows stand ahead of a key. -/
def atN (key : Nat) (k : V) : List (List V) → Nat
  | [] => 0
  | r :: rs => if (kOf key r).cmp k < 0 then atN key k rs + 1 else 0
/-- Each row's key stands ahead of the next ones'. -/
def Srt (key : Nat) (rs : List (List V)) : Prop := rs.Pairwise fun a b => (kOf key a).cmp (kOf key b) < 0
/-- Whether a row of the key is there. -/
def hasN (key : Nat) (k : V) (rs : List (List V)) : Bool :=
  match rs[atN key k rs]? with
  | some r => decide ((kOf key r).cmp k = 0)
  | none => false
def putN (key : Nat) (r : List V) (rs : List (List V)) : List (List V) := rs.take (atN key (kOf key r) rs) ++ r :: rs.drop (atN key (kOf key r) rs)
def takeN (key : Nat) (k : V) (rs : List (List V)) : List (List V) := rs.take (atN key k rs) ++ rs.drop (atN key k rs + 1)
section
variable {key : Nat} {k : V} {rs : List (List V)}
theorem at_le (key : Nat) (k : V) : ∀ rs : List (List V), atN key k rs ≤ rs.length
  | [] => Nat.le_refl _
  | r :: rs => by
    unfold atN
    have := at_le key k rs
    split
    · simp; omega
    · simp
theorem Srt.nil (key : Nat) : Srt key [] := List.Pairwise.nil
theorem at_lt : ∀ {rs : List (List V)} {i : Nat} {r : List V}, rs[i]? = some r → i < atN key k rs → (kOf key r).cmp k < 0
  | [], i, r, h, _ => by simp at h
  | x :: rs, 0, r, h, hi => by
    unfold atN at hi
    obtain rfl : x = r := by simpa using h
    split at hi
    · assumption
    · omega
  | x :: rs, i + 1, r, h, hi => by
    unfold atN at hi
    split at hi
    · exact at_lt (rs := rs) (i := i) (by simpa using h) (by omega)
    · omega
theorem at_here : ∀ {rs : List (List V)} {r : List V}, rs[atN key k rs]? = some r → ¬ (kOf key r).cmp k < 0
  | [], r, h => by simp at h
  | x :: rs, r, h => by
    unfold atN at h
    split at h
    · exact at_here (rs := rs) (by simpa using h)
    · obtain rfl : x = r := by simpa using h
      assumption
theorem Srt.get (h : Srt key rs) {i j : Nat} {a b : List V} (hi : rs[i]? = some a) (hj : rs[j]? = some b) (hij : i < j) : (kOf key a).cmp (kOf key b) < 0 := by
  obtain ⟨h1, rfl⟩ := List.getElem?_eq_some_iff.1 hi
  obtain ⟨h2, rfl⟩ := List.getElem?_eq_some_iff.1 hj
  exact List.pairwise_iff_getElem.1 h i j h1 h2 hij
theorem Srt.iff (h : Srt key rs) {i : Nat} {r : List V} (hr : rs[i]? = some r) : (kOf key r).cmp k < 0 ↔ i < atN key k rs := by
  constructor
  · intro hc
    refine Nat.lt_of_not_le fun hle => ?_
    have hlen := (List.getElem?_eq_some_iff.1 hr).1
    obtain ⟨x, hx⟩ : ∃ x, rs[atN key k rs]? = some x := ⟨rs[atN key k rs]'(by omega), List.getElem?_eq_getElem _⟩
    have hn := at_here hx
    rcases Nat.eq_or_lt_of_le hle with e | e
    · rw [e, hr] at hx
      obtain rfl := Option.some.inj hx
      exact hn hc
    · have h2 := h.get hx hr e
      have := (V.tri (kOf key x) (kOf key r) k).lt1 h2 (by omega)
      exact hn this
  · exact at_lt hr
/-- Behind the place the keys are greater. -/
theorem Srt.gt (h : Srt key rs) {i : Nat} {r : List V} (hr : rs[i]? = some r) (hi : atN key k rs ≤ i) (hne : i = atN key k rs → (kOf key r).cmp k ≠ 0) : 0 < (kOf key r).cmp k := by
  have h1 : ¬ (kOf key r).cmp k < 0 := fun hc => by
    have := (h.iff hr).1 hc
    omega
  rcases Nat.eq_or_lt_of_le hi with e | e
  · have := hne e.symm
    omega
  · have hlen := (List.getElem?_eq_some_iff.1 hr).1
    obtain ⟨x, hx⟩ : ∃ x, rs[atN key k rs]? = some x := ⟨rs[atN key k rs]'(by omega), List.getElem?_eq_getElem _⟩
    have hn := at_here hx
    have h2 := h.get hx hr e
    have h3 := V.cmp_swap (kOf key x) k
    have h4 := V.cmp_swap k (kOf key r)
    have h5 := V.tri k (kOf key x) (kOf key r)
    have := h5.lt2 (by omega) h2
    omega
theorem has_iff (h : Srt key rs) : hasN key k rs = true ↔ ∃ r ∈ rs, kOf key r = k := by
  unfold hasN
  constructor
  · intro hh
    split at hh
    · rename_i r hr
      exact ⟨r, List.mem_of_getElem? hr, (V.cmp_zero _ _).1 (by simpa using hh)⟩
    · cases hh
  · rintro ⟨r, hm, rfl⟩
    obtain ⟨i, hi⟩ := List.getElem?_of_mem hm
    have hle : ¬ i < atN key (kOf key r) rs := fun hlt => by
      have := at_lt hi hlt
      rw [V.cmp_self] at this
      omega
    have hi' := (List.getElem?_eq_some_iff.1 hi).1
    obtain ⟨x, hx⟩ : ∃ x, rs[atN key (kOf key r) rs]? = some x := ⟨rs[atN key (kOf key r) rs]'(by omega), List.getElem?_eq_getElem _⟩
    have hn := at_here hx
    rw [hx]
    rcases Nat.eq_or_lt_of_le (Nat.le_of_not_lt hle) with e | e
    · rw [e, hi] at hx
      obtain rfl := Option.some.inj hx
      simp [V.cmp_self]
    · have := h.get hx hi e
      omega
theorem Srt.take (h : Srt key rs) (k : V) : Srt key (takeN key k rs) := by
  unfold takeN
  refine List.Pairwise.sublist ?_ h
  conv => rhs; rw [← List.take_append_drop (atN key k rs) rs]
  refine List.Sublist.append_left ?_ _
  rw [← List.drop_drop]
  exact List.drop_sublist 1 _
theorem Srt.put (h : Srt key rs) (r : List V) (hn : hasN key (kOf key r) rs = false) : Srt key (putN key r rs) := by
  have key2 : ∀ a ∈ rs, kOf key a ≠ kOf key r := fun a ha e => by
    have := (has_iff h).2 ⟨a, ha, e⟩
    rw [hn] at this
    cases this
  unfold putN Srt
  rw [List.pairwise_append, List.pairwise_cons]
  have hA : ∀ a ∈ rs.take (atN key (kOf key r) rs), (kOf key a).cmp (kOf key r) < 0 := fun a ha => by
    obtain ⟨i, hi⟩ := List.getElem?_of_mem ha
    rw [List.getElem?_take] at hi
    split at hi
    · exact at_lt hi (by assumption)
    · cases hi
  have hB : ∀ b ∈ rs.drop (atN key (kOf key r) rs), (kOf key r).cmp (kOf key b) < 0 := fun b hb => by
    obtain ⟨i, hi⟩ := List.getElem?_of_mem hb
    rw [List.getElem?_drop] at hi
    have := h.gt hi (Nat.le_add_right _ _) (fun _ e => key2 b (List.mem_of_getElem? hi) ((V.cmp_zero _ _).1 e))
    have := V.cmp_swap (kOf key b) (kOf key r)
    omega
  refine ⟨List.Pairwise.sublist (List.take_sublist _ _) h, ⟨hB, List.Pairwise.sublist (List.drop_sublist _ _) h⟩, fun a ha b hb => ?_⟩
  rcases List.mem_cons.1 hb with rfl | hb
  · exact hA a ha
  · exact (V.tri _ (kOf key r) _).lt1 (hA a ha) (by have := hB b hb; omega)
theorem put_len (r : List V) : (putN key r rs).length = rs.length + 1 := by
  have := at_le key (kOf key r) rs
  unfold putN
  simp
  omega
theorem has_lt (h : hasN key k rs = true) : atN key k rs < rs.length := by
  unfold hasN at h
  split at h
  · rename_i r hr
    exact (List.getElem?_eq_some_iff.1 hr).1
  · cases h
theorem take_len (h : hasN key k rs = true) : (takeN key k rs).length + 1 = rs.length := by
  have := has_lt h
  unfold takeN
  simp
  omega
end
end Go.Proofs.Ytllijeciodmckaa
