/-
  Rows from one key on up to another one, plain.
-/
import Derived.Test.YtjacaammlkjodaaTabP
import Derived.Test.YtjacaammlkjodaaVok
namespace Go.Proofs.Ytjacaammlkjodaa

/-- Where the rows of greater keys begin. -/
def nxtN (ky : Nat) (v : V) (rs : List (List V)) : Nat := if hasN ky v rs then atN ky v rs + 1 else atN ky v rs
def endN (ky : Nat) (hi : V) (rs : List (List V)) : Nat := if hi.k = 0 then rs.length else nxtN ky hi rs
/-- What table.Range cuts out. -/
def rngN (ky : Nat) (lo hi : V) (rs : List (List V)) : List (List V) := (rs.drop (atN ky lo rs)).take (max (atN ky lo rs) (endN ky hi rs) - atN ky lo rs)
/-- Whether a key lies between. -/
def inN (lo hi k : V) : Bool := (decide (lo.k = 0) || decide (0 ≤ k.cmp lo)) && (decide (hi.k = 0) || decide (k.cmp hi ≤ 0))
def rngF (ky : Nat) (lo hi : V) (rs : List (List V)) : List (List V) := rs.filter fun r => inN lo hi (kOf ky r)
theorem filter_ix {α : Type} {p : α → Bool} : ∀ {l : List α} {a b : Nat}, (∀ i x, l[i]? = some x → (p x = true ↔ a ≤ i ∧ i < b)) → l.filter p = (l.drop a).take (b - a)
  | [], a, b, _ => by simp
  | x :: l, a, b, h => by
    have h0 := h 0 x rfl
    have ht := filter_ix (p := p) (l := l) (a := a - 1) (b := b - 1) fun i y hy => by
      have h1 := h (i + 1) y (by simpa using hy)
      rw [h1]
      omega
    cases a with
    | zero =>
      cases b with
      | zero =>
        have hx : p x = false := by
          cases q : p x with
          | false => rfl
          | true => have := h0.1 q; omega
        rw [List.filter_cons_of_neg (by rw [hx]; decide), ht]
        simp
      | succ b =>
        have hx : p x = true := h0.2 ⟨Nat.le_refl _, Nat.zero_lt_succ _⟩
        rw [List.filter_cons_of_pos hx, ht]
        simp
    | succ a =>
      have hx : p x = false := by
        cases q : p x with
        | false => rfl
        | true => have := h0.1 q; omega
      rw [List.filter_cons_of_neg (by rw [hx]; decide), ht, List.drop_succ_cons]
      congr 1
      omega
section
variable {key : Nat} {rs : List (List V)}
theorem nxt_le (key : Nat) (k : V) (rs : List (List V)) : nxtN key k rs ≤ rs.length := by
  have h := at_le key k rs
  unfold nxtN
  split
  · rename_i hh
    have := has_lt hh
    omega
  · exact h
theorem end_le (key : Nat) (k : V) (rs : List (List V)) : endN key k rs ≤ rs.length := by
  unfold endN
  split
  · exact Nat.le_refl _
  · exact nxt_le key k rs
theorem Srt.nxt (h : Srt key rs) (k : V) {i : Nat} {r : List V} (hr : rs[i]? = some r) : (kOf key r).cmp k ≤ 0 ↔ i < nxtN key k rs := by
  have h1 := h.iff (k := k) hr
  unfold nxtN
  split
  · rename_i hh
    unfold hasN at hh
    split at hh
    · rename_i x hx
      have h0 : (kOf key x).cmp k = 0 := by simpa using hh
      rcases Nat.lt_trichotomy i (atN key k rs) with q | q | q
      · have := h1.2 q; omega
      · rw [← q, hr] at hx
        obtain rfl := Option.some.inj hx
        omega
      · have h2 := h.get hx hr q
        have h3 := (V.cmp_zero _ _).1 h0
        rw [h3] at h2
        have := V.cmp_swap k (kOf key r)
        omega
    · cases hh
  · rename_i hh
    have hne : i = atN key k rs → (kOf key r).cmp k ≠ 0 := fun e h0 => by
      refine hh ?_
      unfold hasN
      rw [← e, hr]
      exact decide_eq_true h0
    constructor
    · intro hc
      refine h1.1 ?_
      rcases Nat.lt_or_ge i (atN key k rs) with q | q
      · exact h1.2 q
      · have := h.gt hr q hne
        omega
    · intro q
      have := h1.2 q
      omega
theorem cmp_null {v k : V} (hv : Vok v) (hk : Vok k) (h0 : k.k = 0) : 0 ≤ v.cmp k := by
  have hk0 : k = ⟨0, 0, ByteArray.empty⟩ := by cases hk <;> simp_all
  subst hk0
  unfold V.cmp cmpV or3
  cases hv with
  | none => exact Int.le_of_eq (cmpV_self (k := 0) (n := 0) (s := ByteArray.empty)).symm
  | bool n hn => simp [cmpI]
  | int n hn => simp [cmpI]
  | text s hs => simp [cmpI]
theorem rng_eq (h : Srt key rs) (lo hi : V) (hlo : Vok lo) (hV : ∀ r ∈ rs, Vok (kOf key r)) : rngF key lo hi rs = rngN key lo hi rs := by
  have he := end_le key hi rs
  unfold rngF rngN
  rw [filter_ix (a := atN key lo rs) (b := endN key hi rs)]
  · congr 1
    omega
  · intro i r hr
    have h1 := h.iff (k := lo) hr
    have hi' := (List.getElem?_eq_some_iff.1 hr).1
    have h2 : (decide (lo.k = 0) || decide (0 ≤ (kOf key r).cmp lo)) = true ↔ atN key lo rs ≤ i := by
      rw [Bool.or_eq_true, decide_eq_true_eq, decide_eq_true_eq]
      have h3 := fun h0 => cmp_null (hV r (List.mem_of_getElem? hr)) hlo h0
      constructor
      · rintro (q | q)
        · have := h3 q; omega
        · omega
      · intro q
        right
        omega
    have h4 : (decide (hi.k = 0) || decide ((kOf key r).cmp hi ≤ 0)) = true ↔ i < endN key hi rs := by
      rw [Bool.or_eq_true, decide_eq_true_eq, decide_eq_true_eq]
      unfold endN
      split
      · exact ⟨fun _ => hi', fun _ => .inl ‹_›⟩
      · rw [h.nxt hi hr]
        exact ⟨fun q => q.resolve_left ‹_›, .inr⟩
    unfold inN
    rw [Bool.and_eq_true, h2, h4]
end
end Go.Proofs.Ytjacaammlkjodaa
