/-
  Statements of chapter 11, plain: rows that are added from behind, and dropped round about.
-/
import Derived.Test.YtjacaammlkjodaaIxN
namespace Go.Proofs.Ytjacaammlkjodaa
theorem ent_at {C K : Nat} {rs : List (List V)} (h : rs.Pairwise fun a b => entOf C K a ≠ entOf C K b) {p q : Nat} {x y : List V} (hp : rs[p]? = some x) (hq : rs[q]? = some y) (hne : p ≠ q) : entOf C K x ≠ entOf C K y := by
  obtain ⟨h1, rfl⟩ := List.getElem?_eq_some_iff.1 hp
  obtain ⟨h2, rfl⟩ := List.getElem?_eq_some_iff.1 hq
  rw [List.pairwise_iff_getElem] at h
  rcases Nat.lt_or_gt_of_ne hne with h3 | h3
  · exact h p q h1 h2 h3
  · exact fun e => h q p h2 h1 h3 e.symm
theorem rot_neI {m b i j : Nat} (hij : i < j) (hj : j < m) : (i + b) % m ≠ (j + b) % m := fun e => by
  have h := Nat.sub_mod_eq_zero_of_mod_eq e.symm
  rw [Nat.add_sub_add_right, Nat.mod_eq_of_lt (by omega)] at h
  omega
/-- What stands when j rows were added, the last one first. -/
structure AddR (C K : Nat) (rs : List (List V)) (j : Nat) (es : List En) : Prop where
  ents : Ents es
  len : es.length = j
  mem : ∀ e, e ∈ es ↔ ∃ i r, i < j ∧ rs[rs.length - 1 - i]? = some r ∧ e = entOf C K r
theorem AddR.start (C K : Nat) (rs : List (List V)) : AddR C K rs 0 [] := ⟨Ents.nil, rfl, fun e => ⟨(fun h => by cases h), fun ⟨i, r, h, _⟩ => by omega⟩⟩
theorem AddR.next {C K : Nat} {rs : List (List V)} {j : Nat} {es : List En} (h : AddR C K rs j es) (hne : rs.Pairwise fun a b => entOf C K a ≠ entOf C K b) (hj : j < rs.length) {r : List V} (hr : rs[rs.length - 1 - j]? = some r) (hok : Eok (entOf C K r)) : AddR C K rs (j + 1) (addE (entOf C K r) es) := by
  have hn : ¬ entOf C K r ∈ es := fun hm => by
    obtain ⟨i, x, hi, hx, e⟩ := (h.mem _).1 hm
    exact ent_at hne hr hx (by omega) e
  refine ⟨h.ents.add hok, by rw [h.ents.add_len hok hn, h.len], fun e => ?_⟩
  rw [h.ents.mem_add hok, h.mem e]
  constructor
  · rintro (rfl | ⟨i, x, hi, hx, rfl⟩)
    · exact ⟨j, r, by omega, hr, rfl⟩
    · exact ⟨i, x, by omega, hx, rfl⟩
  · rintro ⟨i, x, hi, hx, rfl⟩
    rcases Nat.eq_or_lt_of_le (Nat.le_of_lt_succ hi) with q | q
    · subst q
      rw [hr] at hx
      obtain rfl := Option.some.inj hx
      exact .inl rfl
    · exact .inr ⟨i, x, q, hx, rfl⟩
theorem AddR.all {C K : Nat} {rs : List (List V)} {es ex : List En} (h : AddR C K rs rs.length es) (hx : Ents ex) (hm : ∀ e, e ∈ ex ↔ ∃ r ∈ rs, e = entOf C K r) : es = ex := by
  refine ents_ext h.ents.srt hx.srt fun e => ?_
  rw [h.mem e, hm e]
  constructor
  · rintro ⟨i, r, _, hr, rfl⟩
    exact ⟨r, List.mem_of_getElem? hr, rfl⟩
  · rintro ⟨r, hr, rfl⟩
    obtain ⟨q, hq⟩ := List.getElem?_of_mem hr
    have hql := (List.getElem?_eq_some_iff.1 hq).1
    exact ⟨rs.length - 1 - q, r, by omega, by rw [show rs.length - 1 - (rs.length - 1 - q) = q by omega]; exact hq, rfl⟩
/-- What stands when j rows were dropped, from place b on, round about. -/
structure DropR (C K : Nat) (rs : List (List V)) (b j : Nat) (es : List En) : Prop where
  ents : Ents es
  len : es.length + j = rs.length
  mem : ∀ e, e ∈ es ↔ ∃ i r, j ≤ i ∧ i < rs.length ∧ rs[(i + b) % rs.length]? = some r ∧ e = entOf C K r
theorem DropR.start {C K : Nat} {rs : List (List V)} {b : Nat} {ex : List En} (hb : 0 < rs.length → b < rs.length) (hx : Ents ex) (hl : ex.length = rs.length) (hm : ∀ e, e ∈ ex ↔ ∃ r ∈ rs, e = entOf C K r) : DropR C K rs b 0 ex := by
  refine ⟨hx, hl, fun e => ?_⟩
  rw [hm e]
  constructor
  · rintro ⟨r, hr, rfl⟩
    obtain ⟨q, hq⟩ := List.getElem?_of_mem hr
    have hql := (List.getElem?_eq_some_iff.1 hq).1
    have hbl := hb (by omega)
    refine ⟨(q + rs.length - b) % rs.length, r, Nat.zero_le _, Nat.mod_lt _ (by omega), ?_, rfl⟩
    rw [Nat.mod_add_mod, Nat.sub_add_cancel (by omega), Nat.add_mod_right, Nat.mod_eq_of_lt hql]
    exact hq
  · rintro ⟨i, r, _, _, hr, rfl⟩
    exact ⟨r, List.mem_of_getElem? hr, rfl⟩
theorem DropR.next {C K : Nat} {rs : List (List V)} {b j : Nat} {es : List En} (h : DropR C K rs b j es) (hne : rs.Pairwise fun a b => entOf C K a ≠ entOf C K b) (hj : j < rs.length) {r : List V} (hr : rs[(j + b) % rs.length]? = some r) (hok : Eok (entOf C K r)) : DropR C K rs b (j + 1) (dropE (entOf C K r) es) := by
  have hm : entOf C K r ∈ es := (h.mem _).2 ⟨j, r, Nat.le_refl _, hj, hr, rfl⟩
  refine ⟨h.ents.drop hok, by have := h.ents.drop_len hok hm; have := h.len; omega, fun e => ?_⟩
  rw [h.ents.mem_drop hok, h.mem e]
  constructor
  · rintro ⟨⟨i, x, h1, h2, hx, rfl⟩, hn⟩
    rcases Nat.eq_or_lt_of_le h1 with q | q
    · subst q
      rw [hr] at hx
      obtain rfl := Option.some.inj hx
      exact absurd rfl hn
    · exact ⟨i, x, q, h2, hx, rfl⟩
  · rintro ⟨i, x, h1, h2, hx, rfl⟩
    exact ⟨⟨i, x, by omega, h2, hx, rfl⟩, fun e => ent_at hne hr hx (rot_neI (by omega) h2) e.symm⟩
theorem DropR.done {C K : Nat} {rs : List (List V)} {b j : Nat} {es : List En} (h : DropR C K rs b j es) (hj : j = rs.length) : es = [] := by
  have := h.len
  exact List.eq_nil_of_length_eq_zero (by omega)
end Go.Proofs.Ytjacaammlkjodaa
