/-
  Rows put in whatever order, plain: in strict order, with the same members, two rows are one.
-/
import Derived.Test.YtppgafnepnkabaaTakeU
namespace Go.Proofs.Ytppgafnepnkabaa

theorem srt_ext {K : Nat} : ∀ {a b : List (List V)}, Srt K a → Srt K b → (∀ x, x ∈ a ↔ x ∈ b) → a = b
  | [], [], _, _, _ => rfl
  | [], y :: b, _, _, h => by have := (h y).2 List.mem_cons_self; cases this
  | x :: a, [], _, _, h => by have := (h x).1 List.mem_cons_self; cases this
  | x :: a, y :: b, ha, hb, h => by
    obtain ⟨ha1, ha2⟩ := List.pairwise_cons.1 ha
    obtain ⟨hb1, hb2⟩ := List.pairwise_cons.1 hb
    have irr : ∀ v : V, ¬ v.cmp v < 0 := fun v => by rw [V.cmp_self]; omega
    have e : x = y := by
      rcases List.mem_cons.1 ((h x).1 List.mem_cons_self) with e | hx
      · exact e
      rcases List.mem_cons.1 ((h y).2 List.mem_cons_self) with e | hy
      · exact e.symm
      have h1 := hb1 x hx
      have h2 := ha1 y hy
      have := V.cmp_swap (kOf K x) (kOf K y)
      omega
    subst e
    refine congrArg (x :: ·) (srt_ext ha2 hb2 fun z => ⟨fun hz => ?_, fun hz => ?_⟩)
    · rcases List.mem_cons.1 ((h z).1 (List.mem_cons_of_mem _ hz)) with e | hz'
      · subst e; exact absurd (ha1 z hz) (irr _)
      · exact hz'
    · rcases List.mem_cons.1 ((h z).2 (List.mem_cons_of_mem _ hz)) with e | hz'
      · subst e; exact absurd (hb1 z hz) (irr _)
      · exact hz'
theorem mem_put_iff {K : Nat} (r x : List V) (rs : List (List V)) : x ∈ putN K r rs ↔ x = r ∨ x ∈ rs := by
  constructor
  · exact mem_putN
  · unfold putN
    rintro (rfl | h)
    · exact List.mem_append_right _ List.mem_cons_self
    · rw [← List.take_append_drop (atN K (kOf K r) rs) rs] at h
      rcases List.mem_append.1 h with h | h
      · exact List.mem_append_left _ h
      · exact List.mem_append_right _ (List.mem_cons_of_mem _ h)
/-- What was put, in the order in which it came. -/
structure Ins (F : List Co) (K : Nat) (rs L : List (List V)) : Prop where
  fit : Fits F K rs
  mem : ∀ x, x ∈ rs ↔ x ∈ L
  len : L.length = rs.length
  keys : L.Pairwise fun a b => kOf K a ≠ kOf K b
theorem Ins.nil (F : List Co) (K : Nat) : Ins F K [] [] := ⟨Fits.nil F K, fun _ => Iff.rfl, rfl, List.Pairwise.nil⟩
theorem Ins.next {F : List Co} {K : Nat} {rs L : List (List V)} (h : Ins F K rs L) (n : Int) (hn : hasN K (kOf K (fitRow F n)) rs = false) : Ins F K (putN K (fitRow F n) rs) (L ++ [fitRow F n]) := by
  refine ⟨⟨h.fit.srt.put _ hn, fun x hx => ?_⟩, fun x => ?_, by rw [put_len, List.length_append, h.len]; rfl, ?_⟩
  · rcases mem_putN hx with rfl | hx
    · exact ⟨n, rfl⟩
    · exact h.fit.mem x hx
  · rw [mem_put_iff, List.mem_append, List.mem_singleton, h.mem x]
    exact Or.comm
  · rw [List.pairwise_append]
    refine ⟨h.keys, List.pairwise_singleton _ _, fun a ha b hb e => ?_⟩
    obtain rfl := List.mem_singleton.1 hb
    have := (has_iff h.fit.srt).2 ⟨a, (h.mem a).2 ha, e⟩
    rw [hn] at this
    cases this
/-- What stands when j rows were put, from place b on, round about. -/
structure Rot (K : Nat) (L : List (List V)) (b j : Nat) (rs : List (List V)) : Prop where
  srt : Srt K rs
  len : rs.length = j
  mem : ∀ x, x ∈ rs ↔ ∃ i, i < j ∧ L[(i + b) % L.length]? = some x
theorem Rot.start (K : Nat) (L : List (List V)) (b : Nat) : Rot K L b 0 [] := ⟨Srt.nil K, rfl, fun x => ⟨(fun h => by cases h), (fun ⟨i, hi, _⟩ => by omega)⟩⟩
theorem keys_at {K : Nat} {L : List (List V)} (h : L.Pairwise fun a b => kOf K a ≠ kOf K b) {p q : Nat} {x y : List V} (hp : L[p]? = some x) (hq : L[q]? = some y) (hne : p ≠ q) : kOf K x ≠ kOf K y := by
  obtain ⟨h1, rfl⟩ := List.getElem?_eq_some_iff.1 hp
  obtain ⟨h2, rfl⟩ := List.getElem?_eq_some_iff.1 hq
  rw [List.pairwise_iff_getElem] at h
  rcases Nat.lt_or_gt_of_ne hne with h3 | h3
  · exact h p q h1 h2 h3
  · exact fun e => h q p h2 h1 h3 e.symm
theorem rot_ne {m b i j : Nat} (hij : i < j) (hj : j < m) : (i + b) % m ≠ (j + b) % m := fun e => by
  have h := Nat.sub_mod_eq_zero_of_mod_eq e.symm
  rw [Nat.add_sub_add_right, Nat.mod_eq_of_lt (by omega)] at h
  omega
theorem Rot.no {K : Nat} {L : List (List V)} {b j : Nat} {rs : List (List V)} (h : Rot K L b j rs) (hk : L.Pairwise fun a b => kOf K a ≠ kOf K b) (hj : j < L.length) {r : List V} (hr : L[(j + b) % L.length]? = some r) : hasN K (kOf K r) rs = false := by
  cases q : hasN K (kOf K r) rs with
  | false => rfl
  | true =>
    obtain ⟨x, hx, e⟩ := (has_iff h.srt).1 q
    obtain ⟨i, hi, hxi⟩ := (h.mem x).1 hx
    exact absurd e (keys_at hk hxi hr (rot_ne hi hj))
theorem Rot.next {K : Nat} {L : List (List V)} {b j : Nat} {rs : List (List V)} (h : Rot K L b j rs) (hk : L.Pairwise fun a b => kOf K a ≠ kOf K b) (hj : j < L.length) {r : List V} (hr : L[(j + b) % L.length]? = some r) : Rot K L b (j + 1) (putN K r rs) := by
  refine ⟨h.srt.put _ (h.no hk hj hr), by rw [put_len, h.len], fun x => ?_⟩
  rw [mem_put_iff, h.mem x]
  constructor
  · rintro (rfl | ⟨i, hi, hx⟩)
    · exact ⟨j, by omega, hr⟩
    · exact ⟨i, by omega, hx⟩
  · rintro ⟨i, hi, hx⟩
    rcases Nat.eq_or_lt_of_le (Nat.le_of_lt_succ hi) with e | e
    · subst e
      exact .inl (Option.some.inj (hx.symm.trans hr))
    · exact .inr ⟨i, e, hx⟩
theorem Rot.all {F : List Co} {K : Nat} {L : List (List V)} {b : Nat} {ra rs : List (List V)} (hb : b < L.length) (h : Rot K L b L.length rs) (hi : Ins F K ra L) : ra = rs := by
  refine srt_ext hi.fit.srt h.srt fun x => ?_
  rw [hi.mem x, h.mem x]
  constructor
  · intro hx
    obtain ⟨q, hq⟩ := List.getElem?_of_mem hx
    have hql := (List.getElem?_eq_some_iff.1 hq).1
    refine ⟨(q + L.length - b) % L.length, Nat.mod_lt _ (by omega), ?_⟩
    rw [Nat.mod_add_mod, Nat.sub_add_cancel (by omega), Nat.add_mod_right, Nat.mod_eq_of_lt hql]
    exact hq
  · rintro ⟨i, _, hx⟩
    exact List.mem_of_getElem? hx
end Go.Proofs.Ytppgafnepnkabaa
