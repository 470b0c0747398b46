/-
  Statements of chapter 11, plain: an index against the rows it was built of.
-/
import Derived.Test.YtjacaammlkjodaaIxL
namespace Go.Proofs.Ytjacaammlkjodaa
theorem vs_ext : ∀ {a b : List V}, (a.Pairwise fun x y => x.cmp y < 0) → (b.Pairwise fun x y => x.cmp y < 0) → (∀ x, x ∈ a ↔ x ∈ b) → a = b
  | [], [], _, _, _ => rfl
  | [], y :: b, _, _, h => by have := (h y).2 List.mem_cons_self; cases this
  | x :: a, [], _, _, h => by have := (h x).1 List.mem_cons_self; cases this
  | x :: a, y :: b, ha, hb, h => by
    obtain ⟨ha1, ha2⟩ := List.pairwise_cons.1 ha
    obtain ⟨hb1, hb2⟩ := List.pairwise_cons.1 hb
    have irr : ∀ v : V, ¬ v.cmp v < 0 := fun v => by rw [V.cmp_self]; omega
    have e : x = y := by
      rcases List.mem_cons.1 ((h x).1 List.mem_cons_self) with e | hx
      · exact e
      rcases List.mem_cons.1 ((h y).2 List.mem_cons_self) with e | hy
      · exact e.symm
      have h1 := hb1 x hx
      have h2 := ha1 y hy
      have := V.cmp_swap x y
      omega
    subst e
    refine congrArg (x :: ·) (vs_ext ha2 hb2 fun z => ⟨fun hz => ?_, fun hz => ?_⟩)
    · rcases List.mem_cons.1 ((h z).1 (List.mem_cons_of_mem _ hz)) with e | hz'
      · subst e; exact absurd (ha1 z hz) (irr _)
      · exact hz'
    · rcases List.mem_cons.1 ((h z).2 (List.mem_cons_of_mem _ hz)) with e | hz'
      · subst e; exact absurd (hb1 z hz) (irr _)
      · exact hz'
theorem keys_rows {F : List Co} {N K C : Nat} (hl : F.length = N) (hK : K < N) (hC : C < N) {rs : List (List V)} (h : Fits F K rs) {v : V} (hv : Vok v) : keysE v (ixOf C K rs) = (rs.filter fun r => (kOf C r).cmp v == 0).map (kOf K) := by
  obtain ⟨hE, hM⟩ := ix_spec hl hK hC h
  rw [hE.keys hv]
  refine vs_ext ?_ ?_ fun x => ?_
  · rw [List.pairwise_map]
    refine List.Pairwise.imp_of_mem (fun {a b} ha hb hc => ?_) (List.Pairwise.sublist List.filter_sublist hE.le)
    have h1 : a.v = v := (V.cmp_zero _ _).1 (by simpa using (List.mem_filter.1 ha).2)
    have h2 : b.v = v := (V.cmp_zero _ _).1 (by simpa using (List.mem_filter.1 hb).2)
    rcases hc with hc | ⟨-, hc⟩
    · rw [h1, h2, V.cmp_self] at hc; omega
    · exact hc
  · rw [List.pairwise_map]
    exact List.Pairwise.sublist List.filter_sublist h.srt
  · simp only [List.mem_map, List.mem_filter]
    constructor
    · rintro ⟨e, ⟨he, hc⟩, rfl⟩
      obtain ⟨r, hr, rfl⟩ := (hM e).1 he
      exact ⟨r, ⟨hr, hc⟩, rfl⟩
    · rintro ⟨r, ⟨hr, hc⟩, rfl⟩
      exact ⟨entOf C K r, ⟨(hM _).2 ⟨r, hr, rfl⟩, hc⟩, rfl⟩
theorem fold_len (c K : Nat) : ∀ (l : List (List V)) (es : List En), Ents es → (∀ r ∈ l, Eok (entOf c K r)) → (l.Pairwise fun a b => entOf c K a ≠ entOf c K b) → (∀ r ∈ l, ¬ entOf c K r ∈ es) → (l.foldl (fun es r => addE (entOf c K r) es) es).length = es.length + l.length
  | [], es, _, _, _, _ => rfl
  | r :: l, es, h, hv, hp, hn => by
    obtain ⟨hp1, hp2⟩ := List.pairwise_cons.1 hp
    have hr := hv r List.mem_cons_self
    rw [List.foldl_cons, fold_len c K l _ (h.add hr) (fun x hx => hv x (List.mem_cons_of_mem _ hx)) hp2 (fun x hx hm => by
      rcases (h.mem_add hr _).1 hm with q | q
      · exact hp1 x hx q.symm
      · exact hn x (List.mem_cons_of_mem _ hx) q), h.add_len hr (hn r List.mem_cons_self), List.length_cons]
    omega
theorem ents_ne {F : List Co} {K : Nat} {rs : List (List V)} (h : Fits F K rs) (C : Nat) : rs.Pairwise fun a b => entOf C K a ≠ entOf C K b :=
  List.Pairwise.imp (fun {a b} hc e => by
    have e1 : kOf K a = kOf K b := congrArg En.k e
    rw [e1, V.cmp_self] at hc
    omega) h.srt
theorem ix_len {F : List Co} {N K C : Nat} (hl : F.length = N) (hK : K < N) (hC : C < N) {rs : List (List V)} (h : Fits F K rs) : (ixOf C K rs).length = rs.length := by
  unfold ixOf
  rw [fold_len C K rs [] Ents.nil (fun r hr => (fits_vok hl hK hC h r hr).2.2) (ents_ne h C) (fun r _ hm => by cases hm)]
  simp
theorem take_next_f {α β : Type} {p : α → Bool} {f : α → β} {l : List α} {j : Nat} {x : α} (h : l[j]? = some x) : ((l.take (j + 1)).filter p).map f = if p x then ((l.take j).filter p).map f ++ [f x] else ((l.take j).filter p).map f := by
  obtain ⟨h1, rfl⟩ := List.getElem?_eq_some_iff.1 h
  rw [List.take_succ_eq_append_getElem h1, List.filter_append, List.map_append]
  cases q : p l[j] <;> simp [q]
end Go.Proofs.Ytjacaammlkjodaa
