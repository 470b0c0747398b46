/-
  Statements of chapter 11, plain: what From answers of an index, against the rows it was built of.
-/
import Derived.Test.YtjacaammlkjodaaIxN
namespace Go.Proofs.Ytjacaammlkjodaa
theorem cnt_next {α : Type} {p : α → Bool} {l : List α} {j : Nat} {x : α} (h : l[j]? = some x) : ((l.take (j + 1)).filter p).length = ((l.take j).filter p).length + if p x then 1 else 0 := by
  have h1 := take_next_f (p := p) (f := id) h
  simp only [List.map_id] at h1
  rw [h1]
  cases p x <;> simp
theorem ix_perm {F : List Co} {N K C : Nat} (hl : F.length = N) (hK : K < N) (hC : C < N) {rs : List (List V)} (h : Fits F K rs) : (ixOf C K rs).Perm (rs.map (entOf C K)) := by
  obtain ⟨hE, hM⟩ := ix_spec hl hK hC h
  refine (List.perm_ext_iff_of_nodup ?_ ?_).2 fun e => ?_
  · refine List.Pairwise.imp (fun {a b} hc q => ?_) hE.le
    subst q
    rcases hc with hc | ⟨-, hc⟩ <;> rw [V.cmp_self] at hc <;> omega
  · exact List.pairwise_map.2 (ents_ne h C)
  · rw [hM e, List.mem_map]
    exact ⟨fun ⟨r, hr, q⟩ => ⟨r, hr, q.symm⟩, fun ⟨r, hr, q⟩ => ⟨r, hr, q.symm⟩⟩
/-- Of the rows, how many are not below v. -/
def cntF (C : Nat) (v : V) (rs : List (List V)) : Nat := (rs.filter fun r => decide (0 ≤ (kOf C r).cmp v)).length
theorem from_rows {F : List Co} {N K C : Nat} (hl : F.length = N) (hK : K < N) (hC : C < N) {rs : List (List V)} (h : Fits F K rs) {v : V} (hv : Vok v) (m : Nat) :
    ∃ L : List En, fromE v (m : Int) (ixOf C K rs) = L.map En.k ∧ L.length = min (cntF C v rs) m ∧ (∀ e, L[0]? = some e → 0 ≤ e.v.cmp v) ∧ (∀ (j : Nat) (e f : En), L[j]? = some e → L[j + 1]? = some f → 0 ≤ f.v.cmp e.v) ∧ ∀ (j : Nat) (e : En), L[j]? = some e → ∃ (i : Nat) (r : List V), rs[i]? = some r ∧ e = entOf C K r := by
  obtain ⟨hE, hM⟩ := ix_spec hl hK hC h
  have hf := hE.froms hv (m : Int)
  rw [Int.toNat_natCast] at hf
  refine ⟨_, hf, ?_, fun e he => ?_, fun j e f he hf => ?_, fun j e he => ?_⟩
  · rw [List.length_take, Nat.min_comm]
    congr 1
    have := ((ix_perm hl hK hC h).filter (fun e => decide (0 ≤ e.v.cmp v))).length_eq
    rw [this, List.filter_map, List.length_map]
    rfl
  · have := List.mem_of_mem_take (List.mem_of_getElem? he)
    simpa using (List.mem_filter.1 this).2
  · have hp : ((ixOf C K rs).filter fun e => decide (0 ≤ e.v.cmp v)).Pairwise fun a b => a.v.cmp b.v < 0 ∨ (a.v = b.v ∧ a.k.cmp b.k < 0) := List.Pairwise.sublist List.filter_sublist hE.le
    have hp2 := List.Pairwise.sublist (List.take_sublist m _) hp
    obtain ⟨h1, rfl⟩ := List.getElem?_eq_some_iff.1 he
    obtain ⟨h2, rfl⟩ := List.getElem?_eq_some_iff.1 hf
    have h3 := (List.pairwise_iff_getElem.1 hp2) j (j + 1) h1 h2 (by omega)
    rcases h3 with h3 | ⟨h3, -⟩
    · have := V.cmp_swap ((((ixOf C K rs).filter fun e => decide (0 ≤ e.v.cmp v)).take m)[j]).v ((((ixOf C K rs).filter fun e => decide (0 ≤ e.v.cmp v)).take m)[j + 1]).v
      omega
    · rw [h3, V.cmp_self]
      omega
  · have := List.mem_of_mem_take (List.mem_of_getElem? he)
    obtain ⟨r, hr, q⟩ := (hM e).1 (List.mem_filter.1 this).1
    obtain ⟨i, hi⟩ := List.getElem?_of_mem hr
    exact ⟨i, r, hi, q⟩
theorem from_neg {F : List Co} {N K C : Nat} (hl : F.length = N) (hK : K < N) (hC : C < N) {rs : List (List V)} (h : Fits F K rs) {v : V} (hv : Vok v) : fromE v (-1) (ixOf C K rs) = [] := by
  rw [(ix_spec hl hK hC h).1.froms hv]
  rfl
end Go.Proofs.Ytjacaammlkjodaa
