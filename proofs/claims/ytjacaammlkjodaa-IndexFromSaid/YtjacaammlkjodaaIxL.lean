/-
  Statements of chapter 11, plain: what an index of rows that fit holds.
-/
import Derived.Test.YtjacaammlkjodaaLaw11
namespace Go.Proofs.Ytjacaammlkjodaa
theorem val_vok {k n : Int} {s : ByteArray} (h : Val k n s) (h2 : -9223372036854775808 ≤ n ∧ n ≤ 9223372036854775807) : Vok ⟨k, n, s⟩ := by
  cases h with
  | none => exact .none
  | bool n h3 h4 => exact .bool _ (by omega)
  | int n => exact .int _ h2
  | text s h => exact .text _ h
theorem fit_rng (n : Int) (i : Nat) (c : Co) : -9223372036854775808 ≤ (fitVal n i c).n ∧ (fitVal n i c).n ≤ 9223372036854775807 := by
  have h1 := wth_lo (n.tdiv (1 + 3 * (i : Int))) 40 (by omega)
  have h2 := wth_hi (n.tdiv (1 + 3 * (i : Int))) 40 (by omega)
  have h3 := wth_lo (fitN n i) 2 (by omega)
  have h4 := wth_hi (fitN n i) 2 (by omega)
  unfold fitVal
  split
  · exact ⟨by decide, by decide⟩
  split
  · simp only; omega
  split
  · simp only; unfold fitN; omega
  · simp only; omega
theorem fit_vok (n : Int) (i : Nat) (c : Co) : Vok (fitVal n i c) := val_vok (fit_val n i c) (fit_rng n i c)
theorem fits_at {F : List Co} {N K C : Nat} (hl : F.length = N) (hC : C < N) {rs : List (List V)} (h : Fits F K rs) {y : List V} (hy : y ∈ rs) : C < y.length ∧ ∃ n c, F[C]? = some c ∧ kOf C y = fitVal n C c := by
  obtain ⟨n, rfl⟩ := h.mem y hy
  obtain ⟨c, hc⟩ : ∃ c, F[C]? = some c := ⟨F[C]'(by omega), List.getElem?_eq_getElem _⟩
  exact ⟨by rw [fitRow_len, hl]; exact hC, n, c, hc, kOf_fit hc⟩
theorem fits_vok {F : List Co} {N K C : Nat} (hl : F.length = N) (hK : K < N) (hC : C < N) {rs : List (List V)} (h : Fits F K rs) : ∀ r ∈ rs, C < r.length ∧ K < r.length ∧ Vok (kOf C r) ∧ Vok (kOf K r) := fun r hr => by
  obtain ⟨h1, n, c, -, e1⟩ := fits_at hl hC h hr
  obtain ⟨h2, m, d, -, e2⟩ := fits_at hl hK h hr
  exact ⟨h1, h2, by rw [e1]; exact fit_vok .., by rw [e2]; exact fit_vok ..⟩
theorem fold_spec (c K : Nat) : ∀ (l : List (List V)) (es : List En), Ents es → (∀ r ∈ l, Eok (entOf c K r)) → Ents (l.foldl (fun es r => addE (entOf c K r) es) es) ∧ ∀ e, e ∈ l.foldl (fun es r => addE (entOf c K r) es) es ↔ e ∈ es ∨ ∃ r ∈ l, e = entOf c K r
  | [], es, h, _ => ⟨h, fun e => ⟨.inl, fun q => q.elim id fun ⟨r, hr, _⟩ => by cases hr⟩⟩
  | r :: l, es, h, hv => by
    have hr := hv r List.mem_cons_self
    obtain ⟨h1, h2⟩ := fold_spec c K l (addE (entOf c K r) es) (h.add hr) (fun x hx => hv x (List.mem_cons_of_mem _ hx))
    refine ⟨h1, fun e => ?_⟩
    rw [List.foldl_cons, h2 e, h.mem_add hr e]
    constructor
    · rintro ((rfl | hq) | ⟨x, hx, rfl⟩)
      · exact .inr ⟨r, List.mem_cons_self, rfl⟩
      · exact .inl hq
      · exact .inr ⟨x, List.mem_cons_of_mem _ hx, rfl⟩
    · rintro (hq | ⟨x, hx, rfl⟩)
      · exact .inl (.inr hq)
      · rcases List.mem_cons.1 hx with rfl | hx
        · exact .inl (.inl rfl)
        · exact .inr ⟨x, hx, rfl⟩
theorem ix_spec {F : List Co} {N K C : Nat} (hl : F.length = N) (hK : K < N) (hC : C < N) {rs : List (List V)} (h : Fits F K rs) : Ents (ixOf C K rs) ∧ ∀ e, e ∈ ixOf C K rs ↔ ∃ r ∈ rs, e = entOf C K r := by
  obtain ⟨h1, h2⟩ := fold_spec C K rs [] Ents.nil (fun r hr => (fits_vok hl hK hC h r hr).2.2)
  refine ⟨h1, fun e => ?_⟩
  unfold ixOf
  rw [h2 e]
  exact ⟨fun q => q.elim (fun q => by cases q) id, .inr⟩
theorem toL (s : ByteArray) : s.toList = s.data.toList := ByteArray.toList_eq s
/-- No row has these. -/
def ZV : V := ⟨3, 0, ⟨#[122, 122, 122, 122, 122, 122, 122, 122, 122, 122]⟩⟩
def BV : V := ⟨2, 1099511627776, ⟨#[]⟩⟩
theorem zv_ok : Vok ZV := .text _ (by decide)
theorem bv_ok : Vok BV := .int _ (by decide)
theorem fit_zz (n : Int) (i : Nat) (c : Co) : (fitVal n i c).cmp ZV < 0 := by
  unfold fitVal
  have hk : ∀ v : V, v.k = 0 ∨ v.k = 1 ∨ v.k = 2 → v.cmp ZV < 0 := fun v hv => by
    have h3 : ZV.k = 3 := rfl
    rw [cmp_kind (by rw [h3]; omega), h3]
    unfold cmpI
    rw [if_pos (by omega)]
    decide
  split
  · exact hk _ (.inl rfl)
  split
  · exact hk _ (.inr (.inl rfl))
  split
  · exact hk _ (.inr (.inr rfl))
  · unfold ZV
    rw [cmp_text, toL, toL]
    generalize (wth (fitN n i) 9).toNat = k
    have hd : (abcS.extract 0 k).data.toList = abcS.data.toList.take k := by
      rw [ByteArray.data_extract]
      simp
    rw [hd]
    cases k with
    | zero => decide
    | succ k =>
      have e : abcS.data.toList.take (k + 1) = 97 :: [98, 99, 100, 101, 102, 103, 104, 105, 106, 107, 108, 109, 110, 111, 112, 113, 114, 115, 116, 117, 118, 119, 120, 121, 122].take k := rfl
      rw [e, cmpL_ahead _ _ _ _ (by decide)]
      decide
theorem fit_bv (n : Int) (i : Nat) (c : Co) : fitVal n i c ≠ BV := by
  have h1 := wth_lo (n.tdiv (1 + 3 * (i : Int))) 40 (by omega)
  have h2 := wth_hi (n.tdiv (1 + 3 * (i : Int))) 40 (by omega)
  have hn : (fitVal n i c).k = 2 → (fitVal n i c).n ≠ 1099511627776 := by
    unfold fitVal
    split
    · intro q; cases q
    split
    · intro q; cases q
    split
    · intro _; simp only; unfold fitN; omega
    · intro q; cases q
  intro e
  have e1 := congrArg V.k e
  have e2 := congrArg V.n e
  exact hn e1 e2
theorem none_keys {es : List En} (h : Ents es) {v : V} (hv : Vok v) (hn : ∀ e ∈ es, e.v ≠ v) : keysE v es = [] := by
  rw [h.keys hv, List.filter_eq_nil_iff.2 (fun e he => by
    have : e.v.cmp v ≠ 0 := fun q => hn e he ((V.cmp_zero _ _).1 q)
    simpa using this)]
  rfl
theorem none_from {es : List En} (h : Ents es) {v : V} (hv : Vok v) (m : Int) (hn : ∀ e ∈ es, e.v.cmp v < 0) : fromE v m es = [] := by
  rw [h.froms hv, List.filter_eq_nil_iff.2 (fun e he => by
    have := hn e he
    simp
    omega)]
  simp
end Go.Proofs.Ytjacaammlkjodaa
