/-
  Locks in plain words: no two holds against one another, nobody waits twice; the reference's Ask; rings that can be reckoned.
-/
import Derived.Test.YtllijeciodmckaaKLk
namespace Go.Proofs.Ytllijeciodmckaa

/-- No two holds of one table by one session, none against one another. -/
def Apt (H : List Hd) : Prop := H.Pairwise fun (a b : Hd) => a.t = b.t → a.s ≠ b.s ∧ a.x = false ∧ b.x = false
def Once (W : List Hd) : Prop := W.Pairwise fun (a b : Hd) => a.s ≠ b.s
theorem Apt.get {H : List Hd} (h : Apt H) {i j : Nat} {a b : Hd} (hi : H[i]? = some a) (hj : H[j]? = some b) (hne : i ≠ j) (ht : a.t = b.t) : a.s ≠ b.s ∧ a.x = false ∧ b.x = false := by
  obtain ⟨hi1, rfl⟩ := List.getElem?_eq_some_iff.1 hi
  obtain ⟨hj1, rfl⟩ := List.getElem?_eq_some_iff.1 hj
  have hp := List.pairwise_iff_getElem.1 h
  rcases Nat.lt_or_gt_of_ne hne with hl | hl
  · exact hp i j hi1 hj1 hl ht
  · obtain ⟨h1, h2, h3⟩ := hp j i hj1 hi1 hl ht.symm
    exact ⟨fun e => h1 e.symm, h3, h2⟩
theorem Apt.of {H : List Hd} (h : ∀ (i j : Nat) (a b : Hd), i < j → H[i]? = some a → H[j]? = some b → a.t = b.t → a.s ≠ b.s ∧ a.x = false ∧ b.x = false) : Apt H :=
  List.pairwise_iff_getElem.2 fun i j hi hj hl ht => h i j _ _ hl (List.getElem?_eq_getElem hi) (List.getElem?_eq_getElem hj) ht
theorem Apt.nil : Apt [] := List.Pairwise.nil
theorem Apt.one {H : List Hd} (h : Apt H) {a b : Hd} (ha : a ∈ H) (hb : b ∈ H) (hs : a.s = b.s) (ht : a.t = b.t) : a = b := by
  obtain ⟨i, hi⟩ := List.getElem?_of_mem ha
  obtain ⟨j, hj⟩ := List.getElem?_of_mem hb
  by_cases e : i = j
  · subst e
    rw [hi] at hj
    exact Option.some.inj hj
  · exact absurd hs (h.get hi hj e ht).1
theorem as_of {k h : Hd} (hs : k.s = h.s) (ht : k.t = h.t) : k = h.as k.x := by
  cases k
  cases h
  simp only at hs ht
  subst hs ht
  rfl
theorem covers_false {H : List Hd} {h k : Hd} (hc : covers H h = false) (hk : k ∈ H) (hs : k.s = h.s) (ht : k.t = h.t) : k = h.as false ∧ h.x = true := by
  unfold covers at hc
  rw [Bool.or_eq_false_iff, decide_eq_false_iff_not, decide_eq_false_iff_not] at hc
  have he := as_of hs ht
  cases hx : k.x
  · rw [hx] at he
    refine ⟨he, ?_⟩
    cases hhx : h.x
    · exact absurd (by rw [← show h.as false = h from by rw [← hhx]; rfl, ← he]; exact hk) hc.1
    · rfl
  · rw [hx] at he
    exact absurd (by rw [← he]; exact hk) hc.2
theorem any_clash_false {H : List Hd} {h k : Hd} (hc : H.any (clash h) = false) (hk : k ∈ H) (hs : h.s ≠ k.s) (ht : h.t = k.t) : h.x = false ∧ k.x = false := by
  have h1 : clash h k = false := by
    cases hq : clash h k
    · rfl
    · rw [List.any_eq_true.2 ⟨k, hk, hq⟩] at hc
      cases hc
  unfold clash at h1
  rw [decide_eq_true hs, decide_eq_true ht] at h1
  simpa using h1
theorem idx_some {H : List Hd} {h : Hd} {i : Nat} (hi : H.findIdx? (fun k => decide (h = k)) = some i) : H[i]? = some h := by
  obtain ⟨hl, h1, _⟩ := List.findIdx?_eq_some_iff_getElem.1 hi
  rw [List.getElem?_eq_getElem hl, ← of_decide_eq_true h1]
theorem idx_none {H : List Hd} {h : Hd} (hi : H.findIdx? (fun k => decide (h = k)) = none) : h ∉ H := fun hm => by
  have := List.findIdx?_eq_none_iff.1 hi h hm
  simp at this
theorem askH_apt {H : List Hd} (hA : Apt H) (h : Hd) : Apt (askH H h) := by
  unfold askH
  split
  · exact hA
  · rename_i hc
    split
    · exact hA
    · rename_i hn
      have hc' : covers H h = false := by simpa using hc
      have hn' : H.any (clash h) = false := by simpa using hn
      unfold wthH
      split
      · rename_i i hi
        have hi' := idx_some hi
        have hil := (List.getElem?_eq_some_iff.1 hi').1
        refine Apt.of fun p q a b hpq ha hb ht => ?_
        rw [List.getElem?_set] at ha hb
        split at ha <;> split at hb
        · omega
        · rename_i e1 e2
          subst e1
          obtain rfl := Option.some.inj ha
          obtain ⟨h1, h2, h3⟩ := hA.get hi' hb e2 ht
          exact ⟨h1, (any_clash_false hn' (List.mem_of_getElem? hb) h1 ht).1, h3⟩
        · rename_i e1 e2
          subst e2
          obtain rfl := Option.some.inj hb
          obtain ⟨h1, h2, h3⟩ := hA.get ha hi' (fun e => e1 e.symm) ht
          exact ⟨h1, h2, (any_clash_false hn' (List.mem_of_getElem? ha) (fun e => h1 e.symm) ht.symm).1⟩
        · exact hA.get ha hb (by omega) ht
      · rename_i hi
        have hi' := idx_none hi
        refine List.pairwise_append.2 ⟨hA, List.pairwise_singleton _ _, fun a ha b hb ht => ?_⟩
        obtain rfl := List.mem_singleton.1 hb
        have h1 : a.s ≠ b.s := fun e => hi' (by rw [← (covers_false hc' ha e ht).1]; exact ha)
        obtain ⟨h2, h3⟩ := any_clash_false hn' ha (fun e => h1 e.symm) ht.symm
        exact ⟨h1, h3, h2⟩
theorem wo_apt {H : List Hd} (hA : Apt H) (s : Int) : Apt (wo H s) := hA.filter _
theorem wo_once {W : List Hd} (hW : Once W) (s : Int) : Once (wo W s) := hW.filter _
theorem askW_once {W : List Hd} (hW : Once W) (H : List Hd) (h : Hd) : Once (askW H W h) := by
  unfold askW
  split
  · exact wo_once hW _
  · split
    · refine List.pairwise_append.2 ⟨wo_once hW _, List.pairwise_singleton _ _, fun a ha b hb => ?_⟩
      obtain rfl := List.mem_singleton.1 hb
      exact (mem_wo.1 ha).2
    · exact wo_once hW _
theorem askB_waits {H W : List Hd} {h : Hd} (hb : askB H h = true) : ∀ k ∈ askW H W h, k.s ≠ h.s := by
  unfold askB at hb
  unfold askW
  intro k hk
  split at hb
  · rename_i hc
    rw [if_pos hc] at hk
    exact (mem_wo.1 hk).2
  · rename_i hc
    rw [if_neg hc] at hk
    split at hb
    · cases hb
    · rename_i hn
      rw [if_neg hn] at hk
      exact (mem_wo.1 hk).2
theorem wth_length (H : List Hd) (h : Hd) : (wthH H h).length ≤ H.length + 1 := by
  unfold wthH
  split
  · simp
  · simp
theorem askH_length (H : List Hd) (h : Hd) : (askH H h).length ≤ H.length + 1 := by
  unfold askH
  split
  · omega
  · split
    · omega
    · exact wth_length H h
theorem wo_length (W : List Hd) (s : Int) : (wo W s).length ≤ W.length := List.length_filter_le _ _
theorem askW_length (H W : List Hd) (h : Hd) : (askW H W h).length ≤ W.length + 1 := by
  have := wo_length W h.s
  unfold askW
  split
  · omega
  · split
    · simp; omega
    · omega

/-- THE REFERENCE's WAY: o is where one's own hold of that table stands, or -1. -/
def At (H : List Hd) (h : Hd) (o : Int) : Prop := (o = -1 ∧ ∀ k ∈ H, ¬ (k.s = h.s ∧ k.t = h.t)) ∨ ∃ i k, o = ((i : Nat) : Int) ∧ H[i]? = some k ∧ k.s = h.s ∧ k.t = h.t
theorem At.covers_neg {H : List Hd} {h : Hd} (ha : ∀ k ∈ H, ¬ (k.s = h.s ∧ k.t = h.t)) : covers H h = false := by
  unfold covers
  rw [Bool.or_eq_false_iff, decide_eq_false_iff_not, decide_eq_false_iff_not]
  exact ⟨fun hm => ha h hm ⟨rfl, rfl⟩, fun hm => ha _ hm ⟨rfl, rfl⟩⟩
theorem At.covers_pos {H : List Hd} (hA : Apt H) {h k : Hd} {i : Nat} (hi : H[i]? = some k) (hs : k.s = h.s) (ht : k.t = h.t) : covers H h = (k.x || !h.x) := by
  have hk := List.mem_of_getElem? hi
  cases hx : (k.x || !h.x)
  · rw [Bool.or_eq_false_iff] at hx
    have hhx : h.x = true := by simpa using hx.2
    unfold covers
    rw [Bool.or_eq_false_iff, decide_eq_false_iff_not, decide_eq_false_iff_not]
    refine ⟨fun hm => ?_, fun hm => ?_⟩
    · have := hA.one hk hm hs ht
      rw [this, hhx] at hx
      cases hx.1
    · have := hA.one hk hm hs ht
      rw [this] at hx
      cases hx.1
  · cases hq : covers H h
    · obtain ⟨h1, h2⟩ := covers_false hq hk hs ht
      rw [h1, h2] at hx
      cases hx
    · rfl
theorem At.wth_neg {H : List Hd} {h : Hd} (ha : ∀ k ∈ H, ¬ (k.s = h.s ∧ k.t = h.t)) : wthH H h = H ++ [h] := by
  unfold wthH
  split
  · rename_i i hi
    exact absurd ⟨rfl, rfl⟩ (ha _ (List.mem_of_getElem? (idx_some hi)))
  · rfl
theorem At.wth_pos {H : List Hd} (hA : Apt H) {h k : Hd} {i : Nat} (hi : H[i]? = some k) (hs : k.s = h.s) (ht : k.t = h.t) (hc : covers H h = false) : wthH H h = H.set i { k with x := true } := by
  obtain ⟨h1, h2⟩ := covers_false hc (List.mem_of_getElem? hi) hs ht
  subst h1
  have e : { h.as false with x := true } = h := by
    cases h
    simp only at h2
    subst h2
    rfl
  rw [e]
  unfold wthH
  split
  · rename_i j hj
    have hj' := idx_some hj
    by_cases ej : i = j
    · rw [ej]
    · exact absurd rfl (hA.get hi hj' ej rfl).1
  · rename_i hn
    exact absurd (List.mem_of_getElem? hi) (idx_none hn)

/-! rings that can be reckoned -/
def sucs (M T : List Hd) (L : List Int) : List Int := (T.filter fun t => M.any fun m => decide (m.s ∈ L) && clash m t).map Hd.s
theorem mem_sucs {M T : List Hd} {L : List Int} {y : Int} : y ∈ sucs M T L ↔ ∃ a ∈ L, Ed M T a y := by
  unfold sucs
  rw [List.mem_map]
  constructor
  · rintro ⟨t, ht, rfl⟩
    rw [List.mem_filter] at ht
    obtain ⟨m, hm, h1⟩ := List.any_eq_true.1 ht.2
    rw [Bool.and_eq_true] at h1
    exact ⟨m.s, of_decide_eq_true h1.1, m, hm, rfl, t, ht.1, rfl, h1.2⟩
  · rintro ⟨a, ha, m, hm, rfl, t, ht, rfl, h3⟩
    exact ⟨t, List.mem_filter.2 ⟨ht, List.any_eq_true.2 ⟨m, hm, by rw [h3, decide_eq_true ha]; rfl⟩⟩, rfl⟩
def rchL (M T : List Hd) (s : Int) : Nat → List Int
  | 0 => sucs M T [s]
  | k + 1 => sucs M T (s :: rchL M T s k)
theorem rchL_sound (M T : List Hd) (s : Int) : ∀ k x, x ∈ rchL M T s k → Rch M T s x
  | 0, x, h => by
    obtain ⟨a, ha, he⟩ := mem_sucs.1 h
    obtain rfl := List.mem_singleton.1 ha
    exact .one he
  | k + 1, x, h => by
    obtain ⟨a, ha, he⟩ := mem_sucs.1 h
    rcases List.mem_cons.1 ha with rfl | ha
    · exact .one he
    · exact .more (rchL_sound M T s k a ha) he
def vicOk (H W : List Hd) (s v : Int) (ok : Bool) : Bool :=
  let A := rchL W H s 3
  let B := rchL H W s 3
  (sucs W H (s :: A)).all (fun y => decide (y ∈ A)) && (sucs H W (s :: B)).all (fun y => decide (y ∈ B)) &&
    (if ok then decide (v ∈ A) && decide (v ∈ B) && A.all (fun x => !decide (x ∈ B) || decide (x ≤ v)) else decide (v = 0) && A.all (fun x => !decide (x ∈ B)))
theorem rchL_all {M T : List Hd} {s : Int} {k : Nat} (h : (sucs M T (s :: rchL M T s k)).all (fun y => decide (y ∈ rchL M T s k)) = true) {x : Int} : x ∈ rchL M T s k ↔ Rch M T s x := by
  refine ⟨rchL_sound M T s k x, fun hr => ?_⟩
  have hc := List.all_eq_true.1 h
  exact hr.closed (· ∈ rchL M T s k) (fun y hy => of_decide_eq_true (hc y (mem_sucs.2 ⟨s, by simp, hy⟩))) (fun a y ha hy => of_decide_eq_true (hc y (mem_sucs.2 ⟨a, List.mem_cons_of_mem _ ha, hy⟩)))
theorem vicOk_vic {H W : List Hd} {s v : Int} {ok : Bool} (h : vicOk H W s v ok = true) : Vic H W s v ok := by
  unfold vicOk at h
  simp only [Bool.and_eq_true] at h
  obtain ⟨⟨hA, hB⟩, h⟩ := h
  have mA := fun x => rchL_all (x := x) hA
  have mB := fun x => rchL_all (x := x) hB
  cases ok
  · simp only [Bool.false_eq_true, if_false, Bool.and_eq_true] at h
    refine .inr ⟨rfl, of_decide_eq_true h.1, fun x hx hy => ?_⟩
    have := List.all_eq_true.1 h.2 x ((mA x).2 hx)
    rw [decide_eq_true ((mB x).2 hy.symm)] at this
    cases this
  · simp only [if_true, Bool.and_eq_true] at h
    refine .inl ⟨rfl, (mA v).1 (of_decide_eq_true h.1.1), ((mB v).1 (of_decide_eq_true h.1.2)).symm, fun x hx hy => ?_⟩
    have := List.all_eq_true.1 h.2 x ((mA x).2 hx)
    rw [decide_eq_true ((mB x).2 hy.symm)] at this
    simpa using this
end Go.Proofs.Ytllijeciodmckaa
