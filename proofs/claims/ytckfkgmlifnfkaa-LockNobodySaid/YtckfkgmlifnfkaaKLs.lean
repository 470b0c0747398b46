/-
  Sessions that share a table, in plain words.
-/
import Derived.Test.YtckfkgmlifnfkaaKLr
namespace Go.Proofs.Ytckfkgmlifnfkaa
def Sh (t : List UInt8) (k : Nat) : List Hd := (List.range k).map fun i => ⟨(i : Nat), t, false⟩
theorem mem_Sh {t : List UInt8} {N : Nat} {h : Hd} : h ∈ Sh t N ↔ ∃ i, i < N ∧ h = ⟨(i : Nat), t, false⟩ := by
  unfold Sh
  rw [List.mem_map]
  constructor
  · rintro ⟨i, hi, rfl⟩
    exact ⟨i, List.mem_range.1 hi, rfl⟩
  · rintro ⟨i, hi, rfl⟩
    exact ⟨i, List.mem_range.2 hi, rfl⟩
theorem ask_free {H W : List Hd} {h : Hd} (hn : ∀ k ∈ H, ¬ (k.s = h.s ∧ k.t = h.t)) (hx : ∀ k ∈ H, k.t = h.t → (h.x || k.x) = false) : askH H h = H ++ [h] ∧ askB H h = true ∧ askW H W h = wo W h.s := by
  have hc : covers H h = false := At.covers_neg hn
  have ha : H.any (clash h) = false := by
    rw [List.any_eq_false]
    intro k hk
    unfold clash
    by_cases e : h.t = k.t
    · rw [hx k hk e.symm]; simp
    · rw [decide_eq_false e]; simp
  unfold askH askB askW
  simp only [hc, ha, Bool.false_eq_true, if_false]
  exact ⟨At.wth_neg hn, trivial, trivial⟩
theorem Sh_ask (t : List UInt8) (k : Nat) : askH (Sh t k) ⟨(k : Nat), t, false⟩ = Sh t (k + 1) ∧ askB (Sh t k) ⟨(k : Nat), t, false⟩ = true ∧ askW (Sh t k) [] ⟨(k : Nat), t, false⟩ = [] := by
  obtain ⟨h1, h2, h3⟩ := ask_free (H := Sh t k) (W := []) (h := ⟨(k : Nat), t, false⟩) (fun q hq e => by
    obtain ⟨i, hi, rfl⟩ := mem_Sh.1 hq
    have e1 : (i : Int) = (k : Int) := e.1
    omega) (fun q hq _ => by
    obtain ⟨i, hi, rfl⟩ := mem_Sh.1 hq
    rfl)
  refine ⟨h1.trans ?_, h2, h3.trans rfl⟩
  unfold Sh
  rw [List.range_succ, List.map_append, List.map_singleton]
theorem Sh_wait (t : List UInt8) {N X : Nat} (hN : 2 ≤ N) (_hX : X < N) : askH (Sh t N) ⟨(X : Nat), t, true⟩ = Sh t N ∧ askB (Sh t N) ⟨(X : Nat), t, true⟩ = false ∧ askW (Sh t N) [] ⟨(X : Nat), t, true⟩ = [⟨(X : Nat), t, true⟩] := by
  have hc : covers (Sh t N) ⟨(X : Nat), t, true⟩ = false := by
    unfold covers
    rw [Bool.or_eq_false_iff, decide_eq_false_iff_not, decide_eq_false_iff_not]
    refine ⟨fun h => ?_, fun h => ?_⟩
    · obtain ⟨i, _, e⟩ := mem_Sh.1 h
      have := congrArg Hd.x e
      cases this
    · obtain ⟨i, _, e⟩ := mem_Sh.1 h
      have := congrArg Hd.x e
      cases this
  have ha : (Sh t N).any (clash ⟨(X : Nat), t, true⟩) = true := by
    obtain ⟨Y, hY, hne⟩ : ∃ Y, Y < N ∧ Y ≠ X := by
      by_cases e : X = 0
      · exact ⟨1, by omega, by omega⟩
      · exact ⟨0, by omega, by omega⟩
    refine List.any_eq_true.2 ⟨⟨(Y : Nat), t, false⟩, mem_Sh.2 ⟨Y, hY, rfl⟩, ?_⟩
    unfold clash
    have h1 : (X : Int) ≠ (Y : Int) := by omega
    simp only [decide_eq_true h1, decide_true, Bool.true_or, Bool.and_true]
  unfold askH askB askW
  simp only [hc, ha, Bool.false_eq_true, if_false, if_true]
  exact ⟨trivial, trivial, rfl⟩
/-- Those that are not freed yet. -/
def Fr (t : List UInt8) (N X k : Nat) : List Hd := (Sh t N).filter fun h => decide ((k : Int) ≤ h.s) || decide (h.s = (X : Int))
theorem Fr_start (t : List UInt8) (N X : Nat) : Fr t N X 0 = Sh t N := by
  unfold Fr
  rw [List.filter_eq_self]
  intro h hh
  obtain ⟨i, _, rfl⟩ := mem_Sh.1 hh
  simp
theorem Fr_skip (t : List UInt8) (N X : Nat) : Fr t N X (X + 1) = Fr t N X X := by
  unfold Fr
  refine List.filter_congr fun h _ => ?_
  rw [Bool.eq_iff_iff]
  simp only [Bool.or_eq_true, decide_eq_true_eq]
  omega
theorem Fr_step (t : List UInt8) {N X k : Nat} (hne : k ≠ X) : wo (Fr t N X k) (k : Nat) = Fr t N X (k + 1) := by
  unfold Fr wo
  rw [List.filter_filter]
  refine List.filter_congr fun h _ => ?_
  rw [Bool.eq_iff_iff]
  simp only [Bool.or_eq_true, Bool.and_eq_true, decide_eq_true_eq]
  omega
theorem Fr_end (t : List UInt8) {N X : Nat} (hX : X < N) : Fr t N X N = [⟨(X : Nat), t, false⟩] := by
  unfold Fr Sh
  rw [List.filter_map]
  have : (List.range N).filter ((fun h : Hd => decide ((N : Int) ≤ h.s) || decide (h.s = (X : Int))) ∘ fun i : Nat => (⟨(i : Nat), t, false⟩ : Hd)) = (List.range N).filter (fun i => i == X) := by
    refine List.filter_congr fun i hi => ?_
    have := List.mem_range.1 hi
    rw [Bool.eq_iff_iff]
    simp only [Function.comp, Bool.or_eq_true, decide_eq_true_eq, beq_iff_eq]
    omega
  rw [this, List.filter_beq, List.count_range, if_pos hX]
  rfl
theorem Sh_last (t : List UInt8) (X : Nat) : askH [⟨(X : Nat), t, false⟩] ⟨(X : Nat), t, true⟩ = [⟨(X : Nat), t, true⟩] ∧ askB [⟨(X : Nat), t, false⟩] ⟨(X : Nat), t, true⟩ = true ∧ askW [⟨(X : Nat), t, false⟩] [⟨(X : Nat), t, true⟩] ⟨(X : Nat), t, true⟩ = [] := by
  have hc : covers [⟨(X : Nat), t, false⟩] ⟨(X : Nat), t, true⟩ = false := by
    unfold covers
    rw [Bool.or_eq_false_iff, decide_eq_false_iff_not, decide_eq_false_iff_not]
    refine ⟨fun h => ?_, fun h => ?_⟩
    · have := congrArg Hd.x (List.mem_singleton.1 h)
      cases this
    · have := congrArg Hd.x (List.mem_singleton.1 h)
      cases this
  have ha : [(⟨(X : Nat), t, false⟩ : Hd)].any (clash ⟨(X : Nat), t, true⟩) = false := by
    simp [clash]
  unfold askH askB askW
  simp only [hc, ha, Bool.false_eq_true, if_false]
  refine ⟨?_, trivial, ?_⟩
  · unfold wthH
    rw [show [(⟨(X : Nat), t, false⟩ : Hd)].findIdx? (fun k => decide ((⟨(X : Nat), t, true⟩ : Hd).as false = k)) = some 0 by simp [Hd.as]]
    rfl
  · simp [wo]
end Go.Proofs.Ytckfkgmlifnfkaa
