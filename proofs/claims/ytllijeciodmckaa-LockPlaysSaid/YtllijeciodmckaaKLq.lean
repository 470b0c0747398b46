/-
  Sessions within bounds, in plain words.
-/
import Derived.Test.YtllijeciodmckaaKLr
namespace Go.Proofs.Ytllijeciodmckaa
def Sm (l : List Hd) : Prop := ∀ y ∈ l, 0 ≤ y.s ∧ y.s < 8
theorem Sm.nil : Sm [] := fun y hy => by simp at hy
theorem mem_askH {H : List Hd} {h y : Hd} (hy : y ∈ askH H h) : y ∈ H ∨ y = h := by
  unfold askH at hy
  split at hy
  · exact .inl hy
  · split at hy
    · exact .inl hy
    · unfold wthH at hy
      split at hy
      · rcases List.mem_or_eq_of_mem_set hy with h1 | h1
        · exact .inl h1
        · exact .inr h1
      · rcases List.mem_append.1 hy with h1 | h1
        · exact .inl h1
        · exact .inr (List.mem_singleton.1 h1)
theorem mem_askW {H W : List Hd} {h y : Hd} (hy : y ∈ askW H W h) : y ∈ W ∨ y = h := by
  unfold askW at hy
  split at hy
  · exact .inl (mem_wo.1 hy).1
  · split at hy
    · rcases List.mem_append.1 hy with h1 | h1
      · exact .inl (mem_wo.1 h1).1
      · exact .inr (List.mem_singleton.1 h1)
    · exact .inl (mem_wo.1 hy).1
theorem Sm.askH {H : List Hd} {h : Hd} (hH : Sm H) (hh : 0 ≤ h.s ∧ h.s < 8) : Sm (askH H h) := fun y hy => by
  rcases mem_askH hy with h1 | rfl
  · exact hH y h1
  · exact hh
theorem Sm.askW {H W : List Hd} {h : Hd} (hW : Sm W) (hh : 0 ≤ h.s ∧ h.s < 8) : Sm (askW H W h) := fun y hy => by
  rcases mem_askW hy with h1 | rfl
  · exact hW y h1
  · exact hh
theorem Sm.wo {W : List Hd} (hW : Sm W) (s : Int) : Sm (wo W s) := fun y hy => hW y (mem_wo.1 hy).1
theorem askW_true {H : List Hd} {h : Hd} (hb : askB H h = true) : askW H [] h = [] := by
  unfold askB at hb
  unfold Go.Proofs.Ytllijeciodmckaa.askW
  split at hb
  · rename_i hc
    rw [if_pos hc]
    rfl
  · rename_i hc
    rw [if_neg hc]
    split at hb
    · cases hb
    · rename_i hn
      rw [if_neg hn]
      rfl
theorem askW_nil (H : List Hd) (h : Hd) : askW H [] h = [] ∨ askW H [] h = [h] := by
  unfold Go.Proofs.Ytllijeciodmckaa.askW
  split
  · exact .inl rfl
  · split
    · exact .inr rfl
    · exact .inl rfl
theorem vic_nobody (H : List Hd) (h : Hd) (s : Int) : Vic (askH H h) (askW H [] h) s 0 false := by
  rcases askW_nil H h with e | e
  · rw [e]; exact vic_none _ _
  · rw [e]; exact vic_one _ _ _
/-- Locks as they come about: within bounds, nobody twice. -/
structure Good (n : Nat) (H W : List Hd) : Prop where
  smH : Sm H
  smW : Sm W
  apt : Apt H
  once : Once W
  lenH : H.length ≤ n
  lenW : W.length ≤ n
theorem Good.start : Good 0 [] [] := ⟨Sm.nil, Sm.nil, Apt.nil, List.Pairwise.nil, Nat.le_refl _, Nat.le_refl _⟩
theorem Good.ask {n : Nat} {H W : List Hd} (h : Good n H W) {k : Hd} (hk : 0 ≤ k.s ∧ k.s < 8) : Good (n + 1) (askH H k) (askW H W k) :=
  ⟨h.smH.askH hk, h.smW.askW hk, askH_apt h.apt k, askW_once h.once H k, by have := askH_length H k; have := h.lenH; omega, by have := askW_length H W k; have := h.lenW; omega⟩
theorem Good.free {n : Nat} {H W : List Hd} (h : Good n H W) (s : Int) : Good (n + 1) (wo H s) (Go.Proofs.Ytllijeciodmckaa.wo W s) :=
  ⟨h.smH.wo s, h.smW.wo s, wo_apt h.apt s, wo_once h.once s, by have := wo_length H s; have := h.lenH; omega, by have := wo_length W s; have := h.lenW; omega⟩
end Go.Proofs.Ytllijeciodmckaa
