/-
  Roots, proofs and ways of a list of sums, plain: from above and from below they are the same.
-/
import Derived.KernelRfl
namespace Go.Proofs.YtpphlmbhonaglaaDoor.Mk
section
variable {H : Type}

/-- The greatest power of two that is less than n; n from 2 on. -/
def part (n : Nat) : Nat := 2 ^ (n - 1).log2
theorem part_pos (n : Nat) : 1 ≤ part n := Nat.one_le_two_pow
theorem part_lt {n : Nat} (h : 2 ≤ n) : part n < n := by
  have := Nat.log2_self_le (n := n - 1) (by omega)
  unfold part
  omega
theorem part_le {n : Nat} : n ≤ 2 * part n := by
  have := Nat.lt_log2_self (n := n - 1)
  unfold part
  rw [Nat.pow_succ] at this
  omega
theorem part_eq {n j : Nat} (h1 : 2 ^ j < n) (h2 : n ≤ 2 * 2 ^ j) : part n = 2 ^ j := by
  unfold part
  have : (n - 1).log2 = j := (Nat.log2_eq_iff (by omega)).2 ⟨by omega, by rw [Nat.pow_succ]; omega⟩
  rw [this]
theorem part_two : part 2 = 1 := part_eq (j := 0) (by omega) (by omega)
theorem part_even {n : Nat} (h : 3 ≤ n) : part n % 2 = 0 ∧ 2 ≤ part n := by
  have h2 : n ≤ 2 * part n := part_le
  unfold part at *
  cases hj : (n - 1).log2 with
  | zero => rw [hj] at h2; omega
  | succ j => rw [Nat.pow_succ]; have := Nat.one_le_two_pow (n := j); omega
theorem part_half {n : Nat} (h : 3 ≤ n) : part ((n + 1) / 2) = part n / 2 := by
  have h2 : n ≤ 2 * part n := part_le
  have h1 := part_lt (n := n) (by omega)
  have h3 := (part_even h).2
  unfold part at h1 h2 h3 ⊢
  cases hj : (n - 1).log2 with
  | zero => rw [hj] at h3; omega
  | succ j =>
    rw [hj] at h1 h2 h3
    rw [Nat.pow_succ] at *
    have e : 2 ^ j * 2 / 2 = 2 ^ j := by omega
    rw [e]
    exact part_eq (by omega) (by omega)

variable (two : H → H → H) (e : H)
def root (l : List H) : H :=
  if _h : l.length < 2 then l.headD e else two (root (l.take (part l.length))) (root (l.drop (part l.length)))
termination_by l.length
decreasing_by
  · have := part_lt (n := l.length) (by omega); simp; omega
  · have := part_pos l.length; simp; omega
def proof (l : List H) (i : Nat) : List H :=
  if _h : l.length < 2 then [] else if i < part l.length then proof (l.take (part l.length)) i ++ [root two e (l.drop (part l.length))] else proof (l.drop (part l.length)) (i - part l.length) ++ [root two e (l.take (part l.length))]
termination_by l.length
decreasing_by
  · have := part_lt (n := l.length) (by omega); simp; omega
  · have := part_pos l.length; simp; omega
/-- On which side the sum stands, from below: true: to the left. -/
def dirs (n i : Nat) : List Bool :=
  if _h : n < 2 then [] else if i < part n then dirs (part n) i ++ [true] else dirs (n - part n) (i - part n) ++ [false]
termination_by n
decreasing_by
  · exact part_lt (by omega)
  · have := part_pos n; omega
def led (h : H) : List Bool → List H → H
  | d :: ds, x :: p => led (if d then two h x else two x h) ds p
  | _, _ => h
def above : List H → List H
  | a :: b :: t => two a b :: above t
  | l => l
def sib (i : Nat) : Nat := if i % 2 = 0 then i + 1 else i - 1

theorem above_length : ∀ l : List H, (above two l).length = (l.length + 1) / 2
  | [] => by simp [above]
  | [_] => by simp [above]
  | _ :: _ :: t => by simp only [above, List.length_cons, above_length t]; omega
theorem above_append : ∀ (l m : List H), l.length % 2 = 0 → above two (l ++ m) = above two l ++ above two m
  | [], _, _ => rfl
  | [_], _, h => by simp at h
  | a :: b :: t, m, h => by
    simp only [List.length_cons] at h
    simp only [List.cons_append, above, above_append t m (by omega)]
theorem root_one (l : List H) (h : l.length < 2) : root two e l = l.headD e := by rw [root, dif_pos h]
theorem root_more (l : List H) (h : 2 ≤ l.length) : root two e l = two (root two e (l.take (part l.length))) (root two e (l.drop (part l.length))) := by
  rw [root, dif_neg (by omega)]
theorem proof_one (l : List H) (i : Nat) (h : l.length < 2) : proof two e l i = [] := by rw [proof, dif_pos h]
theorem proof_left (l : List H) (i : Nat) (h : 2 ≤ l.length) (hi : i < part l.length) : proof two e l i = proof two e (l.take (part l.length)) i ++ [root two e (l.drop (part l.length))] := by
  rw [proof, dif_neg (by omega), if_pos hi]
theorem proof_right (l : List H) (i : Nat) (h : 2 ≤ l.length) (hi : part l.length ≤ i) : proof two e l i = proof two e (l.drop (part l.length)) (i - part l.length) ++ [root two e (l.take (part l.length))] := by
  rw [proof, dif_neg (by omega), if_neg (by omega)]
theorem dirs_one (n i : Nat) (h : n < 2) : dirs n i = [] := by rw [dirs, dif_pos h]
theorem dirs_left (n i : Nat) (h : 2 ≤ n) (hi : i < part n) : dirs n i = dirs (part n) i ++ [true] := by rw [dirs, dif_neg (by omega), if_pos hi]
theorem dirs_right (n i : Nat) (h : 2 ≤ n) (hi : part n ≤ i) : dirs n i = dirs (n - part n) (i - part n) ++ [false] := by rw [dirs, dif_neg (by omega), if_neg (by omega)]

theorem above_cut (l : List H) (h : 3 ≤ l.length) : (above two l).take (part l.length / 2) = above two (l.take (part l.length)) ∧ (above two l).drop (part l.length / 2) = above two (l.drop (part l.length)) := by
  have h1 := part_lt (n := l.length) (by omega)
  obtain ⟨h2, h3⟩ := part_even h
  have e1 : above two l = above two (l.take (part l.length)) ++ above two (l.drop (part l.length)) := by
    rw [← above_append two _ _ (by rw [List.length_take]; omega), List.take_append_drop]
  have e2 : (above two (l.take (part l.length))).length = part l.length / 2 := by rw [above_length, List.length_take]; omega
  rw [e1]
  exact ⟨by rw [← e2]; exact List.take_left, by rw [← e2]; exact List.drop_left⟩
theorem above_short (l : List H) (h : l.length < 2) : above two l = l := by
  match l, h with
  | [], _ => rfl
  | [_], _ => rfl
theorem root_above_n : ∀ n, ∀ l : List H, l.length = n → root two e (above two l) = root two e l := by
  intro n
  induction n using Nat.strongRecOn with
  | ind n ih =>
    intro l hl
    by_cases h2 : n < 2
    · rw [above_short two l (by omega)]
    · by_cases h3 : n = 2
      · match l, hl, h3 with
        | [a, b], _, _ =>
          rw [root_more _ _ [a, b] (by simp), root_one]
          · simp [above, part_two, root_one]
          · simp [above]
      · obtain ⟨c1, c2⟩ := above_cut two l (by omega)
        have hp := part_lt (n := l.length) (by omega)
        have hq := part_pos l.length
        have hh : (above two l).length = (l.length + 1) / 2 := above_length two l
        rw [root_more _ _ (above two l) (by omega), hh, part_half (by omega), c1, c2, ih (part l.length) (by omega) _ (by rw [List.length_take]; omega), ih (l.length - part l.length) (by omega) _ (by simp), ← root_more two e l (by omega)]
theorem root_above (l : List H) : root two e (above two l) = root two e l := root_above_n two e _ l rfl

theorem sib_lt {i k : Nat} (h : i < k) (hk : k % 2 = 0) : sib i < k := by unfold sib; split <;> omega
theorem sib_ge {i k : Nat} (h : k ≤ i) (hk : k % 2 = 0) : sib i = k + sib (i - k) := by unfold sib; split <;> split <;> omega

theorem getD_take (l : List H) (k j : Nat) (h : j < k) : (l.take k).getD j e = l.getD j e := by simp [List.getD, h]
theorem getD_drop (l : List H) (k j : Nat) : (l.drop k).getD j e = l.getD (k + j) e := by simp [List.getD]
theorem proof_above_n : ∀ n, ∀ (l : List H) (i : Nat), l.length = n → 2 ≤ n → i < n → proof two e l i = (if sib i < n then [l.getD (sib i) e] else []) ++ proof two e (above two l) (i / 2) := by
  intro n
  induction n using Nat.strongRecOn with
  | ind n ih =>
    intro l i hl h2 hi
    subst hl
    by_cases h3 : l.length = 2
    · match l, h3, hi with
      | [a, b], _, hi =>
        have : proof two e (above two [a, b]) (i / 2) = [] := proof_one _ _ _ _ (by simp [above])
        rw [this]
        have hi' : i = 0 ∨ i = 1 := by simp at hi; omega
        rcases hi' with rfl | rfl
        · rw [proof_left _ _ _ _ (by simp) (by simp [part_two])]
          simp [part_two, proof_one, root_one, sib]
        · rw [proof_right _ _ _ _ (by simp) (by simp [part_two])]
          simp [part_two, proof_one, root_one, sib]
    · obtain ⟨c1, c2⟩ := above_cut two l (by omega)
      obtain ⟨he, hk2⟩ := part_even (n := l.length) (by omega)
      have hp := part_lt (n := l.length) (by omega)
      have hh : (above two l).length = (l.length + 1) / 2 := above_length two l
      have hpp : part (above two l).length = part l.length / 2 := by rw [hh, part_half (by omega)]
      by_cases hk : i < part l.length
      · rw [proof_left _ _ l i (by omega) hk, proof_left _ _ (above two l) (i / 2) (by omega) (by rw [hpp]; omega), hpp, c1, c2, root_above,
          ih (part l.length) (by omega) (l.take (part l.length)) i (by rw [List.length_take]; omega) hk2 hk]
        have hs := sib_lt hk he
        rw [if_pos hs, if_pos (by omega), getD_take _ _ _ _ hs, List.append_assoc]
      · rw [proof_right _ _ l i (by omega) (by omega), proof_right _ _ (above two l) (i / 2) (by omega) (by rw [hpp]; omega), hpp, c1, c2, root_above, ← List.append_assoc]
        congr 1
        have hs := sib_ge (show part l.length ≤ i by omega) he
        have hdl : (l.drop (part l.length)).length = l.length - part l.length := List.length_drop
        have hdiv : i / 2 - part l.length / 2 = (i - part l.length) / 2 := by omega
        rw [hdiv]
        by_cases h1 : l.length - part l.length = 1
        · have hi0 : i - part l.length = 0 := by omega
          rw [proof_one _ _ _ _ (by omega), proof_one _ _ (above two (l.drop _)) _ (by rw [above_length]; omega), hs, hi0, if_neg (by simp [sib]; omega)]
          rfl
        · rw [ih (l.length - part l.length) (by omega) _ _ hdl (by omega) (by omega), getD_drop, ← hs]
          congr 1
          by_cases hc : sib i < l.length
          · rw [if_pos hc, if_pos (by omega)]
          · rw [if_neg hc, if_neg (by omega)]
theorem proof_above (l : List H) (i : Nat) (h2 : 2 ≤ l.length) (hi : i < l.length) : proof two e l i = (if sib i < l.length then [l.getD (sib i) e] else []) ++ proof two e (above two l) (i / 2) :=
  proof_above_n two e _ l i rfl h2 hi
theorem dirs_up : ∀ n i : Nat, 2 ≤ n → i < n → dirs n i = (if sib i < n then [i % 2 == 0] else []) ++ dirs ((n + 1) / 2) (i / 2) := by
  intro n
  induction n using Nat.strongRecOn with
  | ind n ih =>
    intro i h2 hi
    by_cases h3 : n = 2
    · subst h3
      rw [dirs_one ((2 + 1) / 2) _ (by omega)]
      have hi' : i = 0 ∨ i = 1 := by omega
      rcases hi' with rfl | rfl
      · rw [dirs_left _ _ (by simp) (by simp [part_two])]
        simp [part_two, dirs_one, sib]
      · rw [dirs_right _ _ (by simp) (by simp [part_two])]
        simp [part_two, dirs_one, sib]
    · obtain ⟨he, hk2⟩ := part_even (n := n) (by omega)
      have hp := part_lt (n := n) (by omega)
      have hpp : part ((n + 1) / 2) = part n / 2 := part_half (by omega)
      by_cases hk : i < part n
      · rw [dirs_left n i (by omega) hk, dirs_left ((n + 1) / 2) (i / 2) (by omega) (by rw [hpp]; omega), hpp, ih (part n) (by omega) i hk2 hk]
        have hs := sib_lt hk he
        rw [if_pos hs, if_pos (by omega), List.append_assoc, show (part n + 1) / 2 = part n / 2 by omega]
      · rw [dirs_right n i (by omega) (by omega), dirs_right ((n + 1) / 2) (i / 2) (by omega) (by rw [hpp]; omega), hpp, ← List.append_assoc]
        congr 1
        have hs := sib_ge (show part n ≤ i by omega) he
        have hdiv : i / 2 - part n / 2 = (i - part n) / 2 := by omega
        have hdn : (n + 1) / 2 - part n / 2 = (n - part n + 1) / 2 := by omega
        rw [hdiv, hdn]
        by_cases h1 : n - part n = 1
        · have hi0 : i - part n = 0 := by omega
          rw [h1, dirs_one _ _ (by omega), dirs_one _ _ (by omega), hs, hi0, if_neg (by simp [sib]; omega)]
          rfl
        · rw [ih (n - part n) (by omega) _ (by omega) (by omega)]
          congr 1
          have hpar : (i - part n) % 2 = i % 2 := by omega
          rw [hpar]
          by_cases hc : sib i < n
          · rw [if_pos hc, if_pos (by omega)]
          · rw [if_neg hc, if_neg (by omega)]
theorem proof_length : ∀ n, ∀ (l : List H) (i : Nat), l.length = n → (proof two e l i).length = (dirs n i).length := by
  intro n
  induction n using Nat.strongRecOn with
  | ind n ih =>
    intro l i hl
    subst hl
    by_cases h2 : l.length < 2
    · rw [proof_one _ _ _ _ h2, dirs_one _ _ h2]; rfl
    · have hp := part_lt (n := l.length) (by omega)
      have hq := part_pos l.length
      by_cases hk : i < part l.length
      · rw [proof_left _ _ _ _ (by omega) hk, dirs_left _ _ (by omega) hk, List.length_append, List.length_append, ih (part l.length) hp _ _ (by rw [List.length_take]; omega)]; rfl
      · rw [proof_right _ _ _ _ (by omega) (by omega), dirs_right _ _ (by omega) (by omega), List.length_append, List.length_append, ih (l.length - part l.length) (by omega) _ _ (by simp)]; rfl
theorem led_append : ∀ (ds ds' : List Bool) (p p' : List H) (h : H), ds.length = p.length → led two h (ds ++ ds') (p ++ p') = led two (led two h ds p) ds' p'
  | [], _, [], _, _, _ => by simp [led]
  | d :: ds, ds', x :: p, p', h, hl => by simp only [List.cons_append, led]; exact led_append ds ds' p p' _ (by simpa using hl)
  | [], _, _ :: _, _, _, hl => by simp at hl
  | _ :: _, _, [], _, _, hl => by simp at hl
theorem led_proof : ∀ n, ∀ (l : List H) (i : Nat), l.length = n → i < n → led two (l.getD i e) (dirs n i) (proof two e l i) = root two e l := by
  intro n
  induction n using Nat.strongRecOn with
  | ind n ih =>
    intro l i hl hi
    subst hl
    by_cases h2 : l.length < 2
    · match l, h2, hi with
      | [a], _, hi =>
        have : i = 0 := by simpa using hi
        subst this
        rw [proof_one _ _ _ _ (by simp), dirs_one _ _ (by simp), root_one _ _ _ (by simp)]
        rfl
    · have hp := part_lt (n := l.length) (by omega)
      have hq := part_pos l.length
      by_cases hk : i < part l.length
      · rw [proof_left _ _ _ _ (by omega) hk, dirs_left _ _ (by omega) hk, led_append _ _ _ _ _ _ (proof_length two e _ _ _ (by rw [List.length_take]; omega)).symm, root_more _ _ l (by omega)]
        have := ih (part l.length) hp (l.take (part l.length)) i (by rw [List.length_take]; omega) hk
        rw [getD_take _ _ _ _ hk] at this
        rw [this]
        rfl
      · rw [proof_right _ _ _ _ (by omega) (by omega), dirs_right _ _ (by omega) (by omega), led_append _ _ _ _ _ _ (proof_length two e _ _ _ (by simp)).symm, root_more _ _ l (by omega)]
        have := ih (l.length - part l.length) (by omega) (l.drop (part l.length)) (i - part l.length) (by simp) (by omega)
        rw [getD_drop, show part l.length + (i - part l.length) = i by omega] at this
        rw [this]
        rfl
theorem dirs_short : ∀ (d n i : Nat), n ≤ 2 ^ d → i < n → (dirs n i).length ≤ d
  | 0, n, i, h, _ => by rw [dirs_one _ _ (by rw [Nat.pow_zero] at h; omega)]; simp
  | d + 1, n, i, h, hi => by
    by_cases h2 : n < 2
    · rw [dirs_one _ _ h2]; simp
    · rw [dirs_up _ _ (by omega) hi, List.length_append]
      have := dirs_short d ((n + 1) / 2) (i / 2) (by rw [Nat.pow_succ] at h; omega) (by omega)
      split <;> simp <;> omega
theorem dirs_some (n i : Nat) (h : 2 ≤ n) : 1 ≤ (dirs n i).length := by
  by_cases hk : i < part n
  · rw [dirs_left _ _ h hk]; simp
  · rw [dirs_right _ _ h (by omega)]; simp
end
end Go.Proofs.YtpphlmbhonaglaaDoor.Mk
