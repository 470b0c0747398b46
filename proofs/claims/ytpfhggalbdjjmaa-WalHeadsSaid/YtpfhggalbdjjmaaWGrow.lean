/-
  A disk that holds a log: what its pages say, and that just this is read; the log with one record more.
-/
import Derived.Test.YtpfhggalbdjjmaaWAppA
namespace Go.Proofs.Ytpfhggalbdjjmaa
open Go.RowKit

/-- Records as they lie one behind the other. -/
def encR' (ps : List (List UInt8)) : List UInt8 := ps.flatMap fun p => le 8 p.length ++ p
theorem encR'_nil : encR' [] = [] := rfl
theorem encR'_cons (p : List UInt8) (ps : List (List UInt8)) : encR' (p :: ps) = le 8 p.length ++ (p ++ encR' ps) := by simp [encR']
theorem encR'_append (a b : List (List UInt8)) : encR' (a ++ b) = encR' a ++ encR' b := by simp [encR']
theorem num_le8 (x : Nat) (h : x < 18446744073709551616) : num (le 8 x) = x := by
  rw [num_le]
  exact Nat.mod_eq_of_lt h
theorem cut_enc (p r : List UInt8) (h : p.length ≤ 1000000) : cutOK (le 8 p.length ++ (p ++ r)) ∧ cutA (le 8 p.length ++ (p ++ r)) = p ∧ cutB (le 8 p.length ++ (p ++ r)) = r := by
  have e1 : (le 8 p.length ++ (p ++ r)).take 8 = le 8 p.length := List.take_left' (le_length 8 _)
  have e2 : (le 8 p.length ++ (p ++ r)).drop 8 = p ++ r := List.drop_left' (le_length 8 _)
  have e3 : cutM (le 8 p.length ++ (p ++ r)) = p.length := by unfold cutM; rw [e1]; exact num_le8 _ (by omega)
  refine ⟨⟨?_, ?_⟩, ?_, ?_⟩
  · rw [List.length_append, le_length]; omega
  · rw [e3, List.length_append, le_length, List.length_append]; omega
  · unfold cutA; rw [e2, e3]; exact List.take_left
  · unfold cutB; rw [e2, e3]; exact List.drop_left
theorem split_enc : ∀ ps : List (List UInt8), (∀ p ∈ ps, p.length ≤ 1000000) → splitB (encR' ps) = (ps, true)
  | [], _ => rfl
  | p :: ps, h => by
    obtain ⟨h1, h2, h3⟩ := cut_enc p (encR' ps) (h p (by simp))
    have ih := split_enc ps (fun q hq => h q (by simp [hq]))
    rw [encR'_cons, splitB_yes _ h1, h2, h3, ih]
/-- A DISK OF n PAGES HOLDS THE LOG OF THE RECORDS ps. -/
structure Holds (n : Nat) (s : Dk) (ps : List (List UInt8)) : Prop where
  alive : s.gone = false
  pages : s.last.length = n
  size : (encR' ps).length ≤ 64 * (n - 1)
  head : s.pg 0 = pad (headB ((encR' ps).length : Nat) (ps.length : Nat))
  row : (pgs s (n - 1)).take (encR' ps).length = encR' ps
theorem XU_nat (x : Nat) (h : x < 18446744073709551616) : XU (x : Int) = x := by unfold XU; omega
theorem encR'_len : ∀ ps : List (List UInt8), 8 * ps.length ≤ (encR' ps).length ∧ ∀ p ∈ ps, p.length ≤ (encR' ps).length
  | [] => ⟨by simp [encR'], by simp⟩
  | p :: ps => by
    obtain ⟨h1, h2⟩ := encR'_len ps
    rw [encR'_cons, List.length_append, le_length, List.length_append]
    refine ⟨by rw [List.length_cons]; omega, fun q hq => ?_⟩
    rcases List.mem_cons.1 hq with rfl | hq
    · omega
    · have := h2 q hq; omega
theorem headB_length (z k : Int) : (headB z k).length = 16 := by unfold headB; rw [List.length_append, le_length, le_length]
section
variable {n : Nat} {s : Dk} {ps : List (List UInt8)}
theorem Holds.hdN (h : Holds n s ps) (hn : n ≤ 4096) : hdN s = (encR' ps).length := by
  have hs := h.size
  unfold Go.Proofs.Ytpfhggalbdjjmaa.hdN
  rw [h.head, pad_short (by rw [headB_length]; omega), List.take_append_of_le_length (by rw [headB_length]; omega)]
  unfold headB
  rw [List.take_left' (le_length 8 _), XU_nat _ (by omega), num_le8 _ (by omega)]
theorem Holds.hdC (h : Holds n s ps) (hn : n ≤ 4096) : hdC s = ps.length := by
  have hs := h.size
  have hl := (encR'_len ps).1
  unfold Go.Proofs.Ytpfhggalbdjjmaa.hdC
  rw [h.head, pad_short (by rw [headB_length]; omega), List.drop_append_of_le_length (by rw [headB_length]; omega), List.take_append_of_le_length (by rw [List.length_drop, headB_length]; omega)]
  unfold headB
  rw [List.drop_left' (le_length 8 _), List.take_of_length_le (by rw [le_length]; omega), XU_nat _ (by omega), num_le8 _ (by omega)]
theorem Holds.rowN (h : Holds n s ps) (hn : n ≤ 4096) : rowN n s = encR' ps := by
  have hs := h.size
  unfold Go.Proofs.Ytpfhggalbdjjmaa.rowN
  rw [h.hdN hn, if_pos (by omega), h.row]
theorem Holds.recL (h : Holds n s ps) (hn : n ≤ 4096) : recL n s = ps := by
  have hs := h.size
  unfold Go.Proofs.Ytpfhggalbdjjmaa.recL
  rw [h.rowN hn, split_enc ps (fun p hp => by have := (encR'_len ps).2 p hp; omega)]
theorem Holds.ok (h : Holds n s ps) (hn : n ≤ 4096) : rdOK n s := by
  have hs := h.size
  refine ⟨by rw [h.hdN hn]; exact hs, ?_, by rw [h.recL hn, h.hdC hn]⟩
  rw [h.rowN hn, split_enc ps (fun p hp => by have := (encR'_len ps).2 p hp; omega)]
end

theorem pg_put (s : Dk) (p q : Nat) (b : List UInt8) (h : p < s.last.length) : (s.put p b).pg q = if q = p then pad b else s.pg q := by
  unfold Dk.pg Dk.put
  simp only [List.getD_eq_getElem?_getD, List.getElem?_set]
  by_cases e : p = q
  · subst e
    simp [h, pad_pad]
  · simp [e, Ne.symm e]
theorem pg_spent (s : Dk) (q : Nat) : s.spent.pg q = s.pg q := by unfold Dk.spent; split <;> rfl
theorem last_spent (s : Dk) : s.spent.last = s.last := by unfold Dk.spent; split <;> rfl
theorem wrF_last (s : Dk) (p : Nat) (X : List UInt8) (k : Nat) : (wrF s p X (List.range k)).1.last.length = s.last.length := by
  induction k with
  | zero => rfl
  | succ k ih => rw [List.range_succ, wrF_snoc, wrStep, last_spent]; simp [Dk.put, ih]
theorem wrF_pg (s : Dk) (p : Nat) (X : List UInt8) : ∀ k, p + k ≤ s.last.length → ∀ q, (wrF s p X (List.range k)).1.pg q = if p ≤ q ∧ q < p + k then pad (chk X (q - p)) else s.pg q
  | 0, _, q => by rw [if_neg (by omega)]; rfl
  | k + 1, h, q => by
    rw [List.range_succ, wrF_snoc, wrStep, pg_spent, wrF_page, List.length_range, pg_put _ _ _ _ (by rw [wrF_last]; omega), wrF_pg s p X k (by omega) q]
    by_cases e : q = p + k
    · subst e
      rw [if_pos rfl, if_pos (by omega), Nat.add_sub_cancel_left]
    · rw [if_neg e]
      by_cases h2 : p ≤ q ∧ q < p + k
      · rw [if_pos h2, if_pos (by omega)]
      · rw [if_neg h2, if_neg (by omega)]
theorem pad_chk (X : List UInt8) (k : Nat) (h : 64 * k ≤ X.length) : pad (chk X k) = ((X ++ List.replicate 64 0).drop (64 * k)).take 64 := by
  rw [List.drop_append_of_le_length h]
  unfold pad chk
  generalize X.drop (64 * k) = L
  by_cases hl : 64 ≤ L.length
  · rw [List.take_append_of_le_length (by rw [List.length_take]; omega), List.take_append_of_le_length hl, List.take_take, Nat.min_self]
  · rw [List.take_of_length_le (l := L) (i := 64) (by omega)]
theorem pgs_same (s t : Dk) : ∀ k, (∀ q, 1 ≤ q → q ≤ k → t.pg q = s.pg q) → pgs t k = pgs s k
  | 0, _ => rfl
  | k + 1, h => by rw [pgs, pgs, pgs_same s t k (fun q h1 h2 => h q h1 (by omega)), h (k + 1) (by omega) (by omega)]
theorem pgs_new (s t : Dk) (p : Nat) (X : List UInt8) (hp : 1 ≤ p) (N : Nat) (hN : N = chN X.length) (h1 : ∀ q, 1 ≤ q → q < p → t.pg q = s.pg q) (h2 : ∀ k, k < N → t.pg (p + k) = pad (chk X k)) :
    ∀ k, k ≤ N → pgs t (p - 1 + k) = pgs s (p - 1) ++ (X ++ List.replicate 64 0).take (64 * k)
  | 0, _ => by
    rw [Nat.mul_zero, List.take_zero, List.append_nil, Nat.add_zero]
    exact pgs_same s t (p - 1) (fun q a b => h1 q a (by omega))
  | k + 1, h => by
    have hk : 64 * k ≤ X.length := by unfold chN at hN; omega
    rw [← Nat.add_assoc, pgs, pgs_new s t p X hp N hN h1 h2 k (by omega), show p - 1 + k + 1 = p + k by omega, h2 k (by omega), pad_chk X k hk, List.append_assoc, ← List.take_add, Nat.mul_succ]
theorem row_new (s t : Dk) (n p : Nat) (X : List UInt8) (hp : 1 ≤ p) (hn : p - 1 + chN X.length ≤ n - 1) (h1 : ∀ q, 1 ≤ q → q < p → t.pg q = s.pg q) (h2 : ∀ k, k < chN X.length → t.pg (p + k) = pad (chk X k)) :
    (pgs t (n - 1)).take (64 * (p - 1) + X.length) = pgs s (p - 1) ++ X := by
  have hX : X.length ≤ 64 * chN X.length := by unfold chN; omega
  rw [pgs_take t (p - 1 + chN X.length) (n - 1) hn _ (by omega), pgs_new s t p X hp _ rfl h1 h2 _ (Nat.le_refl _), List.take_append, pgs_length, List.take_of_length_le (by rw [pgs_length]; omega)]
  congr 1
  rw [Nat.add_sub_cancel_left, List.take_take, Nat.min_eq_left hX, List.take_left]
section
variable {n : Nat} {s : Dk} {ps : List (List UInt8)}
/-- The bytes ahead, and the record's. -/
theorem Holds.front (h : Holds n s ps) (hlt : (encR' ps).length < 64 * (n - 1)) : pgs s (apP (encR' ps).length - 1) ++ (s.pg (apP (encR' ps).length)).take ((encR' ps).length % 64) = encR' ps := by
  obtain ⟨z, hz⟩ : ∃ z, (encR' ps).length = z := ⟨_, rfl⟩
  have hr := h.row
  rw [hz] at hr hlt ⊢
  have e : apP z = z / 64 + 1 := rfl
  rw [← hr, pgs_take s (z / 64 + 1) (n - 1) (by omega) z (by omega), e, Nat.add_sub_cancel, pgs, List.take_append, pgs_length, List.take_of_length_le (l := pgs s (z / 64)) (by rw [pgs_length]; omega)]
  congr 2
  omega
theorem apS_pg (s : Dk) (p : Nat) (X hd : List UInt8) (hp : 1 ≤ p) (h : p + chN X.length ≤ s.last.length) (q : Nat) : (apS s p X hd 4).pg q = if q = 0 then pad hd else if p ≤ q ∧ q < p + chN X.length then pad (chk X (q - p)) else s.pg q := by
  have e : (apS s p X hd 4).pg q = ((apS s p X hd 2).put 0 hd).pg q := by
    show ((apS s p X hd 2).put 0 hd).spent.sync.pg q = _
    exact pg_spent _ q
  have e2 : ∀ q, (apS s p X hd 2).pg q = (apS s p X hd 1).pg q := fun _ => rfl
  have hl : (apS s p X hd 2).last.length = s.last.length := wrF_last s p X _
  rw [e, pg_put _ _ _ _ (by rw [hl]; omega)]
  by_cases h0 : q = 0
  · rw [if_pos h0, if_pos h0]
  · rw [if_neg h0, if_neg h0, e2]
    exact wrF_pg s p X _ h q
/-- THE LOG WITH ONE RECORD MORE. -/
theorem Holds.grow (h : Holds n s ps) (hn2 : 2 ≤ n) (b : List UInt8) (hroom : (encR' ps).length + (8 + b.length) ≤ 64 * (n - 1)) (hb : b.length ≤ 65536)
    (hw : ¬ (1 ≤ s.left ∧ s.left ≤ chN (apX s (encR' ps).length b).length)) (hw1 : s.left - chN (apX s (encR' ps).length b).length ≠ 2) :
    Holds n (apS s (apP (encR' ps).length) (apX s (encR' ps).length b) (apHd (encR' ps).length ps.length b) 4) (ps ++ [b]) := by
  have hf := h.front (by omega)
  have hlen : (encR' (ps ++ [b])).length = (encR' ps).length + (8 + b.length) := by
    rw [encR'_append, List.length_append, encR'_cons, encR'_nil, List.length_append, le_length, List.append_nil]
  have hXl : (apX s (encR' ps).length b).length = (encR' ps).length % 64 + (8 + b.length) := by
    unfold apX
    rw [List.length_append, List.length_take, pg_length, List.length_append, le_length]
    omega
  have hX : apX s (encR' ps).length b = (s.pg (apP (encR' ps).length)).take ((encR' ps).length % 64) ++ (le 8 b.length ++ b) := by
    unfold apX
    rw [XU_nat _ (by omega)]
  have hHD : apHd (encR' ps).length ps.length b = headB (((encR' ps).length + (8 + b.length) : Nat) : Int) ((ps.length + 1 : Nat) : Int) := by
    unfold apHd
    congr 1
  obtain ⟨z, hz⟩ : ∃ z, (encR' ps).length = z := ⟨_, rfl⟩
  have hpgs := h.pages
  have hal := h.alive
  rw [hz] at hf hlen hXl hX hHD hw hw1 hroom ⊢
  have hpz : apP z = z / 64 + 1 := rfl
  generalize apHd z ps.length b = HD at hHD ⊢
  generalize apX s z b = X at hXl hX hw hw1 ⊢
  have hN : apP z + chN X.length ≤ s.last.length := by rw [hpgs, hpz]; unfold chN; omega
  have hpg := apS_pg s (apP z) X HD (by omega) hN
  have hwl := wrF_left s X (apP z) (List.range (chN X.length)) (by rw [List.length_range]; exact hw)
  refine ⟨?_, ?_, by rw [hlen]; exact hroom, ?_, ?_⟩
  · have e1 : (apS s (apP z) X HD 1).left = s.left - chN X.length := by have := hwl.1; rw [List.length_range] at this; exact this
    have e2 : ((apS s (apP z) X HD 2).put 0 HD).left ≠ 1 := by show (apS s (apP z) X HD 1).left - 1 ≠ 1; rw [e1]; omega
    show ((apS s (apP z) X HD 2).put 0 HD).spent.gone = false
    rw [spent_more e2]
    exact hwl.2.trans hal
  · show ((apS s (apP z) X HD 2).put 0 HD).spent.last.length = n
    rw [last_spent]
    show ((wrF s (apP z) X (List.range (chN X.length))).1.last.set 0 (pad HD)).length = n
    rw [List.length_set, wrF_last, hpgs]
  · rw [hpg 0, if_pos rfl, hHD, hlen, List.length_append, List.length_cons, List.length_nil]
  · have hr := row_new s (apS s (apP z) X HD 4) n (apP z) X (by omega) (by rw [hpgs] at hN; omega)
      (fun q a c => by rw [hpg q, if_neg (by omega), if_neg (by omega)]) (fun k hk => by rw [hpg, if_neg (by omega), if_pos (by omega), Nat.add_sub_cancel_left])
    have e : 64 * (apP z - 1) + X.length = (encR' (ps ++ [b])).length := by rw [hlen, hXl, hpz]; omega
    rw [e] at hr
    rw [hr, hX, ← List.append_assoc, hf, encR'_append, encR'_cons, encR'_nil, List.append_nil]
end
end Go.Proofs.Ytpfhggalbdjjmaa
