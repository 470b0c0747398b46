/-
  A disk that holds a log: what its pages say, and that just this is read.
-/
import Derived.Test.YtfmbagpgkjlejaaWAppA
namespace Go.Proofs.Ytfmbagpgkjlejaa
open Go.RowKit

/-- Records as they lie one behind the other. -/
def encR' (ps : List (List UInt8)) : List UInt8 := ps.flatMap fun p => le 8 p.length ++ p
theorem encR'_nil : encR' [] = [] := rfl
theorem encR'_cons (p : List UInt8) (ps : List (List UInt8)) : encR' (p :: ps) = le 8 p.length ++ (p ++ encR' ps) := by simp [encR']
theorem encR'_append (a b : List (List UInt8)) : encR' (a ++ b) = encR' a ++ encR' b := by simp [encR']
theorem num_le8 (x : Nat) (h : x < 18446744073709551616) : num (le 8 x) = x := by
  rw [num_le]
  exact Nat.mod_eq_of_lt h
theorem cut_enc (p r : List UInt8) (h : p.length ≤ 1000000) : cutOK (le 8 p.length ++ (p ++ r)) ∧ cutA (le 8 p.length ++ (p ++ r)) = p ∧ cutB (le 8 p.length ++ (p ++ r)) = r := by
  have e1 : (le 8 p.length ++ (p ++ r)).take 8 = le 8 p.length := List.take_left' (le_length 8 _)
  have e2 : (le 8 p.length ++ (p ++ r)).drop 8 = p ++ r := List.drop_left' (le_length 8 _)
  have e3 : cutM (le 8 p.length ++ (p ++ r)) = p.length := by unfold cutM; rw [e1]; exact num_le8 _ (by omega)
  refine ⟨⟨?_, ?_⟩, ?_, ?_⟩
  · rw [List.length_append, le_length]; omega
  · rw [e3, List.length_append, le_length, List.length_append]; omega
  · unfold cutA; rw [e2, e3]; exact List.take_left
  · unfold cutB; rw [e2, e3]; exact List.drop_left
theorem split_enc : ∀ ps : List (List UInt8), (∀ p ∈ ps, p.length ≤ 1000000) → splitB (encR' ps) = (ps, true)
  | [], _ => rfl
  | p :: ps, h => by
    obtain ⟨h1, h2, h3⟩ := cut_enc p (encR' ps) (h p (by simp))
    have ih := split_enc ps (fun q hq => h q (by simp [hq]))
    rw [encR'_cons, splitB_yes _ h1, h2, h3, ih]
/-- A DISK OF n PAGES HOLDS THE LOG OF THE RECORDS ps. -/
structure Holds (n : Nat) (s : Dk) (ps : List (List UInt8)) : Prop where
  alive : s.gone = false
  pages : s.last.length = n
  size : (encR' ps).length ≤ 64 * (n - 1)
  head : s.pg 0 = pad (headB ((encR' ps).length : Nat) (ps.length : Nat))
  row : (pgs s (n - 1)).take (encR' ps).length = encR' ps
theorem XU_nat (x : Nat) (h : x < 18446744073709551616) : XU (x : Int) = x := by unfold XU; omega
theorem encR'_len : ∀ ps : List (List UInt8), 8 * ps.length ≤ (encR' ps).length ∧ ∀ p ∈ ps, p.length ≤ (encR' ps).length
  | [] => ⟨by simp [encR'], by simp⟩
  | p :: ps => by
    obtain ⟨h1, h2⟩ := encR'_len ps
    rw [encR'_cons, List.length_append, le_length, List.length_append]
    refine ⟨by rw [List.length_cons]; omega, fun q hq => ?_⟩
    rcases List.mem_cons.1 hq with rfl | hq
    · omega
    · have := h2 q hq; omega
theorem headB_length (z k : Int) : (headB z k).length = 16 := by unfold headB; rw [List.length_append, le_length, le_length]
section
variable {n : Nat} {s : Dk} {ps : List (List UInt8)}
theorem Holds.hdN (h : Holds n s ps) (hn : n ≤ 4096) : hdN s = (encR' ps).length := by
  have hs := h.size
  unfold Go.Proofs.Ytfmbagpgkjlejaa.hdN
  rw [h.head, pad_short (by rw [headB_length]; omega), List.take_append_of_le_length (by rw [headB_length]; omega)]
  unfold headB
  rw [List.take_left' (le_length 8 _), XU_nat _ (by omega), num_le8 _ (by omega)]
theorem Holds.hdC (h : Holds n s ps) (hn : n ≤ 4096) : hdC s = ps.length := by
  have hs := h.size
  have hl := (encR'_len ps).1
  unfold Go.Proofs.Ytfmbagpgkjlejaa.hdC
  rw [h.head, pad_short (by rw [headB_length]; omega), List.drop_append_of_le_length (by rw [headB_length]; omega), List.take_append_of_le_length (by rw [List.length_drop, headB_length]; omega)]
  unfold headB
  rw [List.drop_left' (le_length 8 _), List.take_of_length_le (by rw [le_length]; omega), XU_nat _ (by omega), num_le8 _ (by omega)]
theorem Holds.rowN (h : Holds n s ps) (hn : n ≤ 4096) : rowN n s = encR' ps := by
  have hs := h.size
  unfold Go.Proofs.Ytfmbagpgkjlejaa.rowN
  rw [h.hdN hn, if_pos (by omega), h.row]
theorem Holds.recL (h : Holds n s ps) (hn : n ≤ 4096) : recL n s = ps := by
  have hs := h.size
  unfold Go.Proofs.Ytfmbagpgkjlejaa.recL
  rw [h.rowN hn, split_enc ps (fun p hp => by have := (encR'_len ps).2 p hp; omega)]
theorem Holds.ok (h : Holds n s ps) (hn : n ≤ 4096) : rdOK n s := by
  have hs := h.size
  refine ⟨by rw [h.hdN hn]; exact hs, ?_, by rw [h.recL hn, h.hdC hn]⟩
  rw [h.rowN hn, split_enc ps (fun p hp => by have := (encR'_len ps).2 p hp; omega)]
end
end Go.Proofs.Ytfmbagpgkjlejaa
