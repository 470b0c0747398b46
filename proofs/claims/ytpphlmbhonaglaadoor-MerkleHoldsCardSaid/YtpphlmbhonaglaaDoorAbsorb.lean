/-
  What has been taken in, plain: the blocks that were mixed, and the bytes that wait.
-/
import Derived.Test.YtpphlmbhonaglaaDoorSha
namespace Go.Proofs.YtpphlmbhonaglaaDoor

theorem word_append (l p : List UInt8) (i : Nat) (h : 4 * i + 4 ≤ l.length) : word (l ++ p) i = word l i := by
  have e : ∀ j, j < l.length → (l ++ p).getD j 0 = l.getD j 0 := fun j hj => by simp [List.getD, List.getElem?_append_left hj]
  unfold word
  rw [e _ (by omega), e _ (by omega), e _ (by omega), e _ (by omega)]
theorem words_append (l p : List UInt8) (h : 64 ≤ l.length) : words (l ++ p) 16 = words l 16 := by
  unfold words
  refine List.map_congr_left fun i hi => word_append l p i ?_
  have := List.mem_range.1 hi
  omega
theorem mix_append (s : St) (l p : List UInt8) (h : 64 ≤ l.length) : s.mix (l ++ p) = s.mix l := by
  unfold St.mix
  rw [words_append l p h]
theorem blocks_append (m p : List UInt8) (s : St) : ∀ n, 64 * n ≤ m.length → blocks (m ++ p) s n = blocks m s n
  | 0, _ => rfl
  | n + 1, h => by
    rw [blocks, blocks, blocks_append m p s n (by omega), List.drop_append_of_le_length (by omega), mix_append _ _ _ (by simp; omega)]

/-- THE BYTES m HAVE BEEN TAKEN IN. -/
structure Taken (m : List UInt8) (st : St) (blk : List UInt8) (used : Nat) : Prop where
  hst : st = blocks m H0 (m.length / 64)
  hused : used = m.length % 64
  wait : blk.take used = m.drop (64 * (m.length / 64))
theorem Taken.more {m : List UInt8} {st : St} {blk : List UInt8} {used : Nat} (h : Taken m st blk used) (cs : List UInt8) (hb : blk.length = 64) (hc : used + cs.length < 64) :
    Taken (m ++ cs) st (blk.take used ++ cs ++ blk.drop (used + cs.length)) (used + cs.length) := by
  have hu := h.hused
  have e : (m ++ cs).length / 64 = m.length / 64 := by rw [List.length_append]; omega
  refine ⟨?_, by rw [List.length_append]; omega, ?_⟩
  · rw [e, blocks_append m cs H0 _ (by omega)]
    exact h.hst
  · rw [e, List.drop_append_of_le_length (by omega), ← h.wait]
    have hl : (blk.take used ++ cs).length = used + cs.length := by rw [List.length_append, List.length_take]; omega
    rw [← hl, List.take_left]
theorem Taken.full {m : List UInt8} {st : St} {blk : List UInt8} {used : Nat} (h : Taken m st blk used) (cs : List UInt8) (hc : used + cs.length = 64) (c : List UInt8) :
    Taken (m ++ cs) (st.mix (blk.take used ++ cs)) c 0 := by
  have hu := h.hused
  have e : (m ++ cs).length / 64 = m.length / 64 + 1 := by rw [List.length_append]; omega
  refine ⟨?_, by rw [List.length_append]; omega, ?_⟩
  · rw [e, blocks, blocks_append m cs H0 _ (by omega), ← h.hst, List.drop_append_of_le_length (by omega), ← h.wait]
  · rw [e, List.take_zero, List.drop_of_length_le (by rw [List.length_append]; omega)]
theorem Taken.none (blk : List UInt8) : Taken [] H0 blk 0 := ⟨rfl, rfl, rfl⟩
theorem pad_count (n : Nat) : (120 - (n + 1) % 64) % 64 = (119 - n % 64) % 64 := by omega
theorem Taken.sum {m : List UInt8} {st : St} {blk : List UInt8} {used : Nat} (h : Taken (padded m) st blk used) : (st.l.map fun x => be 4 x.toNat).flatten = sha m := by
  unfold sha
  rw [h.hst]
theorem sched_zero : sched (words (List.replicate 64 0) 16) 48 = List.replicate 64 0 := by decide +kernel
end Go.Proofs.YtpphlmbhonaglaaDoor
