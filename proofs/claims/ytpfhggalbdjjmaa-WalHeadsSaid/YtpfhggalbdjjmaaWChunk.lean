/-
  slices.Chunk's closure: parts of sixty-four bytes of a slice, one by one, till yield says no.
-/
import Derived.RangeFuncFrom
import Derived.RangeFuncBound
import Derived.RangeFuncCalls
import Derived.RangeFuncLeaves
import Derived.RangeFuncBox
import Derived.Shelf.Abstract
import Derived.Shelf.RegionOpen
import Derived.WalkKit
import Derived.OwnWalkIn
import Derived.TacticsInMore
import Derived.LoopNIn
import Derived.LoopIn
import Derived.Sort.QuietIn
import Derived.Test.YtpfhggalbdjjmaaRecs
namespace Go.Proofs.Ytpfhggalbdjjmaa
open Go.RowKit Go.Shelf
attribute [local go_sem] Oper.semAt_some

/-- What a round keeps: the two boxes. -/
def KpB (b1 b2 : Nat) (W W' : World) : Prop := ∀ k, (k = b1 ∨ k = b2) → W'.heap[k]? = W.heap[k]?
/-- Part number j of m bytes in block g. -/
def chV (g m j : Nat) : Value := .slice (some ⟨g, 64 * j, none⟩) (min 64 (m - 64 * j)) (min 64 (m - 64 * j))
/-- How many parts. -/
def chN (m : Nat) : Nat := (m + 63) / 64
set_option maxRecDepth 100000 in
set_option maxHeartbeats 2000000 in
theorem chunk1_in (n : Nat) (hn : 1 ≤ n) (l B1 B2 g m c : Nat) (hm : m ≤ 1000000) (hmc : m ≤ c) (J Jx : List Nat → World → Prop) (hJ : ∀ s A B, J s A → A.grownBy B none → J s B)
    (hY : ∀ pre x W, J pre W → pre.length < chN m → YieldAt Fence.wide (n - 1) Try.prog l #[chV g m x] W fun e W' =>
      (e = .returned (.bool true) ∧ J (pre ++ [x]) W' ∧ KpB B1 B2 W W') ∨ (e = .returned (.bool false) ∧ Jx (pre ++ [x]) W'))
    (W : World) (h1 : W.cell? ⟨B1, 0, none⟩ = some (.slice (some ⟨g, 0, none⟩) m c)) (h2 : W.cell? ⟨B2, 0, none⟩ = some (.int .i64 64)) (h0 : J [] W) :
    CallsIn Fence.wide n Try.prog 72 #[.func (.yield l) #[] #[], .pointer (some ⟨B1, 0, none⟩), .pointer (some ⟨B2, 0, none⟩)] W fun e W' => (∃ v, e = .returned v) ∧
      ((∃ ys, ys = List.range (chN m) ∧ J ys W') ∨ (∃ pre, (∃ k, k ≤ chN m ∧ pre = List.range k) ∧ Jx pre W')) := by
  refine callsIn_of_wp Try.func72 rfl trivial ?_ rfl
  simp only [Try.ntmps72, List.size_toArray, List.length_cons, List.length_nil, Nat.reduceAdd, Nat.reduceSub, Array.replicate_succ, Array.replicate_zero, List.push_toArray, List.append_toArray, List.nil_append, List.cons_append]
  gi_wp2
  gi_loopw [4] (fun i wr => ∃ k : Nat, k ≤ chN m ∧ i = .int .i64 (64 * k : Nat) ∧ J (List.range k) wr ∧ KpB B1 B2 W wr)
    (fun i _ => m + 64 - (intOf i).toNat)
  case atStart => exact ⟨0, Nat.zero_le _, rfl, h0, fun _ _ => rfl⟩
  case round =>
    obtain ⟨k, hk, rfl, hJs, hnx⟩ := hrel
    have c1 : wr.cell? ⟨B1, 0, none⟩ = some (.slice (some ⟨g, 0, none⟩) m c) := (World.cell?_of_block (w := W) (a := ⟨B1, 0, none⟩) (hnx B1 (.inl rfl))).trans h1
    have c2 : wr.cell? ⟨B2, 0, none⟩ = some (.int .i64 64) := (World.cell?_of_block (w := W) (a := ⟨B2, 0, none⟩) (hnx B2 (.inr rfl))).trans h2
    by_cases hlt : 64 * k < m
    · have hkl : (List.range k).length < chN m := by rw [List.length_range]; unfold chN; omega
      have hk1 : k + 1 ≤ chN m := by rw [List.length_range] at hkl; omega
      obtain ⟨e, he, he0, he64, hem⟩ : ∃ e : Nat, min 64 (m - 64 * k) = e ∧ 0 < e ∧ e ≤ 64 ∧ 64 * k + e ≤ m := ⟨_, rfl, by omega, by omega, by omega⟩
      have hr1 : ∃ a2, ∀ w' : World, (Instr.slice 31 (.slice (some ⟨g, 0, none⟩) m c) (some (.int .i64 (64 * k : Nat))) none none).run Try.prog w' = .ok (.slice a2 (m - 64 * k) (c - 64 * k)) w' := by
        refine ⟨if c = 64 * k then some ⟨g, 0, none⟩ else (some ⟨g, 0, none⟩ : Option Addr).map (·.add (64 * k * 1)), fun w' => ?_⟩
        rw [run_slice_l w' 31 (some ⟨g, 0, none⟩) m c (by kernel_rfl) .i64 ((64 * k : Nat) : Int) (by omega) (by omega), elemT]
        simp only [Result.andThen, sliced, Int.toNat_natCast]
      obtain ⟨a2, hr1⟩ := hr1
      have hr3 : ∀ w' : World, (Instr.slice 31 (.slice (some ⟨g, 0, none⟩) m c) (some (.int .i64 (64 * k : Nat))) (some (.int .i64 (64 * k + e : Nat))) (some (.int .i64 (64 * k + e : Nat)))).run Try.prog w' = .ok (.slice (some ⟨g, 64 * k, none⟩) e e) w' := by
        intro w'
        rw [run_slice_lhm w' 31 (some ⟨g, 0, none⟩) m c (by kernel_rfl) .i64 .i64 .i64 ((64 * k : Nat) : Int) ((64 * k + e : Nat) : Int) ((64 * k + e : Nat) : Int) (by omega) (by omega) (by omega) (by omega), elemT]
        simp only [Result.andThen, sliced, Int.toNat_natCast, Nat.add_sub_cancel_left]
        rw [if_neg (by omega)]
        simp [Addr.add]
        omega
      have hmin : min (64 : Int) ((m - 64 * k : Nat) : Int) = (e : Int) := by omega
      gi_wp2
      gi_quiet (fail)
      obtain ⟨fn, tmps, assign, body, hy, hR⟩ := hY _ k (wr.drewN nq) (hJ _ _ _ hJs ⟨rfl, rfl, rfl, Nat.le_refl _, fun _ _ _ => rfl⟩) hkl
      dsimp only [chV] at hy
      rw [he] at hy
      clear hmin he
      gi_wp2
      refine hR.mono ?_
      rintro e W3 (⟨rfl, hJ3, hk3⟩ | ⟨rfl, hJx3⟩)
      · have c23 : W3.cell? ⟨B2, 0, none⟩ = some (.int .i64 64) := (World.cell?_of_block (w := wr) (a := ⟨B2, 0, none⟩) (hk3 B2 (.inr rfl))).trans c2
        gi_wp2
        go_roundw
        case rel => exact ⟨k + 1, hk1, by go_num, by rw [List.range_succ]; exact hJ3, fun q hq => (hk3 q hq).trans (hnx q hq)⟩
        case measure => simp [intOf]; omega
      · gi_wp2
        refine bodyPost_ret (results_none rfl _ _ _) rfl ?_
        exact ⟨⟨_, rfl⟩, .inr ⟨_, ⟨k + 1, hk1, (List.range_succ).symm⟩, hJx3⟩⟩
    · have hkN : k = chN m := by unfold chN at hk ⊢; omega
      gi_wp2
      go_end0
      exact ⟨⟨_, rfl⟩, .inl ⟨_, by rw [hkN], hJs⟩⟩
theorem chunk_stops (n : Nat) (hn : 1 ≤ n) (B1 B2 g m c : Nat) (hm : m ≤ 1000000) (hmc : m ≤ c) (w : World) (h1 : w.cell? ⟨B1, 0, none⟩ = some (.slice (some ⟨g, 0, none⟩) m c)) (h2 : w.cell? ⟨B2, 0, none⟩ = some (.int .i64 64)) :
    SeqStopsK Fence.wide n Try.prog 72 #[.pointer (some ⟨B1, 0, none⟩), .pointer (some ⟨B2, 0, none⟩)] (fun x : Nat => #[chV g m x]) (KpB B1 B2) (fun xs => xs = List.range (chN m)) (fun pre => ∃ k, k ≤ chN m ∧ pre = List.range k) (chN m) w :=
  fun l J Jx W hW hJ _ hY h0 => by
    have b1 := World.block_lt_of_cell? w _ h1
    have b2 := World.block_lt_of_cell? w _ h2
    exact chunk1_in n hn l B1 B2 g m c hm hmc J Jx (fun s A B hs hg => hJ s A B none hs hg (fun r e => by cases e)) hY W ((hW.cell (p := ⟨B1, 0, none⟩) b1).trans h1) ((hW.cell (p := ⟨B2, 0, none⟩) b2).trans h2) h0
end Go.Proofs.Ytpfhggalbdjjmaa
