/-
  (*wal.reading).row: the first bytes of the pages from 1 on.
-/
import Derived.Test.YtpfhggalbdjjmaaWHead
import Derived.Test.YtpfhggalbdjjmaaTxt
namespace Go.Proofs.Ytpfhggalbdjjmaa
open Go.RowKit

/-- The bytes of the first k pages from 1 on. -/
def pgs (s : Dk) : Nat → List UInt8
  | 0 => []
  | k + 1 => pgs s k ++ s.pg (k + 1)
theorem pgs_length (s : Dk) : ∀ k, (pgs s k).length = 64 * k
  | 0 => rfl
  | k + 1 => by rw [pgs, List.length_append, pgs_length s k, pg_length]; omega
theorem pgs_take (s : Dk) (j : Nat) : ∀ k, j ≤ k → ∀ m, m ≤ 64 * j → (pgs s k).take m = (pgs s j).take m
  | 0, h, m, hm => by obtain rfl : j = 0 := by omega
                      rfl
  | k + 1, h, m, hm => by
    by_cases he : j = k + 1
    · rw [he]
    · rw [pgs, List.take_append_of_le_length (by rw [pgs_length]; omega)]
      exact pgs_take s j k (by omega) m hm
/-- The log's bytes: as many as are said and are there. -/
def rowL (n : Nat) (s : Dk) (z : Int) : List UInt8 := (pgs s (n - 1)).take z.toNat
/-- Bytes of the call's own are told, or nil. -/
def RowIs (w : World) (l : List UInt8) (en : Ending) (w' : World) : Prop :=
  ∃ ao m c, en = .returned (.slice ao m c) ∧ Txt w' w.heap.size ao m c l ∧ Below w.heap.size w w'
theorem Txt.len {w : World} {B : Nat} {ao : Option Addr} {n c : Nat} {l : List UInt8} (h : Txt w B ao n c l) : l.length = n := h.isB.len
section
variable {w : World} {d n : Nat} {S : Nat → Prop} {s : Dk}
set_option maxRecDepth 100000 in
set_option maxHeartbeats 1000000 in
theorem row_any (h : IsD w d n S s) (hg : s.gone = false) (hn2 : 2 ≤ n) (r : Nat) (e z k : Int) (ro : Option Addr) (rn rc : Nat) (R : Rg w r e z k ro rn rc) (hz : z ≤ 9223372036854775807) :
    Calls Try.prog 52 #[.pointer (some ⟨r, 0, none⟩), .pointer (some ⟨d, 0, none⟩)] w (RowIs w (rowL n s z)) := by
  have hn4 := h.small
  go_enter Try.func52, Try.ntmps52
  go_wp2_with fail
  go_loopw [5, 6] (fun v i wr => ∃ (j m : Nat) (ao : Option Addr) (c : Nat), j ≤ n - 1 ∧ i = .int .i64 (j + 1 : Nat) ∧ v = .slice ao m c ∧ Txt wr w.heap.size ao m c ((pgs s j).take z.toNat) ∧ Below w.heap.size w wr) (fun _ i _ => n - (intOf i).toNat)
  case atStart => exact ⟨0, 0, none, 0, by omega, rfl, rfl, by simpa [pgs] using Txt.nil _ _, Below.refl _ _⟩
  case round =>
    obtain ⟨j, m, ao, c, hj, rfl, rfl, hT, hB⟩ := hrel
    have hm := hT.len
    rw [List.length_take, pgs_length] at hm
    have c4 := (R.past hB).c4
    have hD := h.past hB
    have hP := pages_is hD
    by_cases h1 : j + 1 < n
    · have h1i : ((j + 1 : Nat) : Int) < (n : Int) := by omega
      by_cases h2 : (m : Int) < z
      · have hmj : m = 64 * j := by omega
        have hmin : ∃ q : Nat, min (64 : Int) (z - m) = (q : Int) ∧ 0 < q ∧ q ≤ 64 ∧ (m + q = 64 * (j + 1) ∨ m + q = z.toNat ∧ q ≤ 64) := ⟨(min (64 : Int) (z - m)).toNat, by omega, by omega, by omega, by omega⟩
        obtain ⟨q, hq, hq0, hq64, hqz⟩ := hmin
        have HL : Hid ((pgs s j).take z.toNat ++ (s.pg (j + 1)).take q = (pgs s (j + 1)).take z.toNat) := by
          unfold Hid
          rw [pgs, List.take_append, pgs_length, List.take_of_length_le (by rw [pgs_length]; omega)]
          congr 1
          rcases hqz with hz | ⟨hz, _⟩
          · obtain rfl : q = 64 := by omega
            rw [List.take_of_length_le (by rw [pg_length]; omega), List.take_of_length_le (by rw [pg_length]; omega)]
          · congr 1
            omega
        have hlen : ((s.pg (j + 1)).take q).length = q := by rw [List.length_take, pg_length]; omega
        have hw : wrap64 (z - m) = z - m := IntWalk.wrap64_in _ (by omega)
        have hqw : min 64 (wrap64 (z - m)) = (q : Int) := by rw [hw]; exact hq
        have hmq : m + q ≤ 1000000 := by omega
        have hs := fun (g1 : Nat) w' => headB_run g1 0 64 64 q w' (by omega) (by omega)
        clear hqz hmj hm hw
        go_wp2_with (first
          | (go_at_call 49; refine hP.mono ?_; rintro e w' ⟨rfl, rfl⟩)
          | (go_at_call 47; refine (read_is hD hg (j + 1) h1).mono ?_; rintro e w1 ⟨g1, rfl, O1, q1, b1⟩; have c4 := (R.past (hB.trans (b1.mono hB.size))).c4; have hs := hs g1)
          | (at_builtin; refine wpList_append_txt rfl _ _ 31 31 rfl rfl w.heap.size ao m c _ rfl (hT.past b1) (Nat.le_trans hB.size b1.size) _ rfl q _ ((IsB_take O1.isB hq64).src byteTy.ht) hlen hq0 (m + q) rfl _ HL.out hmq ?_; intro g2 c2 w2 o2 b2 q2))
        go_roundw
        case rel => exact ⟨j + 1, m + q, _, c2, by omega, by go_num, rfl, ⟨.inr ⟨g2, rfl, o2, q2⟩⟩, (hB.trans (b1.mono hB.size)).trans b2⟩
        case measure => simp [intOf]; omega
      · have h2' : ¬ ((m : Int) < z) := h2
        go_wp2_with (go_at_call 49; refine hP.mono ?_; rintro e w' ⟨rfl, rfl⟩)
        go_ret
        refine ⟨ao, m, c, rfl, ?_, hB⟩
        rw [rowL, pgs_take s j (n - 1) hj z.toNat (by omega)]
        exact hT
    · have h1i : ¬ (((j + 1 : Nat) : Int) < (n : Int)) := by omega
      go_wp2_with (go_at_call 49; refine hP.mono ?_; rintro e w' ⟨rfl, rfl⟩)
      go_ret
      obtain rfl : j = n - 1 := by omega
      exact ⟨ao, m, c, rfl, hT, hB⟩
end
end Go.Proofs.Ytpfhggalbdjjmaa
