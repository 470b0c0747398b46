/-
  What the statements of stage 5 share: their example, a number below another one; append of noughts to a row of bytes.
-/
import Derived.Test.YtpphlmbhonaglaaRowR
import Derived.Test.YtpphlmbhonaglaaGood
import Derived.Lib.AppendZerosOnto
namespace Go.Proofs.Ytpphlmbhonaglaa
open Go.RowKit

theorem within5_any (a n : Int) (w : World) (hn : 0 < n) (hn2 : n ≤ 100000000) :
    Calls Try.prog 13 #[.int .i64 a, .int .i64 n] w fun e w' => e = .returned (.int .i64 (wth a n)) ∧ w = w' := by
  have h1 := Int.lt_tmod_of_pos a hn
  have h2 := Int.tmod_lt_of_pos a hn
  have hz : (n == 0) = false := by simp; omega
  by_cases h3 : a.tmod n < 0
  · go_enter Try.func13, Try.ntmps13
    go_wp2_with fail
    go_ret
    exact ⟨ret_int (by unfold wth; rw [if_pos h3]), rfl⟩
  · go_enter Try.func13, Try.ntmps13
    go_wp2_with fail
    go_ret
    exact ⟨ret_int (by unfold wth; rw [if_neg (by omega)]), rfl⟩
theorem own_blk {w : World} {g n : Nat} {e : TypeId} {cs : Array Value} {l : List UInt8} (h : w.heap[g]? = some (.cells cs e (0, 0))) (hv : cs.toList = bcs l) (hl : l.length = n) (hn : n ≤ 1000000) : OwnB w e g n n l :=
  ⟨hl, Nat.le_refl _, by unfold maxLen; omega, cs, h, by rw [← Array.length_toList, hv, bcs_length, hl], by rw [hv, List.take_of_length_le (by rw [bcs_length, hl]; exact Nat.le_refl _)]⟩
set_option maxHeartbeats 1000000 in
theorem known5 (w : World) : Calls Try.prog 8 #[] w fun e w' => e = .returned (.bool true) ∧ Below w.heap.size w w' := by
  have hb : ∀ w, Calls Try.prog 11 #[.slice none 0 0] w (Fresh w 1 [0]) := fun w => bytes_any none 0 0 [] w (IsR.nilR w) (by omega)
  have hp : ∀ (w : World), Calls Try.prog 14 #[.slice (some ⟨w.heap.size, 0, none⟩) 1 1] (w.alloc (.cells #[.int .u8 0] 5)) (Parsed (w.alloc (.cells #[.int .u8 0] 5)) [] 0) := fun w => by
    have h := parse_any (some ⟨w.heap.size, 0, none⟩) 1 1 [0] (w.alloc (.cells #[.int .u8 0] 5)) (own_blk (l := [0]) (n := 1) (heap_alloc_new w _) rfl rfl (by omega)).isB (by omega)
    have e1 : parE [0] = 0 := by decide +kernel
    have e2 : parV [0] = [] := by unfold parV; rw [if_pos e1, pV, show pN [0] = 0 by decide +kernel]; rfl
    rwa [e1, e2] at h
  go_enter Try.func8, Try.ntmps8
  go_wp2_with (first
    | (go_at_call 11; (with_reducible refine (hb _).mono ?_); rintro e w1 ⟨g1, c1, rfl, o1, b1, q1⟩)
    | (go_at_call 14; (with_reducible refine (hp w1).mono ?_); rintro e w2 ⟨ao, n, cap, rfl, i2, b2, q2⟩; have X := Below.alloc b1 b1.size (.cells #[.int .u8 0] 5); have B2 := X.trans (b2.mono X.size); have c0 : w2.cell? ⟨g1, 0, none⟩ = some (.int .u8 0) := ((o1.alloc (.cells #[.int .u8 0] 5)).below b2 (o1.alloc _).lt).cell 0 0 rfl))
  go_ret
  exact ⟨rfl, B2⟩
end Go.Proofs.Ytpphlmbhonaglaa
