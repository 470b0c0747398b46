/-
  WalLong, walked.
-/
import Derived.Test.YtfmbagpgkjlejaaKnown8
import Derived.Test.YtfmbagpgkjlejaaWth
import Derived.Test.YtfmbagpgkjlejaaMake
namespace Go.Proofs.Ytfmbagpgkjlejaa
open Go.RowKit

theorem within8_any (a n : Int) (w : World) (hn : 0 < n) (hn2 : n ≤ 1000000) :
    Calls Try.prog 18 #[.int .i64 a, .int .i64 n] w fun e w' => e = .returned (.int .i64 (wth a n)) ∧ w = w' := by
  have h1 := Int.lt_tmod_of_pos a hn
  have h2 := Int.tmod_lt_of_pos a hn
  have hz : (n == 0) = false := by simp; omega
  by_cases h3 : a.tmod n < 0
  · go_enter Try.func18, Try.ntmps18
    go_wp2_with fail
    go_ret
    exact ⟨ret_int (by unfold wth; rw [if_pos h3]), rfl⟩
  · go_enter Try.func18, Try.ntmps18
    go_wp2_with fail
    go_ret
    exact ⟨ret_int (by unfold wth; rw [if_neg (by omega)]), rfl⟩
set_option maxRecDepth 100000 in
set_option maxHeartbeats 2000000 in
theorem walLong_walk (n : Int) (w : World) (_hwf : (Lit.int .i64 n).wf = true) : Calls Try.prog 7 #[.int .i64 n] w (Told w true) := by
  obtain ⟨q, hq⟩ : ∃ q : Nat, wth n 5 = (q : Int) := ⟨(wth n 5).toNat, by have := wth_lo n 5 (by omega); omega⟩
  have hq5 : q < 5 := by have := wth_hi n 5 (by omega); omega
  have HQ := Lib.hid hq
  clear hq
  go_enter Try.func7, Try.ntmps7
  go_wp2_with fail
  refine (known8 w).mono ?_
  rintro e w0 ⟨rfl, b0⟩
  go_wp2_with (go_at_call 18; refine (within8_any n 5 _ (by omega) (by omega)).mono ?_; rintro e w' ⟨rfl, rfl⟩; rw [HQ.out])
  refine (new_is 1100 w0 (by omega) (by omega)).mono ?_
  rintro e w1 ⟨d, S, rfl, D1, b1, q1⟩
  have HO := open_holds D1 (by omega) (holds_new 1100)
  go_wp2_with fail
  refine HO.mono ?_
  rintro e w2 ⟨g, ro, rn, rc, rfl, L2, P2, b2, q2⟩
  have D2 := D1.past b2
  have hgS : ¬ S g := fun q => by have := D1.lt _ q; omega
  have hw0 := b0.size
  have hw1 := Nat.le_trans b0.size b1.size
  have B2 := b0.trans (b1.mono b0.size) |>.trans (b2.mono (Nat.le_trans b0.size b1.size))
  have hNq : (65534 : Int) + (q : Int) = ((65534 + q : Nat) : Int) := by omega
  obtain ⟨N, hN⟩ : ∃ N, 65534 + q = N := ⟨_, rfl⟩
  rw [hN] at hNq
  have HN := Lib.hid hN
  clear hN P2 HO D1 b0 b1 b2
  go_wp2_with (at_make; refine wpList_full_ob rfl _ _ 31 rfl 5 byteTy .i64 .i64 _ _ N rfl rfl rfl rfl (by have := HN.out; omega) ?_; intro w3 o3 b3)
  have D3 := D2.past b3
  have L3 := L2.past b3
  have B3 := B2.trans (b3.mono B2.size)
  have hn0 := (holds_new 1100)
  by_cases hbig : 65536 < N
  · have hbi : (65536 : Int) < (N : Int) := by omega
    refine (append_long (g := g) (ao := some ⟨w2.heap.size, 0, none⟩) (c := N) (w := w3) hbig (by have := HN.out; omega)).mono ?_
    rintro e w4 ⟨rfl, b4⟩
    have HO := open_holds (D3.past b4) (by omega) hn0
    go_wp2_with fail
    refine HO.mono ?_
    rintro e w5 ⟨g5, ro5, rn5, rc5, rfl, L5, P5, b5, q5⟩
    obtain rfl : rn5 = 0 := by simpa using P5.len.symm
    go_wp2_with fail
    go_ret
    exact ⟨rfl, (B3.trans (b4.mono B3.size)).trans (b5.mono (Nat.le_trans B3.size b4.size))⟩
  · have hbi : ¬ ((65536 : Int) < (N : Int)) := by omega
    refine (append_holds (ps := []) L3 o3.isB (by omega) (by rw [encR'_nil]; simp; have := HN.out; omega) D3 (by omega) hgS hn0 (by simp [newD]) (by simp [newD])).mono ?_
    rintro e w4 ⟨S4, s4, rfl, D4, k4, e4, L4, H4, -, -, -⟩
    have hwS : ∀ q, S q → w.heap.size ≤ q := fun q h => Nat.le_trans hw0 (q1 q h)
    have b4 : Below w.heap.size w w4 := B3.trans (k4.below B3.size (fun q h => by
      rcases h with h | h
      · exact hwS q h
      · subst h
        exact Nat.le_trans hw1 q2))
    have HO := open_holds D4 (by omega) H4
    go_wp2_with fail
    refine HO.mono ?_
    rintro e w5 ⟨g5, ro5, rn5, rc5, rfl, L5, P5, b5, q5⟩
    obtain rfl : rn5 = 1 := by simpa using P5.len.symm
    obtain ⟨g8, rfl, hat⟩ := P5.open (by omega)
    obtain ⟨bo, bn, bc', hc5, hb5⟩ := hat 0 (by omega)
    obtain rfl : bn = N := by have := hb5.len; simpa using this.symm
    clear hat P5 L5 hb5
    go_wp2_with fail
    go_ret
    exact ⟨rfl, b4.trans (b5.mono b4.size)⟩
end Go.Proofs.Ytfmbagpgkjlejaa
