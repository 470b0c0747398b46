/-
  WalFull, walked.
-/
import Derived.Test.YtfmbagpgkjlejaaLaw8
import Derived.Test.YtfmbagpgkjlejaaOpenI
namespace Go.Proofs.Ytfmbagpgkjlejaa
open Go.RowKit

set_option maxRecDepth 100000 in
set_option maxHeartbeats 2000000 in
theorem walFull_walk (pages : Int) (ao : Option Addr) (m c : Nat) (xs : List Int) (w : World) (_hwf : (Lit.int .i64 pages).wf = true) (hI : IsR EI w ao m c xs) : Calls Try.prog 5 #[.int .i64 pages, .slice ao m c] w (Told w true) := by
  obtain ⟨q, hq⟩ : ∃ q : Nat, wth pages 10 = (q : Int) := ⟨(wth pages 10).toNat, by have := wth_lo pages 10 (by omega); omega⟩
  have hq5 : q < 10 := by have := wth_hi pages 10 (by omega); omega
  have HQ := Lib.hid hq
  clear hq
  go_enter Try.func5, Try.ntmps5
  go_wp2_with fail
  refine (known8 w).mono ?_
  rintro e w0 ⟨rfl, b0⟩
  obtain ⟨N, hN⟩ : ∃ N, 2 + q = N := ⟨_, rfl⟩
  have hNq : (2 : Int) + (q : Int) = (N : Int) := by omega
  have hN2 : 2 ≤ N := by omega
  have hN12 : N ≤ 11 := by omega
  have HN := Lib.hid hN
  clear hN
  go_wp2_with (go_at_call 18; refine (within8_any pages 10 _ (by omega) (by omega)).mono ?_; rintro e w' ⟨rfl, rfl⟩; rw [HQ.out])
  refine (new_is N w0 hN2 (by omega)).mono ?_
  rintro e w1 ⟨d, S, rfl, D1, b1, q1⟩
  have HO := open_holds D1 hN2 (holds_new N)
  go_wp2_with fail
  refine HO.mono ?_
  rintro e w2 ⟨g, ro, rn, rc, rfl, L2, P2, b2, q2⟩
  have D2 := D1.past b2
  have hgS : ¬ S g := fun q => by have := D1.lt _ q; omega
  have hw0 := b0.size
  have hw1 := Nat.le_trans b0.size b1.size
  have B2 := b0.trans (b1.mono b0.size) |>.trans (b2.mono (Nat.le_trans b0.size b1.size))
  have hw2 := B2.size
  have hwS : ∀ q, S q → w.heap.size ≤ q := fun q h => Nat.le_trans hw0 (q1 q h)
  have hgw : w.heap.size ≤ g := Nat.le_trans hw1 q2
  clear P2 HO D1 b0 b1 b2
  have hl0 : wrap64 (64 * ((N : Int) - 1)) = ((64 * (N - 1) : Nat) : Int) := by rw [IntWalk.wrap64_in _ (by omega)]; omega
  have hl1 : 64 * ((N : Int) - 1) = ((64 * (N - 1) : Nat) : Int) := by omega
  go_wp2_with fail
  go_loopw [10, 11, 12] (fun lf nn i wr => ∃ (j : Nat) (ps : List (List UInt8)) (S' : Nat → Prop) (s : Dk), j ≤ 40 ∧ j ≤ m ∧ i = .int .i64 (j : Nat) ∧ lf = .int .i64 (64 * (N - 1) - (encR' ps).length : Nat) ∧ nn = .int .i64 (ps.length : Nat) ∧
    IsD wr d N S' s ∧ Holds N s ps ∧ LogAt wr g d (roomN N) ((encR' ps).length : Nat) (ps.length : Nat) ∧ s.left ≤ 0 ∧ -1100 * (j : Int) ≤ s.left ∧ s.pend = [] ∧ Below w.heap.size w wr ∧ (∀ q, S' q → w.heap.size ≤ q) ∧ ¬ S' g) (fun _ _ i _ => 40 - (intOf i).toNat)
  case atStart => exact ⟨0, [], S, newD N, by omega, by omega, rfl, by rw [encR'_nil]; simp, rfl, D2, holds_new N, L2, by simp [newD], by simp [newD], rfl, B2, hwS, hgS⟩
  case round =>
    obtain ⟨j, ps, S', s, hj, hjm, rfl, rfl, rfl, D, H, L, hl, hlo, hpd, hB, hS', hg'⟩ := hrel
    clear D2 L2
    have hsz := H.size
    have hdz := D.small
    have hen := (encR'_len ps).1
    by_cases hlt : j < m ∧ j < 40
    · obtain ⟨h1, h2⟩ := hlt
      have h1i : (j : Int) < (m : Int) := by omega
      have h2i : (j : Int) < 40 := by omega
      obtain ⟨b, off, rfl, _, hcell⟩ := hI.open (by omega) (by decide)
      obtain ⟨x, hx⟩ : ∃ x, xs[j]? = some x := ⟨xs[j]'(by have := hI.len; omega), List.getElem?_eq_getElem _⟩
      have hcj := hcell j (.int .i64 x) (by rw [EI_all, List.getElem?_map, hx]; rfl)
      have hcw : wr.cell? ⟨b, off + j, none⟩ = some (.int .i64 x) := by rw [hB.cell (World.block_lt_of_cell? w _ hcj)]; exact hcj
      obtain ⟨kk, hkk⟩ : ∃ kk : Nat, wth x 130 = (kk : Int) := ⟨(wth x 130).toNat, by have := wth_lo x 130 (by omega); omega⟩
      have hk130 : kk < 130 := by have := wth_hi x 130 (by omega); omega
      have HKK := Lib.hid hkk
      clear hcell hkk hx hcj
      obtain ⟨E, hE⟩ : ∃ E, (encR' ps).length = E := ⟨_, rfl⟩
      obtain ⟨R, hR⟩ : ∃ R, 64 * (N - 1) - E = R := ⟨_, rfl⟩
      rw [hE, hR]
      go_wp2_with (first
        | (go_at_call 18; refine (within8_any x 130 _ (by omega) (by omega)).mono ?_; rintro e w' ⟨rfl, rfl⟩; rw [HKK.out])
        | (at_make; refine wpList_full_ob rfl _ _ 31 rfl 5 byteTy .i64 .i64 _ _ kk rfl rfl rfl rfl (by omega) ?_; intro w3 o3 b3))
      have D3 := D.past b3
      have L3 := L.past b3
      have B3 := hB.trans (b3.mono hB.size)
      have hR2 : R + E = 64 * (N - 1) := by omega
      by_cases hf : R < kk + 8
      · have hfi : (R : Int) < (kk : Int) + 8 := by omega
        refine (append_full (ao := some ⟨wr.heap.size, 0, none⟩) (c := kk) L3 (by omega) (by rw [hE]; omega) (by unfold roomN; omega) (by rw [hE]; unfold roomN; omega)).mono ?_
        rintro e w4 ⟨rfl, b4⟩
        have HR := Lib.hid hR
        have HE := Lib.hid hE
        clear hR hE hR2
        go_wp2_with fail
        go_roundw
        case rel => exact ⟨j + 1, ps, S', s, by omega, by omega, by go_num, by rw [HE.out, HR.out], rfl, D3.past b4, H, L3.past b4, hl, by omega, hpd, B3.trans (b4.mono B3.size), hS', hg'⟩
        case measure => simp [intOf]; omega
      · have hfi : ¬ ((R : Int) < (kk : Int) + 8) := by omega
        refine (append_holds L3 o3.isB (by omega) (by omega) D3 hN2 hg' H ⟨hl, by omega⟩ (by rw [hpd]; exact Nat.zero_le _)).mono ?_
        rintro e w4 ⟨S4, s4, rfl, D4, k4, e4, L4, H4, hl4, hlo4, hpd4⟩
        have hgl := L3.lt
        have b4 : Below w.heap.size w w4 := B3.trans (k4.below B3.size (fun q h => by
          rcases h with h | h
          · exact hS' q h
          · subst h
            exact hgw))
        have hS4 : ∀ q, S4 q → w.heap.size ≤ q := fun q h => by
          rcases e4 q h with h | h
          · exact hS' q h
          · exact Nat.le_trans B3.size h
        have hg4 : ¬ S4 g := fun h => by
          rcases e4 g h with h | h
          · exact hg' h
          · omega
        have hlen : (encR' (ps ++ [List.replicate kk 0])).length = E + (8 + kk) := by
          rw [encR'_append, List.length_append, encR'_cons, encR'_nil, List.length_append, le_length, List.append_nil, hE, List.length_replicate]
        have hps : (ps ++ [List.replicate kk (0 : UInt8)]).length = ps.length + 1 := by simp
        have hcnt := count_any w4 g d _ _ _ L4 (by rw [hps]; omega)
        have ew1 : Hid (wrap64 ((R : Int) - kk) = R - kk) := IntWalk.wrap64_in _ (by omega)
        have ew2 : Hid (wrap64 ((R : Int) - kk - 8) = R - kk - 8) := IntWalk.wrap64_in _ (by omega)
        rw [hps] at hcnt
        have HLEN := Lib.hid hlen
        have HPS := Lib.hid hps
        have HR := Lib.hid hR
        have HE := Lib.hid hE
        clear hR hE hR2 hlen hps
        go_wp2_with (go_at_call 19; refine hcnt.mono ?_; rintro e w' ⟨rfl, rfl⟩)
        go_roundw
        case rel => exact ⟨j + 1, ps ++ [List.replicate kk 0], S4, s4, by omega, by omega, by go_num, by rw [HLEN.out]; exact congrArg (Value.int .i64) (by have := HR.out; rw [ew1.out, ew2.out]; omega), by rw [HPS.out]; go_num, D4, H4, L4, hl4, by omega, hpd4, b4, hS4, hg4⟩
        case measure => simp [intOf]; omega
    · have HO := open_holds D hN2 H
      have hend : ¬ ((j : Int) < (m : Int)) ∨ ¬ ((j : Int) < 40) := by omega
      have hex : ∀ (v : Value), True := fun _ => trivial
      clear hex
      by_cases h1 : j < m
      · have h1i : (j : Int) < (m : Int) := by omega
        have h2i : ¬ ((j : Int) < 40) := by omega
        clear hend
        go_wp2_with fail
        refine HO.mono ?_
        rintro e w5 ⟨g5, ro5, rn5, rc5, rfl, L5, P5, b5, q5⟩
        obtain rfl : rn5 = ps.length := P5.len.symm
        go_wp2_with fail
        go_ret
        exact ⟨rfl, hB.trans (b5.mono hB.size)⟩
      · have h1i : ¬ ((j : Int) < (m : Int)) := by omega
        clear hend
        go_wp2_with fail
        refine HO.mono ?_
        rintro e w5 ⟨g5, ro5, rn5, rc5, rfl, L5, P5, b5, q5⟩
        obtain rfl : rn5 = ps.length := P5.len.symm
        go_wp2_with fail
        go_ret
        exact ⟨rfl, hB.trans (b5.mono hB.size)⟩
end Go.Proofs.Ytfmbagpgkjlejaa
