/-
  CodeReads, walked.
-/
import Derived.Test.YthkfoebannpmdaaRefRd3
namespace Go.Proofs.Ythkfoebannpmdaa
open Go.RowKit

/-- THE SLICE ao, n, cap READS AS THE NUMBERS zs. -/
structure IsI (w : World) (ao : Option Addr) (n : Nat) (zs : List Int) : Prop where
  len : zs.length = n
  max : n ≤ maxLen
  rng : ∀ z ∈ zs, -9223372036854775808 ≤ z ∧ z ≤ 9223372036854775807
  cell : 0 < n → ∃ b off, ao = some ⟨b, off, none⟩ ∧ ∀ j v, zs[j]? = some v → w.cell? ⟨b, off + j, none⟩ = some (.int .i64 v)

theorem isI_of_row {w : World} {a : Option Addr} {len cap : Nat} {zs : List Int}
    (h : (a = none ∧ len = 0 ∧ cap = 0 ∧ zs = []) ∨ ∃ x, a = some x ∧ len ≤ cap ∧ cap ≤ maxLen ∧ zs.length = cap ∧ (∀ i, i < zs.length → w.cell? (x.add i) = some (.int .i64 (zs.getD i 0))) ∧ ∀ n ∈ zs, (Lit.int .i64 n).wf = true) :
    ∃ l, IsI w a len l := by
  rcases h with ⟨rfl, rfl, rfl, rfl⟩ | ⟨x, rfl, h1, h2, h3, h4, h5⟩
  · exact ⟨[], rfl, Nat.zero_le _, (fun _ h => by cases h), fun h => absurd h (Nat.lt_irrefl _)⟩
  · refine ⟨zs.take len, by simp; omega, Nat.le_trans h1 h2, fun z hz => bounds_i64 (h5 z (List.mem_of_mem_take hz)), fun hp => ?_⟩
    obtain ⟨b, off, spot⟩ := x
    have h0 := h4 0 (by omega)
    have hspot : spot = none := by simpa [Addr.add] using World.cell?_spot h0
    subst hspot
    refine ⟨b, off, rfl, fun j v hv => ?_⟩
    rw [List.getElem?_take] at hv
    split at hv
    · obtain ⟨hj, rfl⟩ := List.getElem?_eq_some_iff.1 hv
      have := h4 j hj
      rw [Addr.add_lit] at this
      rw [this]
      simp [List.getD, hj]
    · cases hv

set_option maxHeartbeats 400000 in
theorem reads_long (a0 : Option Addr) (n0 c0 : Nat) (a1 : Option Addr) (n1 c1 : Nat) (w : World) (h : 500 < n0) :
    Calls Try.prog 4 #[.slice a0 n0 c0, .slice a1 n1 c1] w (Told w true) := by
  go_enter Try.func4, Try.ntmps4
  go_wp2_with (go_at_call 11; refine (known_any _).mono ?_; rintro en wA ⟨rfl, hbA⟩)
  go_ret
  exact ⟨rfl, hbA⟩

/-- What stays so in every round. -/
structure Apart (w : World) (g g2 : Nat) (D D2 : Option Nat) : Prop where
  lo : w.heap.size ≤ g
  lo2 : w.heap.size ≤ g2
  gg : g ≠ g2
  d : ∀ b, D = some b → b ≠ g2
  d2 : ∀ b, D2 = some b → b ≠ g
theorem Apart.rx {w wr w1 : World} {g g2 : Nat} {D D2 : Option Nat} {l : List UInt8} {e : Int} (hA : Apart w g g2 D D2) (h : Rx wr g2 D2 l e) (k : wr.grownBy w1 (some g)) : Rx w1 g2 D2 l e :=
  h.kept k (fun hh => hA.gg (Option.some.inj hh).symm) (fun b hb hh => hA.d2 b hb (Option.some.inj hh))
theorem Apart.rd {w wr w1 : World} {g g2 : Nat} {D D2 : Option Nat} {l : List UInt8} {e : Int} (hA : Apart w g g2 D D2) (h : Rd wr g D l e) (k : wr.grownBy w1 (some g2)) : Rd w1 g D l e :=
  h.kept k (fun hh => hA.gg (Option.some.inj hh)) (fun b hb hh => hA.d b hb (Option.some.inj hh))

set_option maxHeartbeats 4000000 in
theorem reads_walk (a0 : Option Addr) (n0 c0 : Nat) (l : List UInt8) (a1 : Option Addr) (n1 c1 : Nat) (zs : List Int) (w : World) (h : IsB w a0 n0 c0 l) (hz : IsI w a1 n1 zs) :
    Calls Try.prog 4 #[.slice a0 n0 c0, .slice a1 n1 c1] w (Told w true) := by
  by_cases hc : 500 < n0
  · exact reads_long a0 n0 c0 a1 n1 c1 w hc
  have h1 : n0 ≤ 500 := by omega
  have hmx := hz.max
  unfold maxLen at hmx
  have hzl := Lib.hid hz.len
  clear hc
  go_enter Try.func4, Try.ntmps4
  go_wp2_with (first
    | (go_at_call 11; refine (known_any _).mono ?_; rintro en wA ⟨rfl, hbA⟩)
    | (at_builtin; refine wpList_append_ob rfl _ _ 22 22 rfl 5 byteTy _ 0 0 [] rfl (own_empty wA) _ rfl n0 l (((h.past hbA).alloc _).src byteTy.ht) n0 (Nat.zero_add _) l rfl (by omega) ?_; intro g1 c1' w1 o1 p1 q1; have B1 := below_puts hbA p1 (Nat.le_refl _))
    | (go_at_call 18; (with_reducible refine (new_any (some ⟨g1, 0, none⟩) n0 c1' l w1 o1.isB (by omega)).mono ?_); rintro en w2 ⟨g, D, rfl, R2, b2, G2, F2⟩; have B2 := below_on B1 b2)
    | (go_at_call 19; (with_reducible refine (xNew a0 n0 c0 l w2 (h.past B2) (by omega) _ rfl).mono ?_); rintro en w3 ⟨g2, rfl, X3, b3, G3⟩; have B3 := below_on B2 b3; have R3 := R2.below b3))
  have hA : Apart w g g2 D (if l = [] then none else a0.map (·.block)) := by
    have s1 := B1.size
    have s2 := B2.size
    refine ⟨by omega, by omega, by have := R2.lt; omega, fun b hb => by have := (F2 b hb).2; omega, fun b hb => ?_⟩
    by_cases hl : l = []
    · rw [if_pos hl] at hb; cases hb
    · rw [if_neg hl] at hb
      obtain ⟨a, rfl, rfl⟩ := Option.map_eq_some_iff.1 hb
      obtain ⟨u, r, rfl⟩ := List.exists_cons_of_ne_nil hl
      have := World.block_lt_of_cell? w _ (h.cell a rfl 0 u rfl)
      rw [block_add] at this
      omega
  generalize (if l = [] then none else a0.map (·.block)) = D2 at hA X3
  clear R2 b2 G2 F2 b3 G3 o1 p1 q1 B1 B2 hbA
  go_loopw [7] (fun i wr => ∃ j : Nat, ∃ l' e', j ≤ 30 ∧ i = .int .i64 (j : Nat) ∧ Rd wr g D l' e' ∧ Rx wr g2 D2 l' e' ∧ Below w.heap.size w wr) (fun i _ => 30 - (intOf i).toNat)
  case atStart => exact ⟨0, l, 0, by omega, rfl, R3, X3, B3⟩
  case round =>
    obtain ⟨j, l', e', hj, rfl, R, X, B⟩ := hrel
    clear R3 X3 B3
    by_cases hn : j < n1
    · by_cases h30 : j < 30
      · obtain ⟨v, hv⟩ : ∃ v, Hid (zs[j]? = some v) := ⟨zs[j]'(by rw [hzl.out]; exact hn), List.getElem?_eq_getElem _⟩
        obtain ⟨b, off, rfl, hcell⟩ := hz.cell (by omega)
        have hc := hcell j v hv.out
        have hlt := World.block_lt_of_cell? w _ hc
        have hcr : wr.cell? ⟨b, off + j, none⟩ = some (.int .i64 v) := by rw [B.cell hlt]; exact hc
        have hvr := hz.rng v (List.mem_of_getElem? hv.out)
        clear hcell
        have q0 : 0 ≤ v % 7 := Int.emod_nonneg _ (by omega)
        have q7 : v % 7 < 7 := Int.emod_lt_of_pos _ (by omega)
        have hq : v % 7 = 0 ∨ v % 7 = 1 ∨ v % 7 = 2 ∨ v % 7 = 3 ∨ v % 7 = 4 ∨ v % 7 = 5 ∨ v % 7 = 6 := by omega
        clear q0 q7
        rcases hq with hq | hq | hq | hq | hq | hq | hq
        all_goals
          go_wp2_with (first
            | (go_at_call 20; (with_reducible refine (within_any _ _ _ (by omega)).mono ?_); rintro en w' ⟨rfl, rfl⟩)
            | (go_at_call 21; (with_reducible refine (rInt_any g D l' e' wr R).mono ?_); rintro en w1 ⟨rfl, R1, k1⟩; have X1 := hA.rx X k1; have B1 := below_gr B k1 hA.lo)
            | (go_at_call 22; (with_reducible refine (xInt g2 D2 l' e' w1 X1).mono ?_); rintro en w2 ⟨rfl, X2, k2⟩; have R2 := hA.rd R1 k2; have B2 := below_gr B1 k2 hA.lo2)
            | (go_at_call 23; (with_reducible refine (rByte_any g D l' e' wr R).mono ?_); rintro en w1 ⟨rfl, R1, k1⟩; have X1 := hA.rx X k1; have B1 := below_gr B k1 hA.lo)
            | (go_at_call 24; (with_reducible refine (xByte g2 D2 l' e' w1 X1).mono ?_); rintro en w2 ⟨rfl, X2, k2⟩; have R2 := hA.rd R1 k2; have B2 := below_gr B1 k2 hA.lo2)
            | (go_at_call 25; (with_reducible refine (rText_any g D l' e' wr R).mono ?_); rintro en w1 ⟨rfl, R1, k1⟩; have X1 := hA.rx X k1; have B1 := below_gr B k1 hA.lo)
            | (go_at_call 26; (with_reducible refine (xText g2 D2 l' e' w1 X1).mono ?_); rintro en w2 ⟨rfl, X2, k2⟩; have R2 := hA.rd R1 k2; have B2 := below_gr B1 k2 hA.lo2)
            | (go_at_call 27; (with_reducible refine (fail_any g D l' e' _ wr R).mono ?_); rintro en w1 ⟨rfl, R1, k1⟩; have X1 := hA.rx X k1; have B1 := below_gr B k1 hA.lo; have hc1 : w1.cell? ⟨b, off + j, none⟩ = some (.int .i64 v) := (by rw [B1.cell hlt]; exact hc))
            | (go_at_call 28; (with_reducible refine (xFail g2 D2 l' e' _ w1 X1).mono ?_); rintro en w2 ⟨rfl, X2, k2⟩; have R2 := hA.rd R1 k2; have B2 := below_gr B1 k2 hA.lo2)
            | (go_at_call 29; (with_reducible refine (rEnd_any g D _ _ w2 R2).mono ?_); rintro en w' ⟨rfl, rfl⟩)
            | (go_at_call 30; (with_reducible refine (xEnd g2 D2 _ _ w2 X2).mono ?_); rintro en w3 ⟨rfl, b3⟩; have R3 := R2.below b3; have X3 := X2.below b3; have B3 := below_on B2 b3))
          go_roundw
          case rel => exact ⟨j + 1, _, _, by omega, by go_num, R3, X3, B3⟩
          case measure => simp [intOf]; omega
      · go_wp2_with (first
          | (go_at_call 29; (with_reducible refine (rEnd_any g D _ _ wr R).mono ?_); rintro en w' ⟨rfl, rfl⟩)
          | (go_at_call 30; (with_reducible refine (xEnd g2 D2 _ _ wr X).mono ?_); rintro en w3 ⟨rfl, b3⟩; have B3 := below_on B b3))
        go_ret
        exact ⟨rfl, B3⟩
    · go_wp2_with (first
        | (go_at_call 29; (with_reducible refine (rEnd_any g D _ _ wr R).mono ?_); rintro en w' ⟨rfl, rfl⟩)
        | (go_at_call 30; (with_reducible refine (xEnd g2 D2 _ _ wr X).mono ?_); rintro en w3 ⟨rfl, b3⟩; have B3 := below_on B b3))
      go_ret
      exact ⟨rfl, B3⟩
end Go.Proofs.Ythkfoebannpmdaa
