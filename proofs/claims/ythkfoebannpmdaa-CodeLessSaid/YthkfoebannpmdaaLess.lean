/-
  CodeLess, walked.
-/
import Derived.Test.YthkfoebannpmdaaRead
namespace Go.Proofs.Ythkfoebannpmdaa
open Go.RowKit

/-- Some bytes in a new block of their own are a row of the call's own. -/
theorem own_lit (w : World) (cs : Array Value) (l : List UInt8) (m : Nat) (hv : cs.toList = bcs l) (hm : l.length = m) (hx : m ≤ 1000000) : OwnB (w.alloc (.cells cs 5)) 5 w.heap.size m m l := by
  have hs : cs.size = m := by rw [← Array.length_toList, hv, bcs_length, hm]
  exact ⟨hm, Nat.le_refl _, by simp only [maxLen]; omega, cs, heap_alloc_new w _, hs, by rw [← hs, ← Array.length_toList, List.take_length, hv]⟩
theorem two_bytes (k : Nat) (K : Int) (hK : K = (k : Int)) (h : k ≤ 60000) : (#[Value.int .u8 (K % 256), Value.int .u8 (K / 256)] : Array Value).toList = bcs [UInt8.ofNat (k % 256), UInt8.ofNat (k / 256 % 256)] := by
  subst hK
  have e : ((k : Int) / 256) = (((k / 256 : Nat) : Int)) % 256 := by omega
  rw [e, bc_mod, bc_mod]
  rfl
theorem two_say (k n : Nat) (h : k ≤ 60000) (hn : n < k) : n < (UInt8.ofNat (k % 256)).toNat + 256 * (UInt8.ofNat (k / 256 % 256)).toNat := by
  simp only [UInt8.toNat_ofNat']
  omega

set_option maxHeartbeats 400000 in
theorem less_long (a0 : Option Addr) (n0 c0 : Nat) (x : Int) (w : World) (h : 200 < n0) :
    Calls Try.prog 9 #[.int .i64 x, .slice a0 n0 c0] w (Told w true) := by
  go_enter Try.func9, Try.ntmps9
  go_wp2_with (go_at_call 11; refine (known_any _).mono ?_; rintro en wA ⟨rfl, hbA⟩)
  go_ret
  exact ⟨rfl, hbA⟩

set_option maxHeartbeats 800000 in
theorem less_walk (a0 : Option Addr) (n0 c0 : Nat) (l : List UInt8) (x : Int) (w : World) (h : IsB w a0 n0 c0 l) :
    Calls Try.prog 9 #[.int .i64 x, .slice a0 n0 c0] w (Told w true) := by
  by_cases hc : 200 < n0
  · exact less_long a0 n0 c0 x w hc
  have h1 : n0 ≤ 200 := by omega
  have hle := h.le
  have hmx := h.max
  unfold maxLen at hmx
  clear hc
  obtain ⟨k, hk1, hk2, hk3⟩ : ∃ k : Nat, Hid ((n0 : Int) + 1 + x % 300 = (k : Int)) ∧ n0 < k ∧ k ≤ 500 := by
    have e1 : 0 ≤ x % 300 := Int.emod_nonneg _ (by omega)
    have e2 : x % 300 < 300 := Int.emod_lt_of_pos _ (by omega)
    exact ⟨n0 + 1 + (x % 300).toNat, by unfold Hid; omega, by omega, by omega⟩
  obtain ⟨m, hm1, hm2, hm3⟩ : ∃ m : Nat, min (n0 : Int) 7 = (m : Int) ∧ m ≤ n0 ∧ m ≤ 7 := ⟨min n0 7, by omega, by omega, by omega⟩
  have hmc : m ≤ c0 := by omega
  go_enter Try.func9, Try.ntmps9
  go_wp2_with (first
    | (go_at_call 11; refine (known_any _).mono ?_; rintro en wA ⟨rfl, hbA⟩)
    | (go_at_call 20; (with_reducible refine (within_any x 300 _ (by omega)).mono ?_); rintro en w' ⟨rfl, rfl⟩)
    | (at_builtin; refine wpList_append_ob rfl _ _ 22 22 rfl 5 byteTy _ 2 2 [UInt8.ofNat (k % 256), UInt8.ofNat (k / 256 % 256)] rfl (own_lit wA _ _ 2 (two_bytes k _ hk1.out (by omega)) rfl (by omega)) _ rfl n0 l (((h.past hbA).alloc _).src byteTy.ht) (2 + n0) rfl _ rfl (by omega) ?_; intro g1 c1 w1 o1 p1 q1; have B1 := below_puts hbA p1 (Nat.le_refl _))
    | (go_at_call 18; (with_reducible refine (new_any (some ⟨g1, 0, none⟩) (2 + n0) c1 _ w1 o1.isB (by omega)).mono ?_); rintro en w2 ⟨g, D, rfl, R2, b2, G2, F2⟩; have B2 := below_on B1 b2; have GG := Nat.le_trans B1.size G2; have R2' : Rd w2 g D (UInt8.ofNat (k % 256) :: UInt8.ofNat (k / 256 % 256) :: l) 0 := R2)
    | (go_at_call 25; (with_reducible refine (rText_cut g D (UInt8.ofNat (k % 256)) (UInt8.ofNat (k / 256 % 256)) l (by rw [h.len]; exact two_say k n0 (by omega) hk2) w2 R2').mono ?_); rintro en w3 ⟨rfl, R3, k3⟩; have B3 := below_gr B2 k3 GG)
    | (go_at_call 18; (with_reducible refine (new_any a0 m c0 (l.take m) w3 (IsB_take (h.past B3) hm2) (by omega)).mono ?_); rintro en w4 ⟨g2, D2, rfl, X4, b4, G4, F4⟩; have B4 := below_on B3 b4; have R4 := R3.below b4; have GH := Nat.le_trans B3.size G4)
    | (go_at_call 21; (with_reducible refine (rInt_cut g2 D2 (l.take m) (by rw [List.length_take]; omega) w4 X4).mono ?_); rintro en w5 ⟨rfl, X5, k5⟩; have B5 := below_gr B4 k5 GH; have R5 := R4.kept k5 (fun hh => by have := Option.some.inj hh; have := R3.lt; omega) (fun b hb hh => by have := Option.some.inj hh; have := (F2 b hb).2; have := k3.size; omega))
    | (go_at_call 29; (with_reducible refine (rEnd_any g D _ 8 w5 R5).mono ?_); rintro en w' ⟨rfl, rfl⟩; rw [endE, if_neg (by omega)])
    | (go_at_call 29; (with_reducible refine (rEnd_any g2 D2 _ 8 w5 X5).mono ?_); rintro en w' ⟨rfl, rfl⟩; rw [endE, if_neg (by omega)]))
  go_ret
  exact ⟨rfl, B5⟩
end Go.Proofs.Ythkfoebannpmdaa
