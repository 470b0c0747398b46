/-
  wal.room, (*wal.reading).readHead: page 0's numbers.
-/
import Derived.Test.YtpfhggalbdjjmaaWTell
namespace Go.Proofs.Ytpfhggalbdjjmaa
open Go.RowKit

/-- How many bytes the pages from 1 on have. -/
def roomN (n : Nat) : Int := ((n : Int) - 1) * 64
/-- The numbers that page 0 says. -/
def hdS (s : Dk) : Int := wrap64 (num ((s.pg 0).take 8))
def hdK (s : Dk) : Int := wrap64 (num (((s.pg 0).drop 8).take 8))
def hdE (n : Nat) (s : Dk) : Int := if hdS s < 0 ∨ hdK s < 0 ∨ roomN n < hdS s then 10 else 0
theorem pg_length (s : Dk) (p : Nat) : (s.pg p).length = 64 := pad_length _
theorem rInt_yes (g : Nat) (D : Option Nat) (l : List UInt8) (hl : 8 ≤ l.length) (w : World) (h : Rd w g D l 0) :
    Calls Try.prog 67 #[.pointer (some ⟨g, 0, none⟩)] w (Said w g D (wrap64 (num (l.take 8))) (l.drop 8) 0) := by
  have := rInt_any g D l 0 w h
  rwa [vN, dN, eN, if_pos rfl, if_pos rfl, if_pos rfl, tk, dr, er, if_pos hl, if_pos hl, if_pos hl] at this
section
variable {w : World} {d n : Nat} {S : Nat → Prop} {s : Dk}
theorem room_any (h : IsD w d n S s) : Calls Try.prog 30 #[.pointer (some ⟨d, 0, none⟩)] w fun e w' => e = .returned (.int .i64 (roomN n)) ∧ w = w' := by
  have hn := h.small
  go_enter Try.func30, Try.ntmps30
  go_wp2_with (go_at_call 49; refine (pages_is h).mono ?_; rintro e w' ⟨rfl, rfl⟩)
  go_ret
  exact ⟨rfl, rfl⟩
theorem room_eq (h : IsD w d n S s) : Calls Try.prog 30 #[.pointer (some ⟨d, 0, none⟩)] w fun e w' => e = .returned (.int .i64 (roomN n)) ∧ w' = w := (room_any h).mono fun _ _ ⟨a, b⟩ => ⟨a, b.symm⟩
set_option maxRecDepth 100000 in
set_option maxHeartbeats 1000000 in
theorem readHead_any (h : IsD w d n S s) (hg : s.gone = false) (hn2 : 2 ≤ n) (r : Nat) (hr : ¬ S r) (R : Rg w r 0 0 0 none 0 0) :
    Calls Try.prog 50 #[.pointer (some ⟨r, 0, none⟩), .pointer (some ⟨d, 0, none⟩)] w (ToldR w r (hdE n s) (hdS s) (hdK s) none 0 0) := by
  obtain ⟨z, hz⟩ : ∃ z, hdS s = z := ⟨_, rfl⟩
  obtain ⟨k, hk⟩ : ∃ k, hdK s = k := ⟨_, rfl⟩
  have HE : Hid (hdE n s = if z < 0 ∨ k < 0 ∨ roomN n < z then 10 else 0) := by unfold Hid hdE; rw [hz, hk]
  have hl := pg_length s 0
  have hl2 : 8 ≤ ((s.pg 0).drop 8).length := by rw [List.length_drop, hl]; omega
  have HZ : Hid (wrap64 (num ((s.pg 0).take 8)) = z) := hz
  have HK : Hid (wrap64 (num (((s.pg 0).drop 8).take 8)) = k) := hk
  rw [hz, hk]
  generalize hdE n s = E at HE ⊢
  clear hz hk
  have HR := R.lt
  have c4 := R.c4
  have c5 := R.c5
  have f4 := R.free 4
  have f5 := R.free 5
  go_enter Try.func50, Try.ntmps50
  go_wp2_with (first
    | (go_at_call 47; refine (read_is h hg 0 (by omega)).mono ?_; rintro e w1 ⟨g1, rfl, O1, q1, b1⟩)
    | (go_at_call 66; refine (new_any _ 64 64 _ _ O1.isB (by omega)).mono ?_; rintro en w2 ⟨g, D, rfl, R2, b2, q2, d2⟩)
    | (go_at_call 67; (with_reducible refine (rInt_yes g D (s.pg 0) (by omega) _ R2).mono ?_); rintro en w3 ⟨rfl, R3, k3⟩)
    | (go_at_call 67; (with_reducible refine (rInt_yes g D _ hl2 _ R3).mono ?_); rintro en w4 ⟨rfl, R4, k4⟩; rw [HZ.out, HK.out]; have B4 := ((b1.trans (b2.mono b1.size)).trans (grown_below (grown_trans k3 k4) (Nat.le_trans b1.size q2) (Nat.le_trans b1.size b2.size))); have c4 := (R.past B4).c4; have c5 := (R.past B4).c5; have f4 := (R.past B4).free 4; have f5 := (R.past B4).free 5))
  have RR := ((R.past B4).size z).count k
  have G5 : w.grownBy ((w4.setCell ⟨r, 4, none⟩ (.int .i64 z)).setCell ⟨r, 5, none⟩ (.int .i64 k)) (some r) := grown_setCell (grown_setCell (below_grown _ B4))
  have h5 : IsD ((w4.setCell ⟨r, 4, none⟩ (.int .i64 z)).setCell ⟨r, 5, none⟩ (.int .i64 k)) d n S s := h.kp (Kp.ofGrown (S := fun q => q = r) G5 (fun g e => (Option.some.inj e).symm)) (fun q hq e => hr (by rw [← e]; exact hq))
  have hE := HE.out
  clear HE HZ HK R2 R3 O1 R4 hl hl2 k3 k4 b1 b2 q1 q2 d2 B4 HR
  generalize ((w4.setCell ⟨r, 4, none⟩ (.int .i64 z)).setCell ⟨r, 5, none⟩ (.int .i64 k)) = w5 at RR G5 h5 ⊢
  have c4 := RR.c4
  have c5 := RR.c5
  have T := tell_any r 0 z k none 0 0 10
  rw [err1_zero] at T
  have RD : ∀ q, Rg (w5.drewN q) r 0 z k none 0 0 := fun q => RR.past (below_drewN (Below.refl _ _) q)
  have GD : ∀ q, w.grownBy (w5.drewN q) (some r) := fun q => ⟨G5.os, G5.tape, G5.output, G5.size, G5.block⟩
  have hD : ∀ q, IsD (w5.drewN q) d n S s := fun q => h5.past (below_drewN (Below.refl _ _) q)
  clear RR h R h5 G5
  by_cases h1 : z < 0
  · rw [if_pos (.inl h1)] at hE
    subst hE
    go_wp2_with fail
    go_quiet (fail)
    go_wp2_with (go_at_call 53; refine (T _ (RD nq)).mono ?_; rintro e w6 ⟨rfl, R6, g6⟩)
    go_end0
    exact ⟨rfl, R6, grown_trans (GD nq) g6⟩
  · have d1 : decide (z < 0) = false := decide_eq_false h1
    by_cases h2 : k < 0
    · rw [if_pos (.inr (.inl h2))] at hE
      subst hE
      go_wp2_with fail
      go_quiet (fail)
      go_wp2_with (go_at_call 53; refine (T _ (RD nq)).mono ?_; rintro e w6 ⟨rfl, R6, g6⟩)
      go_end0
      exact ⟨rfl, R6, grown_trans (GD nq) g6⟩
    · have d2 : decide (k < 0) = false := decide_eq_false h2
      by_cases h3 : roomN n < z
      · rw [if_pos (.inr (.inr h3))] at hE
        subst hE
        go_wp2_with fail
        go_quiet ((go_at_call 30; exact Calls.quiet_of_same (room_eq (hD _))))
        go_wp2_with (go_at_call 53; refine (T _ (RD nq)).mono ?_; rintro e w6 ⟨rfl, R6, g6⟩)
        go_end0
        exact ⟨rfl, R6, grown_trans (GD nq) g6⟩
      · have d3 : decide (roomN n < z) = false := decide_eq_false h3
        rw [if_neg (by simp [h1, h2, h3])] at hE
        subst hE
        go_wp2_with fail
        go_quiet ((go_at_call 30; exact Calls.quiet_of_same (room_eq (hD _))))
        go_wp2_with fail
        go_end0
        exact ⟨rfl, RD nq, GD nq⟩
end
end Go.Proofs.Ytpfhggalbdjjmaa
