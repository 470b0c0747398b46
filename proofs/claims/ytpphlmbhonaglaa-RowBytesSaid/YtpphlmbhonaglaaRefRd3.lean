/-
  The reference's reader: Text.
-/
import Derived.Test.YtpphlmbhonaglaaRefRd2
import Derived.Deep.RegionWith
namespace Go.Proofs.Ytpphlmbhonaglaa
open Go.RowKit

theorem text_none (l : List UInt8) (e : Int) (h : xk 2 l e = []) : vT l e = [] ∧ dT l e = dN 2 l e ∧ eT l e = eN 2 l e := by
  unfold xk at h
  unfold vT dT eT dN eN
  by_cases he : e = 0
  · rw [if_pos he] at h
    rw [if_pos he, if_pos he, if_pos he, if_pos he, if_pos he, h]
    simp [num, tk, dr, er]
  · rw [if_neg he, if_neg he, if_neg he, if_neg he, if_neg he]
    exact ⟨rfl, rfl, rfl⟩
theorem text_some (l : List UInt8) (e : Int) (a b : UInt8) (h : xk 2 l e = [a, b]) :
    e = 0 ∧ vT l e = tk (a.toNat + 256 * b.toNat) (dr 2 l) ∧ dT l e = dr (a.toNat + 256 * b.toNat) (dr 2 l) ∧ eT l e = er (a.toNat + 256 * b.toNat) (dr 2 l) 0 ∧ dN 2 l e = dr 2 l ∧ eN 2 l e = 0 := by
  unfold xk at h
  by_cases he : e = 0
  · subst he
    rw [if_pos rfl] at h
    have hn : num (tk 2 l) = a.toNat + 256 * b.toNat := by rw [h]; simp [num]
    have h2 : 2 ≤ l.length := by
      unfold tk at h
      split at h
      · assumption
      · cases h
    have e0 : er 2 l 0 = 0 := by unfold er; rw [if_pos h2]
    unfold vT dT eT dN eN
    rw [if_pos rfl, if_pos rfl, if_pos rfl, if_pos rfl, if_pos rfl, hn, e0]
    exact ⟨rfl, rfl, rfl, rfl, rfl, rfl⟩
  · rw [if_neg he] at h
    cases h
theorem xk_two (l : List UInt8) (e : Int) : xk 2 l e = [] ∨ ∃ a b, xk 2 l e = [a, b] := by
  unfold xk tk
  split
  · split
    · rename_i h
      match l, h with
      | a :: b :: r, _ => exact .inr ⟨a, b, by simp⟩
    · exact .inl rfl
  · exact .inl rfl

theorem xtake_ok (g : Nat) (D : Option Nat) (l : List UInt8) (m : Nat) (M : Int) (hM : M = (m : Int)) (w : World) (h : Rx w g D l 0) :
    Calls Try.prog 61 #[.pointer (some ⟨g, 0, none⟩), .int .i64 M] w (TookX w g D (tk m l).length (tk m l) (dr m l) (er m l 0)) := by
  have := xtake_any g D l 0 m M hM w h
  rw [xk, dN, eN, if_pos rfl, if_pos rfl, if_pos rfl] at this
  exact this
set_option maxHeartbeats 800000 in
theorem xText (g : Nat) (D : Option Nat) (l : List UInt8) (e : Int) (w : World) (h : Rx w g D l e) :
    Calls Try.prog 40 #[.pointer (some ⟨g, 0, none⟩)] w (SaidTX w g D (vT l e) (dT l e) (eT l e)) := by
  have HT := xtake_any g D l e 2 2 rfl w h
  rcases xk_two l e with ht | ⟨a, b, ht⟩
  · obtain ⟨e1, e2, e3⟩ := text_none l e ht
    rw [e1, e2, e3]
    rw [ht] at HT
    have H2 := Lib.hid HT
    clear HT ht e1 e2 e3
    go_enter Try.func40, Try.ntmps40
    go_wp2_with (go_at_call 61; (refine H2.out.mono ?_); rintro en w1 ⟨ao, cap, rfl, hi, h1, k1⟩)
    go_ret
    exact ⟨rfl, h1, k1⟩
  · obtain ⟨_, e1, e2, e3, e4, e5⟩ := text_some l e a b ht
    rw [e1, e2, e3]
    rw [ht, e4, e5] at HT
    have H2 := Lib.hid HT
    have ha : (a.toNat : Int) ≤ 255 := by have := a.toNat_lt; omega
    have hb : (b.toNat : Int) ≤ 255 := by have := b.toNat_lt; omega
    have s0 : IntKind.i64.wrap ((a.toNat : Int)) = (a.toNat : Int) := IntWalk.i64_in _ (by omega)
    have s1 : IntKind.i64.wrap ((b.toNat : Int)) = (b.toNat : Int) := IntWalk.i64_in _ (by omega)
    have s2 : IntKind.i64.wrap (256 * (b.toNat : Int)) = 256 * (b.toNat : Int) := IntWalk.i64_in _ (by omega)
    have s3 : IntKind.i64.wrap ((a.toNat : Int) + 256 * (b.toNat : Int)) = (a.toNat : Int) + 256 * (b.toNat : Int) := IntWalk.i64_in _ (by omega)
    have x1 : (1 : Int) < 2 := by omega
    clear HT ht e1 e2 e3 e4 e5
    go_enter Try.func40, Try.ntmps40
    go_wp2_with (go_at_call 61; (refine H2.out.mono ?_); rintro en w1 ⟨ao, cap, rfl, hi, h1, k1⟩; obtain ⟨bb, off, rfl, hc⟩ := IsB_open hi (by simp); have hc0 : w1.cell? ⟨bb, off, none⟩ = some (.int .u8 (a.toNat : Int)) := hc 0 (by simp); have hc1 : w1.cell? ⟨bb, off + 1, none⟩ = some (.int .u8 (b.toNat : Int)) := hc 1 (by simp); clear hc)
    go_region_with (go_at_call 61; refine (xtake_ok g D (dr 2 l) (a.toNat + 256 * b.toNat) _ (by omega) _ (by exact h1.below (Below.refl _ _).drew)).mono ?_; rintro en w2 ⟨ao2, cap2, rfl, hi2, h2, k2⟩; have cv := hi2.conv byteTy Try.underlying9)
    all_goals
      go_wp2_with fail
      go_ret
      exact ⟨rfl, h2, grown_trans (grown_drew k1) k2⟩
end Go.Proofs.Ytpphlmbhonaglaa
