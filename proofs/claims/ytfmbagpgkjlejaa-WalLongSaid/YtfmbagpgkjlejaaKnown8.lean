/-
  The chapter's example.
-/
import Derived.Test.YtfmbagpgkjlejaaLaw8
namespace Go.Proofs.Ytfmbagpgkjlejaa
open Go.RowKit

theorem Recs.open {w : World} {B : Nat} {ro : Option Addr} {rn rc : Nat} {ps : List (List UInt8)} (h : Recs w B ro rn rc ps) (h0 : 0 < rn) :
    ∃ g, ro = some ⟨g, 0, none⟩ ∧ ∀ j, j < rn → ∃ bo bn bc, w.cell? ⟨g, j, none⟩ = some (.slice bo bn bc) ∧ IsB w bo bn bc (ps.getD j []) := by
  have I := h.isP
  obtain ⟨hs, T, _⟩ := h
  rcases T.either with ⟨_, rfl, _⟩ | ⟨g, rfl, _⟩
  · omega
  · refine ⟨g, rfl, fun j hj => ?_⟩
    obtain ⟨bo, bn, bc, h1, h2⟩ := I.cell _ rfl j hj
    rw [Addr.add_lit, Nat.zero_add] at h1
    exact ⟨bo, bn, bc, h1, h2⟩
set_option maxRecDepth 100000 in
set_option maxHeartbeats 2000000 in
theorem known8 (w : World) : Calls Try.prog 9 #[] w fun e w' => e = .returned (.bool true) ∧ Below w.heap.size w w' := by
  go_enter Try.func9, Try.ntmps9
  go_wp2_with fail
  refine (new_is 4 w (by omega) (by omega)).mono ?_
  rintro e w1 ⟨d, S, rfl, D1, b1, q1⟩
  have HO := open_holds D1 (by omega) (holds_new 4)
  go_wp2_with fail
  refine HO.mono ?_
  rintro e w2 ⟨g, ro, rn, rc, rfl, L2, P2, b2, q2⟩
  have hrn := P2.len
  obtain rfl : rn = 0 := by simpa using hrn.symm
  have D2 := D1.past b2
  have hgS : ¬ S g := fun q => by have := D1.lt _ q; omega
  go_wp2_with fail
  have i3 := isB_lit w2 #[.int .u8 1, .int .u8 2, .int .u8 3] 5 [1, 2, 3] 3 rfl rfl (by omega)
  have B3 := (Below.refl w2.heap.size w2).alloc (Nat.le_refl _) (.cells #[.int .u8 1, .int .u8 2, .int .u8 3] 5)
  have D3 := D2.past B3
  have L3 := L2.past B3
  have b3 := (b1.trans (b2.mono b1.size)).trans (B3.mono (Nat.le_trans b1.size b2.size))
  refine (append_holds (ps := []) L3 i3 (by omega) (by rw [encR'_nil]; simp) D3 (by omega) hgS (holds_new 4) (by simp [newD]) (by simp [newD])).mono ?_
  rintro e w4 ⟨S4, s4, rfl, D4, k4, e4, L4, H4, -, -, -⟩
  have hS4 : ∀ q, S4 q → w.heap.size ≤ q := fun q hq => by
    rcases e4 q hq with h | h
    · exact q1 q h
    · exact Nat.le_trans b3.size h
  have b4 := b3.trans (k4.below b3.size (fun q h => by
    rcases h with h | h
    · exact q1 q h
    · subst h
      exact Nat.le_trans b1.size q2))
  have HO2 := open_holds D4 (by omega) H4
  clear L3 i3 B3 L2 P2 D2 D3 k4 e4 hgS HO D1
  simp only [List.nil_append] at HO2 L4
  go_wp2_with fail
  refine HO2.mono ?_
  rintro e w5 ⟨g5, ro5, rn5, rc5, rfl, L5, P5, b5, q5⟩
  have hrn5 := P5.len
  obtain rfl : rn5 = 1 := by simpa using hrn5.symm
  obtain ⟨g8, rfl, hat⟩ := P5.open (by omega)
  obtain ⟨bo, bn, bc', hc5, hb5⟩ := hat 0 (by omega)
  obtain rfl : bn = 3 := by have := hb5.len; simpa using this.symm
  have L45 := L4.past b5
  have hcnt := count_any w5 g d _ _ _ L45 (by simp)
  simp only [List.length_cons, List.length_nil] at hcnt
  have B5 := b4.trans (b5.mono b4.size)
  clear hat P5 L45 L5 hb5
  go_wp2_with (go_at_call 19; refine hcnt.mono ?_; rintro e w' ⟨rfl, rfl⟩)
  go_ret
  exact ⟨rfl, B5⟩
end Go.Proofs.Ytfmbagpgkjlejaa
