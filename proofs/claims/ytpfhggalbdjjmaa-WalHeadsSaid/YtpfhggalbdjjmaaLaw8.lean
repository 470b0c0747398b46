/-
  What the laws of wal stand on: Open and Append of a disk that holds a log; the chapter's example.
-/
import Derived.Test.YtpfhggalbdjjmaaWGrow
import Derived.Test.YtpfhggalbdjjmaaWth
import Derived.Test.YtpfhggalbdjjmaaMake
namespace Go.Proofs.Ytpfhggalbdjjmaa
open Go.RowKit

theorem pg_newD (n q : Nat) : (newD n).pg q = pad [] := by
  unfold Dk.pg newD
  simp only [List.getD_eq_getElem?_getD, List.getElem?_replicate]
  split <;> rfl
theorem holds_new (n : Nat) : Holds n (newD n) [] :=
  ⟨rfl, by simp [newD], by simp [encR'], by rw [pg_newD]; rfl, by simp [encR']⟩
/-- A log is told, and its records; which disk it is of. -/
def OpenOK (w : World) (d n : Nat) (ps : List (List UInt8)) (en : Ending) (w' : World) : Prop :=
  OpenIs w d (roomN n) ((encR' ps).length : Nat) (ps.length : Nat) ps en w'
/-- One record more. -/
def AppOK (w : World) (g d n : Nat) (S : Nat → Prop) (s : Dk) (ps : List (List UInt8)) (en : Ending) (w' : World) : Prop :=
  ∃ S' s', en = .returned (.int .i64 0) ∧ IsD w' d n S' s' ∧ Kp w w' (fun q => S q ∨ q = g) ∧ Ext w S S' ∧ LogAt w' g d (roomN n) ((encR' ps).length : Nat) (ps.length : Nat) ∧ Holds n s' ps ∧ s'.left ≤ 0 ∧ s.left - 1100 ≤ s'.left ∧ s'.pend = []
section
variable {w : World} {g d n m c : Nat} {ao : Option Addr} {b : List UInt8} {S : Nat → Prop} {s : Dk} {ps : List (List UInt8)}
theorem open_holds (h : IsD w d n S s) (hn2 : 2 ≤ n) (H : Holds n s ps) : Calls Try.prog 13 #[.pointer (some ⟨d, 0, none⟩)] w (OpenOK w d n ps) := by
  have hs := h.small
  have := open_ok_any h H.alive hn2 (H.ok hs)
  rw [H.hdN hs, H.recL hs] at this
  exact this
theorem append_holds (L : LogAt w g d (roomN n) ((encR' ps).length : Nat) (ps.length : Nat)) (hb : IsB w ao m c b) (hm : m ≤ 65536) (hroom : (encR' ps).length + (8 + m) ≤ 64 * (n - 1)) (hD : IsD w d n S s) (hn2 : 2 ≤ n) (hgS : ¬ S g)
    (H : Holds n s ps) (hq : s.left ≤ 0 ∧ -300000 ≤ s.left) (hp : s.pend.length ≤ 40000) : Calls Try.prog 14 #[.pointer (some ⟨g, 0, none⟩), .slice ao m c] w (AppOK w g d n S s (ps ++ [b])) := by
  have hs := hD.small
  have hl := hb.len
  have hE := (encR'_len ps).1
  have h := append_any (encR' ps).length ps.length L (by omega) hb hm (by omega) hD hn2 hgS H.alive (by omega) hp
  have hN : chN (apX s (encR' ps).length b).length ≤ 1030 := by
    unfold apX chN
    rw [List.length_append, List.length_take, pg_length, List.length_append, le_length, hl]
    omega
  have hw : ¬ (1 ≤ s.left ∧ s.left ≤ chN (apX s (encR' ps).length b).length) := by omega
  have HG := H.grow hn2 b (by omega) (by omega) hw (by omega)
  have hrun : apRun s (apP (encR' ps).length) (apX s (encR' ps).length b) (apHd (encR' ps).length ps.length b) = (apS s (apP (encR' ps).length) (apX s (encR' ps).length b) (apHd (encR' ps).length ps.length b) 4, 0) := by
    rw [apRun, if_neg hw, if_neg (by omega), if_neg (by omega), if_neg (by omega)]
  rw [hrun] at h
  have hlen : (encR' (ps ++ [b])).length = (encR' ps).length + (8 + m) := by
    rw [encR'_append, List.length_append, encR'_cons, encR'_nil, List.length_append, le_length, List.append_nil, hl]
  have hwl := wrF_left s (apX s (encR' ps).length b) (apP (encR' ps).length) (List.range (chN (apX s (encR' ps).length b).length)) (by rw [List.length_range]; exact hw)
  rw [List.length_range] at hwl
  generalize hX : apX s (encR' ps).length b = X at hwl HG h hN
  generalize apHd (encR' ps).length ps.length b = HD at HG h
  have e1 : (apS s (apP (encR' ps).length) X HD 1).left = s.left - chN X.length := hwl.1
  have e2 : ((apS s (apP (encR' ps).length) X HD 2).put 0 HD).left ≠ 1 := by show (apS s (apP (encR' ps).length) X HD 1).left - 1 ≠ 1; rw [e1]; omega
  have e4 : (apS s (apP (encR' ps).length) X HD 4).left = s.left - chN X.length - 3 := by
    show ((apS s (apP (encR' ps).length) X HD 2).put 0 HD).spent.left - 1 = _
    rw [spent_more e2]
    show (apS s (apP (encR' ps).length) X HD 1).left - 1 - 1 - 1 = _
    rw [e1]
    omega
  refine h.mono ?_
  rintro en w' ⟨S', rfl, D', k', e', L'⟩
  refine ⟨S', _, rfl, D', k', e', ?_, HG, by rw [e4]; omega, by rw [e4]; omega, rfl⟩
  rw [if_pos rfl, if_pos rfl] at L'
  rw [hlen, List.length_append, List.length_cons, List.length_nil]
  exact L'
end

theorem Recs.open {w : World} {B : Nat} {ro : Option Addr} {rn rc : Nat} {ps : List (List UInt8)} (h : Recs w B ro rn rc ps) (h0 : 0 < rn) :
    ∃ g, ro = some ⟨g, 0, none⟩ ∧ ∀ j, j < rn → ∃ bo bn bc, w.cell? ⟨g, j, none⟩ = some (.slice bo bn bc) ∧ IsB w bo bn bc (ps.getD j []) := by
  have I := h.isP
  obtain ⟨hs, T, _⟩ := h
  rcases T.either with ⟨_, rfl, _⟩ | ⟨g, rfl, _⟩
  · omega
  · refine ⟨g, rfl, fun j hj => ?_⟩
    obtain ⟨bo, bn, bc, h1, h2⟩ := I.cell _ rfl j hj
    rw [Addr.add_lit, Nat.zero_add] at h1
    exact ⟨bo, bn, bc, h1, h2⟩
set_option maxRecDepth 100000 in
set_option maxHeartbeats 2000000 in
theorem known8 (w : World) : Calls Try.prog 7 #[] w fun e w' => e = .returned (.bool true) ∧ Below w.heap.size w w' := by
  go_enter Try.func7, Try.ntmps7
  go_wp2_with fail
  refine (new_is 4 w (by omega) (by omega)).mono ?_
  rintro e w1 ⟨d, S, rfl, D1, b1, q1⟩
  have HO := open_holds D1 (by omega) (holds_new 4)
  go_wp2_with fail
  refine HO.mono ?_
  rintro e w2 ⟨g, ro, rn, rc, rfl, L2, P2, b2, q2⟩
  have hrn := P2.len
  obtain rfl : rn = 0 := by simpa using hrn.symm
  have D2 := D1.past b2
  have hgS : ¬ S g := fun q => by have := D1.lt _ q; omega
  go_wp2_with fail
  have i3 := isB_lit w2 #[.int .u8 1, .int .u8 2, .int .u8 3] 5 [1, 2, 3] 3 rfl rfl (by omega)
  have B3 := (Below.refl w2.heap.size w2).alloc (Nat.le_refl _) (.cells #[.int .u8 1, .int .u8 2, .int .u8 3] 5)
  have D3 := D2.past B3
  have L3 := L2.past B3
  have b3 := (b1.trans (b2.mono b1.size)).trans (B3.mono (Nat.le_trans b1.size b2.size))
  refine (append_holds (ps := []) L3 i3 (by omega) (by rw [encR'_nil]; simp) D3 (by omega) hgS (holds_new 4) (by simp [newD]) (by simp [newD])).mono ?_
  rintro e w4 ⟨S4, s4, rfl, D4, k4, e4, L4, H4, -, -, -⟩
  have hS4 : ∀ q, S4 q → w.heap.size ≤ q := fun q hq => by
    rcases e4 q hq with h | h
    · exact q1 q h
    · exact Nat.le_trans b3.size h
  have b4 := b3.trans (k4.below b3.size (fun q h => by
    rcases h with h | h
    · exact q1 q h
    · subst h
      exact Nat.le_trans b1.size q2))
  have HO2 := open_holds D4 (by omega) H4
  clear L3 i3 B3 L2 P2 D2 D3 k4 e4 hgS HO D1
  simp only [List.nil_append] at HO2 L4
  go_wp2_with fail
  refine HO2.mono ?_
  rintro e w5 ⟨g5, ro5, rn5, rc5, rfl, L5, P5, b5, q5⟩
  have hrn5 := P5.len
  obtain rfl : rn5 = 1 := by simpa using hrn5.symm
  obtain ⟨g8, rfl, hat⟩ := P5.open (by omega)
  obtain ⟨bo, bn, bc', hc5, hb5⟩ := hat 0 (by omega)
  obtain rfl : bn = 3 := by have := hb5.len; simpa using this.symm
  have L45 := L4.past b5
  have hcnt := count_any w5 g d _ _ _ L45 (by simp)
  simp only [List.length_cons, List.length_nil] at hcnt
  have B5 := b4.trans (b5.mono b4.size)
  clear hat P5 L45 L5 hb5
  go_wp2_with (go_at_call 17; refine hcnt.mono ?_; rintro e w' ⟨rfl, rfl⟩)
  go_ret
  exact ⟨rfl, B5⟩
theorem within8_any (a n : Int) (w : World) (hn : 0 < n) (hn2 : n ≤ 1000000) :
    Calls Try.prog 16 #[.int .i64 a, .int .i64 n] w fun e w' => e = .returned (.int .i64 (wth a n)) ∧ w = w' := by
  have h1 := Int.lt_tmod_of_pos a hn
  have h2 := Int.tmod_lt_of_pos a hn
  have hz : (n == 0) = false := by simp; omega
  by_cases h3 : a.tmod n < 0
  · go_enter Try.func16, Try.ntmps16
    go_wp2_with fail
    go_ret
    exact ⟨ret_int (by unfold wth; rw [if_pos h3]), rfl⟩
  · go_enter Try.func16, Try.ntmps16
    go_wp2_with fail
    go_ret
    exact ⟨ret_int (by unfold wth; rw [if_neg (by omega)]), rfl⟩
end Go.Proofs.Ytpfhggalbdjjmaa
