/-
  CodeOrder, walked.
-/
import Derived.Test.YthkfoebannpmdaaKnown
import Derived.OpenShut
namespace Go.Proofs.Ythkfoebannpmdaa
open Go.RowKit

theorem isB_of_row {w : World} {a : Option Addr} {len cap : Nat} {zs : List Int}
    (h : (a = none ∧ len = 0 ∧ cap = 0 ∧ zs = []) ∨ ∃ x, a = some x ∧ len ≤ cap ∧ cap ≤ maxLen ∧ zs.length = cap ∧ (∀ i, i < zs.length → w.cell? (x.add i) = some (.int .u8 (zs.getD i 0))) ∧ ∀ n ∈ zs, (Lit.int .u8 n).wf = true) :
    ∃ l, IsB w a len cap l := by
  rcases h with ⟨rfl, rfl, rfl, rfl⟩ | ⟨x, rfl, h1, h2, h3, h4, h5⟩
  · exact ⟨[], IsB.nilB w⟩
  · refine ⟨(zs.take len).map fun n => UInt8.ofNat n.toNat, by simp; omega, h1, h2, fun h => (by cases h), fun a ha j u hu => ?_⟩
    obtain rfl := Option.some.inj ha
    rw [List.getElem?_map] at hu
    obtain ⟨z, hz, rfl⟩ := Option.map_eq_some_iff.1 hu
    have hj : j < zs.length := by
      have := (List.getElem?_eq_some_iff.1 hz).1
      simp at this
      omega
    have hz' : zs[j]? = some z := by
      rw [List.getElem?_take] at hz
      split at hz
      · exact hz
      · cases hz
    rw [h4 j hj]
    have hg : zs.getD j 0 = z := by simp [List.getD, hz']
    have hw := h5 z (List.mem_of_getElem? hz')
    have hb := bounds_u8 hw
    rw [hg, bc]
    simp only [Option.some.injEq, Value.int.injEq, true_and, UInt8.toNat_ofNat']
    omega

theorem own_empty (w : World) : OwnB (w.alloc (.cells #[] 5)) 5 w.heap.size 0 0 [] :=
  ⟨rfl, Nat.le_refl _, Nat.zero_le _, #[], heap_alloc_new w _, rfl, rfl⟩

theorem below_on {w a b : World} (h : Below w.heap.size w a) (k : Below a.heap.size a b) : Below w.heap.size w b := h.trans (k.mono h.size)
theorem below_puts {w a b : World} {o : Obj} {g n : Nat} (h : Below w.heap.size w a) (p : Puts (a.alloc o) b g n) (hg : a.heap.size ≤ g) : Below w.heap.size w b := by
  have hs := h.size
  exact (h.alloc hs o).trans (p.below (by omega) (by simp; omega))
theorem ge_new {a : World} {o : Obj} {g : Nat} (h : g = a.heap.size ∨ (a.alloc o).heap.size ≤ g) : a.heap.size ≤ g := by
  simp at h
  omega
theorem ge_old {a b : World} {g g' : Nat} {B : Nat} (d : Below B a b) (hB : B ≤ a.heap.size) (hg : B ≤ g) (h : g' = g ∨ b.heap.size ≤ g') : B ≤ g' := by
  have := d.size
  omega

/-- A text of no more than 65535 bytes. -/
theorem text_small (ao : Option Addr) (n cap : Nat) (l : List UInt8) (s : ByteArray) (w : World) (h : IsB w ao n cap l) (hn : n ≤ 800000) (hs : s.size ≤ 65535) :
    Calls Try.prog 16 #[.slice ao n cap, .string s] w (Fresh w (n + (2 + s.size)) (l ++ (le 2 s.size ++ s.data.toList))) := by
  have hl : s.data.toList.length = s.size := by simp
  have e : tx s.data.toList = le 2 s.size ++ s.data.toList := by unfold tx; rw [List.take_of_length_le (by omega), hl]
  have := text_any ao n cap l s w h hn
  rw [e, List.length_append, le_length, hl] at this
  exact this
theorem text_small_nil (s : ByteArray) (w : World) (hs : s.size ≤ 65535) : Calls Try.prog 16 #[.slice none 0 0, .string s] w (Fresh w (2 + s.size) (le 2 s.size ++ s.data.toList)) := by
  have h := text_small none 0 0 [] s w (IsB.nilB w) (by omega) hs
  rw [Nat.zero_add] at h
  exact h

set_option maxHeartbeats 400000 in
theorem order_long (a0 : Option Addr) (n0 c0 : Nat) (x y : Int) (s : ByteArray) (w : World) (h : 50 < n0 ∨ 200 < s.size) :
    Calls Try.prog 10 #[.slice a0 n0 c0, .int .i64 x, .int .i64 y, .string s] w (Told w true) := by
  by_cases h1 : 50 < n0
  · clear h
    go_enter Try.func10, Try.ntmps10
    go_wp2_with (go_at_call 11; refine (known_any _).mono ?_; rintro e wA ⟨rfl, hbA⟩)
    go_ret
    exact ⟨rfl, hbA⟩
  · have h2 : 200 < s.size := by omega
    clear h
    go_enter Try.func10, Try.ntmps10
    go_wp2_with (go_at_call 11; refine (known_any _).mono ?_; rintro e wA ⟨rfl, hbA⟩)
    go_ret
    exact ⟨rfl, hbA⟩

set_option maxHeartbeats 800000 in
theorem order_walk (a0 : Option Addr) (n0 c0 : Nat) (l : List UInt8) (x y : Int) (s : ByteArray) (w : World) (h : IsB w a0 n0 c0 l) :
    Calls Try.prog 10 #[.slice a0 n0 c0, .int .i64 x, .int .i64 y, .string s] w (Told w true) := by
  by_cases hc : 50 < n0 ∨ 200 < s.size
  · exact order_long a0 n0 c0 x y s w hc
  have h1 : n0 ≤ 50 := by omega
  have h2 : s.size ≤ 200 := by omega
  clear hc
  go_enter Try.func10, Try.ntmps10
  go_wp2_with (first
    | (go_at_call 11; refine (known_any _).mono ?_; rintro e wA ⟨rfl, hbA⟩)
    | (go_at_call 12; (with_reducible refine (int_any (some ⟨g1, 0, none⟩) n0 c1 l x w1 o1.isB (by omega)).mono ?_); rintro e w2 ⟨g2, c2, rfl, o2, b2, q2⟩; have B2 := below_on B1 b2)
    | (go_at_call 14; (with_reducible refine (byte_any (some ⟨g2, 0, none⟩) (n0 + 8) c2 _ y w2 o2.isB (by omega)).mono ?_); rintro e w3 ⟨g3, c3, rfl, o3, b3, q3⟩; have B3 := below_on B2 b3)
    | (go_at_call 16; (with_reducible refine (text_small (some ⟨g3, 0, none⟩) (n0 + 8 + 1) c3 _ s w3 o3.isB (by omega) (by omega)).mono ?_); rintro e w4 ⟨g4, c4, rfl, o4, b4, q4⟩; have B4 := below_on B3 b4)
    | (go_at_call 12; (with_reducible refine (int_nil x w5).mono ?_); rintro e w6 ⟨g6, c6, rfl, o6, b6, q6⟩; have D6 := below_on D5 b6)
    | (go_at_call 14; (with_reducible refine (byte_nil y w7).mono ?_); rintro e w8 ⟨g8, c8, rfl, o8, b8, q8⟩; have D8 := below_on D7 b8)
    | (go_at_call 16; (with_reducible refine (text_small_nil s w9 (by omega)).mono ?_); rintro e wa ⟨ga, ca, rfl, oa, ba, qa⟩; have Da := below_on D9 ba)
    | (at_builtin; refine wpList_append_ob rfl _ _ 22 22 rfl 5 byteTy _ 0 0 [] rfl (own_empty wA) _ rfl n0 l (((h.past hbA).alloc _).src byteTy.ht) n0 (Nat.zero_add _) l rfl (by omega) ?_; intro g1 c1 w1 o1 p1 q1; have B1 := below_puts hbA p1 (Nat.le_refl _))
    | (at_builtin; refine wpList_append_ob rfl _ _ 22 22 rfl 5 byteTy _ 0 0 [] rfl (own_empty w4) _ rfl n0 l (((h.past B4).alloc _).src byteTy.ht) n0 (Nat.zero_add _) l rfl (by omega) ?_; intro g5 c5 w5 o5 p5 q5; have D5 := below_puts (Below.refl _ _) p5 (Nat.le_refl _); have G5 := ge_new q5)
    | (at_builtin; refine wpList_append_ob rfl _ _ 22 22 rfl 5 byteTy g5 n0 c5 l rfl (o5.below b6 o5.lt) _ rfl 8 (le 8 (XU x)) (o6.isB.src byteTy.ht) (n0 + 8) rfl _ rfl (by omega) ?_; intro g7 c7 w7 o7 p7 q7; have D7 := D6.trans (p7.below G5 D6.size); have G7 := ge_old D6 (Nat.le_refl _) G5 q7)
    | (at_builtin; refine wpList_append_ob rfl _ _ 22 22 rfl 5 byteTy g7 (n0 + 8) c7 _ rfl (o7.below b8 o7.lt) _ rfl 1 (le 1 (XU y)) (o8.isB.src byteTy.ht) (n0 + 8 + 1) rfl _ rfl (by omega) ?_; intro g9 c9 w9 o9 p9 q9; have D9 := D8.trans (p9.below G7 D8.size); have G9 := ge_old D8 (Nat.le_refl _) G7 q9)
    | (at_builtin; refine wpList_append_ob rfl _ _ 22 22 rfl 5 byteTy g9 (n0 + 8 + 1) c9 _ rfl (o9.below ba o9.lt) _ rfl (2 + s.size) (le 2 s.size ++ s.data.toList) (oa.isB.src byteTy.ht) (n0 + 8 + 1 + (2 + s.size)) rfl _ rfl (by omega) ?_; intro gb cb wb ob pb qb; have Db := Da.trans (pb.below G9 Da.size); have cx := (o4.below Db o4.lt).isB.conv byteTy Try.underlying9; have cy := ob.isB.conv byteTy Try.underlying9))
  go_ret
  refine ⟨?_, below_on B4 Db⟩
  simp
  omega
end Go.Proofs.Ythkfoebannpmdaa
