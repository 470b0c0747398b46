/-
  The reference's reader: New, Int, Byte, Text, Fail, End.
-/
import Derived.Test.YtpphlmbhonaglaaRefRd
namespace Go.Proofs.Ytpphlmbhonaglaa
open Go.RowKit

theorem xtake_any (g : Nat) (D : Option Nat) (l : List UInt8) (e : Int) (m : Nat) (M : Int) (hM : M = (m : Int)) (w : World) (h : Rx w g D l e) :
    Calls Try.prog 61 #[.pointer (some ⟨g, 0, none⟩), .int .i64 M] w (TookX w g D (xk m l e).length (xk m l e) (dN m l e) (eN m l e)) := by
  subst hM
  unfold xk dN eN
  by_cases he : e = 0
  · subst he
    rw [if_pos rfl, if_pos rfl, if_pos rfl]
    unfold tk dr er
    by_cases hm : m ≤ l.length
    · rw [if_pos hm, if_pos hm, if_pos hm, List.length_take, Nat.min_eq_left hm]
      exact xtake_yes g D l m hm w h
    · rw [if_neg hm, if_neg hm, if_neg hm, err1_zero]
      exact xtake_no g D l m (by omega) w h
  · rw [if_neg he, if_neg he, if_neg he]
    exact xtake_err g D l e he m w h

theorem num_drop (t : List UInt8) (j : Nat) (hj : j < t.length) : num (t.drop j) = (t[j]).toNat + 256 * num (t.drop (j + 1)) := by
  rw [List.drop_eq_getElem_cons hj, num]

theorem or_low (q x : Nat) (hq : q < 256 ^ 7) (hx : x < 256) : bits .or .u64 (IntKind.u64.wrap ((q : Int) * 256)) (IntKind.u64.wrap (x : Int)) = ((x + 256 * q : Nat) : Int) := by
  rw [IntWalk.u64_in (x : Int) (by omega), show (q : Int) * 256 = ((q * 256 : Nat) : Int) by omega, IntWalk.u64_in _ (by omega), bits_or_u64_nat (q * 256) x (by omega) (by omega)]
  congr 1
  rw [show q * 256 = q <<< 8 by rw [Nat.shiftLeft_eq], ← Nat.shiftLeft_add_eq_or_of_lt (by omega), Nat.shiftLeft_eq]
  omega
theorem num_down (t : List UInt8) (i q : Nat) (hi : i < t.length) (ht : t.length ≤ 8) (hq : q = num (t.drop (i + 1))) :
    bits .or .u64 (IntKind.u64.wrap ((q : Int) * 256)) (IntKind.u64.wrap (((t[i]?.getD 0).toNat : Nat) : Int)) = ((num (t.drop i) : Nat) : Int) := by
  have hl := num_lt (t.drop (i + 1))
  rw [List.length_drop] at hl
  have h7 : 256 ^ (t.length - (i + 1)) ≤ 256 ^ 7 := Nat.pow_le_pow_right (by omega) (by omega)
  have e : t[i]?.getD 0 = t[i] := by rw [List.getElem?_eq_getElem hi]; rfl
  rw [e, or_low q _ (by omega) (t[i]).toNat_lt, num_drop t i hi, ← hq]

set_option maxHeartbeats 400000 in
theorem xInt_any (g : Nat) (D : Option Nat) (l : List UInt8) (e : Int) (w : World) (h : Rx w g D l e) :
    Calls Try.prog 39 #[.pointer (some ⟨g, 0, none⟩)] w fun en w' => en = .returned (.int .i64 (wrap64 (num (xk 8 l e)))) ∧ Rx w' g D (dN 8 l e) (eN 8 l e) ∧ w.grownBy w' (some g) := by
  obtain ⟨t, ht⟩ : ∃ t, Hid (t = xk 8 l e) := ⟨_, rfl⟩
  have htl : t.length ≤ 8 := by rw [ht.out]; unfold xk tk; split <;> (try split) <;> simp <;> omega
  have HT : Calls Try.prog 61 #[.pointer (some ⟨g, 0, none⟩), .int .i64 8] w (TookX w g D t.length t (dN 8 l e) (eN 8 l e)) := by
    rw [ht.out]; exact xtake_any g D l e 8 _ rfl w h
  rw [← ht.out]
  have H2 := Lib.hid HT
  clear HT
  go_enter Try.func39, Try.ntmps39
  go_wp2_with (go_at_call 61; (with_reducible refine H2.out.mono ?_); rintro en w1 ⟨ao, cap, rfl, hi, h1, k1⟩)
  go_loop [3, 5] (fun u i => ∃ j q : Nat, j ≤ t.length ∧ i = .int .i64 ((j : Int) - 1) ∧ u = .int .u64 (q : Nat) ∧ Hid (q = num (t.drop j))) (fun _ i => (intOf i + 1).toNat)
  case atStart => exact ⟨t.length, 0, by omega, rfl, rfl, by unfold Hid; rw [List.drop_length]; rfl⟩
  case round =>
    obtain ⟨j, q, hj, rfl, rfl, hq⟩ := hrel
    by_cases hj0 : 0 < j
    · obtain ⟨b, off, rfl, hc⟩ := IsB_open hi (by omega)
      obtain ⟨i, rfl⟩ : ∃ i, j = i + 1 := ⟨j - 1, by omega⟩
      have hcj := hc i (by omega)
      clear hc
      have HS := Lib.hid (num_down t i q (by omega) htl hq.out)
      go_wp2_with fail
      go_round
      case rel => exact ⟨i, num (t.drop i), by omega, rfl, by rw [HS.out], rfl⟩
      case measure => simp [intOf]
    · obtain rfl : j = 0 := by omega
      go_wp2_with fail
      go_ret
      exact ⟨ret_int (by rw [hq.out]; rfl), h1, k1⟩

theorem num_xk (k : Nat) (l : List UInt8) (e : Int) : wrap64 ((num (xk k l e) : Nat) : Int) = vN k l e := by
  unfold xk vN
  by_cases he : e = 0
  · rw [if_pos he, if_pos he]
  · rw [if_neg he, if_neg he]
    exact IntWalk.wrap64_in 0 (by omega)

/-- The number n is answered; the reference's reader g holds the bytes l and the error e. -/
def SaidX (w : World) (g : Nat) (D : Option Nat) (n : Int) (l : List UInt8) (e : Int) (en : Ending) (w' : World) : Prop :=
  en = .returned (.int .i64 n) ∧ Rx w' g D l e ∧ w.grownBy w' (some g)
/-- The same of a text. -/
def SaidTX (w : World) (g : Nat) (D : Option Nat) (t l : List UInt8) (e : Int) (en : Ending) (w' : World) : Prop :=
  en = .returned (.string ⟨t.toArray⟩) ∧ Rx w' g D l e ∧ w.grownBy w' (some g)
def DoneX (w : World) (g : Nat) (D : Option Nat) (l : List UInt8) (e : Int) (en : Ending) (w' : World) : Prop :=
  en = .returned (.tuple #[]) ∧ Rx w' g D l e ∧ w.grownBy w' (some g)

theorem xInt (g : Nat) (D : Option Nat) (l : List UInt8) (e : Int) (w : World) (h : Rx w g D l e) :
    Calls Try.prog 39 #[.pointer (some ⟨g, 0, none⟩)] w (SaidX w g D (vN 8 l e) (dN 8 l e) (eN 8 l e)) := by
  have := xInt_any g D l e w h
  rw [num_xk] at this
  exact this

set_option maxHeartbeats 400000 in
theorem xByte (g : Nat) (D : Option Nat) (l : List UInt8) (e : Int) (w : World) (h : Rx w g D l e) :
    Calls Try.prog 37 #[.pointer (some ⟨g, 0, none⟩)] w (SaidX w g D (vN 1 l e) (dN 1 l e) (eN 1 l e)) := by
  rw [← num_xk]
  obtain ⟨t, ht⟩ : ∃ t, Hid (t = xk 1 l e) := ⟨_, rfl⟩
  have htl : t.length ≤ 1 := by rw [ht.out]; unfold xk tk; split <;> (try split) <;> simp <;> omega
  have HT : Calls Try.prog 61 #[.pointer (some ⟨g, 0, none⟩), .int .i64 1] w (TookX w g D t.length t (dN 1 l e) (eN 1 l e)) := by
    rw [ht.out]; exact xtake_any g D l e 1 _ rfl w h
  rw [← ht.out]
  have H2 := Lib.hid HT
  clear HT ht
  match t, htl, H2 with
  | [], _, H2 =>
    go_enter Try.func37, Try.ntmps37
    go_wp2_with (go_at_call 61; (refine H2.out.mono ?_); rintro en w1 ⟨ao, cap, rfl, hi, h1, k1⟩)
    go_ret
    exact ⟨ret_int (IntWalk.wrap64_in 0 (by omega)).symm, h1, k1⟩
  | [b], _, H2 =>
    have hb : wrap64 ((num [b] : Nat) : Int) = b.toNat := by
      have := b.toNat_lt
      rw [IntWalk.wrap64_in _ (by simp [num]; omega)]
      simp [num]
    rw [hb]
    clear hb
    have hb2 : (b.toNat : Int) ≤ 255 := by have := b.toNat_lt; omega
    go_enter Try.func37, Try.ntmps37
    go_wp2_with (go_at_call 61; (refine H2.out.mono ?_); rintro en w1 ⟨ao, cap, rfl, hi, h1, k1⟩; obtain ⟨bb, off, rfl, hc⟩ := IsB_open hi (by simp); have hc0 : w1.cell? ⟨bb, off, none⟩ = some (.int .u8 (b.toNat : Int)) := hc 0 (by simp); clear hc)
    go_ret
    exact ⟨rfl, h1, k1⟩

set_option maxHeartbeats 400000 in
theorem xFail (g : Nat) (D : Option Nat) (l : List UInt8) (e x : Int) (w : World) (h : Rx w g D l e) :
    Calls Try.prog 38 #[.pointer (some ⟨g, 0, none⟩), .int .i64 x] w (DoneX w g D l (err1 e x)) := by
  have H := Lib.hid h
  obtain ⟨ao, n, cap, B, p, hb, hi, hp, hn, hd, hD, hne⟩ := h
  have c2 : w.cell? ⟨g, 2, none⟩ = some (.int .i64 e) := cell_blk hb rfl
  have z2 : w.frozen? ⟨g, 2, none⟩ = false := free_blk hb
  by_cases he : e = 0
  · subst he
    have HR : Hid (DoneX w g D l x (.returned (.tuple #[])) (w.setCell ⟨g, 2, none⟩ (.int .i64 x))) :=
      ⟨rfl, ⟨ao, n, cap, B, p, (heap_setCell_same (i := 2) (v := .int .i64 x) hb).trans rfl, isB_grown hi (grown_setCell (World.grownBy.refl _ _)) (fun hB a ha e => hne (by rw [hD hB a ha, e])), hp, hn, hd, hD, hne⟩, grown_setCell (World.grownBy.refl _ _)⟩
    rw [err1_zero]
    clear hb hi hd hD hne H
    go_enter Try.func38, Try.ntmps38
    go_wp2_with fail
    go_end0
    exact HR.out
  · rw [err1_some x he]
    have b1 : (e == 0) = false := by simp [he]
    clear hb hi hd hD hne
    go_enter Try.func38, Try.ntmps38
    go_wp2_with fail
    go_end0
    exact ⟨rfl, H.out, World.grownBy.refl _ _⟩

set_option maxHeartbeats 400000 in
theorem xEnd (g : Nat) (D : Option Nat) (l : List UInt8) (e : Int) (w : World) (h : Rx w g D l e) :
    Calls Try.prog 41 #[.pointer (some ⟨g, 0, none⟩)] w fun en w' => en = .returned (.int .i64 (endE l e)) ∧ Below w.heap.size w w' := by
  obtain ⟨ao, n, cap, B, p, hb, hi, hp, hn, hd, hD, hne⟩ := h
  have c0 : w.cell? ⟨g, 0, none⟩ = some (.slice ao n cap) := cell_blk hb rfl
  have c1 : w.cell? ⟨g, 1, none⟩ = some (.int .i64 p) := cell_blk hb rfl
  have c2 : w.cell? ⟨g, 2, none⟩ = some (.int .i64 e) := cell_blk hb rfl
  have hl : l.length = n - p := by rw [hd, List.length_drop, hi.len]
  clear hb hi hd hD hne
  unfold endE
  by_cases he : e = 0
  · subst he
    rw [if_pos rfl]
    by_cases hpn : p < n
    · have hne : l ≠ [] := by rintro rfl; simp at hl; omega
      have hpi : (p : Int) < n := by omega
      rw [if_neg hne]
      clear hl hne hpn
      go_enter Try.func41, Try.ntmps41
      go_wp2_with fail
      go_quiet (fail)
      go_wp2_with fail
      go_ret
      exact ⟨rfl, below_drewN (Below.refl _ _) _⟩
    · obtain rfl : l = [] := List.eq_nil_of_length_eq_zero (by omega)
      have hpi : ¬ ((p : Int) < n) := by omega
      rw [if_pos rfl]
      clear hl hpn
      go_enter Try.func41, Try.ntmps41
      go_wp2_with fail
      go_quiet (fail)
      go_wp2_with fail
      go_ret
      exact ⟨rfl, below_drewN (Below.refl _ _) _⟩
  · rw [if_neg he]
    have b1 : (e == 0) = false := by simp [he]
    clear hl
    go_enter Try.func41, Try.ntmps41
    go_wp2_with fail
    go_quiet (fail)
    go_wp2_with fail
    go_ret
    exact ⟨rfl, below_drewN (Below.refl _ _) _⟩

set_option maxHeartbeats 400000 in
theorem xNew (ao : Option Addr) (n cap : Nat) (l : List UInt8) (w : World) (h : IsB w ao n cap l) (hn : n ≤ 1000000) (D : Option Nat) (hD : D = if l = [] then none else ao.map (·.block)) :
    Calls Try.prog 36 #[.slice ao n cap] w fun en w' => ∃ g, en = .returned (.pointer (some ⟨g, 0, none⟩)) ∧ Rx w' g D l 0 ∧ Below w.heap.size w w' ∧ w.heap.size ≤ g := by
  have HR : Hid (Rx (w.alloc (.cells #[.slice ao n cap, .int .i64 0, .int .i64 0] 68)) w.heap.size D l 0) :=
    ⟨ao, n, cap, l, 0, heap_alloc_new w _, h.alloc _, Nat.zero_le _, hn, rfl, fun hB a ha => by rw [hD, if_neg hB, ha]; rfl, fun he => by
      by_cases hl : l = []
      · rw [hD, if_pos hl] at he
        cases he
      · rw [hD, if_neg hl] at he
        obtain ⟨a, rfl, hb⟩ := Option.map_eq_some_iff.1 he
        obtain ⟨u, r, rfl⟩ := List.exists_cons_of_ne_nil hl
        have := World.block_lt_of_cell? w _ (h.cell a rfl 0 u rfl)
        rw [block_add] at this
        omega⟩
  clear h hD
  go_enter Try.func36, Try.ntmps36
  go_wp2_with fail
  go_ret
  exact ⟨w.heap.size, rfl, HR.out, (Below.refl _ _).alloc (Nat.le_refl _) _, Nat.le_refl _⟩
end Go.Proofs.Ytpphlmbhonaglaa
