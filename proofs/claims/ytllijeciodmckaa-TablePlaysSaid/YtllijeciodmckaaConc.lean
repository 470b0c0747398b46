/-
  slices.Concat, slices.Clone of rows (by gen_conc.py).
-/
import Derived.Test.YtllijeciodmckaaHd
import Derived.Test.YtllijeciodmckaaSlc
import Derived.Test.YtllijeciodmckaaRowA
import Derived.Test.YtllijeciodmckaaV
import Derived.Test.YtllijeciodmckaaCo
namespace Go.Proofs.Ytllijeciodmckaa
open Go.RowKit

theorem row_info : (Try.prog.info? 49).map (fun i => (i.zero, i.size, i.bytes)) = some (some (.slice none 0 0), 1, 24) := by kernel_rfl
theorem rowTyH : RowTy EH Try.prog 45 49 ⟨none, 0, 0⟩ := by
  obtain ⟨i, h1, h2, h3, h4⟩ := info_parts row_info
  exact ⟨Try.underlying45, i, _, h1, h2, h3, rfl, by omega⟩
theorem own_emptyR {α : Type} {E : Enc α} (w : World) (e : TypeId) : OwnR E (w.alloc (.cells #[] e)) e w.heap.size 0 0 [] :=
  ⟨rfl, Nat.le_refl _, Nat.zero_le _, #[], heap_alloc_new w _, by simp, by simp [Enc.all]⟩
theorem eqlS_nil {P : Program} (w : World) (t e : TypeId) (h : P.underlying t = some (.slice e)) (a : Addr) (n c : Nat) : (binOp .eql t (.slice (some a) n c) (.slice none 0 0)).run P w = .ok (.bool false) w := by
  simpa using Lib.run_eql_slice_nil w t e (some a) n c 0 0 h
theorem below_puts' {w a b : World} {B g n : Nat} (h : Below B w a) (p : Puts a b g n) (hg : B ≤ g) (hB : B ≤ w.heap.size) : Below B w b := h.trans (p.below hg (Nat.le_trans hB h.size))
set_option maxRecDepth 100000 in
/-- A new row with room for k, or nil. -/
theorem grow_h (k : Nat) (hk : k ≤ 1000000) (w : World) : Calls Try.prog 181 #[.slice none 0 0, .int .i64 k] w fun e w' => ∃ ao c, e = .returned (.slice ao 0 c) ∧ TxtR EH w' 49 w.heap.size ao 0 c [] ∧ Below w.heap.size w w' := by
  have hw : wrap64 ((k : Int) - 0) = k := by rw [Int.sub_zero]; exact IntWalk.wrap64_in _ (by omega)
  have hk2 : ¬ ((k : Int) < 0) := by omega
  by_cases h0 : 0 < k
  · have hk1 : (0 : Int) < (k : Int) := by omega
    go_enter Try.func181, Try.ntmps181
    go_wp2_with (at_builtin; refine wpList_append_nil_zr (E := EH) rfl _ _ 45 3 rfl 49 rowTyH .i64 .i64 Try.underlying3 k rfl rfl h0 hk (by decide) ?_; intro c w1 q1 o1 b1)
    go_ret
    exact ⟨_, c, rfl, ⟨.inr ⟨_, rfl, o1, Nat.le_refl _⟩⟩, b1⟩
  · obtain rfl : k = 0 := by omega
    go_enter Try.func181, Try.ntmps181
    go_wp2_with fail
    go_ret
    exact ⟨none, 0, rfl, TxtR.nil _ _ _, Below.refl _ _⟩
set_option maxRecDepth 100000 in
set_option maxHeartbeats 1000000 in
theorem concat_h (w : World) (B : Nat) (ao : Option Addr) (k c : Nat) (ls : List (List HdR)) (h : IsRR EH w B ao k c ls) (hk : k ≤ 1000) (N : Nat) (hN : ls.flatten.length = N) (hmx : N ≤ 100000) :
    Calls Try.prog 142 #[.slice ao k c] w fun e w' => ∃ ao' c', e = .returned (.slice ao' N c') ∧ TxtR EH w' 49 w.heap.size ao' N c' ls.flatten ∧ Below w.heap.size w w' := by
  have hln := h.len
  have next : ∀ j l, ls[j]? = some l → (ls.take (j + 1)).flatten = (ls.take j).flatten ++ l := fun j l hl => by
    obtain ⟨hj, rfl⟩ := List.getElem?_eq_some_iff.1 hl
    rw [List.take_succ_eq_append_getElem hj, List.flatten_append]
    simp
  have le : ∀ j, (ls.take j).flatten.length ≤ N := fun j => by
    rw [← hN]
    conv => rhs; rw [← List.take_append_drop j ls, List.flatten_append, List.length_append]
    exact Nat.le_add_right _ _
  have NX := Lib.hid next
  have LE := Lib.hid le
  clear next le
  go_enter Try.func142, Try.ntmps142
  go_wp2_with fail
  go_loopw [3, 11] (fun z i wr => ∃ j q : Nat, j ≤ k ∧ i = .int .i64 (j : Nat) ∧ z = .int .i64 (q : Nat) ∧ Hid (q = (ls.take j).flatten.length) ∧ w = wr) (fun _ i _ => k - (intOf i).toNat)
  case atStart => exact ⟨0, 0, by omega, rfl, rfl, rfl, rfl⟩
  case round =>
    obtain ⟨j, q, hj, rfl, rfl, hq, rfl⟩ := hrel
    by_cases hlt : j < k
    · have hlti : (j : Int) < (k : Int) := by omega
      obtain ⟨l, hl⟩ : ∃ l, ls[j]? = some l := ⟨ls[j]'(by omega), List.getElem?_eq_getElem _⟩
      obtain ⟨b, off, x, rfl, hb, hc, hx⟩ := h.at hl
      have e1 : (ls.take (j + 1)).flatten.length = q + x.n := by rw [NX.out j l hl, List.length_append, ← hq.out, hx.len]
      have hq2 : q + x.n ≤ N := by rw [← e1]; exact LE.out (j + 1)
      have HE := Lib.hid e1.symm
      have hneg : ¬ ((q : Int) + (x.n : Int) < 0) := by omega
      obtain ⟨xa, xn, xc⟩ := x
      simp only at hc HE hq2 hneg
      clear e1 hl hx
      go_wp2_with fail
      go_roundw
      case rel => exact ⟨j + 1, q + xn, by omega, by go_num, by go_num, HE.out, trivial⟩
      case measure => simp [intOf]; omega
    · have hlti : ¬ ((j : Int) < (k : Int)) := by omega
      obtain rfl : j = k := by omega
      obtain rfl : q = N := by rw [hq.out, ← hN, List.take_of_length_le (by omega)]
      go_wp2_with (go_at_call 181; refine (grow_h q (by omega) _).mono ?_; rintro en w1 ⟨ga, gc, rfl, o1, b1⟩)
      have B1 : Below w.heap.size w w1 := b1
      go_loopw [6, 27] (fun v i w2 => ∃ (j2 : Nat) (ao2 : Option Addr) (m c2 : Nat), j2 ≤ j ∧ i = .int .i64 (j2 : Nat) ∧ v = .slice ao2 m c2 ∧ TxtR EH w2 49 w.heap.size ao2 m c2 (ls.take j2).flatten ∧ Below w.heap.size w w2) (fun _ i _ => j - (intOf i).toNat)
      case atStart => exact ⟨0, ga, 0, gc, by omega, rfl, rfl, o1, B1⟩
      case round =>
        obtain ⟨j2, ao2, m, c2, hj2, rfl, rfl, o2, B2⟩ := hrel
        clear o1 b1 B1
        have hm := o2.len
        have hm2 := LE.out j2
        have hsz := B2.size
        by_cases hlt2 : j2 < j
        · have hlti2 : (j2 : Int) < (j : Int) := by omega
          obtain ⟨l, hl⟩ : ∃ l, ls[j2]? = some l := ⟨ls[j2]'(by omega), List.getElem?_eq_getElem _⟩
          obtain ⟨b, off, x, rfl, hb, hc, hx⟩ := h.at hl
          rw [← B2.cell hb] at hc
          have hx2 := hx.past B2
          have e1 := NX.out j2 l hl
          have HE := Lib.hid e1
          have hle2 : m + x.n ≤ 1000000 := by
            have := LE.out (j2 + 1)
            rw [e1, List.length_append, hm, hx.len] at this
            omega
          obtain ⟨xa, xn, xc⟩ := x
          simp only at hc hx2 hle2
          have hxl := hx2.len
          clear e1 hl hx hm
          go_wp2_with (at_builtin; refine wpList_append_txtR rfl _ _ 45 45 rfl 49 rowTyH w.heap.size ao2 m c2 _ rfl o2 hsz _ rfl xn l (hx2.src Try.underlying45) hxl hle2 ?_; intro a3 c3 w3 o3 b3)
          go_roundw
          case rel => exact ⟨j2 + 1, a3, m + xn, c3, by omega, by go_num, rfl, by rw [HE.out]; exact o3, B2.trans b3⟩
          case measure => simp [intOf]; omega
        · have hlti2 : ¬ ((j2 : Int) < (j : Int)) := by omega
          obtain rfl : j2 = j := by omega
          rw [List.take_of_length_le (by omega)] at o2
          obtain rfl : m = q := by rw [← o2.len, hN]
          go_wp2_with fail
          go_ret
          exact ⟨ao2, c2, rfl, o2, B2⟩
set_option maxRecDepth 100000 in
/-- A new row with room for k, or nil. -/
theorem grow_v (k : Nat) (hk : k ≤ 1000000) (w : World) : Calls Try.prog 182 #[.slice none 0 0, .int .i64 k] w fun e w' => ∃ ao c, e = .returned (.slice ao 0 c) ∧ TxtR EV w' 55 w.heap.size ao 0 c [] ∧ Below w.heap.size w w' := by
  have hw : wrap64 ((k : Int) - 0) = k := by rw [Int.sub_zero]; exact IntWalk.wrap64_in _ (by omega)
  have hk2 : ¬ ((k : Int) < 0) := by omega
  by_cases h0 : 0 < k
  · have hk1 : (0 : Int) < (k : Int) := by omega
    go_enter Try.func182, Try.ntmps182
    go_wp2_with (at_builtin; refine wpList_append_nil_zr (E := EV) rfl _ _ 49 3 rfl 55 rowTyV .i64 .i64 Try.underlying3 k rfl rfl h0 hk (by decide) ?_; intro c w1 q1 o1 b1)
    go_ret
    exact ⟨_, c, rfl, ⟨.inr ⟨_, rfl, o1, Nat.le_refl _⟩⟩, b1⟩
  · obtain rfl : k = 0 := by omega
    go_enter Try.func182, Try.ntmps182
    go_wp2_with fail
    go_ret
    exact ⟨none, 0, rfl, TxtR.nil _ _ _, Below.refl _ _⟩
set_option maxRecDepth 100000 in
set_option maxHeartbeats 1000000 in
theorem concat_v (w : World) (B : Nat) (ao : Option Addr) (k c : Nat) (ls : List (List V)) (h : IsRR EV w B ao k c ls) (hk : k ≤ 1000) (N : Nat) (hN : ls.flatten.length = N) (hmx : N ≤ 100000) :
    Calls Try.prog 143 #[.slice ao k c] w fun e w' => ∃ ao' c', e = .returned (.slice ao' N c') ∧ TxtR EV w' 55 w.heap.size ao' N c' ls.flatten ∧ Below w.heap.size w w' := by
  have hln := h.len
  have next : ∀ j l, ls[j]? = some l → (ls.take (j + 1)).flatten = (ls.take j).flatten ++ l := fun j l hl => by
    obtain ⟨hj, rfl⟩ := List.getElem?_eq_some_iff.1 hl
    rw [List.take_succ_eq_append_getElem hj, List.flatten_append]
    simp
  have le : ∀ j, (ls.take j).flatten.length ≤ N := fun j => by
    rw [← hN]
    conv => rhs; rw [← List.take_append_drop j ls, List.flatten_append, List.length_append]
    exact Nat.le_add_right _ _
  have NX := Lib.hid next
  have LE := Lib.hid le
  clear next le
  go_enter Try.func143, Try.ntmps143
  go_wp2_with fail
  go_loopw [3, 11] (fun z i wr => ∃ j q : Nat, j ≤ k ∧ i = .int .i64 (j : Nat) ∧ z = .int .i64 (q : Nat) ∧ Hid (q = (ls.take j).flatten.length) ∧ w = wr) (fun _ i _ => k - (intOf i).toNat)
  case atStart => exact ⟨0, 0, by omega, rfl, rfl, rfl, rfl⟩
  case round =>
    obtain ⟨j, q, hj, rfl, rfl, hq, rfl⟩ := hrel
    by_cases hlt : j < k
    · have hlti : (j : Int) < (k : Int) := by omega
      obtain ⟨l, hl⟩ : ∃ l, ls[j]? = some l := ⟨ls[j]'(by omega), List.getElem?_eq_getElem _⟩
      obtain ⟨b, off, x, rfl, hb, hc, hx⟩ := h.at hl
      have e1 : (ls.take (j + 1)).flatten.length = q + x.n := by rw [NX.out j l hl, List.length_append, ← hq.out, hx.len]
      have hq2 : q + x.n ≤ N := by rw [← e1]; exact LE.out (j + 1)
      have HE := Lib.hid e1.symm
      have hneg : ¬ ((q : Int) + (x.n : Int) < 0) := by omega
      obtain ⟨xa, xn, xc⟩ := x
      simp only at hc HE hq2 hneg
      clear e1 hl hx
      go_wp2_with fail
      go_roundw
      case rel => exact ⟨j + 1, q + xn, by omega, by go_num, by go_num, HE.out, trivial⟩
      case measure => simp [intOf]; omega
    · have hlti : ¬ ((j : Int) < (k : Int)) := by omega
      obtain rfl : j = k := by omega
      obtain rfl : q = N := by rw [hq.out, ← hN, List.take_of_length_le (by omega)]
      go_wp2_with (go_at_call 182; refine (grow_v q (by omega) _).mono ?_; rintro en w1 ⟨ga, gc, rfl, o1, b1⟩)
      have B1 : Below w.heap.size w w1 := b1
      go_loopw [6, 27] (fun v i w2 => ∃ (j2 : Nat) (ao2 : Option Addr) (m c2 : Nat), j2 ≤ j ∧ i = .int .i64 (j2 : Nat) ∧ v = .slice ao2 m c2 ∧ TxtR EV w2 55 w.heap.size ao2 m c2 (ls.take j2).flatten ∧ Below w.heap.size w w2) (fun _ i _ => j - (intOf i).toNat)
      case atStart => exact ⟨0, ga, 0, gc, by omega, rfl, rfl, o1, B1⟩
      case round =>
        obtain ⟨j2, ao2, m, c2, hj2, rfl, rfl, o2, B2⟩ := hrel
        clear o1 b1 B1
        have hm := o2.len
        have hm2 := LE.out j2
        have hsz := B2.size
        by_cases hlt2 : j2 < j
        · have hlti2 : (j2 : Int) < (j : Int) := by omega
          obtain ⟨l, hl⟩ : ∃ l, ls[j2]? = some l := ⟨ls[j2]'(by omega), List.getElem?_eq_getElem _⟩
          obtain ⟨b, off, x, rfl, hb, hc, hx⟩ := h.at hl
          rw [← B2.cell hb] at hc
          have hx2 := hx.past B2
          have e1 := NX.out j2 l hl
          have HE := Lib.hid e1
          have hle2 : m + x.n ≤ 1000000 := by
            have := LE.out (j2 + 1)
            rw [e1, List.length_append, hm, hx.len] at this
            omega
          obtain ⟨xa, xn, xc⟩ := x
          simp only at hc hx2 hle2
          have hxl := hx2.len
          clear e1 hl hx hm
          go_wp2_with (at_builtin; refine wpList_append_txtR rfl _ _ 49 49 rfl 55 rowTyV w.heap.size ao2 m c2 _ rfl o2 hsz _ rfl xn l (hx2.src Try.underlying49) hxl hle2 ?_; intro a3 c3 w3 o3 b3)
          go_roundw
          case rel => exact ⟨j2 + 1, a3, m + xn, c3, by omega, by go_num, rfl, by rw [HE.out]; exact o3, B2.trans b3⟩
          case measure => simp [intOf]; omega
        · have hlti2 : ¬ ((j2 : Int) < (j : Int)) := by omega
          obtain rfl : j2 = j := by omega
          rw [List.take_of_length_le (by omega)] at o2
          obtain rfl : m = q := by rw [← o2.len, hN]
          go_wp2_with fail
          go_ret
          exact ⟨ao2, c2, rfl, o2, B2⟩
set_option maxRecDepth 100000 in
theorem clone_v (w : World) (ao : Option Addr) (n c : Nat) (l : List V) (h : IsR EV w ao n c l) (hn : 0 < n) (hm : n ≤ 1000000) :
    Calls Try.prog 139 #[.slice ao n c] w fun e w' => ∃ g c', e = .returned (.slice (some ⟨g, 0, none⟩) n c') ∧ OwnR EV w' 55 g n c' l ∧ Below w.heap.size w w' ∧ w.heap.size ≤ g := by
  have hln := h.len
  obtain ⟨⟨b, off, sp⟩, rfl⟩ := h.has hn
  have o0 : OwnR EV (w.alloc (.cells #[] 55)) 55 w.heap.size 0 0 [] := own_emptyR w _
  have B0 : Below w.heap.size w (w.alloc (.cells #[] 55)) := (Below.refl _ _).alloc (Nat.le_refl _) _
  have hs := (h.past B0).src (P := Try.prog) Try.underlying49
  have hnil := fun w' : World => eqlS_nil (P := Try.prog) w' 49 55 Try.underlying49 ⟨b, off, sp⟩ n c
  go_enter Try.func139, Try.ntmps139
  go_wp2_with (at_builtin; refine wpList_append_or rfl _ _ 49 49 rfl 55 rowTyV w.heap.size 0 0 [] rfl o0 _ rfl n l hs hln n (Nat.zero_add n) l rfl (by omega) ?_; intro g1 c1 w1 o1 p1 q1)
  go_ret
  exact ⟨_, c1, rfl, o1, below_puts' B0 p1 (Nat.le_refl _) (Nat.le_refl _), by rcases q1 with rfl | q1; exact Nat.le_refl _; rw [World.size_alloc] at q1; omega⟩
set_option maxRecDepth 100000 in
theorem clone_c (w : World) (ao : Option Addr) (n c : Nat) (l : List Co) (h : IsR encCo w ao n c l) (hn : 0 < n) (hm : n ≤ 1000000) :
    Calls Try.prog 135 #[.slice ao n c] w fun e w' => ∃ g c', e = .returned (.slice (some ⟨g, 0, none⟩) n c') ∧ OwnR encCo w' 156 g n c' l ∧ Below w.heap.size w w' ∧ w.heap.size ≤ g := by
  have hln := h.len
  obtain ⟨⟨b, off, sp⟩, rfl⟩ := h.has hn
  have o0 : OwnR encCo (w.alloc (.cells #[] 156)) 156 w.heap.size 0 0 [] := own_emptyR w _
  have B0 : Below w.heap.size w (w.alloc (.cells #[] 156)) := (Below.refl _ _).alloc (Nat.le_refl _) _
  have hs := (h.past B0).src (P := Try.prog) Try.underlying38
  have hnil := fun w' : World => eqlS_nil (P := Try.prog) w' 38 156 Try.underlying38 ⟨b, off, sp⟩ n c
  go_enter Try.func135, Try.ntmps135
  go_wp2_with (at_builtin; refine wpList_append_or rfl _ _ 38 38 rfl 156 rowTyC w.heap.size 0 0 [] rfl o0 _ rfl n l hs hln n (Nat.zero_add n) l rfl (by omega) ?_; intro g1 c1 w1 o1 p1 q1)
  go_ret
  exact ⟨_, c1, rfl, o1, below_puts' B0 p1 (Nat.le_refl _) (Nat.le_refl _), by rcases q1 with rfl | q1; exact Nat.le_refl _; rw [World.size_alloc] at q1; omega⟩
end Go.Proofs.Ytllijeciodmckaa
