/-
  lock's Ask (by gen_lkg.py).
-/
import Derived.Test.YtllijeciodmckaaLkG
namespace Go.Proofs.Ytllijeciodmckaa
open Go.RowKit
set_option linter.unusedSimpArgs false
theorem set1_grown (w : World) (g i : Nat) (v : Value) : w.grownBy (w.setCell ⟨g, i, none⟩ v) (some g) := by
  refine ⟨rfl, by simp, rfl, by simp, fun k _ hk => ?_⟩
  have hne : k ≠ g := fun e => hk (by rw [e])
  rw [heap_setCell_other _ _ k _ (by exact hne)]
theorem TxtR.set1 {α : Type} {E : Enc α} {w : World} {e t : TypeId} {B g i : Nat} {v : Value} {ao : Option Addr} {n c : Nat} {l : List α} {cs : Array Value} (h : TxtR E w e B ao n c l) (hg : w.heap[g]? = some (.cells cs t (0, 0))) (hne : e ≠ t) : TxtR E (w.setCell ⟨g, i, none⟩ v) e B ao n c l := h.farT hg hne (set1_grown w g i v)
section
variable {w : World} {p : Nat} {ho wo : Option Addr} {hn hc wn wc : Nat} {t : TypeId}
theorem LkB.put0 (h : LkB w p ho hn hc wo wn wc t) (a : Option Addr) (n c : Nat) : LkB (w.setCell ⟨p, 0, none⟩ (.slice a n c)) p a n c wo wn wc t := by
  have := Go.Proofs.Ytllijeciodmckaa.heap_setCell_same (i := 0) (v := .slice a n c) h
  simpa [LkB] using this
theorem LkB.put1 (h : LkB w p ho hn hc wo wn wc t) (a : Option Addr) (n c : Nat) : LkB (w.setCell ⟨p, 1, none⟩ (.slice a n c)) p ho hn hc a n c t := by
  have := Go.Proofs.Ytllijeciodmckaa.heap_setCell_same (i := 1) (v := .slice a n c) h
  simpa [LkB] using this
end
/-- What stands while the region's operations come up. -/
inductive AskR (B : Nat) (p : Nat) (q : Nat) (ho : Option Addr) (hn : Nat) (hc : Nat) (wo1 : Option Addr) (wn : Nat) (wc : Nat) (s : Int) (H0 : List Hd) (W0 : List Hd) (a0 : Act) (w0 : World) (L : Array Bool) (a : Act) (w : World) : Prop
  | mk (b0 b1 b2 b3 b4 b5 b6 b7 b8 b9 b10 : Bool) (x7 x8 x9 x10 x11 x12 x13 x14 x15 x6 : Value) (aA : Option Addr) (cA : Nat) (aB : Option Addr) (kB : Nat) (cB : Nat) (gu : Nat) (hL : L = #[b0, b1, b2, b3, b4, b5, b6, b7, b8, b9, b10]) (ha : a = ⟨((((((((((a0.tmps.setIfInBounds 7 x7).setIfInBounds 8 x8).setIfInBounds 9 x9).setIfInBounds 10 x10).setIfInBounds 11 x11).setIfInBounds 12 x12).setIfInBounds 13 x13).setIfInBounds 14 x14).setIfInBounds 15 x15).setIfInBounds 6 x6), a0.defers⟩) (hb : Below B w0 w) (cd0 : Hid (b0 = true → x7 = .pointer (some ⟨p, 0, none⟩))) (cd1 : Hid (b1 = true → x8 = .slice ho hn hc)) (cd2 : Hid (b2 = true → x9 = .slice aA hn cA)) (cd3 : Hid (b3 = true → x10 = .pointer (some ⟨p, 1, none⟩))) (cd4 : Hid (b4 = true → x11 = .slice wo1 wn wc)) (cd5 : Hid (b5 = true → x12 = .pointer (some ⟨q, 0, none⟩))) (cd6 : Hid (b6 = true → x13 = .int .i64 s)) (cd7 : Hid (b7 = true → x14 = .slice aB kB cB)) (cd8 : Hid (b8 = true → x15 = .agg #[.slice aA hn cA, .slice aB kB cB])) (cd9 : Hid (b9 = true → x6 = .pointer (some ⟨gu, 0, none⟩))) (f_r1 : Hid (b2 = true → TxtR EHd w 101 B aA hn cA H0)) (f_r2 : Hid (b7 = true → TxtR EHd w 101 B aB kB cB (wo W0 s))) (f_ap : Hid (b7 = true → ∀ z, Go.Proofs.Ytllijeciodmckaa.blk aA = some z → Go.Proofs.Ytllijeciodmckaa.blk aB ≠ some z)) (f_q27 : Hid (b7 = true → b2 = true)) (f_z : Hid (b9 = true → b10 = false → LkB w gu none 0 0 none 0 0 96)) (f_lg : Hid (b9 = true → B ≤ gu)) (f_o : Hid (b10 = true → LkB w gu aA hn cA aB kB cB 96)) (f_q2 : Hid (b10 = true → b2 = true)) (f_q7 : Hid (b10 = true → b7 = true)) (f_q9 : Hid (b10 = true → b9 = true)) (w_8_2 : Hid (b8 = true → b2 = true)) (w_8_7 : Hid (b8 = true → b7 = true)) : AskR B p q ho hn hc wo1 wn wc s H0 W0 a0 w0 L a w
set_option maxRecDepth 100000 in
set_option maxHeartbeats 2000000 in
theorem ask_any (w : World) (v : Value) (H0 W0 : List Hd) (h : LkIs w v H0 W0) (hH : H0.length ≤ 90000) (hW : W0.length ≤ 90000) (k : Hd) :
    Calls Try.prog 55 #[v, k.val] w fun e w' => ∃ v', e = .returned (.tuple #[v', .bool (askB H0 k)]) ∧ LkF w' v' w.heap.size (askH H0 k) (askW H0 W0 k) ∧ Below w.heap.size w w' := by
  obtain ⟨ho, hn, hc, wo1, wn, wc, rfl, h1, h2⟩ := h
  have l1 := h1.len
  have l2 := h2.len
  obtain ⟨s, t, x⟩ := k
  have HAH : Hid (askH H0 ⟨s, t, x⟩ = if covers H0 ⟨s, t, x⟩ = true then H0 else if H0.any (clash ⟨s, t, x⟩) = true then H0 else wthH H0 ⟨s, t, x⟩) := Lib.hid rfl
  have HAW : Hid (askW H0 W0 ⟨s, t, x⟩ = if covers H0 ⟨s, t, x⟩ = true then wo W0 s else if H0.any (clash ⟨s, t, x⟩) = true then wo W0 s ++ [⟨s, t, x⟩] else wo W0 s) := Lib.hid rfl
  have HAB : Hid (askB H0 ⟨s, t, x⟩ = if covers H0 ⟨s, t, x⟩ = true then true else if H0.any (clash ⟨s, t, x⟩) = true then false else true) := Lib.hid rfl
  obtain ⟨A1, hA1⟩ : ∃ A, askH H0 ⟨s, t, x⟩ = A := ⟨_, rfl⟩
  obtain ⟨A2, hA2⟩ : ∃ A, askW H0 W0 ⟨s, t, x⟩ = A := ⟨_, rfl⟩
  obtain ⟨A3, hA3⟩ : ∃ A, askB H0 ⟨s, t, x⟩ = A := ⟨_, rfl⟩
  rw [hA1] at HAH ⊢
  rw [hA2] at HAW ⊢
  rw [hA3] at HAB ⊢
  clear hA1 hA2 hA3
  have X0 := LkB.new w ho hn hc wo1 wn wc 96
  have B0 : Below w.heap.size w (w.alloc (.cells #[.slice ho hn hc, .slice wo1 wn wc] 96)) := (Below.refl _ _).alloc (Nat.le_refl _) _
  generalize hWa : w.alloc (.cells #[.slice ho hn hc, .slice wo1 wn wc] 96) = Wa at X0 B0
  have hWas : Wa.heap.size = w.heap.size + 1 := by rw [← hWa, World.size_alloc]
  have Y0 := HdB.new Wa ⟨s, t, x⟩ 101
  have X1 := X0.past ((Below.refl _ _).alloc (Nat.le_refl _) (.cells #[.int .i64 s, .string (bsOf t), .bool x] 101))
  have B1 := B0.alloc B0.size (.cells #[.int .i64 s, .string (bsOf t), .bool x] 101)
  simp only at Y0
  generalize hWb : Wa.alloc (.cells #[.int .i64 s, .string (bsOf t), .bool x] 101) = Wb at X1 Y0 B1
  have hWbs : Wb.heap.size = w.heap.size + 2 := by rw [← hWb, World.size_alloc, hWas]
  have Z1 := LkB.new Wb none 0 0 none 0 0 96
  have X1 := X1.past ((Below.refl _ _).alloc (Nat.le_refl _) (.cells #[.slice none 0 0, .slice none 0 0] 96))
  have Y1 := Y0.past ((Below.refl _ _).alloc (Nat.le_refl _) (.cells #[.slice none 0 0, .slice none 0 0] 96))
  have BA := B1.alloc B1.size (.cells #[.slice none 0 0, .slice none 0 0] 96)
  rw [hWbs] at Z1
  rw [hWas] at Y1
  unfold lkV Hd.val
  simp only
  clear X0 B0 Y0 B1
  go_enter Try.func55, Try.ntmps55
  go_upto_region 1 with fail
  generalize Wb.alloc (.cells #[.slice none 0 0, .slice none 0 0] 96) = W at X1 Y1 Z1 BA ⊢
  obtain ⟨p, hp⟩ : ∃ p, w.heap.size = p := ⟨_, rfl⟩
  have HP := Lib.hid hp
  have h1 : IsR EHd W ho hn hc H0 := h1.past BA
  have h2 : IsR EHd W wo1 wn wc W0 := h2.past BA
  rw [hp] at X1 Y1 Z1 BA
  simp only [hp]
  clear hp hWa hWb hWas hWbs
  obtain ⟨q, hq⟩ : ∃ q, p + 1 = q := ⟨_, rfl⟩
  rw [hq] at Y1
  simp only [hq]
  obtain ⟨r, hr⟩ : ∃ r, p + 2 = r := ⟨_, rfl⟩
  rw [hr] at Z1
  simp only [hr]
  have hpr : p < r := by omega
  have hpq : p < q := by omega
  have hqr : q < r := by omega
  clear hq hr
  have hpB := X1.lt
  have hqB := Y1.lt
  have hpW : p ≤ W.heap.size := Nat.le_of_lt hpB
  have hB0 : W.heap.size ≤ W.heap.size := Nat.le_refl _
  obtain ⟨c0, c1⟩ := X1.c
  obtain ⟨d0, d1, d2⟩ := Y1.c
  simp only at d0 d1 d2
  have HC := fun (w' : World) (hb : Below W.heap.size W.drew w') => clone_hd w' ho hn hc H0 (h1.drew.past hb) (by omega)
  have HW := fun (w' : World) (hb : Below W.heap.size W.drew w') => without_any w' wo1 wn wc W0 (h2.drew.past hb) (by omega) s
  clear h1 h2
  refine region_inv (AskR W.heap.size p q ho hn hc wo1 wn wc s H0 W0) (by kernel_rfl) (by kernel_rfl) ?_ ?_ ?_
  · exact ⟨false, false, false, false, false, false, false, false, false, false, false, undef, undef, undef, undef, undef, undef, undef, undef, undef, undef, none, 0, none, 0, 0, 0, rfl, (by simp only [Act.put, List.setIfInBounds_toArray, List.set_cons_zero, List.set_cons_succ]), Below.refl _ _, (fun h => by cases h), (fun h => by cases h), (fun h => by cases h), (fun h => by cases h), (fun h => by cases h), (fun h => by cases h), (fun h => by cases h), (fun h => by cases h), (fun h => by cases h), (fun h => by cases h), (fun h => by cases h), (fun h => by cases h), (fun h => by cases h), (fun h => by cases h), (fun h => by cases h), (fun h => by cases h), (fun h => by cases h), (fun h => by cases h), (fun h => by cases h), (fun h => by cases h), (fun h => by cases h), (fun h => by cases h)⟩
  · refine ⟨?_, ?_, ?_, ?_, ?_, ?_, ?_, ?_, ?_, ?_, ?_, trivial⟩
    · rintro L a w ⟨b0, b1, b2, b3, b4, b5, b6, b7, b8, b9, b10, x7, x8, x9, x10, x11, x12, x13, x14, x15, x6, aA, cA, aB, kB, cB, gu, rfl, rfl, hb, cd0, cd1, cd2, cd3, cd4, cd5, cd6, cd7, cd8, cd9, f_r1, f_r2, f_ap, f_q27, f_z, f_lg, f_o, f_q2, f_q7, f_q9, w_8_2, w_8_7⟩ hf hd
      have hf' : b0 = false := hf
      subst hf'
      clear hf hd
      try simp only [List.setIfInBounds_toArray, List.set_cons_zero, List.set_cons_succ]
      intro K hK
      rw [if_pos (by rfl)]
      go_simp
      exact hK.out _ _ ⟨true, b1, b2, b3, b4, b5, b6, b7, b8, b9, b10, (.pointer (some ⟨p, 0, none⟩)), x8, x9, x10, x11, x12, x13, x14, x15, x6, aA, cA, aB, kB, cB, gu, (by simp only [Act.put, List.setIfInBounds_toArray, List.set_cons_zero, List.set_cons_succ]), (by simp only [Act.put, List.setIfInBounds_toArray, List.set_cons_zero, List.set_cons_succ]), hb, (fun _ => rfl), cd1, cd2, cd3, cd4, cd5, cd6, cd7, cd8, cd9, f_r1, f_r2, f_ap, f_q27, f_z, f_lg, f_o, f_q2, f_q7, f_q9, w_8_2, w_8_7⟩
    · rintro L a w ⟨b0, b1, b2, b3, b4, b5, b6, b7, b8, b9, b10, x7, x8, x9, x10, x11, x12, x13, x14, x15, x6, aA, cA, aB, kB, cB, gu, rfl, rfl, hb, cd0, cd1, cd2, cd3, cd4, cd5, cd6, cd7, cd8, cd9, f_r1, f_r2, f_ap, f_q27, f_z, f_lg, f_o, f_q2, f_q7, f_q9, w_8_2, w_8_7⟩ hf hd
      have hf' : b1 = false := hf
      subst hf'
      have d0 : b0 = true := hd ⟨0, .data⟩ (by simp) rfl
      subst d0
      obtain rfl := cd0.out rfl
      clear hf hd
      try simp only [List.setIfInBounds_toArray, List.set_cons_zero, List.set_cons_succ]
      have z0 := (hb.cell hpB).trans c0
      intro K hK
      rw [if_pos (by rfl)]
      go_simp
      exact hK.out _ _ ⟨true, true, b2, b3, b4, b5, b6, b7, b8, b9, b10, .pointer (some ⟨p, 0, none⟩), (.slice ho hn hc), x9, x10, x11, x12, x13, x14, x15, x6, aA, cA, aB, kB, cB, gu, (by simp only [Act.put, List.setIfInBounds_toArray, List.set_cons_zero, List.set_cons_succ]), (by simp only [Act.put, List.setIfInBounds_toArray, List.set_cons_zero, List.set_cons_succ]), hb, (fun _ => rfl), (fun _ => rfl), cd2, cd3, cd4, cd5, cd6, cd7, cd8, cd9, f_r1, f_r2, f_ap, f_q27, f_z, f_lg, f_o, f_q2, f_q7, f_q9, w_8_2, w_8_7⟩
    · rintro L a w ⟨b0, b1, b2, b3, b4, b5, b6, b7, b8, b9, b10, x7, x8, x9, x10, x11, x12, x13, x14, x15, x6, aA, cA, aB, kB, cB, gu, rfl, rfl, hb, cd0, cd1, cd2, cd3, cd4, cd5, cd6, cd7, cd8, cd9, f_r1, f_r2, f_ap, f_q27, f_z, f_lg, f_o, f_q2, f_q7, f_q9, w_8_2, w_8_7⟩ hf hd
      have hf' : b2 = false := hf
      subst hf'
      have d1 : b1 = true := hd ⟨1, .data⟩ (by simp) rfl
      subst d1
      obtain rfl := cd1.out rfl
      clear hf hd
      try simp only [List.setIfInBounds_toArray, List.set_cons_zero, List.set_cons_succ]
      intro K hK
      rw [if_pos (by rfl)]
      go_simp
      go_at_call 102
      refine (HC _ hb).mono ?_
      rintro e w' ⟨ao3, c3, rfl, r9, bx⟩
      have e_8 : b8 = false := by cases hq : b8 with | false => rfl | true => exact absurd (w_8_2.out hq) (by simp)
      subst e_8
      exact hK.out _ _ ⟨b0, true, true, b3, b4, b5, b6, b7, false, b9, b10, x7, .slice ho hn hc, (.slice ao3 hn c3), x10, x11, x12, x13, x14, x15, x6, ao3, c3, aB, kB, cB, gu, (by simp only [Act.put, List.setIfInBounds_toArray, List.set_cons_zero, List.set_cons_succ]), (by simp only [Act.put, List.setIfInBounds_toArray, List.set_cons_zero, List.set_cons_succ]), hb.trans (bx.mono (Nat.le_trans hB0 hb.size)), cd0, (fun _ => rfl), (fun _ => rfl), cd3, cd4, cd5, cd6, cd7, (fun h => by cases h), cd9, (fun _ => r9.monoB hb.size), (fun h0 => (f_r2.out h0).past bx), (fun h0 => absurd (f_q27.out h0) (by simp)), (fun _ => rfl), (fun h0 h1 => (f_z.out h0 h1).past bx), f_lg, (fun h0 => absurd (f_q2.out h0) (by simp)), (fun _ => rfl), f_q7, f_q9, (fun _ => rfl), w_8_7⟩
    · rintro L a w ⟨b0, b1, b2, b3, b4, b5, b6, b7, b8, b9, b10, x7, x8, x9, x10, x11, x12, x13, x14, x15, x6, aA, cA, aB, kB, cB, gu, rfl, rfl, hb, cd0, cd1, cd2, cd3, cd4, cd5, cd6, cd7, cd8, cd9, f_r1, f_r2, f_ap, f_q27, f_z, f_lg, f_o, f_q2, f_q7, f_q9, w_8_2, w_8_7⟩ hf hd
      have hf' : b3 = false := hf
      subst hf'
      clear hf hd
      try simp only [List.setIfInBounds_toArray, List.set_cons_zero, List.set_cons_succ]
      intro K hK
      rw [if_pos (by rfl)]
      go_simp
      exact hK.out _ _ ⟨b0, b1, b2, true, b4, b5, b6, b7, b8, b9, b10, x7, x8, x9, (.pointer (some ⟨p, 1, none⟩)), x11, x12, x13, x14, x15, x6, aA, cA, aB, kB, cB, gu, (by simp only [Act.put, List.setIfInBounds_toArray, List.set_cons_zero, List.set_cons_succ]), (by simp only [Act.put, List.setIfInBounds_toArray, List.set_cons_zero, List.set_cons_succ]), hb, cd0, cd1, cd2, (fun _ => rfl), cd4, cd5, cd6, cd7, cd8, cd9, f_r1, f_r2, f_ap, f_q27, f_z, f_lg, f_o, f_q2, f_q7, f_q9, w_8_2, w_8_7⟩
    · rintro L a w ⟨b0, b1, b2, b3, b4, b5, b6, b7, b8, b9, b10, x7, x8, x9, x10, x11, x12, x13, x14, x15, x6, aA, cA, aB, kB, cB, gu, rfl, rfl, hb, cd0, cd1, cd2, cd3, cd4, cd5, cd6, cd7, cd8, cd9, f_r1, f_r2, f_ap, f_q27, f_z, f_lg, f_o, f_q2, f_q7, f_q9, w_8_2, w_8_7⟩ hf hd
      have hf' : b4 = false := hf
      subst hf'
      have d3 : b3 = true := hd ⟨3, .data⟩ (by simp) rfl
      subst d3
      obtain rfl := cd3.out rfl
      clear hf hd
      try simp only [List.setIfInBounds_toArray, List.set_cons_zero, List.set_cons_succ]
      have z0 := (hb.cell hpB).trans c1
      intro K hK
      rw [if_pos (by rfl)]
      go_simp
      exact hK.out _ _ ⟨b0, b1, b2, true, true, b5, b6, b7, b8, b9, b10, x7, x8, x9, .pointer (some ⟨p, 1, none⟩), (.slice wo1 wn wc), x12, x13, x14, x15, x6, aA, cA, aB, kB, cB, gu, (by simp only [Act.put, List.setIfInBounds_toArray, List.set_cons_zero, List.set_cons_succ]), (by simp only [Act.put, List.setIfInBounds_toArray, List.set_cons_zero, List.set_cons_succ]), hb, cd0, cd1, cd2, (fun _ => rfl), (fun _ => rfl), cd5, cd6, cd7, cd8, cd9, f_r1, f_r2, f_ap, f_q27, f_z, f_lg, f_o, f_q2, f_q7, f_q9, w_8_2, w_8_7⟩
    · rintro L a w ⟨b0, b1, b2, b3, b4, b5, b6, b7, b8, b9, b10, x7, x8, x9, x10, x11, x12, x13, x14, x15, x6, aA, cA, aB, kB, cB, gu, rfl, rfl, hb, cd0, cd1, cd2, cd3, cd4, cd5, cd6, cd7, cd8, cd9, f_r1, f_r2, f_ap, f_q27, f_z, f_lg, f_o, f_q2, f_q7, f_q9, w_8_2, w_8_7⟩ hf hd
      have hf' : b5 = false := hf
      subst hf'
      clear hf hd
      try simp only [List.setIfInBounds_toArray, List.set_cons_zero, List.set_cons_succ]
      intro K hK
      rw [if_pos (by rfl)]
      go_simp
      exact hK.out _ _ ⟨b0, b1, b2, b3, b4, true, b6, b7, b8, b9, b10, x7, x8, x9, x10, x11, (.pointer (some ⟨q, 0, none⟩)), x13, x14, x15, x6, aA, cA, aB, kB, cB, gu, (by simp only [Act.put, List.setIfInBounds_toArray, List.set_cons_zero, List.set_cons_succ]), (by simp only [Act.put, List.setIfInBounds_toArray, List.set_cons_zero, List.set_cons_succ]), hb, cd0, cd1, cd2, cd3, cd4, (fun _ => rfl), cd6, cd7, cd8, cd9, f_r1, f_r2, f_ap, f_q27, f_z, f_lg, f_o, f_q2, f_q7, f_q9, w_8_2, w_8_7⟩
    · rintro L a w ⟨b0, b1, b2, b3, b4, b5, b6, b7, b8, b9, b10, x7, x8, x9, x10, x11, x12, x13, x14, x15, x6, aA, cA, aB, kB, cB, gu, rfl, rfl, hb, cd0, cd1, cd2, cd3, cd4, cd5, cd6, cd7, cd8, cd9, f_r1, f_r2, f_ap, f_q27, f_z, f_lg, f_o, f_q2, f_q7, f_q9, w_8_2, w_8_7⟩ hf hd
      have hf' : b6 = false := hf
      subst hf'
      have d5 : b5 = true := hd ⟨5, .data⟩ (by simp) rfl
      subst d5
      obtain rfl := cd5.out rfl
      clear hf hd
      try simp only [List.setIfInBounds_toArray, List.set_cons_zero, List.set_cons_succ]
      have z0 := (hb.cell hqB).trans d0
      intro K hK
      rw [if_pos (by rfl)]
      go_simp
      exact hK.out _ _ ⟨b0, b1, b2, b3, b4, true, true, b7, b8, b9, b10, x7, x8, x9, x10, x11, .pointer (some ⟨q, 0, none⟩), (.int .i64 s), x14, x15, x6, aA, cA, aB, kB, cB, gu, (by simp only [Act.put, List.setIfInBounds_toArray, List.set_cons_zero, List.set_cons_succ]), (by simp only [Act.put, List.setIfInBounds_toArray, List.set_cons_zero, List.set_cons_succ]), hb, cd0, cd1, cd2, cd3, cd4, (fun _ => rfl), (fun _ => rfl), cd7, cd8, cd9, f_r1, f_r2, f_ap, f_q27, f_z, f_lg, f_o, f_q2, f_q7, f_q9, w_8_2, w_8_7⟩
    · rintro L a w ⟨b0, b1, b2, b3, b4, b5, b6, b7, b8, b9, b10, x7, x8, x9, x10, x11, x12, x13, x14, x15, x6, aA, cA, aB, kB, cB, gu, rfl, rfl, hb, cd0, cd1, cd2, cd3, cd4, cd5, cd6, cd7, cd8, cd9, f_r1, f_r2, f_ap, f_q27, f_z, f_lg, f_o, f_q2, f_q7, f_q9, w_8_2, w_8_7⟩ hf hd
      have hf' : b7 = false := hf
      subst hf'
      have d4 : b4 = true := hd ⟨4, .data⟩ (by simp) rfl
      subst d4
      have d6 : b6 = true := hd ⟨6, .data⟩ (by simp) rfl
      subst d6
      have d2 : b2 = true := hd ⟨2, .chain⟩ (by simp) rfl
      subst d2
      obtain rfl := cd4.out rfl
      obtain rfl := cd6.out rfl
      obtain rfl := cd2.out rfl
      clear hf hd
      have W_r1 := f_r1.out rfl
      try simp only [List.setIfInBounds_toArray, List.set_cons_zero, List.set_cons_succ]
      intro K hK
      rw [if_pos (by rfl)]
      go_simp
      go_at_call 100
      refine (HW _ hb).mono ?_
      rintro e w' ⟨ao3, k3, c3, rfl, r9, bx⟩
      have e_8 : b8 = false := by cases hq : b8 with | false => rfl | true => exact absurd (w_8_7.out hq) (by simp)
      subst e_8
      exact hK.out _ _ ⟨b0, b1, true, b3, true, b5, true, true, false, b9, b10, x7, x8, .slice aA hn cA, x10, .slice wo1 wn wc, x12, .int .i64 s, (.slice ao3 k3 c3), x15, x6, aA, cA, ao3, k3, c3, gu, (by simp only [Act.put, List.setIfInBounds_toArray, List.set_cons_zero, List.set_cons_succ]), (by simp only [Act.put, List.setIfInBounds_toArray, List.set_cons_zero, List.set_cons_succ]), hb.trans (bx.mono (Nat.le_trans hB0 hb.size)), cd0, cd1, (fun _ => rfl), cd3, (fun _ => rfl), cd5, (fun _ => rfl), (fun _ => rfl), (fun h => by cases h), cd9, (fun h0 => (f_r1.out h0).past bx), (fun _ => r9.monoB hb.size), (fun _ => fun z hz e => by have h1 := W_r1.lt z hz; have h2 := r9.from' z e; omega), (fun _ => rfl), (fun h0 h1 => (f_z.out h0 h1).past bx), f_lg, (fun h0 => absurd (f_q7.out h0) (by simp)), f_q2, (fun _ => rfl), f_q9, (fun _ => rfl), (fun _ => rfl)⟩
    · rintro L a w ⟨b0, b1, b2, b3, b4, b5, b6, b7, b8, b9, b10, x7, x8, x9, x10, x11, x12, x13, x14, x15, x6, aA, cA, aB, kB, cB, gu, rfl, rfl, hb, cd0, cd1, cd2, cd3, cd4, cd5, cd6, cd7, cd8, cd9, f_r1, f_r2, f_ap, f_q27, f_z, f_lg, f_o, f_q2, f_q7, f_q9, w_8_2, w_8_7⟩ hf hd
      have hf' : b8 = false := hf
      subst hf'
      have d2 : b2 = true := hd ⟨2, .data⟩ (by simp) rfl
      subst d2
      have d7 : b7 = true := hd ⟨7, .data⟩ (by simp) rfl
      subst d7
      obtain rfl := cd2.out rfl
      obtain rfl := cd7.out rfl
      clear hf hd
      have W_r1 := f_r1.out rfl
      have W_r2 := f_r2.out rfl
      have W_ap := f_ap.out rfl
      have W_q27 := f_q27.out rfl
      try simp only [List.setIfInBounds_toArray, List.set_cons_zero, List.set_cons_succ]
      intro K hK
      rw [if_pos (by rfl)]
      go_simp
      exact hK.out _ _ ⟨b0, b1, true, b3, b4, b5, b6, true, true, b9, b10, x7, x8, .slice aA hn cA, x10, x11, x12, x13, .slice aB kB cB, (.agg #[.slice aA hn cA, .slice aB kB cB]), x6, aA, cA, aB, kB, cB, gu, (by simp only [Act.put, List.setIfInBounds_toArray, List.set_cons_zero, List.set_cons_succ]), (by simp only [Act.put, List.setIfInBounds_toArray, List.set_cons_zero, List.set_cons_succ]), hb, cd0, cd1, (fun _ => rfl), cd3, cd4, cd5, cd6, (fun _ => rfl), (fun _ => rfl), cd9, f_r1, f_r2, f_ap, f_q27, f_z, f_lg, f_o, f_q2, f_q7, f_q9, (fun _ => rfl), (fun _ => rfl)⟩
    · rintro L a w ⟨b0, b1, b2, b3, b4, b5, b6, b7, b8, b9, b10, x7, x8, x9, x10, x11, x12, x13, x14, x15, x6, aA, cA, aB, kB, cB, gu, rfl, rfl, hb, cd0, cd1, cd2, cd3, cd4, cd5, cd6, cd7, cd8, cd9, f_r1, f_r2, f_ap, f_q27, f_z, f_lg, f_o, f_q2, f_q7, f_q9, w_8_2, w_8_7⟩ hf hd
      have hf' : b9 = false := hf
      subst hf'
      clear hf hd
      try simp only [List.setIfInBounds_toArray, List.set_cons_zero, List.set_cons_succ]
      intro K hK
      rw [if_pos (by rfl)]
      go_simp
      have bx : Below w.heap.size w (w.alloc (.cells #[.slice none 0 0, .slice none 0 0] 96)) := (Below.refl _ _).alloc (Nat.le_refl _) _
      exact hK.out _ _ ⟨b0, b1, b2, b3, b4, b5, b6, b7, b8, true, b10, x7, x8, x9, x10, x11, x12, x13, x14, x15, (.pointer (some ⟨(w.heap.size), 0, none⟩)), aA, cA, aB, kB, cB, w.heap.size, (by simp only [Act.put, List.setIfInBounds_toArray, List.set_cons_zero, List.set_cons_succ]), (by simp only [Act.put, List.setIfInBounds_toArray, List.set_cons_zero, List.set_cons_succ]), hb.trans (bx.mono (Nat.le_trans hB0 hb.size)), cd0, cd1, cd2, cd3, cd4, cd5, cd6, cd7, cd8, (fun _ => rfl), (fun h0 => (f_r1.out h0).past bx), (fun h0 => (f_r2.out h0).past bx), f_ap, f_q27, (fun _ _ => LkB.new w none 0 0 none 0 0 _), (fun _ => hb.size), (fun h0 => absurd (f_q9.out h0) (by simp)), f_q2, f_q7, (fun _ => rfl), w_8_2, w_8_7⟩
    · rintro L a w ⟨b0, b1, b2, b3, b4, b5, b6, b7, b8, b9, b10, x7, x8, x9, x10, x11, x12, x13, x14, x15, x6, aA, cA, aB, kB, cB, gu, rfl, rfl, hb, cd0, cd1, cd2, cd3, cd4, cd5, cd6, cd7, cd8, cd9, f_r1, f_r2, f_ap, f_q27, f_z, f_lg, f_o, f_q2, f_q7, f_q9, w_8_2, w_8_7⟩ hf hd
      have hf' : b10 = false := hf
      subst hf'
      have d9 : b9 = true := hd ⟨9, .data⟩ (by simp) rfl
      subst d9
      have d8 : b8 = true := hd ⟨8, .data⟩ (by simp) rfl
      subst d8
      have d7 : b7 = true := hd ⟨7, .chain⟩ (by simp) rfl
      subst d7
      have d0 : b0 = true := hd ⟨0, .phase⟩ (by simp) rfl
      subst d0
      have d1 : b1 = true := hd ⟨1, .phase⟩ (by simp) rfl
      subst d1
      have d2 : b2 = true := hd ⟨2, .phase⟩ (by simp) rfl
      subst d2
      have d3 : b3 = true := hd ⟨3, .phase⟩ (by simp) rfl
      subst d3
      have d4 : b4 = true := hd ⟨4, .phase⟩ (by simp) rfl
      subst d4
      have d5 : b5 = true := hd ⟨5, .phase⟩ (by simp) rfl
      subst d5
      have d6 : b6 = true := hd ⟨6, .phase⟩ (by simp) rfl
      subst d6
      obtain rfl := cd9.out rfl
      obtain rfl := cd8.out rfl
      obtain rfl := cd7.out rfl
      obtain rfl := cd0.out rfl
      obtain rfl := cd1.out rfl
      obtain rfl := cd2.out rfl
      obtain rfl := cd3.out rfl
      obtain rfl := cd4.out rfl
      obtain rfl := cd5.out rfl
      obtain rfl := cd6.out rfl
      clear hf hd
      have W_r1 := f_r1.out rfl
      have W_r2 := f_r2.out rfl
      have W_ap := f_ap.out rfl
      have W_q27 := f_q27.out rfl
      have W_z := f_z.out rfl rfl
      have W_lg := f_lg.out rfl
      try simp only [List.setIfInBounds_toArray, List.set_cons_zero, List.set_cons_succ]
      intro K hK
      rw [if_pos (by rfl)]
      refine wp_store_lk _ _ rfl gu none 0 0 none 0 0 rfl aA hn cA aB kB cB rfl (Lib.hid W_z) fun w2 h8 g8 => ?_
      have hb2 := hb.grown g8 (Nat.le_trans hB0 hb.size) (fun z hz => by cases hz; exact W_lg)
      exact hK.out _ _ ⟨true, true, true, true, true, true, true, true, true, true, true, .pointer (some ⟨p, 0, none⟩), .slice ho hn hc, .slice aA hn cA, .pointer (some ⟨p, 1, none⟩), .slice wo1 wn wc, .pointer (some ⟨q, 0, none⟩), .int .i64 s, .slice aB kB cB, .agg #[.slice aA hn cA, .slice aB kB cB], .pointer (some ⟨gu, 0, none⟩), aA, cA, aB, kB, cB, gu, (by simp only [Act.put, List.setIfInBounds_toArray, List.set_cons_zero, List.set_cons_succ]), (by simp only [Act.put, List.setIfInBounds_toArray, List.set_cons_zero, List.set_cons_succ]), hb2, (fun _ => rfl), (fun _ => rfl), (fun _ => rfl), (fun _ => rfl), (fun _ => rfl), (fun _ => rfl), (fun _ => rfl), (fun _ => rfl), (fun _ => rfl), (fun _ => rfl), (fun h0 => ((f_r1.out h0)).farT W_z (by decide) g8), (fun h0 => ((f_r2.out h0)).farT W_z (by decide) g8), f_ap, f_q27, (fun _ h => by cases h), f_lg, (fun _ => h8), (fun _ => w_8_2.out rfl), (fun _ => w_8_7.out rfl), (fun _ => rfl), (fun _ => rfl), (fun _ => rfl)⟩
  · rintro act V ⟨b0, b1, b2, b3, b4, b5, b6, b7, b8, b9, b10, x7, x8, x9, x10, x11, x12, x13, x14, x15, x6, aA, cA, aB, kB, cB, gu, hL, rfl, hb, cd0, cd1, cd2, cd3, cd4, cd5, cd6, cd7, cd8, cd9, f_r1, f_r2, f_ap, f_q27, f_z, f_lg, f_o, f_q2, f_q7, f_q9, w_8_2, w_8_7⟩
    have hL' : [true, true, true, true, true, true, true, true, true, true, true] = [b0, b1, b2, b3, b4, b5, b6, b7, b8, b9, b10] := congrArg Array.toList hL
    simp only [List.cons.injEq, and_true] at hL'
    obtain ⟨rfl, rfl, rfl, rfl, rfl, rfl, rfl, rfl, rfl, rfl, rfl⟩ := hL'
    obtain rfl := cd0.out rfl
    obtain rfl := cd1.out rfl
    obtain rfl := cd2.out rfl
    obtain rfl := cd3.out rfl
    obtain rfl := cd4.out rfl
    obtain rfl := cd5.out rfl
    obtain rfl := cd6.out rfl
    obtain rfl := cd7.out rfl
    obtain rfl := cd8.out rfl
    obtain rfl := cd9.out rfl
    have W_r1 := f_r1.out rfl
    have W_r2 := f_r2.out rfl
    have W_ap := f_ap.out rfl
    have W_q27 := f_q27.out rfl
    have W_lg := f_lg.out rfl
    have W_o := f_o.out rfl
    have W_q2 := f_q2.out rfl
    have W_q7 := f_q7.out rfl
    have W_q9 := f_q9.out rfl
    clear hL f_r1 f_r2 f_ap f_q27 f_z f_lg f_o f_q2 f_q7 f_q9 cd0 cd1 cd2 cd3 cd4 cd5 cd6 cd7 cd8 cd9 w_8_2 w_8_7
    simp only [List.setIfInBounds_toArray, List.set_cons_zero, List.set_cons_succ]
    have BV : Below W.heap.size W V := (Below.refl _ _).drew.trans hb
    have BV0 := BA.trans (BV.mono hpW)
    have XV := X1.past BV
    have YV := Y1.past BV
    have ZV := Z1.past BV
    have W_ob := W_o
    have hgr : gu ≠ r := by have := Z1.lt; omega
    clear hb W_q2 W_q7 W_q9 W_q27 c0 c1 d0 d1 d2 HC HW X1 Y1 Z1
    obtain ⟨c0, c1⟩ := W_o.c
    obtain ⟨d0, d1, d2⟩ := YV.c
    simp only at d0 d1 d2
    have HCv := covers_any V aA hn cA aB kB cB H0 W_r1.isR ⟨s, t, x⟩
    unfold lkV at HCv
    obtain ⟨cv, hcv⟩ : ∃ cv, covers H0 ⟨s, t, x⟩ = cv := ⟨_, rfl⟩
    rw [hcv] at HCv HAH HAW HAB
    clear hcv
    unfold Hd.val at HCv
    simp only at HCv
    have hpV := Nat.le_trans hpW BV.size
    cases cv
    · go_upto_region 4 with (go_at_call 103; refine HCv.mono ?_; rintro e w3 ⟨rfl, b3⟩)
      have o3 := W_ob.past b3
      have Y3 := YV.past b3
      have Z3 := ZV.past b3
      have r13 := W_r1.past b3
      have r23 := W_r2.past b3
      have B3 := BV0.trans (b3.mono hpV)
      have hp3 := Nat.le_trans hpV b3.size
      have hW3 := Nat.le_trans BV.size b3.size
      have HCF := containsF_c w3 aA hn cA H0 r13.isR ⟨s, t, x⟩
      obtain ⟨an, han⟩ : ∃ an, H0.any (clash ⟨s, t, x⟩) = an := ⟨_, rfl⟩
      rw [han] at HCF HAH HAW HAB
      clear han HCv c0 c1 d0 d1 d2 W_o W_ob W_r1 W_r2
      unfold Hd.val at HCF
      simp only at HCF
      obtain ⟨c0, c1⟩ := o3.c
      obtain ⟨d0, d1, d2⟩ := Y3.c
      simp only at d0 d1 d2
      cases an
      · have E1 : A1 = wthH H0 ⟨s, t, x⟩ := HAH.out
        have E2 : A2 = wo W0 s := HAW.out
        obtain rfl : A3 = true := HAB.out
        subst E1 E2
        clear HAH HAW HAB
        go_upto_region 2 with (go_at_call 104; refine HCF.mono ?_; rintro e w4 ⟨rfl, b4⟩)
        have o4 := o3.past b4
        have Y4 := Y3.past b4
        have Z4 := Z3.past b4
        have r14 := r13.past b4
        have r24 := r23.past b4
        have B4 := B3.trans (b4.mono hp3)
        have hp4 := Nat.le_trans hp3 b4.size
        have hW4 := Nat.le_trans hW3 b4.size
        have HWi := with_any w4 W.heap.size hW4 aA hn cA H0 r14 (by omega) ⟨s, t, x⟩
        unfold Hd.val at HWi
        simp only at HWi
        have ng := r14.neT o4 (by decide)
        have nr := r14.neT Z4 (by decide)
        clear c0 c1 d0 d1 d2 HCF
        obtain ⟨c0, c1⟩ := o4.c
        obtain ⟨d0, d1, d2⟩ := Y4.c
        simp only at d0 d1 d2
        go_wp2_with (go_at_call 106; refine HWi.mono ?_; rintro e w5 ⟨ao5, n5, c5, rfl, r5, b5, g5⟩; have o5 : LkB w5 gu aA hn cA aB kB cB 96 := (g5.block gu o4.lt ng).trans o4; have Z5 : LkB w5 r none 0 0 none 0 0 96 := (g5.block r Z4.lt nr).trans Z4; obtain ⟨e0, e1⟩ := o5.c; obtain ⟨f0, f1⟩ := o5.free; obtain ⟨z0, z1⟩ := Z5.c; obtain ⟨y0, y1⟩ := Z5.free)
        have P1 := o5.put0 ao5 n5 c5
        have r51 := r5.farT o5 (by decide) (set1_grown w5 gu 0 (.slice ao5 n5 c5))
        have r25 := r24.grown g5 (fun z hz e => W_ap z e hz)
        have r26 := r25.set1 (i := 0) (v := .slice ao5 n5 c5) o5 (by decide)
        have Z6 := Z5.far (set1_grown w5 gu 0 (.slice ao5 n5 c5)) (fun e => hgr e.symm)
        have Z7 := (Z6.put0 ao5 n5 c5).put1 aB kB cB
        have r7 := (r51.farT Z6 (by decide) (set1_grown _ r 0 (.slice ao5 n5 c5))).farT (Z6.put0 ao5 n5 c5) (by decide) (set1_grown _ r 1 (.slice aB kB cB))
        have r27 := (r26.set1 (i := 0) (v := .slice ao5 n5 c5) Z6 (by decide)).set1 (i := 1) (v := .slice aB kB cB) (Z6.put0 ao5 n5 c5) (by decide)
        obtain ⟨y4, y5⟩ := Z7.c
        have B5 := B4.trans (b5.mono hpW)
        have hp5 := Nat.le_trans hp4 b5.size
        have B6 := ((B5.grown (set1_grown w5 gu 0 (.slice ao5 n5 c5)) hp5 (fun z hz => by cases hz; omega)).grown (set1_grown _ r 0 (.slice ao5 n5 c5)) (by simp; exact hp5) (fun z hz => by cases hz; omega)).grown (set1_grown _ r 1 (.slice aB kB cB)) (by simp; exact hp5) (fun z hz => by cases hz; omega)
        refine bodyPost_ret (v := .tuple #[.agg #[.slice ao5 n5 c5, .slice aB kB cB], .bool true]) (by simp [results, Try.results55, go_sem, y4, y5]) rfl ?_
        rw [HP.out]
        refine ⟨_, rfl, ⟨ao5, n5, c5, aB, kB, cB, rfl, r7.isR, r27.isR, r7.from2 hpW, r27.rowO.from2 hpW⟩, ?_⟩
        exact B6
      · have E1 : A1 = H0 := HAH.out
        have E2 : A2 = wo W0 s ++ [⟨s, t, x⟩] := HAW.out
        obtain rfl : A3 = false := HAB.out
        subst E1 E2
        clear HAH HAW HAB
        go_upto_region 5 with (go_at_call 104; refine HCF.mono ?_; rintro e w4 ⟨rfl, b4⟩)
        have o4 := o3.past b4
        have Y4 := Y3.past b4
        have Z4 := Z3.past b4
        have r14 := r13.past b4
        have r24 := r23.past b4
        have B4 := B3.trans (b4.mono hp3)
        have hp4 := Nat.le_trans hp3 b4.size
        have hW4 := Nat.le_trans hW3 b4.size
        clear c0 c1 d0 d1 d2 HCF
        obtain ⟨c0, c1⟩ := o4.c
        obtain ⟨d0, d1, d2⟩ := Y4.c
        simp only at d0 d1 d2
        have oB : OwnR EHd (w4.alloc (.cells #[.int .i64 s, .string (bsOf t), .bool x] 101)) 101 w4.heap.size 1 1 [⟨s, t, x⟩] := OwnR.ofBlk (heap_alloc_new w4 _) rfl rfl (by omega)
        have bB : Below w4.heap.size w4 (w4.alloc (.cells #[.int .i64 s, .string (bsOf t), .bool x] 101)) := (Below.refl _ _).alloc (Nat.le_refl _) _
        have hs := oB.isR.src (P := Try.prog) Try.underlying94
        have r24' := r24.past bB
        have o4' := o4.past bB
        have Z4' := Z4.past bB
        have ng := r24'.neT o4' (by decide)
        have nr := r24'.neT Z4' (by decide)
        have hk2 := r24.len
        have hwl := wo_length W0 s
        go_wp2_with (at_builtin; refine wpList_append_o rfl _ _ 94 94 rfl 101 rowTyHd W.heap.size (by rw [World.size_alloc]; omega) aB kB cB (wo W0 s) rfl r24'.rowO _ rfl 1 [⟨s, t, x⟩] hs rfl (by omega) (by omega) (kB + 1) rfl ?_; intro ao5 c5 w5 r5 g5 b5 q5; have o5 : LkB w5 gu aA hn cA aB kB cB 96 := (g5.block gu o4'.lt ng).trans o4'; have Z5 : LkB w5 r none 0 0 none 0 0 96 := (g5.block r Z4'.lt nr).trans Z4'; obtain ⟨e0, e1⟩ := o5.c; obtain ⟨f0, f1⟩ := o5.free; obtain ⟨z0, z1⟩ := Z5.c; obtain ⟨y0, y1⟩ := Z5.free)
        have r51 := r5.farT o5 (by decide) (set1_grown w5 gu 1 (.slice ao5 (kB + 1) c5))
        have r15 := (r14.past bB).grown g5 (fun z hz e => W_ap z hz e)
        have r16 := r15.set1 (i := 1) (v := .slice ao5 (kB + 1) c5) o5 (by decide)
        have Z6 := Z5.far (set1_grown w5 gu 1 (.slice ao5 (kB + 1) c5)) (fun e => hgr e.symm)
        have Z7 := (Z6.put0 aA hn cA).put1 ao5 (kB + 1) c5
        have r7 := (r51.farT Z6 (by decide) (set1_grown _ r 0 (.slice aA hn cA))).farT (Z6.put0 aA hn cA) (by decide) (set1_grown _ r 1 (.slice ao5 (kB + 1) c5))
        have r17 := (r16.set1 (i := 0) (v := .slice aA hn cA) Z6 (by decide)).set1 (i := 1) (v := .slice ao5 (kB + 1) c5) (Z6.put0 aA hn cA) (by decide)
        obtain ⟨y4, y5⟩ := Z7.c
        have B5 := (B4.trans (bB.mono hp4)).trans (b5.mono hpW)
        have hp5 : p ≤ w5.heap.size := Nat.le_trans hpW (Nat.le_trans (Nat.le_trans hW4 bB.size) g5.size)
        have B6 := ((B5.grown (set1_grown w5 gu 1 (.slice ao5 (kB + 1) c5)) hp5 (fun z hz => by cases hz; omega)).grown (set1_grown _ r 0 (.slice aA hn cA)) (by simp; exact hp5) (fun z hz => by cases hz; omega)).grown (set1_grown _ r 1 (.slice ao5 (kB + 1) c5)) (by simp; exact hp5) (fun z hz => by cases hz; omega)
        refine bodyPost_ret (v := .tuple #[.agg #[.slice aA hn cA, .slice ao5 (kB + 1) c5], .bool false]) (by simp [results, Try.results55, go_sem, y4, y5]) rfl ?_
        rw [HP.out]
        refine ⟨_, rfl, ⟨aA, hn, cA, ao5, kB + 1, c5, rfl, r17.isR, r7.isR, r17.rowO.from2 hpW, r7.from2 hpW⟩, ?_⟩
        exact B6
    · have E1 : A1 = H0 := HAH.out
      have E2 : A2 = wo W0 s := HAW.out
      obtain rfl : A3 = true := HAB.out
      subst E1 E2
      clear HAH HAW HAB
      go_upto_region 7 with (go_at_call 103; refine HCv.mono ?_; rintro e w5 ⟨rfl, b5⟩)
      have o5 := W_ob.past b5
      have Z5 := ZV.past b5
      have r15 := W_r1.past b5
      have r25 := W_r2.past b5
      have B5 := BV0.trans (b5.mono hpV)
      have hp5 := Nat.le_trans hpV b5.size
      clear c0 c1 d0 d1 d2 HCv
      obtain ⟨e0, e1⟩ := o5.c
      obtain ⟨z0, z1⟩ := Z5.c
      obtain ⟨y0, y1⟩ := Z5.free
      go_wp2_with fail
      have Z7 := (Z5.put0 aA hn cA).put1 aB kB cB
      have r17 := (r15.set1 (i := 0) (v := .slice aA hn cA) Z5 (by decide)).set1 (i := 1) (v := .slice aB kB cB) (Z5.put0 aA hn cA) (by decide)
      have r27 := (r25.set1 (i := 0) (v := .slice aA hn cA) Z5 (by decide)).set1 (i := 1) (v := .slice aB kB cB) (Z5.put0 aA hn cA) (by decide)
      obtain ⟨y4, y5⟩ := Z7.c
      have B6 := (B5.grown (set1_grown w5 r 0 (.slice aA hn cA)) hp5 (fun z hz => by cases hz; omega)).grown (set1_grown _ r 1 (.slice aB kB cB)) (by simp; exact hp5) (fun z hz => by cases hz; omega)
      refine bodyPost_ret (v := .tuple #[.agg #[.slice aA hn cA, .slice aB kB cB], .bool true]) (by simp [results, Try.results55, go_sem, y4, y5]) rfl ?_
      rw [HP.out]
      refine ⟨_, rfl, ⟨aA, hn, cA, aB, kB, cB, rfl, r17.isR, r27.isR, r17.rowO.from2 hpW, r27.rowO.from2 hpW⟩, ?_⟩
      exact B6
end Go.Proofs.Ytllijeciodmckaa
