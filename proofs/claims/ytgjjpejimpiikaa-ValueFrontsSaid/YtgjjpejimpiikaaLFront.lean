/-
  ValueFronts, walked (by gen_front.py).
-/
import Derived.Test.YtgjjpejimpiikaaVAt
import Derived.Test.YtgjjpejimpiikaaInv
import Derived.OpenShut
import Derived.ShutString
import Derived.Lib.LaidTab
namespace Go.Proofs.Ytgjjpejimpiikaa
open Go.RowKit
theorem cmpL_front : ∀ (l : List UInt8) (u : UInt8), cmpL l (l ++ [u]) = -1
  | [], _ => rfl
  | x :: l, u => by
    have := cmpL_front l u
    simp only [List.cons_append, cmpL, this, or2, cmpI]
    simp
theorem cmpV_front (s : ByteArray) (u : UInt8) : cmpV 3 0 s 3 0 (s ++ ⟨#[u]⟩) = -1 := by
  have h : (s ++ ⟨#[u]⟩ : ByteArray).toList = s.toList ++ [u] := by rw [ByteArray.toList_eq, ByteArray.toList_eq]; simp
  simp only [cmpV, or3_two, cmpS_list, h, cmpL_front]
  simp [or2, cmpI]
theorem cmpV_ints (a b : Int) : cmpV 2 a ⟨#[]⟩ 2 b ⟨#[]⟩ = cmpI a b := by
  simp only [cmpV, or3_two, cmpS_list]
  have h0 : cmpL (⟨#[]⟩ : ByteArray).toList (⟨#[]⟩ : ByteArray).toList = 0 := (cmpL_zero _ _).2 rfl
  rw [h0]
  simp only [or2, cmpI]
  (repeat' split) <;> omega
theorem one_conv (w : World) (g : Nat) (u : UInt8) (h : w.cell? ⟨g, 0, none⟩ = some (.int .u8 (u.toNat : Int))) : (convert 31 9 (.slice (some ⟨g, 0, none⟩) 1 1)).run Try.prog w = .ok (.string ⟨#[u]⟩) w := by
  have hb : IsB w (some ⟨g, 0, none⟩) 1 1 [u] := by
    refine ⟨rfl, Nat.le_refl _, by simp [maxLen], (fun h => by cases h), fun a ha j v hv => ?_⟩
    obtain rfl := Option.some.inj ha
    cases j with
    | zero =>
      obtain rfl : u = v := by simpa using hv
      exact h
    | succ j => simp at hv
  exact hb.conv byteTy Try.underlying9
/-- What stands while the region's operations come up: which have (b), what their slots hold (x), what the world holds. -/
inductive Front5 (s : ByteArray) (u : UInt8) (a0 : Act) (w0 : World) (L : Array Bool) (a : Act) (w : World) : Prop
  | mk (b0 b1 b2 b3 b4 b5 b6 b7 b8 b9 b10 b11 : Bool) (x18 x19 x20 x21 x22 x23 x24 x25 x9 x10 : Value) (g1 : Nat) (g2 : Nat) (gs : Nat) (hL : L = #[b0, b1, b2, b3, b4, b5, b6, b7, b8, b9, b10, b11]) (ha : a = ⟨((((((((((a0.tmps.setIfInBounds 18 x18).setIfInBounds 19 x19).setIfInBounds 20 x20).setIfInBounds 21 x21).setIfInBounds 22 x22).setIfInBounds 23 x23).setIfInBounds 24 x24).setIfInBounds 25 x25).setIfInBounds 9 x9).setIfInBounds 10 x10), a0.defers⟩) (hb : Below w0.heap.size w0 w) (c0 : (b0 = true → x18 = .string s)) (c1 : (b1 = true → x19 = vv 3 0 s)) (c2 : (b2 = true → x20 = .string s)) (c3 : (b3 = true → x21 = .int .u8 (u.toNat : Int))) (c4 : (b4 = true → x22 = .slice (some ⟨gs, 0, none⟩) 1 1)) (c5 : (b5 = true → x23 = .string ⟨#[u]⟩)) (c6 : (b6 = true → x24 = .string (s ++ ⟨#[u]⟩))) (c7 : (b7 = true → x25 = vv 3 0 (s ++ ⟨#[u]⟩))) (c8 : (b8 = true → x9 = .pointer (some ⟨g1, 0, none⟩))) (c9 : (b9 = true → x10 = .pointer (some ⟨g2, 0, none⟩))) (v_g1 : (b8 = true → w0.heap.size ≤ g1 ∧ VAt w g1 (bif b10 then 3 else 0) (bif b10 then 0 else 0) (bif b10 then s else ⟨#[]⟩))) (v_g2 : (b9 = true → w0.heap.size ≤ g2 ∧ VAt w g2 (bif b11 then 3 else 0) (bif b11 then 0 else 0) (bif b11 then (s ++ ⟨#[u]⟩) else ⟨#[]⟩))) (v_gs : (b4 = true → w0.heap.size ≤ gs ∧ UAt w gs u)) (s_g1 : b10 = true → b8 = true) (s_g2 : b11 = true → b9 = true) (r_g1 : b10 = true → b1 = true) (r_g2 : b11 = true → b7 = true) (p_g1_g2 : b8 = true → b9 = true → g1 ≠ g2) (p_g1_gs : b8 = true → b4 = true → g1 ≠ gs) (p_g2_gs : b9 = true → b4 = true → g2 ≠ gs) : Front5 s u a0 w0 L a w
set_option linter.unusedSimpArgs false
set_option maxRecDepth 100000 in
set_option maxHeartbeats 8000000 in
theorem valueFronts_walk (s : ByteArray) (c a b : Int) (w : World) (_ : s.size ≤ maxLen) (hc : (Lit.int .u8 c).wf = true) (_ : (Lit.int .i64 a).wf = true) (_ : (Lit.int .i64 b).wf = true) :
    Calls Try.prog 6 #[.string s, .int .u8 c, .int .i64 a, .int .i64 b] w (Told w true) := by
  rename_i h1 h2 h3
  clear h1 h2 h3
  obtain ⟨u, rfl⟩ : ∃ u : UInt8, c = (u.toNat : Int) := ⟨UInt8.ofNat c.toNat, by have := bounds_u8 hc; rw [UInt8.toNat_ofNat']; omega⟩
  clear hc
  go_enter Try.func6, Try.ntmps6
  go_wp2_with (go_at_call 7; refine (known4 _).mono ?_; rintro e w1 ⟨rfl, b1⟩)
  · go_ret
    exact ⟨rfl, b1⟩
  have hsz : ¬ 9223372036854775807 < s.size + 1 := by omega
  replace b1 := b1.drew
  refine region_inv (Front5 s u) (by kernel_rfl) (by kernel_rfl) ?_ ?_ ?_
  · exact ⟨false, false, false, false, false, false, false, false, false, false, false, false, undef, undef, undef, undef, undef, undef, undef, undef, undef, undef, 0, 0, 0, rfl, (by simp only [List.setIfInBounds_toArray, List.set_cons_zero, List.set_cons_succ]), Below.refl _ _, (fun h => by cases h), (fun h => by cases h), (fun h => by cases h), (fun h => by cases h), (fun h => by cases h), (fun h => by cases h), (fun h => by cases h), (fun h => by cases h), (fun h => by cases h), (fun h => by cases h), (fun h => by cases h), (fun h => by cases h), (fun h => by cases h), (fun h => by cases h), (fun h => by cases h), (fun h => by cases h), (fun h => by cases h), (fun h => by cases h), (fun h => by cases h), (fun h => by cases h)⟩
  · refine ⟨?_, ?_, ?_, ?_, ?_, ?_, ?_, ?_, ?_, ?_, ?_, ?_, trivial⟩
    · rintro L a w ⟨b0, b1, b2, b3, b4, b5, b6, b7, b8, b9, b10, b11, x18, x19, x20, x21, x22, x23, x24, x25, x9, x10, g1, g2, gs, rfl, rfl, hb, c0, c1, c2, c3, c4, c5, c6, c7, c8, c9, v_g1, v_g2, v_gs, s_g1, s_g2, r_g1, r_g2, p_g1_g2, p_g1_gs, p_g2_gs⟩ hf hd K hK
      have hf' : b0 = false := hf
      subst hf'
      clear hf hd
      try simp only [List.setIfInBounds_toArray, List.set_cons_zero, List.set_cons_succ]
      rw [if_pos (by rfl)]
      go_simp
      exact hK.out _ _ ⟨true, b1, b2, b3, b4, b5, b6, b7, b8, b9, b10, b11, (.string s), x19, x20, x21, x22, x23, x24, x25, x9, x10, g1, g2, gs, (by simp only [List.setIfInBounds_toArray, List.set_cons_zero, List.set_cons_succ]), (by simp only [List.setIfInBounds_toArray, List.set_cons_zero, List.set_cons_succ]), hb, (fun _ => rfl), c1, c2, c3, c4, c5, c6, c7, c8, c9, v_g1, v_g2, v_gs, s_g1, s_g2, r_g1, r_g2, p_g1_g2, p_g1_gs, p_g2_gs⟩
    · rintro L a w ⟨b0, b1, b2, b3, b4, b5, b6, b7, b8, b9, b10, b11, x18, x19, x20, x21, x22, x23, x24, x25, x9, x10, g1, g2, gs, rfl, rfl, hb, c0, c1, c2, c3, c4, c5, c6, c7, c8, c9, v_g1, v_g2, v_gs, s_g1, s_g2, r_g1, r_g2, p_g1_g2, p_g1_gs, p_g2_gs⟩ hf hd K hK
      have hf' : b1 = false := hf
      subst hf'
      have d0 : b0 = true := hd ⟨0, .data⟩ (by simp) rfl
      subst d0
      obtain rfl := c0 rfl
      clear hf hd
      try simp only [List.setIfInBounds_toArray, List.set_cons_zero, List.set_cons_succ]
      rw [if_pos (by rfl)]
      go_simp
      exact hK.out _ _ ⟨true, true, b2, b3, b4, b5, b6, b7, b8, b9, b10, b11, .string s, (vv 3 0 s), x20, x21, x22, x23, x24, x25, x9, x10, g1, g2, gs, (by simp only [List.setIfInBounds_toArray, List.set_cons_zero, List.set_cons_succ]), (by simp only [List.setIfInBounds_toArray, List.set_cons_zero, List.set_cons_succ]), hb, (fun _ => rfl), (fun _ => rfl), c2, c3, c4, c5, c6, c7, c8, c9, v_g1, v_g2, v_gs, s_g1, s_g2, (fun _ => rfl), r_g2, p_g1_g2, p_g1_gs, p_g2_gs⟩
    · rintro L a w ⟨b0, b1, b2, b3, b4, b5, b6, b7, b8, b9, b10, b11, x18, x19, x20, x21, x22, x23, x24, x25, x9, x10, g1, g2, gs, rfl, rfl, hb, c0, c1, c2, c3, c4, c5, c6, c7, c8, c9, v_g1, v_g2, v_gs, s_g1, s_g2, r_g1, r_g2, p_g1_g2, p_g1_gs, p_g2_gs⟩ hf hd K hK
      have hf' : b2 = false := hf
      subst hf'
      clear hf hd
      try simp only [List.setIfInBounds_toArray, List.set_cons_zero, List.set_cons_succ]
      rw [if_pos (by rfl)]
      go_simp
      exact hK.out _ _ ⟨b0, b1, true, b3, b4, b5, b6, b7, b8, b9, b10, b11, x18, x19, (.string s), x21, x22, x23, x24, x25, x9, x10, g1, g2, gs, (by simp only [List.setIfInBounds_toArray, List.set_cons_zero, List.set_cons_succ]), (by simp only [List.setIfInBounds_toArray, List.set_cons_zero, List.set_cons_succ]), hb, c0, c1, (fun _ => rfl), c3, c4, c5, c6, c7, c8, c9, v_g1, v_g2, v_gs, s_g1, s_g2, r_g1, r_g2, p_g1_g2, p_g1_gs, p_g2_gs⟩
    · rintro L a w ⟨b0, b1, b2, b3, b4, b5, b6, b7, b8, b9, b10, b11, x18, x19, x20, x21, x22, x23, x24, x25, x9, x10, g1, g2, gs, rfl, rfl, hb, c0, c1, c2, c3, c4, c5, c6, c7, c8, c9, v_g1, v_g2, v_gs, s_g1, s_g2, r_g1, r_g2, p_g1_g2, p_g1_gs, p_g2_gs⟩ hf hd K hK
      have hf' : b3 = false := hf
      subst hf'
      clear hf hd
      try simp only [List.setIfInBounds_toArray, List.set_cons_zero, List.set_cons_succ]
      rw [if_pos (by rfl)]
      go_simp
      exact hK.out _ _ ⟨b0, b1, b2, true, b4, b5, b6, b7, b8, b9, b10, b11, x18, x19, x20, (.int .u8 (u.toNat : Int)), x22, x23, x24, x25, x9, x10, g1, g2, gs, (by simp only [List.setIfInBounds_toArray, List.set_cons_zero, List.set_cons_succ]), (by simp only [List.setIfInBounds_toArray, List.set_cons_zero, List.set_cons_succ]), hb, c0, c1, c2, (fun _ => rfl), c4, c5, c6, c7, c8, c9, v_g1, v_g2, v_gs, s_g1, s_g2, r_g1, r_g2, p_g1_g2, p_g1_gs, p_g2_gs⟩
    · rintro L a w ⟨b0, b1, b2, b3, b4, b5, b6, b7, b8, b9, b10, b11, x18, x19, x20, x21, x22, x23, x24, x25, x9, x10, g1, g2, gs, rfl, rfl, hb, c0, c1, c2, c3, c4, c5, c6, c7, c8, c9, v_g1, v_g2, v_gs, s_g1, s_g2, r_g1, r_g2, p_g1_g2, p_g1_gs, p_g2_gs⟩ hf hd K hK
      have hf' : b4 = false := hf
      subst hf'
      have d3 : b3 = true := hd ⟨3, .data⟩ (by simp) rfl
      subst d3
      obtain rfl := c3 rfl
      clear hf hd
      try simp only [List.setIfInBounds_toArray, List.set_cons_zero, List.set_cons_succ]
      rw [if_pos (by rfl)]
      go_simp
      have bx : Below w.heap.size w (w.alloc (.cells #[.int .u8 (u.toNat : Int)] 5)) := (Below.refl _ _).alloc (Nat.le_refl _) _
      exact hK.out _ _ ⟨b0, b1, b2, true, true, b5, b6, b7, b8, b9, b10, b11, x18, x19, x20, .int .u8 (u.toNat : Int), (.slice (some ⟨(w.heap.size), 0, none⟩) 1 1), x23, x24, x25, x9, x10, g1, g2, w.heap.size, (by simp only [List.setIfInBounds_toArray, List.set_cons_zero, List.set_cons_succ]), (by simp only [List.setIfInBounds_toArray, List.set_cons_zero, List.set_cons_succ]), hb.trans (bx.mono hb.size), c0, c1, c2, (fun _ => rfl), (fun _ => rfl), c5, c6, c7, c8, c9, (fun h => ⟨(v_g1 h).1, (v_g1 h).2.past bx⟩), (fun h => ⟨(v_g2 h).1, (v_g2 h).2.past bx⟩), (fun _ => ⟨hb.size, UAt.new w u⟩), s_g1, s_g2, r_g1, r_g2, p_g1_g2, (fun h _ => Nat.ne_of_lt (v_g1 h).2.lt), (fun h _ => Nat.ne_of_lt (v_g2 h).2.lt)⟩
    · rintro L a w ⟨b0, b1, b2, b3, b4, b5, b6, b7, b8, b9, b10, b11, x18, x19, x20, x21, x22, x23, x24, x25, x9, x10, g1, g2, gs, rfl, rfl, hb, c0, c1, c2, c3, c4, c5, c6, c7, c8, c9, v_g1, v_g2, v_gs, s_g1, s_g2, r_g1, r_g2, p_g1_g2, p_g1_gs, p_g2_gs⟩ hf hd K hK
      have hf' : b5 = false := hf
      subst hf'
      have d4 : b4 = true := hd ⟨4, .data⟩ (by simp) rfl
      subst d4
      obtain rfl := c4 rfl
      clear hf hd
      try simp only [List.setIfInBounds_toArray, List.set_cons_zero, List.set_cons_succ]
      have z := (v_gs rfl).2
      have cv := one_conv w gs u z.c0
      rw [if_pos (by rfl)]
      go_simp
      exact hK.out _ _ ⟨b0, b1, b2, b3, true, true, b6, b7, b8, b9, b10, b11, x18, x19, x20, x21, .slice (some ⟨gs, 0, none⟩) 1 1, (.string ⟨#[u]⟩), x24, x25, x9, x10, g1, g2, gs, (by simp only [List.setIfInBounds_toArray, List.set_cons_zero, List.set_cons_succ]), (by simp only [List.setIfInBounds_toArray, List.set_cons_zero, List.set_cons_succ]), hb, c0, c1, c2, c3, (fun _ => rfl), (fun _ => rfl), c6, c7, c8, c9, v_g1, v_g2, v_gs, s_g1, s_g2, r_g1, r_g2, p_g1_g2, p_g1_gs, p_g2_gs⟩
    · rintro L a w ⟨b0, b1, b2, b3, b4, b5, b6, b7, b8, b9, b10, b11, x18, x19, x20, x21, x22, x23, x24, x25, x9, x10, g1, g2, gs, rfl, rfl, hb, c0, c1, c2, c3, c4, c5, c6, c7, c8, c9, v_g1, v_g2, v_gs, s_g1, s_g2, r_g1, r_g2, p_g1_g2, p_g1_gs, p_g2_gs⟩ hf hd K hK
      have hf' : b6 = false := hf
      subst hf'
      have d2 : b2 = true := hd ⟨2, .data⟩ (by simp) rfl
      subst d2
      have d5 : b5 = true := hd ⟨5, .data⟩ (by simp) rfl
      subst d5
      obtain rfl := c2 rfl
      obtain rfl := c5 rfl
      clear hf hd
      try simp only [List.setIfInBounds_toArray, List.set_cons_zero, List.set_cons_succ]
      rw [if_pos (by rfl)]
      go_simp
      exact hK.out _ _ ⟨b0, b1, true, b3, b4, true, true, b7, b8, b9, b10, b11, x18, x19, .string s, x21, x22, .string ⟨#[u]⟩, (.string (s ++ ⟨#[u]⟩)), x25, x9, x10, g1, g2, gs, (by simp only [List.setIfInBounds_toArray, List.set_cons_zero, List.set_cons_succ]), (by simp only [List.setIfInBounds_toArray, List.set_cons_zero, List.set_cons_succ]), hb, c0, c1, (fun _ => rfl), c3, c4, (fun _ => rfl), (fun _ => rfl), c7, c8, c9, v_g1, v_g2, v_gs, s_g1, s_g2, r_g1, r_g2, p_g1_g2, p_g1_gs, p_g2_gs⟩
    · rintro L a w ⟨b0, b1, b2, b3, b4, b5, b6, b7, b8, b9, b10, b11, x18, x19, x20, x21, x22, x23, x24, x25, x9, x10, g1, g2, gs, rfl, rfl, hb, c0, c1, c2, c3, c4, c5, c6, c7, c8, c9, v_g1, v_g2, v_gs, s_g1, s_g2, r_g1, r_g2, p_g1_g2, p_g1_gs, p_g2_gs⟩ hf hd K hK
      have hf' : b7 = false := hf
      subst hf'
      have d6 : b6 = true := hd ⟨6, .data⟩ (by simp) rfl
      subst d6
      obtain rfl := c6 rfl
      clear hf hd
      try simp only [List.setIfInBounds_toArray, List.set_cons_zero, List.set_cons_succ]
      rw [if_pos (by rfl)]
      go_simp
      exact hK.out _ _ ⟨b0, b1, b2, b3, b4, b5, true, true, b8, b9, b10, b11, x18, x19, x20, x21, x22, x23, .string (s ++ ⟨#[u]⟩), (vv 3 0 (s ++ ⟨#[u]⟩)), x9, x10, g1, g2, gs, (by simp only [List.setIfInBounds_toArray, List.set_cons_zero, List.set_cons_succ]), (by simp only [List.setIfInBounds_toArray, List.set_cons_zero, List.set_cons_succ]), hb, c0, c1, c2, c3, c4, c5, (fun _ => rfl), (fun _ => rfl), c8, c9, v_g1, v_g2, v_gs, s_g1, s_g2, r_g1, (fun _ => rfl), p_g1_g2, p_g1_gs, p_g2_gs⟩
    · rintro L a w ⟨b0, b1, b2, b3, b4, b5, b6, b7, b8, b9, b10, b11, x18, x19, x20, x21, x22, x23, x24, x25, x9, x10, g1, g2, gs, rfl, rfl, hb, c0, c1, c2, c3, c4, c5, c6, c7, c8, c9, v_g1, v_g2, v_gs, s_g1, s_g2, r_g1, r_g2, p_g1_g2, p_g1_gs, p_g2_gs⟩ hf hd K hK
      have hf' : b8 = false := hf
      subst hf'
      clear hf hd
      try simp only [List.setIfInBounds_toArray, List.set_cons_zero, List.set_cons_succ]
      rw [if_pos (by rfl)]
      go_simp
      have bx : Below w.heap.size w (w.alloc (.cells #[.int .i64 0, .int .i64 0, .string ⟨#[]⟩] 23)) := (Below.refl _ _).alloc (Nat.le_refl _) _
      exact hK.out _ _ ⟨b0, b1, b2, b3, b4, b5, b6, b7, true, b9, b10, b11, x18, x19, x20, x21, x22, x23, x24, x25, (.pointer (some ⟨(w.heap.size), 0, none⟩)), x10, w.heap.size, g2, gs, (by simp only [List.setIfInBounds_toArray, List.set_cons_zero, List.set_cons_succ]), (by simp only [List.setIfInBounds_toArray, List.set_cons_zero, List.set_cons_succ]), hb.trans (bx.mono hb.size), c0, c1, c2, c3, c4, c5, c6, c7, (fun _ => rfl), c9, (fun _ => ⟨hb.size, by cases hq : b10 with | false => exact VAt.new w 0 0 ⟨#[]⟩ | true => exact absurd (s_g1 hq) (by simp)⟩), (fun h => ⟨(v_g2 h).1, (v_g2 h).2.past bx⟩), (fun h => ⟨(v_gs h).1, (v_gs h).2.past bx⟩), (fun _ => rfl), s_g2, r_g1, r_g2, (fun _ h => Nat.ne_of_gt (v_g2 h).2.lt), (fun _ h => Nat.ne_of_gt (v_gs h).2.lt), p_g2_gs⟩
    · rintro L a w ⟨b0, b1, b2, b3, b4, b5, b6, b7, b8, b9, b10, b11, x18, x19, x20, x21, x22, x23, x24, x25, x9, x10, g1, g2, gs, rfl, rfl, hb, c0, c1, c2, c3, c4, c5, c6, c7, c8, c9, v_g1, v_g2, v_gs, s_g1, s_g2, r_g1, r_g2, p_g1_g2, p_g1_gs, p_g2_gs⟩ hf hd K hK
      have hf' : b9 = false := hf
      subst hf'
      clear hf hd
      try simp only [List.setIfInBounds_toArray, List.set_cons_zero, List.set_cons_succ]
      rw [if_pos (by rfl)]
      go_simp
      have bx : Below w.heap.size w (w.alloc (.cells #[.int .i64 0, .int .i64 0, .string ⟨#[]⟩] 23)) := (Below.refl _ _).alloc (Nat.le_refl _) _
      exact hK.out _ _ ⟨b0, b1, b2, b3, b4, b5, b6, b7, b8, true, b10, b11, x18, x19, x20, x21, x22, x23, x24, x25, x9, (.pointer (some ⟨(w.heap.size), 0, none⟩)), g1, w.heap.size, gs, (by simp only [List.setIfInBounds_toArray, List.set_cons_zero, List.set_cons_succ]), (by simp only [List.setIfInBounds_toArray, List.set_cons_zero, List.set_cons_succ]), hb.trans (bx.mono hb.size), c0, c1, c2, c3, c4, c5, c6, c7, c8, (fun _ => rfl), (fun h => ⟨(v_g1 h).1, (v_g1 h).2.past bx⟩), (fun _ => ⟨hb.size, by cases hq : b11 with | false => exact VAt.new w 0 0 ⟨#[]⟩ | true => exact absurd (s_g2 hq) (by simp)⟩), (fun h => ⟨(v_gs h).1, (v_gs h).2.past bx⟩), s_g1, (fun _ => rfl), r_g1, r_g2, (fun h _ => Nat.ne_of_lt (v_g1 h).2.lt), p_g1_gs, (fun _ h => Nat.ne_of_gt (v_gs h).2.lt)⟩
    · rintro L a w ⟨b0, b1, b2, b3, b4, b5, b6, b7, b8, b9, b10, b11, x18, x19, x20, x21, x22, x23, x24, x25, x9, x10, g1, g2, gs, rfl, rfl, hb, c0, c1, c2, c3, c4, c5, c6, c7, c8, c9, v_g1, v_g2, v_gs, s_g1, s_g2, r_g1, r_g2, p_g1_g2, p_g1_gs, p_g2_gs⟩ hf hd K hK
      have hf' : b10 = false := hf
      subst hf'
      have d8 : b8 = true := hd ⟨8, .data⟩ (by simp) rfl
      subst d8
      have d1 : b1 = true := hd ⟨1, .data⟩ (by simp) rfl
      subst d1
      have d0 : b0 = true := hd ⟨0, .phase⟩ (by simp) rfl
      subst d0
      have d9 : b9 = true := hd ⟨9, .phase⟩ (by simp) rfl
      subst d9
      obtain rfl := c8 rfl
      obtain rfl := c1 rfl
      obtain rfl := c0 rfl
      obtain rfl := c9 rfl
      clear hf hd
      try simp only [List.setIfInBounds_toArray, List.set_cons_zero, List.set_cons_succ]
      obtain ⟨vg, va⟩ := v_g1 rfl
      simp only [cond_false] at va
      obtain ⟨z0, z1, z2, y0, y1, y2, vl⟩ := id va
      rw [if_pos (by rfl)]
      go_simp
      have NE_g1_g2 : true = true → g1 ≠ g2 := fun h => p_g1_g2 rfl h
      have NE_g1_gs : b4 = true → g1 ≠ gs := fun h => p_g1_gs rfl h
      exact hK.out _ _ ⟨true, true, b2, b3, b4, b5, b6, b7, true, true, true, b11, .string s, vv 3 0 s, x20, x21, x22, x23, x24, x25, .pointer (some ⟨g1, 0, none⟩), .pointer (some ⟨g2, 0, none⟩), g1, g2, gs, (by simp only [List.setIfInBounds_toArray, List.set_cons_zero, List.set_cons_succ]), (by simp only [List.setIfInBounds_toArray, List.set_cons_zero, List.set_cons_succ]), ((hb.setCell (p := ⟨g1, 0, none⟩) vg _).setCell (p := ⟨g1, 1, none⟩) vg _).setCell (p := ⟨g1, 2, none⟩) vg _, (fun _ => rfl), (fun _ => rfl), c2, c3, c4, c5, c6, c7, (fun _ => rfl), (fun _ => rfl), (fun _ => ⟨vg, va.set _ _ _⟩), (fun h => ⟨(v_g2 h).1, (((v_g2 h).2.far (NE_g1_g2 h) 0 _).far (NE_g1_g2 h) 1 _).far (NE_g1_g2 h) 2 _⟩), (fun h => ⟨(v_gs h).1, (((v_gs h).2.far (NE_g1_gs h) 0 _).far (NE_g1_gs h) 1 _).far (NE_g1_gs h) 2 _⟩), (fun _ => rfl), (fun _ => rfl), (fun _ => rfl), r_g2, p_g1_g2, p_g1_gs, p_g2_gs⟩
    · rintro L a w ⟨b0, b1, b2, b3, b4, b5, b6, b7, b8, b9, b10, b11, x18, x19, x20, x21, x22, x23, x24, x25, x9, x10, g1, g2, gs, rfl, rfl, hb, c0, c1, c2, c3, c4, c5, c6, c7, c8, c9, v_g1, v_g2, v_gs, s_g1, s_g2, r_g1, r_g2, p_g1_g2, p_g1_gs, p_g2_gs⟩ hf hd K hK
      have hf' : b11 = false := hf
      subst hf'
      have d9 : b9 = true := hd ⟨9, .data⟩ (by simp) rfl
      subst d9
      have d7 : b7 = true := hd ⟨7, .data⟩ (by simp) rfl
      subst d7
      have d10 : b10 = true := hd ⟨10, .chain⟩ (by simp) rfl
      subst d10
      have d0 : b0 = true := hd ⟨0, .phase⟩ (by simp) rfl
      subst d0
      have d1 : b1 = true := hd ⟨1, .phase⟩ (by simp) rfl
      subst d1
      have d2 : b2 = true := hd ⟨2, .phase⟩ (by simp) rfl
      subst d2
      have d3 : b3 = true := hd ⟨3, .phase⟩ (by simp) rfl
      subst d3
      have d4 : b4 = true := hd ⟨4, .phase⟩ (by simp) rfl
      subst d4
      have d5 : b5 = true := hd ⟨5, .phase⟩ (by simp) rfl
      subst d5
      have d6 : b6 = true := hd ⟨6, .phase⟩ (by simp) rfl
      subst d6
      have d8 : b8 = true := hd ⟨8, .phase⟩ (by simp) rfl
      subst d8
      obtain rfl := c9 rfl
      obtain rfl := c7 rfl
      obtain rfl := c0 rfl
      obtain rfl := c1 rfl
      obtain rfl := c2 rfl
      obtain rfl := c3 rfl
      obtain rfl := c4 rfl
      obtain rfl := c5 rfl
      obtain rfl := c6 rfl
      obtain rfl := c8 rfl
      clear hf hd
      try simp only [List.setIfInBounds_toArray, List.set_cons_zero, List.set_cons_succ]
      obtain ⟨vg, va⟩ := v_g2 rfl
      simp only [cond_false] at va
      obtain ⟨z0, z1, z2, y0, y1, y2, vl⟩ := id va
      rw [if_pos (by rfl)]
      go_simp
      have NE_g2_g1 : true = true → g2 ≠ g1 := fun h => (p_g1_g2 h rfl).symm
      have NE_g2_gs : true = true → g2 ≠ gs := fun h => p_g2_gs rfl h
      exact hK.out _ _ ⟨true, true, true, true, true, true, true, true, true, true, true, true, .string s, vv 3 0 s, .string s, .int .u8 (u.toNat : Int), .slice (some ⟨gs, 0, none⟩) 1 1, .string ⟨#[u]⟩, .string (s ++ ⟨#[u]⟩), vv 3 0 (s ++ ⟨#[u]⟩), .pointer (some ⟨g1, 0, none⟩), .pointer (some ⟨g2, 0, none⟩), g1, g2, gs, (by simp only [List.setIfInBounds_toArray, List.set_cons_zero, List.set_cons_succ]), (by simp only [List.setIfInBounds_toArray, List.set_cons_zero, List.set_cons_succ]), ((hb.setCell (p := ⟨g2, 0, none⟩) vg _).setCell (p := ⟨g2, 1, none⟩) vg _).setCell (p := ⟨g2, 2, none⟩) vg _, (fun _ => rfl), (fun _ => rfl), (fun _ => rfl), (fun _ => rfl), (fun _ => rfl), (fun _ => rfl), (fun _ => rfl), (fun _ => rfl), (fun _ => rfl), (fun _ => rfl), (fun h => ⟨(v_g1 h).1, (((v_g1 h).2.far (NE_g2_g1 h) 0 _).far (NE_g2_g1 h) 1 _).far (NE_g2_g1 h) 2 _⟩), (fun _ => ⟨vg, va.set _ _ _⟩), (fun h => ⟨(v_gs h).1, (((v_gs h).2.far (NE_g2_gs h) 0 _).far (NE_g2_gs h) 1 _).far (NE_g2_gs h) 2 _⟩), (fun _ => rfl), (fun _ => rfl), (fun _ => rfl), (fun _ => rfl), p_g1_g2, p_g1_gs, p_g2_gs⟩
  · rintro a w ⟨b0, b1, b2, b3, b4, b5, b6, b7, b8, b9, b10, b11, x18, x19, x20, x21, x22, x23, x24, x25, x9, x10, g1, g2, gs, hL, rfl, hb, c0, c1, c2, c3, c4, c5, c6, c7, c8, c9, v_g1, v_g2, v_gs, s_g1, s_g2, r_g1, r_g2, p_g1_g2, p_g1_gs, p_g2_gs⟩
    have hL' : [true, true, true, true, true, true, true, true, true, true, true, true] = [b0, b1, b2, b3, b4, b5, b6, b7, b8, b9, b10, b11] := congrArg Array.toList hL
    simp only [List.cons.injEq, and_true] at hL'
    obtain ⟨rfl, rfl, rfl, rfl, rfl, rfl, rfl, rfl, rfl, rfl, rfl, rfl⟩ := hL'
    obtain rfl := c0 rfl
    obtain rfl := c1 rfl
    obtain rfl := c2 rfl
    obtain rfl := c3 rfl
    obtain rfl := c4 rfl
    obtain rfl := c5 rfl
    obtain rfl := c6 rfl
    obtain rfl := c7 rfl
    obtain rfl := c8 rfl
    obtain rfl := c9 rfl
    obtain ⟨vg_g1, va_g1⟩ := v_g1 rfl
    simp only [cond_true] at va_g1
    obtain ⟨vg_g2, va_g2⟩ := v_g2 rfl
    simp only [cond_true] at va_g2
    obtain ⟨vg_gs, va_gs⟩ := v_gs rfl
    replace p_g1_g2 := p_g1_g2 rfl rfl
    replace p_g1_gs := p_g1_gs rfl rfl
    replace p_g2_gs := p_g2_gs rfl rfl
    clear hL
    simp only [List.setIfInBounds_toArray, List.set_cons_zero, List.set_cons_succ]
    replace b1 := b1.trans (hb.mono b1.size)
    obtain ⟨m10, m11, m12, -, -, -, m1⟩ := id va_g1
    obtain ⟨m20, m21, m22, -, -, -, m2⟩ := id va_g2
    clear va_gs vg_gs hb
    have e1 : cmpV 3 0 s 3 0 (s ++ ⟨#[u]⟩) = -1 := cmpV_front s u
    have cxy := compare_any 3 0 s 3 0 (s ++ ⟨#[u]⟩)
    have cyx := compare_any 3 0 (s ++ ⟨#[u]⟩) 3 0 s
    have cpq := compare_any 2 a ⟨#[]⟩ 2 b ⟨#[]⟩
    rw [cmpV_swap, e1] at cyx
    rw [e1] at cxy
    rw [cmpV_ints] at cpq
    simp only [Int.neg_neg] at cyx
    clear e1
    generalize s ++ ⟨#[u]⟩ = s' at *
    have h3 : cmpI a b = -1 ∧ a < b ∨ cmpI a b = 0 ∧ a = b ∨ cmpI a b = 1 ∧ b < a := by unfold cmpI; (repeat' split) <;> omega
    have n3 := ((VAt.new w 2 a ⟨#[]⟩).alloc (.cells #[.int .i64 2, .int .i64 b, .string ⟨#[]⟩] 23))
    have n4 := VAt.new (w.alloc (.cells #[.int .i64 2, .int .i64 a, .string ⟨#[]⟩] 23)) 2 b ⟨#[]⟩
    have n1 := (va_g1.alloc (.cells #[.int .i64 2, .int .i64 a, .string ⟨#[]⟩] 23)).alloc (.cells #[.int .i64 2, .int .i64 b, .string ⟨#[]⟩] 23)
    have n2 := (va_g2.alloc (.cells #[.int .i64 2, .int .i64 a, .string ⟨#[]⟩] 23)).alloc (.cells #[.int .i64 2, .int .i64 b, .string ⟨#[]⟩] 23)
    have B1 := (b1.alloc (by simpa using b1.size) (.cells #[.int .i64 2, .int .i64 a, .string ⟨#[]⟩] 23)).alloc (by have := b1.size; simp at this ⊢; omega) (.cells #[.int .i64 2, .int .i64 b, .string ⟨#[]⟩] 23)
    simp only [World.size_alloc] at n4
    obtain ⟨i10, i11, i12, -, -, -, -⟩ := id n1
    obtain ⟨i20, i21, i22, -, -, -, -⟩ := id n2
    obtain ⟨i30, i31, i32, -, -, -, -⟩ := id n3
    obtain ⟨i40, i41, i42, -, -, -, -⟩ := id n4
    clear va_g1 va_g2 b1 m10 m11 m12 m20 m21 m22 m1 m2
    rcases h3 with ⟨h3, h4⟩ | ⟨h3, rfl⟩ | ⟨h3, h4⟩
    all_goals rw [h3] at cpq
    all_goals go_wp2_with fail
    all_goals
      refine (cxy _).mono ?_
      rintro e w3 ⟨rfl, bx3⟩
      have m1 := n1.past bx3
      have m2 := n2.past bx3
      have m3 := n3.past bx3
      have m4 := n4.past bx3
      have B3 := B1.trans (bx3.mono B1.size)
      obtain ⟨ym10, ym11, ym12, -, -, -, -⟩ := id m1
      obtain ⟨ym20, ym21, ym22, -, -, -, -⟩ := id m2
      obtain ⟨ym30, ym31, ym32, -, -, -, -⟩ := id m3
      obtain ⟨ym40, ym41, ym42, -, -, -, -⟩ := id m4
      go_wp2_with fail
      refine (cyx _).mono ?_
      rintro e w4 ⟨rfl, bx4⟩
      have r1 := m1.past bx4
      have r2 := m2.past bx4
      have r3 := m3.past bx4
      have r4 := m4.past bx4
      have B4 := B3.trans (bx4.mono B3.size)
      obtain ⟨yr10, yr11, yr12, -, -, -, -⟩ := id r1
      obtain ⟨yr20, yr21, yr22, -, -, -, -⟩ := id r2
      obtain ⟨yr30, yr31, yr32, -, -, -, -⟩ := id r3
      obtain ⟨yr40, yr41, yr42, -, -, -, -⟩ := id r4
      go_wp2_with fail
      refine (cpq _).mono ?_
      rintro e w5 ⟨rfl, bx5⟩
      have t1 := r1.past bx5
      have t2 := r2.past bx5
      have t3 := r3.past bx5
      have t4 := r4.past bx5
      have B5 := B4.trans (bx5.mono B4.size)
      obtain ⟨yt10, yt11, yt12, -, -, -, -⟩ := id t1
      obtain ⟨yt20, yt21, yt22, -, -, -, -⟩ := id t2
      obtain ⟨yt30, yt31, yt32, -, -, -, -⟩ := id t3
      obtain ⟨yt40, yt41, yt42, -, -, -, -⟩ := id t4
      go_wp2_with fail
      refine (cpq _).mono ?_
      rintro e w6 ⟨rfl, bx6⟩
      have u1 := t1.past bx6
      have u2 := t2.past bx6
      have u3 := t3.past bx6
      have u4 := t4.past bx6
      have B6 := B5.trans (bx6.mono B5.size)
      obtain ⟨yu10, yu11, yu12, -, -, -, -⟩ := id u1
      obtain ⟨yu20, yu21, yu22, -, -, -, -⟩ := id u2
      obtain ⟨yu30, yu31, yu32, -, -, -, -⟩ := id u3
      obtain ⟨yu40, yu41, yu42, -, -, -, -⟩ := id u4
      go_wp2_with fail
      go_ret
      refine ⟨ret_bool ?_, B6⟩
      first | rfl | (simp; omega) | (simp; done)
end Go.Proofs.Ytgjjpejimpiikaa
