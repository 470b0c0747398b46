/-
  ValueOrder, walked (by gen_ord.py).
-/
import Derived.Test.YtgjjpejimpiikaaVAt
import Derived.Test.YtgjjpejimpiikaaInv
import Derived.Deep.RegionHeld3
namespace Go.Proofs.Ytgjjpejimpiikaa
open Go.RowKit
/-- What stands while the region's operations come up: which have (b), what their slots hold (x), what the world holds. -/
inductive Ord5 (k1 : Int) (k2 : Int) (k3 : Int) (n1 : Int) (n2 : Int) (n3 : Int) (s1 : ByteArray) (s2 : ByteArray) (s3 : ByteArray) (a0 : Act) (w0 : World) (L : Array Bool) (a : Act) (w : World) : Prop
  | mk (b0 b1 b2 b3 b4 b5 b6 b7 b8 b9 b10 b11 : Bool) (x28 x29 x30 x31 x32 x33 x7 x8 x9 : Value) (K1 : Int) (N1 : Int) (S1 : ByteArray) (K2 : Int) (N2 : Int) (S2 : ByteArray) (K3 : Int) (N3 : Int) (S3 : ByteArray) (g1 : Nat) (g2 : Nat) (g3 : Nat) (hL : L = #[b0, b1, b2, b3, b4, b5, b6, b7, b8, b9, b10, b11]) (ha : a = ⟨(((((((((a0.tmps.setIfInBounds 28 x28).setIfInBounds 29 x29).setIfInBounds 30 x30).setIfInBounds 31 x31).setIfInBounds 32 x32).setIfInBounds 33 x33).setIfInBounds 7 x7).setIfInBounds 8 x8).setIfInBounds 9 x9), a0.defers⟩) (hb : Below w0.heap.size w0 w) (c0 : (b0 = true → x28 = vv k1 n1 s1)) (c1 : (b1 = true → x29 = vv K1 N1 S1)) (c2 : (b2 = true → x30 = vv k2 n2 s2)) (c3 : (b3 = true → x31 = vv K2 N2 S2)) (c4 : (b4 = true → x32 = vv k3 n3 s3)) (c5 : (b5 = true → x33 = vv K3 N3 S3)) (c6 : (b6 = true → x7 = .pointer (some ⟨g1, 0, none⟩))) (c7 : (b7 = true → x8 = .pointer (some ⟨g2, 0, none⟩))) (c8 : (b8 = true → x9 = .pointer (some ⟨g3, 0, none⟩))) (v_g1 : (b6 = true → w0.heap.size ≤ g1 ∧ VAt w g1 (bif b9 then K1 else 0) (bif b9 then N1 else 0) (bif b9 then S1 else ⟨#[]⟩))) (v_g2 : (b7 = true → w0.heap.size ≤ g2 ∧ VAt w g2 (bif b10 then K2 else 0) (bif b10 then N2 else 0) (bif b10 then S2 else ⟨#[]⟩))) (v_g3 : (b8 = true → w0.heap.size ≤ g3 ∧ VAt w g3 (bif b11 then K3 else 0) (bif b11 then N3 else 0) (bif b11 then S3 else ⟨#[]⟩))) (s_g1 : b9 = true → b6 = true) (s_g2 : b10 = true → b7 = true) (s_g3 : b11 = true → b8 = true) (r_g1 : b9 = true → b1 = true) (r_g2 : b10 = true → b3 = true) (r_g3 : b11 = true → b5 = true) (p_g1_g2 : b6 = true → b7 = true → g1 ≠ g2) (p_g1_g3 : b6 = true → b8 = true → g1 ≠ g3) (p_g2_g3 : b7 = true → b8 = true → g2 ≠ g3) : Ord5 k1 k2 k3 n1 n2 n3 s1 s2 s3 a0 w0 L a w
/-- What stands while the region's operations come up: which have (b), what their slots hold (x), what the world holds. -/
inductive Ord6 (K1 : Int) (N1 : Int) (S1 : ByteArray) (g1 : Nat) (K2 : Int) (N2 : Int) (S2 : ByteArray) (g2 : Nat) (K3 : Int) (N3 : Int) (S3 : ByteArray) (g3 : Nat) (p : Int) (q : Int) (r : Int) (a0 : Act) (w0 : World) (L : Array Bool) (a : Act) (w : World) : Prop
  | mk (b0 b1 b2 b3 b4 b5 b6 b7 b8 b9 b10 b11 : Bool) (x34 x35 x36 x37 x38 x39 x40 x41 x42 x10 x11 x12 : Value) (hL : L = #[b0, b1, b2, b3, b4, b5, b6, b7, b8, b9, b10, b11]) (ha : a = ⟨((((((((((((a0.tmps.setIfInBounds 34 x34).setIfInBounds 35 x35).setIfInBounds 36 x36).setIfInBounds 37 x37).setIfInBounds 38 x38).setIfInBounds 39 x39).setIfInBounds 40 x40).setIfInBounds 41 x41).setIfInBounds 42 x42).setIfInBounds 10 x10).setIfInBounds 11 x11).setIfInBounds 12 x12), a0.defers⟩) (hb : Below w0.heap.size w0 w) (c0 : (b0 = true → x34 = vv K1 N1 S1)) (c1 : (b1 = true → x35 = vv K2 N2 S2)) (c2 : (b2 = true → x36 = .int .i64 p)) (c3 : (b3 = true → x37 = vv K2 N2 S2)) (c4 : (b4 = true → x38 = vv K3 N3 S3)) (c5 : (b5 = true → x39 = .int .i64 q)) (c6 : (b6 = true → x40 = vv K1 N1 S1)) (c7 : (b7 = true → x41 = vv K3 N3 S3)) (c8 : (b8 = true → x42 = .int .i64 r)) (c9 : (b9 = true → x10 = .int .i64 p)) (c10 : (b10 = true → x11 = .int .i64 q)) (c11 : (b11 = true → x12 = .int .i64 r)) : Ord6 K1 N1 S1 g1 K2 N2 S2 g2 K3 N3 S3 g3 p q r a0 w0 L a w
set_option linter.unusedSimpArgs false
set_option maxRecDepth 100000 in
set_option maxHeartbeats 8000000 in
theorem valueOrder_walk (k1 n1 : Int) (s1 : ByteArray) (k2 n2 : Int) (s2 : ByteArray) (k3 n3 : Int) (s3 : ByteArray) (w : World) (_ : (Lit.int .i64 k1).wf = true) (_ : (Lit.int .i64 n1).wf = true) (_ : s1.size ≤ maxLen) (_ : (Lit.int .i64 k2).wf = true) (_ : (Lit.int .i64 n2).wf = true) (_ : s2.size ≤ maxLen) (_ : (Lit.int .i64 k3).wf = true) (_ : (Lit.int .i64 n3).wf = true) (_ : s3.size ≤ maxLen) :
    Calls Try.prog 3 #[vv k1 n1 s1, vv k2 n2 s2, vv k3 n3 s3] w (Told w true) := by
  rename_i h1 h2 h3 h4 h5 h6 h7 h8 h9
  clear h1 h2 h3 h4 h5 h6 h7 h8 h9
  have b0 : Below w.heap.size w (((w.alloc (.cells #[.int .i64 k1, .int .i64 n1, .string s1] 23)).alloc (.cells #[.int .i64 k2, .int .i64 n2, .string s2] 23)).alloc (.cells #[.int .i64 k3, .int .i64 n3, .string s3] 23)) := (((Below.refl _ _).alloc (Nat.le_refl _) _).alloc (by simp) _).alloc (by simp <;> omega) _
  have t1 := ((VAt.new w k1 n1 s1).alloc (.cells #[.int .i64 k2, .int .i64 n2, .string s2] 23)).alloc (.cells #[.int .i64 k3, .int .i64 n3, .string s3] 23)
  have t2 := (VAt.new (w.alloc (.cells #[.int .i64 k1, .int .i64 n1, .string s1] 23)) k2 n2 s2).alloc (.cells #[.int .i64 k3, .int .i64 n3, .string s3] 23)
  have t3 := VAt.new ((w.alloc (.cells #[.int .i64 k1, .int .i64 n1, .string s1] 23)).alloc (.cells #[.int .i64 k2, .int .i64 n2, .string s2] 23)) k3 n3 s3
  simp only [World.size_alloc] at t2 t3
  go_enter Try.func3, Try.ntmps3
  go_wp2_with fail
  generalize (((w.alloc (.cells #[.int .i64 k1, .int .i64 n1, .string s1] 23)).alloc (.cells #[.int .i64 k2, .int .i64 n2, .string s2] 23)).alloc (.cells #[.int .i64 k3, .int .i64 n3, .string s3] 23)) = wa at b0 t1 t2 t3 ⊢
  refine (known4 _).mono ?_
  rintro e w1 ⟨rfl, b1⟩
  replace t1 := t1.past b1
  replace t2 := t2.past b1
  replace t3 := t3.past b1
  replace b1 := b0.trans (b1.mono b0.size)
  clear b0
  obtain ⟨l10, l11, l12, -, -, -, l1⟩ := id t1
  obtain ⟨l20, l21, l22, -, -, -, l2⟩ := id t2
  obtain ⟨l30, l31, l32, -, -, -, l3⟩ := id t3
  have few : ∀ (b : Bool) (k n : Int) (s : ByteArray) (w : World), decide ((s.size : Int) ≤ 80) = b → Calls Try.prog 8 #[vv k n s] w fun e w' => e = .returned (.bool b) ∧ Below w.heap.size w w' := fun b k n s w h => by rw [← h]; exact few_any k n s w
  cases q1 : decide ((s1.size : Int) ≤ 80)
  · go_wp2_with (go_at_call 8; refine (few false _ _ s1 _ q1).mono ?_; rintro e w2 ⟨rfl, b2⟩)
    go_ret
    exact ⟨rfl, b1.trans (b2.mono b1.size)⟩
  go_wp2_with fail
  refine (few true _ _ s1 _ q1).mono ?_
  rintro e w2 ⟨rfl, b2⟩
  replace t1 := t1.past b2
  replace t2 := t2.past b2
  replace t3 := t3.past b2
  replace b1 := b1.trans (b2.mono b1.size)
  clear b2
  clear l10 l11 l12 l20 l21 l22 l30 l31 l32 l1 l2 l3
  obtain ⟨l10, l11, l12, -, -, -, l1⟩ := id t1
  obtain ⟨l20, l21, l22, -, -, -, l2⟩ := id t2
  obtain ⟨l30, l31, l32, -, -, -, l3⟩ := id t3
  cases q2 : decide ((s2.size : Int) ≤ 80)
  · go_wp2_with (go_at_call 8; refine (few false _ _ s2 _ q2).mono ?_; rintro e w3 ⟨rfl, b3⟩)
    go_ret
    exact ⟨rfl, b1.trans (b3.mono b1.size)⟩
  go_wp2_with fail
  refine (few true _ _ s2 _ q2).mono ?_
  rintro e w3 ⟨rfl, b3⟩
  replace t1 := t1.past b3
  replace t2 := t2.past b3
  replace t3 := t3.past b3
  replace b1 := b1.trans (b3.mono b1.size)
  clear b3
  clear l10 l11 l12 l20 l21 l22 l30 l31 l32 l1 l2 l3
  obtain ⟨l10, l11, l12, -, -, -, l1⟩ := id t1
  obtain ⟨l20, l21, l22, -, -, -, l2⟩ := id t2
  obtain ⟨l30, l31, l32, -, -, -, l3⟩ := id t3
  cases q3 : decide ((s3.size : Int) ≤ 80)
  · go_wp2_with (go_at_call 8; refine (few false _ _ s3 _ q3).mono ?_; rintro e w4 ⟨rfl, b4⟩)
    go_ret
    exact ⟨rfl, b1.trans (b4.mono b1.size)⟩
  go_wp2_with fail
  refine (few true _ _ s3 _ q3).mono ?_
  rintro e w4 ⟨rfl, b4⟩
  replace t1 := t1.past b4
  replace t2 := t2.past b4
  replace t3 := t3.past b4
  replace b1 := b1.trans (b4.mono b1.size)
  clear b4
  clear l10 l11 l12 l20 l21 l22 l30 l31 l32 l1 l2 l3
  obtain ⟨l10, l11, l12, -, -, -, l1⟩ := id t1
  obtain ⟨l20, l21, l22, -, -, -, l2⟩ := id t2
  obtain ⟨l30, l31, l32, -, -, -, l3⟩ := id t3
  clear few q1 q2 q3
  clear l10 l11 l12 l20 l21 l22 l30 l31 l32 l1 l2 l3
  go_wp2_with fail
  replace t1 := t1.drew
  replace t2 := t2.drew
  replace t3 := t3.drew
  replace b1 := b1.drew
  refine region_inv (Ord5 k1 k2 k3 n1 n2 n3 s1 s2 s3) (by kernel_rfl) (by kernel_rfl) ?_ ?_ ?_
  · exact ⟨false, false, false, false, false, false, false, false, false, false, false, false, undef, undef, undef, undef, undef, undef, undef, undef, undef, 0, 0, ⟨#[]⟩, 0, 0, ⟨#[]⟩, 0, 0, ⟨#[]⟩, 0, 0, 0, rfl, (by simp only [List.setIfInBounds_toArray, List.set_cons_zero, List.set_cons_succ]), Below.refl _ _, (fun h => by cases h), (fun h => by cases h), (fun h => by cases h), (fun h => by cases h), (fun h => by cases h), (fun h => by cases h), (fun h => by cases h), (fun h => by cases h), (fun h => by cases h), (fun h => by cases h), (fun h => by cases h), (fun h => by cases h), (fun h => by cases h), (fun h => by cases h), (fun h => by cases h), (fun h => by cases h), (fun h => by cases h), (fun h => by cases h), (fun h => by cases h), (fun h => by cases h), (fun h => by cases h)⟩
  · refine ⟨?_, ?_, ?_, ?_, ?_, ?_, ?_, ?_, ?_, ?_, ?_, ?_, trivial⟩
    · rintro L a w ⟨b0, b1, b2, b3, b4, b5, b6, b7, b8, b9, b10, b11, x28, x29, x30, x31, x32, x33, x7, x8, x9, K1, N1, S1, K2, N2, S2, K3, N3, S3, g1, g2, g3, rfl, rfl, hb, c0, c1, c2, c3, c4, c5, c6, c7, c8, v_g1, v_g2, v_g3, s_g1, s_g2, s_g3, r_g1, r_g2, r_g3, p_g1_g2, p_g1_g3, p_g2_g3⟩ hf hd K hK
      have hf' : b0 = false := hf
      subst hf'
      clear hf hd
      try simp only [List.setIfInBounds_toArray, List.set_cons_zero, List.set_cons_succ]
      have z := t1.past hb
      obtain ⟨z0, z1, z2, -, -, -, -⟩ := z
      rw [if_pos (by rfl)]
      go_simp
      exact hK.out _ _ ⟨true, b1, b2, b3, b4, b5, b6, b7, b8, b9, b10, b11, (vv k1 n1 s1), x29, x30, x31, x32, x33, x7, x8, x9, K1, N1, S1, K2, N2, S2, K3, N3, S3, g1, g2, g3, (by simp only [List.setIfInBounds_toArray, List.set_cons_zero, List.set_cons_succ]), (by simp only [List.setIfInBounds_toArray, List.set_cons_zero, List.set_cons_succ]), hb, (fun _ => rfl), c1, c2, c3, c4, c5, c6, c7, c8, v_g1, v_g2, v_g3, s_g1, s_g2, s_g3, r_g1, r_g2, r_g3, p_g1_g2, p_g1_g3, p_g2_g3⟩
    · rintro L a w ⟨b0, b1, b2, b3, b4, b5, b6, b7, b8, b9, b10, b11, x28, x29, x30, x31, x32, x33, x7, x8, x9, K1, N1, S1, K2, N2, S2, K3, N3, S3, g1, g2, g3, rfl, rfl, hb, c0, c1, c2, c3, c4, c5, c6, c7, c8, v_g1, v_g2, v_g3, s_g1, s_g2, s_g3, r_g1, r_g2, r_g3, p_g1_g2, p_g1_g3, p_g2_g3⟩ hf hd K hK
      have hf' : b1 = false := hf
      subst hf'
      have d0 : b0 = true := hd ⟨0, .data⟩ (by simp) rfl
      subst d0
      obtain rfl := c0 rfl
      clear hf hd
      try simp only [List.setIfInBounds_toArray, List.set_cons_zero, List.set_cons_succ]
      rw [if_pos (by rfl)]
      go_simp
      go_at_call 9
      refine (good_any _ _ _ _).mono ?_
      rintro e w2 ⟨k, n, s, -, -, -, rfl, bx⟩
      have e_g1 : b9 = false := by cases hq : b9 with | false => rfl | true => exact absurd (r_g1 hq) (by simp)
      subst e_g1
      exact hK.out _ _ ⟨true, true, b2, b3, b4, b5, b6, b7, b8, false, b10, b11, vv k1 n1 s1, (vv k n s), x30, x31, x32, x33, x7, x8, x9, k, n, s, K2, N2, S2, K3, N3, S3, g1, g2, g3, (by simp only [List.setIfInBounds_toArray, List.set_cons_zero, List.set_cons_succ]), (by simp only [List.setIfInBounds_toArray, List.set_cons_zero, List.set_cons_succ]), hb.trans (bx.mono hb.size), (fun _ => rfl), (fun _ => rfl), c2, c3, c4, c5, c6, c7, c8, (fun h => ⟨(v_g1 h).1, (v_g1 h).2.past bx⟩), (fun h => ⟨(v_g2 h).1, (v_g2 h).2.past bx⟩), (fun h => ⟨(v_g3 h).1, (v_g3 h).2.past bx⟩), s_g1, s_g2, s_g3, (fun _ => rfl), r_g2, r_g3, p_g1_g2, p_g1_g3, p_g2_g3⟩
    · rintro L a w ⟨b0, b1, b2, b3, b4, b5, b6, b7, b8, b9, b10, b11, x28, x29, x30, x31, x32, x33, x7, x8, x9, K1, N1, S1, K2, N2, S2, K3, N3, S3, g1, g2, g3, rfl, rfl, hb, c0, c1, c2, c3, c4, c5, c6, c7, c8, v_g1, v_g2, v_g3, s_g1, s_g2, s_g3, r_g1, r_g2, r_g3, p_g1_g2, p_g1_g3, p_g2_g3⟩ hf hd K hK
      have hf' : b2 = false := hf
      subst hf'
      clear hf hd
      try simp only [List.setIfInBounds_toArray, List.set_cons_zero, List.set_cons_succ]
      have z := t2.past hb
      obtain ⟨z0, z1, z2, -, -, -, -⟩ := z
      rw [if_pos (by rfl)]
      go_simp
      exact hK.out _ _ ⟨b0, b1, true, b3, b4, b5, b6, b7, b8, b9, b10, b11, x28, x29, (vv k2 n2 s2), x31, x32, x33, x7, x8, x9, K1, N1, S1, K2, N2, S2, K3, N3, S3, g1, g2, g3, (by simp only [List.setIfInBounds_toArray, List.set_cons_zero, List.set_cons_succ]), (by simp only [List.setIfInBounds_toArray, List.set_cons_zero, List.set_cons_succ]), hb, c0, c1, (fun _ => rfl), c3, c4, c5, c6, c7, c8, v_g1, v_g2, v_g3, s_g1, s_g2, s_g3, r_g1, r_g2, r_g3, p_g1_g2, p_g1_g3, p_g2_g3⟩
    · rintro L a w ⟨b0, b1, b2, b3, b4, b5, b6, b7, b8, b9, b10, b11, x28, x29, x30, x31, x32, x33, x7, x8, x9, K1, N1, S1, K2, N2, S2, K3, N3, S3, g1, g2, g3, rfl, rfl, hb, c0, c1, c2, c3, c4, c5, c6, c7, c8, v_g1, v_g2, v_g3, s_g1, s_g2, s_g3, r_g1, r_g2, r_g3, p_g1_g2, p_g1_g3, p_g2_g3⟩ hf hd K hK
      have hf' : b3 = false := hf
      subst hf'
      have d2 : b2 = true := hd ⟨2, .data⟩ (by simp) rfl
      subst d2
      have d1 : b1 = true := hd ⟨1, .chain⟩ (by simp) rfl
      subst d1
      obtain rfl := c2 rfl
      obtain rfl := c1 rfl
      clear hf hd
      try simp only [List.setIfInBounds_toArray, List.set_cons_zero, List.set_cons_succ]
      rw [if_pos (by rfl)]
      go_simp
      go_at_call 9
      refine (good_any _ _ _ _).mono ?_
      rintro e w2 ⟨k, n, s, -, -, -, rfl, bx⟩
      have e_g2 : b10 = false := by cases hq : b10 with | false => rfl | true => exact absurd (r_g2 hq) (by simp)
      subst e_g2
      exact hK.out _ _ ⟨b0, true, true, true, b4, b5, b6, b7, b8, b9, false, b11, x28, vv K1 N1 S1, vv k2 n2 s2, (vv k n s), x32, x33, x7, x8, x9, K1, N1, S1, k, n, s, K3, N3, S3, g1, g2, g3, (by simp only [List.setIfInBounds_toArray, List.set_cons_zero, List.set_cons_succ]), (by simp only [List.setIfInBounds_toArray, List.set_cons_zero, List.set_cons_succ]), hb.trans (bx.mono hb.size), c0, (fun _ => rfl), (fun _ => rfl), (fun _ => rfl), c4, c5, c6, c7, c8, (fun h => ⟨(v_g1 h).1, (v_g1 h).2.past bx⟩), (fun h => ⟨(v_g2 h).1, (v_g2 h).2.past bx⟩), (fun h => ⟨(v_g3 h).1, (v_g3 h).2.past bx⟩), s_g1, s_g2, s_g3, (fun _ => rfl), (fun _ => rfl), r_g3, p_g1_g2, p_g1_g3, p_g2_g3⟩
    · rintro L a w ⟨b0, b1, b2, b3, b4, b5, b6, b7, b8, b9, b10, b11, x28, x29, x30, x31, x32, x33, x7, x8, x9, K1, N1, S1, K2, N2, S2, K3, N3, S3, g1, g2, g3, rfl, rfl, hb, c0, c1, c2, c3, c4, c5, c6, c7, c8, v_g1, v_g2, v_g3, s_g1, s_g2, s_g3, r_g1, r_g2, r_g3, p_g1_g2, p_g1_g3, p_g2_g3⟩ hf hd K hK
      have hf' : b4 = false := hf
      subst hf'
      clear hf hd
      try simp only [List.setIfInBounds_toArray, List.set_cons_zero, List.set_cons_succ]
      have z := t3.past hb
      obtain ⟨z0, z1, z2, -, -, -, -⟩ := z
      rw [if_pos (by rfl)]
      go_simp
      exact hK.out _ _ ⟨b0, b1, b2, b3, true, b5, b6, b7, b8, b9, b10, b11, x28, x29, x30, x31, (vv k3 n3 s3), x33, x7, x8, x9, K1, N1, S1, K2, N2, S2, K3, N3, S3, g1, g2, g3, (by simp only [List.setIfInBounds_toArray, List.set_cons_zero, List.set_cons_succ]), (by simp only [List.setIfInBounds_toArray, List.set_cons_zero, List.set_cons_succ]), hb, c0, c1, c2, c3, (fun _ => rfl), c5, c6, c7, c8, v_g1, v_g2, v_g3, s_g1, s_g2, s_g3, r_g1, r_g2, r_g3, p_g1_g2, p_g1_g3, p_g2_g3⟩
    · rintro L a w ⟨b0, b1, b2, b3, b4, b5, b6, b7, b8, b9, b10, b11, x28, x29, x30, x31, x32, x33, x7, x8, x9, K1, N1, S1, K2, N2, S2, K3, N3, S3, g1, g2, g3, rfl, rfl, hb, c0, c1, c2, c3, c4, c5, c6, c7, c8, v_g1, v_g2, v_g3, s_g1, s_g2, s_g3, r_g1, r_g2, r_g3, p_g1_g2, p_g1_g3, p_g2_g3⟩ hf hd K hK
      have hf' : b5 = false := hf
      subst hf'
      have d4 : b4 = true := hd ⟨4, .data⟩ (by simp) rfl
      subst d4
      have d3 : b3 = true := hd ⟨3, .chain⟩ (by simp) rfl
      subst d3
      obtain rfl := c4 rfl
      obtain rfl := c3 rfl
      clear hf hd
      try simp only [List.setIfInBounds_toArray, List.set_cons_zero, List.set_cons_succ]
      rw [if_pos (by rfl)]
      go_simp
      go_at_call 9
      refine (good_any _ _ _ _).mono ?_
      rintro e w2 ⟨k, n, s, -, -, -, rfl, bx⟩
      have e_g3 : b11 = false := by cases hq : b11 with | false => rfl | true => exact absurd (r_g3 hq) (by simp)
      subst e_g3
      exact hK.out _ _ ⟨b0, b1, b2, true, true, true, b6, b7, b8, b9, b10, false, x28, x29, x30, vv K2 N2 S2, vv k3 n3 s3, (vv k n s), x7, x8, x9, K1, N1, S1, K2, N2, S2, k, n, s, g1, g2, g3, (by simp only [List.setIfInBounds_toArray, List.set_cons_zero, List.set_cons_succ]), (by simp only [List.setIfInBounds_toArray, List.set_cons_zero, List.set_cons_succ]), hb.trans (bx.mono hb.size), c0, c1, c2, (fun _ => rfl), (fun _ => rfl), (fun _ => rfl), c6, c7, c8, (fun h => ⟨(v_g1 h).1, (v_g1 h).2.past bx⟩), (fun h => ⟨(v_g2 h).1, (v_g2 h).2.past bx⟩), (fun h => ⟨(v_g3 h).1, (v_g3 h).2.past bx⟩), s_g1, s_g2, s_g3, r_g1, (fun _ => rfl), (fun _ => rfl), p_g1_g2, p_g1_g3, p_g2_g3⟩
    · rintro L a w ⟨b0, b1, b2, b3, b4, b5, b6, b7, b8, b9, b10, b11, x28, x29, x30, x31, x32, x33, x7, x8, x9, K1, N1, S1, K2, N2, S2, K3, N3, S3, g1, g2, g3, rfl, rfl, hb, c0, c1, c2, c3, c4, c5, c6, c7, c8, v_g1, v_g2, v_g3, s_g1, s_g2, s_g3, r_g1, r_g2, r_g3, p_g1_g2, p_g1_g3, p_g2_g3⟩ hf hd K hK
      have hf' : b6 = false := hf
      subst hf'
      clear hf hd
      try simp only [List.setIfInBounds_toArray, List.set_cons_zero, List.set_cons_succ]
      rw [if_pos (by rfl)]
      go_simp
      have bx : Below w.heap.size w (w.alloc (.cells #[.int .i64 0, .int .i64 0, .string ⟨#[]⟩] 23)) := (Below.refl _ _).alloc (Nat.le_refl _) _
      exact hK.out _ _ ⟨b0, b1, b2, b3, b4, b5, true, b7, b8, b9, b10, b11, x28, x29, x30, x31, x32, x33, (.pointer (some ⟨(w.heap.size), 0, none⟩)), x8, x9, K1, N1, S1, K2, N2, S2, K3, N3, S3, w.heap.size, g2, g3, (by simp only [List.setIfInBounds_toArray, List.set_cons_zero, List.set_cons_succ]), (by simp only [List.setIfInBounds_toArray, List.set_cons_zero, List.set_cons_succ]), hb.trans (bx.mono hb.size), c0, c1, c2, c3, c4, c5, (fun _ => rfl), c7, c8, (fun _ => ⟨hb.size, by cases hq : b9 with | false => exact VAt.new w 0 0 ⟨#[]⟩ | true => exact absurd (s_g1 hq) (by simp)⟩), (fun h => ⟨(v_g2 h).1, (v_g2 h).2.past bx⟩), (fun h => ⟨(v_g3 h).1, (v_g3 h).2.past bx⟩), (fun _ => rfl), s_g2, s_g3, r_g1, r_g2, r_g3, (fun _ h => Nat.ne_of_gt (v_g2 h).2.lt), (fun _ h => Nat.ne_of_gt (v_g3 h).2.lt), p_g2_g3⟩
    · rintro L a w ⟨b0, b1, b2, b3, b4, b5, b6, b7, b8, b9, b10, b11, x28, x29, x30, x31, x32, x33, x7, x8, x9, K1, N1, S1, K2, N2, S2, K3, N3, S3, g1, g2, g3, rfl, rfl, hb, c0, c1, c2, c3, c4, c5, c6, c7, c8, v_g1, v_g2, v_g3, s_g1, s_g2, s_g3, r_g1, r_g2, r_g3, p_g1_g2, p_g1_g3, p_g2_g3⟩ hf hd K hK
      have hf' : b7 = false := hf
      subst hf'
      clear hf hd
      try simp only [List.setIfInBounds_toArray, List.set_cons_zero, List.set_cons_succ]
      rw [if_pos (by rfl)]
      go_simp
      have bx : Below w.heap.size w (w.alloc (.cells #[.int .i64 0, .int .i64 0, .string ⟨#[]⟩] 23)) := (Below.refl _ _).alloc (Nat.le_refl _) _
      exact hK.out _ _ ⟨b0, b1, b2, b3, b4, b5, b6, true, b8, b9, b10, b11, x28, x29, x30, x31, x32, x33, x7, (.pointer (some ⟨(w.heap.size), 0, none⟩)), x9, K1, N1, S1, K2, N2, S2, K3, N3, S3, g1, w.heap.size, g3, (by simp only [List.setIfInBounds_toArray, List.set_cons_zero, List.set_cons_succ]), (by simp only [List.setIfInBounds_toArray, List.set_cons_zero, List.set_cons_succ]), hb.trans (bx.mono hb.size), c0, c1, c2, c3, c4, c5, c6, (fun _ => rfl), c8, (fun h => ⟨(v_g1 h).1, (v_g1 h).2.past bx⟩), (fun _ => ⟨hb.size, by cases hq : b10 with | false => exact VAt.new w 0 0 ⟨#[]⟩ | true => exact absurd (s_g2 hq) (by simp)⟩), (fun h => ⟨(v_g3 h).1, (v_g3 h).2.past bx⟩), s_g1, (fun _ => rfl), s_g3, r_g1, r_g2, r_g3, (fun h _ => Nat.ne_of_lt (v_g1 h).2.lt), p_g1_g3, (fun _ h => Nat.ne_of_gt (v_g3 h).2.lt)⟩
    · rintro L a w ⟨b0, b1, b2, b3, b4, b5, b6, b7, b8, b9, b10, b11, x28, x29, x30, x31, x32, x33, x7, x8, x9, K1, N1, S1, K2, N2, S2, K3, N3, S3, g1, g2, g3, rfl, rfl, hb, c0, c1, c2, c3, c4, c5, c6, c7, c8, v_g1, v_g2, v_g3, s_g1, s_g2, s_g3, r_g1, r_g2, r_g3, p_g1_g2, p_g1_g3, p_g2_g3⟩ hf hd K hK
      have hf' : b8 = false := hf
      subst hf'
      clear hf hd
      try simp only [List.setIfInBounds_toArray, List.set_cons_zero, List.set_cons_succ]
      rw [if_pos (by rfl)]
      go_simp
      have bx : Below w.heap.size w (w.alloc (.cells #[.int .i64 0, .int .i64 0, .string ⟨#[]⟩] 23)) := (Below.refl _ _).alloc (Nat.le_refl _) _
      exact hK.out _ _ ⟨b0, b1, b2, b3, b4, b5, b6, b7, true, b9, b10, b11, x28, x29, x30, x31, x32, x33, x7, x8, (.pointer (some ⟨(w.heap.size), 0, none⟩)), K1, N1, S1, K2, N2, S2, K3, N3, S3, g1, g2, w.heap.size, (by simp only [List.setIfInBounds_toArray, List.set_cons_zero, List.set_cons_succ]), (by simp only [List.setIfInBounds_toArray, List.set_cons_zero, List.set_cons_succ]), hb.trans (bx.mono hb.size), c0, c1, c2, c3, c4, c5, c6, c7, (fun _ => rfl), (fun h => ⟨(v_g1 h).1, (v_g1 h).2.past bx⟩), (fun h => ⟨(v_g2 h).1, (v_g2 h).2.past bx⟩), (fun _ => ⟨hb.size, by cases hq : b11 with | false => exact VAt.new w 0 0 ⟨#[]⟩ | true => exact absurd (s_g3 hq) (by simp)⟩), s_g1, s_g2, (fun _ => rfl), r_g1, r_g2, r_g3, p_g1_g2, (fun h _ => Nat.ne_of_lt (v_g1 h).2.lt), (fun h _ => Nat.ne_of_lt (v_g2 h).2.lt)⟩
    · rintro L a w ⟨b0, b1, b2, b3, b4, b5, b6, b7, b8, b9, b10, b11, x28, x29, x30, x31, x32, x33, x7, x8, x9, K1, N1, S1, K2, N2, S2, K3, N3, S3, g1, g2, g3, rfl, rfl, hb, c0, c1, c2, c3, c4, c5, c6, c7, c8, v_g1, v_g2, v_g3, s_g1, s_g2, s_g3, r_g1, r_g2, r_g3, p_g1_g2, p_g1_g3, p_g2_g3⟩ hf hd K hK
      have hf' : b9 = false := hf
      subst hf'
      have d6 : b6 = true := hd ⟨6, .data⟩ (by simp) rfl
      subst d6
      have d1 : b1 = true := hd ⟨1, .data⟩ (by simp) rfl
      subst d1
      have d5 : b5 = true := hd ⟨5, .chain⟩ (by simp) rfl
      subst d5
      have d0 : b0 = true := hd ⟨0, .phase⟩ (by simp) rfl
      subst d0
      have d7 : b7 = true := hd ⟨7, .phase⟩ (by simp) rfl
      subst d7
      have d8 : b8 = true := hd ⟨8, .phase⟩ (by simp) rfl
      subst d8
      obtain rfl := c6 rfl
      obtain rfl := c1 rfl
      obtain rfl := c5 rfl
      obtain rfl := c0 rfl
      obtain rfl := c7 rfl
      obtain rfl := c8 rfl
      clear hf hd
      try simp only [List.setIfInBounds_toArray, List.set_cons_zero, List.set_cons_succ]
      obtain ⟨vg, va⟩ := v_g1 rfl
      simp only [cond_false] at va
      obtain ⟨z0, z1, z2, y0, y1, y2, vl⟩ := id va
      rw [if_pos (by rfl)]
      go_simp
      have NE_g1_g2 : true = true → g1 ≠ g2 := fun h => p_g1_g2 rfl h
      have NE_g1_g3 : true = true → g1 ≠ g3 := fun h => p_g1_g3 rfl h
      exact hK.out _ _ ⟨true, true, b2, b3, b4, true, true, true, true, true, b10, b11, vv k1 n1 s1, vv K1 N1 S1, x30, x31, x32, vv K3 N3 S3, .pointer (some ⟨g1, 0, none⟩), .pointer (some ⟨g2, 0, none⟩), .pointer (some ⟨g3, 0, none⟩), K1, N1, S1, K2, N2, S2, K3, N3, S3, g1, g2, g3, (by simp only [List.setIfInBounds_toArray, List.set_cons_zero, List.set_cons_succ]), (by simp only [List.setIfInBounds_toArray, List.set_cons_zero, List.set_cons_succ]), ((hb.setCell (p := ⟨g1, 0, none⟩) vg _).setCell (p := ⟨g1, 1, none⟩) vg _).setCell (p := ⟨g1, 2, none⟩) vg _, (fun _ => rfl), (fun _ => rfl), c2, c3, c4, (fun _ => rfl), (fun _ => rfl), (fun _ => rfl), (fun _ => rfl), (fun _ => ⟨vg, va.set _ _ _⟩), (fun h => ⟨(v_g2 h).1, (((v_g2 h).2.far (NE_g1_g2 h) 0 _).far (NE_g1_g2 h) 1 _).far (NE_g1_g2 h) 2 _⟩), (fun h => ⟨(v_g3 h).1, (((v_g3 h).2.far (NE_g1_g3 h) 0 _).far (NE_g1_g3 h) 1 _).far (NE_g1_g3 h) 2 _⟩), (fun _ => rfl), (fun _ => rfl), (fun _ => rfl), (fun _ => rfl), r_g2, (fun _ => rfl), p_g1_g2, p_g1_g3, p_g2_g3⟩
    · rintro L a w ⟨b0, b1, b2, b3, b4, b5, b6, b7, b8, b9, b10, b11, x28, x29, x30, x31, x32, x33, x7, x8, x9, K1, N1, S1, K2, N2, S2, K3, N3, S3, g1, g2, g3, rfl, rfl, hb, c0, c1, c2, c3, c4, c5, c6, c7, c8, v_g1, v_g2, v_g3, s_g1, s_g2, s_g3, r_g1, r_g2, r_g3, p_g1_g2, p_g1_g3, p_g2_g3⟩ hf hd K hK
      have hf' : b10 = false := hf
      subst hf'
      have d7 : b7 = true := hd ⟨7, .data⟩ (by simp) rfl
      subst d7
      have d3 : b3 = true := hd ⟨3, .data⟩ (by simp) rfl
      subst d3
      have d9 : b9 = true := hd ⟨9, .chain⟩ (by simp) rfl
      subst d9
      have d0 : b0 = true := hd ⟨0, .phase⟩ (by simp) rfl
      subst d0
      have d1 : b1 = true := hd ⟨1, .phase⟩ (by simp) rfl
      subst d1
      have d2 : b2 = true := hd ⟨2, .phase⟩ (by simp) rfl
      subst d2
      have d6 : b6 = true := hd ⟨6, .phase⟩ (by simp) rfl
      subst d6
      have d8 : b8 = true := hd ⟨8, .phase⟩ (by simp) rfl
      subst d8
      obtain rfl := c7 rfl
      obtain rfl := c3 rfl
      obtain rfl := c0 rfl
      obtain rfl := c1 rfl
      obtain rfl := c2 rfl
      obtain rfl := c6 rfl
      obtain rfl := c8 rfl
      clear hf hd
      try simp only [List.setIfInBounds_toArray, List.set_cons_zero, List.set_cons_succ]
      obtain ⟨vg, va⟩ := v_g2 rfl
      simp only [cond_false] at va
      obtain ⟨z0, z1, z2, y0, y1, y2, vl⟩ := id va
      rw [if_pos (by rfl)]
      go_simp
      have NE_g2_g1 : true = true → g2 ≠ g1 := fun h => (p_g1_g2 h rfl).symm
      have NE_g2_g3 : true = true → g2 ≠ g3 := fun h => p_g2_g3 rfl h
      exact hK.out _ _ ⟨true, true, true, true, b4, b5, true, true, true, true, true, b11, vv k1 n1 s1, vv K1 N1 S1, vv k2 n2 s2, vv K2 N2 S2, x32, x33, .pointer (some ⟨g1, 0, none⟩), .pointer (some ⟨g2, 0, none⟩), .pointer (some ⟨g3, 0, none⟩), K1, N1, S1, K2, N2, S2, K3, N3, S3, g1, g2, g3, (by simp only [List.setIfInBounds_toArray, List.set_cons_zero, List.set_cons_succ]), (by simp only [List.setIfInBounds_toArray, List.set_cons_zero, List.set_cons_succ]), ((hb.setCell (p := ⟨g2, 0, none⟩) vg _).setCell (p := ⟨g2, 1, none⟩) vg _).setCell (p := ⟨g2, 2, none⟩) vg _, (fun _ => rfl), (fun _ => rfl), (fun _ => rfl), (fun _ => rfl), c4, c5, (fun _ => rfl), (fun _ => rfl), (fun _ => rfl), (fun h => ⟨(v_g1 h).1, (((v_g1 h).2.far (NE_g2_g1 h) 0 _).far (NE_g2_g1 h) 1 _).far (NE_g2_g1 h) 2 _⟩), (fun _ => ⟨vg, va.set _ _ _⟩), (fun h => ⟨(v_g3 h).1, (((v_g3 h).2.far (NE_g2_g3 h) 0 _).far (NE_g2_g3 h) 1 _).far (NE_g2_g3 h) 2 _⟩), (fun _ => rfl), (fun _ => rfl), (fun _ => rfl), (fun _ => rfl), (fun _ => rfl), r_g3, p_g1_g2, p_g1_g3, p_g2_g3⟩
    · rintro L a w ⟨b0, b1, b2, b3, b4, b5, b6, b7, b8, b9, b10, b11, x28, x29, x30, x31, x32, x33, x7, x8, x9, K1, N1, S1, K2, N2, S2, K3, N3, S3, g1, g2, g3, rfl, rfl, hb, c0, c1, c2, c3, c4, c5, c6, c7, c8, v_g1, v_g2, v_g3, s_g1, s_g2, s_g3, r_g1, r_g2, r_g3, p_g1_g2, p_g1_g3, p_g2_g3⟩ hf hd K hK
      have hf' : b11 = false := hf
      subst hf'
      have d8 : b8 = true := hd ⟨8, .data⟩ (by simp) rfl
      subst d8
      have d5 : b5 = true := hd ⟨5, .data⟩ (by simp) rfl
      subst d5
      have d10 : b10 = true := hd ⟨10, .chain⟩ (by simp) rfl
      subst d10
      have d0 : b0 = true := hd ⟨0, .phase⟩ (by simp) rfl
      subst d0
      have d1 : b1 = true := hd ⟨1, .phase⟩ (by simp) rfl
      subst d1
      have d2 : b2 = true := hd ⟨2, .phase⟩ (by simp) rfl
      subst d2
      have d3 : b3 = true := hd ⟨3, .phase⟩ (by simp) rfl
      subst d3
      have d4 : b4 = true := hd ⟨4, .phase⟩ (by simp) rfl
      subst d4
      have d6 : b6 = true := hd ⟨6, .phase⟩ (by simp) rfl
      subst d6
      have d7 : b7 = true := hd ⟨7, .phase⟩ (by simp) rfl
      subst d7
      have d9 : b9 = true := hd ⟨9, .phase⟩ (by simp) rfl
      subst d9
      obtain rfl := c8 rfl
      obtain rfl := c5 rfl
      obtain rfl := c0 rfl
      obtain rfl := c1 rfl
      obtain rfl := c2 rfl
      obtain rfl := c3 rfl
      obtain rfl := c4 rfl
      obtain rfl := c6 rfl
      obtain rfl := c7 rfl
      clear hf hd
      try simp only [List.setIfInBounds_toArray, List.set_cons_zero, List.set_cons_succ]
      obtain ⟨vg, va⟩ := v_g3 rfl
      simp only [cond_false] at va
      obtain ⟨z0, z1, z2, y0, y1, y2, vl⟩ := id va
      rw [if_pos (by rfl)]
      go_simp
      have NE_g3_g1 : true = true → g3 ≠ g1 := fun h => (p_g1_g3 h rfl).symm
      have NE_g3_g2 : true = true → g3 ≠ g2 := fun h => (p_g2_g3 h rfl).symm
      exact hK.out _ _ ⟨true, true, true, true, true, true, true, true, true, true, true, true, vv k1 n1 s1, vv K1 N1 S1, vv k2 n2 s2, vv K2 N2 S2, vv k3 n3 s3, vv K3 N3 S3, .pointer (some ⟨g1, 0, none⟩), .pointer (some ⟨g2, 0, none⟩), .pointer (some ⟨g3, 0, none⟩), K1, N1, S1, K2, N2, S2, K3, N3, S3, g1, g2, g3, (by simp only [List.setIfInBounds_toArray, List.set_cons_zero, List.set_cons_succ]), (by simp only [List.setIfInBounds_toArray, List.set_cons_zero, List.set_cons_succ]), ((hb.setCell (p := ⟨g3, 0, none⟩) vg _).setCell (p := ⟨g3, 1, none⟩) vg _).setCell (p := ⟨g3, 2, none⟩) vg _, (fun _ => rfl), (fun _ => rfl), (fun _ => rfl), (fun _ => rfl), (fun _ => rfl), (fun _ => rfl), (fun _ => rfl), (fun _ => rfl), (fun _ => rfl), (fun h => ⟨(v_g1 h).1, (((v_g1 h).2.far (NE_g3_g1 h) 0 _).far (NE_g3_g1 h) 1 _).far (NE_g3_g1 h) 2 _⟩), (fun h => ⟨(v_g2 h).1, (((v_g2 h).2.far (NE_g3_g2 h) 0 _).far (NE_g3_g2 h) 1 _).far (NE_g3_g2 h) 2 _⟩), (fun _ => ⟨vg, va.set _ _ _⟩), (fun _ => rfl), (fun _ => rfl), (fun _ => rfl), (fun _ => rfl), (fun _ => rfl), (fun _ => rfl), p_g1_g2, p_g1_g3, p_g2_g3⟩
  · rintro a w ⟨b0, b1, b2, b3, b4, b5, b6, b7, b8, b9, b10, b11, x28, x29, x30, x31, x32, x33, x7, x8, x9, K1, N1, S1, K2, N2, S2, K3, N3, S3, g1, g2, g3, hL, rfl, hb, c0, c1, c2, c3, c4, c5, c6, c7, c8, v_g1, v_g2, v_g3, s_g1, s_g2, s_g3, r_g1, r_g2, r_g3, p_g1_g2, p_g1_g3, p_g2_g3⟩
    have hL' : [true, true, true, true, true, true, true, true, true, true, true, true] = [b0, b1, b2, b3, b4, b5, b6, b7, b8, b9, b10, b11] := congrArg Array.toList hL
    simp only [List.cons.injEq, and_true] at hL'
    obtain ⟨rfl, rfl, rfl, rfl, rfl, rfl, rfl, rfl, rfl, rfl, rfl, rfl⟩ := hL'
    obtain rfl := c0 rfl
    obtain rfl := c1 rfl
    obtain rfl := c2 rfl
    obtain rfl := c3 rfl
    obtain rfl := c4 rfl
    obtain rfl := c5 rfl
    obtain rfl := c6 rfl
    obtain rfl := c7 rfl
    obtain rfl := c8 rfl
    obtain ⟨vg_g1, va_g1⟩ := v_g1 rfl
    simp only [cond_true] at va_g1
    obtain ⟨vg_g2, va_g2⟩ := v_g2 rfl
    simp only [cond_true] at va_g2
    obtain ⟨vg_g3, va_g3⟩ := v_g3 rfl
    simp only [cond_true] at va_g3
    replace p_g1_g2 := p_g1_g2 rfl rfl
    replace p_g1_g3 := p_g1_g3 rfl rfl
    replace p_g2_g3 := p_g2_g3 rfl rfl
    clear hL
    simp only [List.setIfInBounds_toArray, List.set_cons_zero, List.set_cons_succ]
    replace b1 := b1.trans (hb.mono b1.size)
    clear t1 t2 t3 hb
    have T := Tri.vals K1 N1 S1 K2 N2 S2 K3 N3 S3
    have E1 := cmpV_zero K1 N1 S1 K2 N2 S2
    have cxy := compare_any K1 N1 S1 K2 N2 S2
    have cyz := compare_any K2 N2 S2 K3 N3 S3
    have cxz := compare_any K1 N1 S1 K3 N3 S3
    have cxx := compare_any K1 N1 S1 K1 N1 S1
    rw [cmpV_self] at cxx
    have cyx := compare_any K2 N2 S2 K1 N1 S1
    rw [cmpV_swap] at cyx
    have heq := run_eql_val K1 N1 S1 K2 N2 S2
    rw [← E1] at heq
    clear E1
    generalize cmpV K1 N1 S1 K2 N2 S2 = p at *
    generalize cmpV K2 N2 S2 K3 N3 S3 = q at *
    generalize cmpV K1 N1 S1 K3 N3 S3 = r at *
    go_wp2_with fail
    replace va_g1 := va_g1.drew
    replace va_g2 := va_g2.drew
    replace va_g3 := va_g3.drew
    replace b1 := b1.drew
    refine region_inv (Ord6 K1 N1 S1 g1 K2 N2 S2 g2 K3 N3 S3 g3 p q r) (by kernel_rfl) (by kernel_rfl) ?_ ?_ ?_
    · exact ⟨false, false, false, false, false, false, false, false, false, false, false, false, undef, undef, undef, undef, undef, undef, undef, undef, undef, undef, undef, undef, rfl, (by simp only [List.setIfInBounds_toArray, List.set_cons_zero, List.set_cons_succ]), Below.refl _ _, (fun h => by cases h), (fun h => by cases h), (fun h => by cases h), (fun h => by cases h), (fun h => by cases h), (fun h => by cases h), (fun h => by cases h), (fun h => by cases h), (fun h => by cases h), (fun h => by cases h), (fun h => by cases h), (fun h => by cases h)⟩
    · refine ⟨?_, ?_, ?_, ?_, ?_, ?_, ?_, ?_, ?_, ?_, ?_, ?_, trivial⟩
      · rintro L a w ⟨b0, b1, b2, b3, b4, b5, b6, b7, b8, b9, b10, b11, x34, x35, x36, x37, x38, x39, x40, x41, x42, x10, x11, x12, rfl, rfl, hb, c0, c1, c2, c3, c4, c5, c6, c7, c8, c9, c10, c11⟩ hf hd K hK
        have hf' : b0 = false := hf
        subst hf'
        clear hf hd
        try simp only [List.setIfInBounds_toArray, List.set_cons_zero, List.set_cons_succ]
        have z := va_g1.past hb
        obtain ⟨z0, z1, z2, -, -, -, -⟩ := z
        rw [if_pos (by rfl)]
        go_simp
        exact hK.out _ _ ⟨true, b1, b2, b3, b4, b5, b6, b7, b8, b9, b10, b11, (vv K1 N1 S1), x35, x36, x37, x38, x39, x40, x41, x42, x10, x11, x12, (by simp only [List.setIfInBounds_toArray, List.set_cons_zero, List.set_cons_succ]), (by simp only [List.setIfInBounds_toArray, List.set_cons_zero, List.set_cons_succ]), hb, (fun _ => rfl), c1, c2, c3, c4, c5, c6, c7, c8, c9, c10, c11⟩
      · rintro L a w ⟨b0, b1, b2, b3, b4, b5, b6, b7, b8, b9, b10, b11, x34, x35, x36, x37, x38, x39, x40, x41, x42, x10, x11, x12, rfl, rfl, hb, c0, c1, c2, c3, c4, c5, c6, c7, c8, c9, c10, c11⟩ hf hd K hK
        have hf' : b1 = false := hf
        subst hf'
        clear hf hd
        try simp only [List.setIfInBounds_toArray, List.set_cons_zero, List.set_cons_succ]
        have z := va_g2.past hb
        obtain ⟨z0, z1, z2, -, -, -, -⟩ := z
        rw [if_pos (by rfl)]
        go_simp
        exact hK.out _ _ ⟨b0, true, b2, b3, b4, b5, b6, b7, b8, b9, b10, b11, x34, (vv K2 N2 S2), x36, x37, x38, x39, x40, x41, x42, x10, x11, x12, (by simp only [List.setIfInBounds_toArray, List.set_cons_zero, List.set_cons_succ]), (by simp only [List.setIfInBounds_toArray, List.set_cons_zero, List.set_cons_succ]), hb, c0, (fun _ => rfl), c2, c3, c4, c5, c6, c7, c8, c9, c10, c11⟩
      · rintro L a w ⟨b0, b1, b2, b3, b4, b5, b6, b7, b8, b9, b10, b11, x34, x35, x36, x37, x38, x39, x40, x41, x42, x10, x11, x12, rfl, rfl, hb, c0, c1, c2, c3, c4, c5, c6, c7, c8, c9, c10, c11⟩ hf hd K hK
        have hf' : b2 = false := hf
        subst hf'
        have d0 : b0 = true := hd ⟨0, .data⟩ (by simp) rfl
        subst d0
        have d1 : b1 = true := hd ⟨1, .data⟩ (by simp) rfl
        subst d1
        obtain rfl := c0 rfl
        obtain rfl := c1 rfl
        clear hf hd
        try simp only [List.setIfInBounds_toArray, List.set_cons_zero, List.set_cons_succ]
        rw [if_pos (by rfl)]
        go_simp
        go_at_call 10
        refine (cxy _).mono ?_
        rintro e w2 ⟨rfl, bx⟩
        exact hK.out _ _ ⟨true, true, true, b3, b4, b5, b6, b7, b8, b9, b10, b11, vv K1 N1 S1, vv K2 N2 S2, (.int .i64 p), x37, x38, x39, x40, x41, x42, x10, x11, x12, (by simp only [List.setIfInBounds_toArray, List.set_cons_zero, List.set_cons_succ]), (by simp only [List.setIfInBounds_toArray, List.set_cons_zero, List.set_cons_succ]), hb.trans (bx.mono hb.size), (fun _ => rfl), (fun _ => rfl), (fun _ => rfl), c3, c4, c5, c6, c7, c8, c9, c10, c11⟩
      · rintro L a w ⟨b0, b1, b2, b3, b4, b5, b6, b7, b8, b9, b10, b11, x34, x35, x36, x37, x38, x39, x40, x41, x42, x10, x11, x12, rfl, rfl, hb, c0, c1, c2, c3, c4, c5, c6, c7, c8, c9, c10, c11⟩ hf hd K hK
        have hf' : b3 = false := hf
        subst hf'
        clear hf hd
        try simp only [List.setIfInBounds_toArray, List.set_cons_zero, List.set_cons_succ]
        have z := va_g2.past hb
        obtain ⟨z0, z1, z2, -, -, -, -⟩ := z
        rw [if_pos (by rfl)]
        go_simp
        exact hK.out _ _ ⟨b0, b1, b2, true, b4, b5, b6, b7, b8, b9, b10, b11, x34, x35, x36, (vv K2 N2 S2), x38, x39, x40, x41, x42, x10, x11, x12, (by simp only [List.setIfInBounds_toArray, List.set_cons_zero, List.set_cons_succ]), (by simp only [List.setIfInBounds_toArray, List.set_cons_zero, List.set_cons_succ]), hb, c0, c1, c2, (fun _ => rfl), c4, c5, c6, c7, c8, c9, c10, c11⟩
      · rintro L a w ⟨b0, b1, b2, b3, b4, b5, b6, b7, b8, b9, b10, b11, x34, x35, x36, x37, x38, x39, x40, x41, x42, x10, x11, x12, rfl, rfl, hb, c0, c1, c2, c3, c4, c5, c6, c7, c8, c9, c10, c11⟩ hf hd K hK
        have hf' : b4 = false := hf
        subst hf'
        clear hf hd
        try simp only [List.setIfInBounds_toArray, List.set_cons_zero, List.set_cons_succ]
        have z := va_g3.past hb
        obtain ⟨z0, z1, z2, -, -, -, -⟩ := z
        rw [if_pos (by rfl)]
        go_simp
        exact hK.out _ _ ⟨b0, b1, b2, b3, true, b5, b6, b7, b8, b9, b10, b11, x34, x35, x36, x37, (vv K3 N3 S3), x39, x40, x41, x42, x10, x11, x12, (by simp only [List.setIfInBounds_toArray, List.set_cons_zero, List.set_cons_succ]), (by simp only [List.setIfInBounds_toArray, List.set_cons_zero, List.set_cons_succ]), hb, c0, c1, c2, c3, (fun _ => rfl), c5, c6, c7, c8, c9, c10, c11⟩
      · rintro L a w ⟨b0, b1, b2, b3, b4, b5, b6, b7, b8, b9, b10, b11, x34, x35, x36, x37, x38, x39, x40, x41, x42, x10, x11, x12, rfl, rfl, hb, c0, c1, c2, c3, c4, c5, c6, c7, c8, c9, c10, c11⟩ hf hd K hK
        have hf' : b5 = false := hf
        subst hf'
        have d3 : b3 = true := hd ⟨3, .data⟩ (by simp) rfl
        subst d3
        have d4 : b4 = true := hd ⟨4, .data⟩ (by simp) rfl
        subst d4
        have d2 : b2 = true := hd ⟨2, .chain⟩ (by simp) rfl
        subst d2
        obtain rfl := c3 rfl
        obtain rfl := c4 rfl
        obtain rfl := c2 rfl
        clear hf hd
        try simp only [List.setIfInBounds_toArray, List.set_cons_zero, List.set_cons_succ]
        rw [if_pos (by rfl)]
        go_simp
        go_at_call 10
        refine (cyz _).mono ?_
        rintro e w2 ⟨rfl, bx⟩
        exact hK.out _ _ ⟨b0, b1, true, true, true, true, b6, b7, b8, b9, b10, b11, x34, x35, .int .i64 p, vv K2 N2 S2, vv K3 N3 S3, (.int .i64 q), x40, x41, x42, x10, x11, x12, (by simp only [List.setIfInBounds_toArray, List.set_cons_zero, List.set_cons_succ]), (by simp only [List.setIfInBounds_toArray, List.set_cons_zero, List.set_cons_succ]), hb.trans (bx.mono hb.size), c0, c1, (fun _ => rfl), (fun _ => rfl), (fun _ => rfl), (fun _ => rfl), c6, c7, c8, c9, c10, c11⟩
      · rintro L a w ⟨b0, b1, b2, b3, b4, b5, b6, b7, b8, b9, b10, b11, x34, x35, x36, x37, x38, x39, x40, x41, x42, x10, x11, x12, rfl, rfl, hb, c0, c1, c2, c3, c4, c5, c6, c7, c8, c9, c10, c11⟩ hf hd K hK
        have hf' : b6 = false := hf
        subst hf'
        clear hf hd
        try simp only [List.setIfInBounds_toArray, List.set_cons_zero, List.set_cons_succ]
        have z := va_g1.past hb
        obtain ⟨z0, z1, z2, -, -, -, -⟩ := z
        rw [if_pos (by rfl)]
        go_simp
        exact hK.out _ _ ⟨b0, b1, b2, b3, b4, b5, true, b7, b8, b9, b10, b11, x34, x35, x36, x37, x38, x39, (vv K1 N1 S1), x41, x42, x10, x11, x12, (by simp only [List.setIfInBounds_toArray, List.set_cons_zero, List.set_cons_succ]), (by simp only [List.setIfInBounds_toArray, List.set_cons_zero, List.set_cons_succ]), hb, c0, c1, c2, c3, c4, c5, (fun _ => rfl), c7, c8, c9, c10, c11⟩
      · rintro L a w ⟨b0, b1, b2, b3, b4, b5, b6, b7, b8, b9, b10, b11, x34, x35, x36, x37, x38, x39, x40, x41, x42, x10, x11, x12, rfl, rfl, hb, c0, c1, c2, c3, c4, c5, c6, c7, c8, c9, c10, c11⟩ hf hd K hK
        have hf' : b7 = false := hf
        subst hf'
        clear hf hd
        try simp only [List.setIfInBounds_toArray, List.set_cons_zero, List.set_cons_succ]
        have z := va_g3.past hb
        obtain ⟨z0, z1, z2, -, -, -, -⟩ := z
        rw [if_pos (by rfl)]
        go_simp
        exact hK.out _ _ ⟨b0, b1, b2, b3, b4, b5, b6, true, b8, b9, b10, b11, x34, x35, x36, x37, x38, x39, x40, (vv K3 N3 S3), x42, x10, x11, x12, (by simp only [List.setIfInBounds_toArray, List.set_cons_zero, List.set_cons_succ]), (by simp only [List.setIfInBounds_toArray, List.set_cons_zero, List.set_cons_succ]), hb, c0, c1, c2, c3, c4, c5, c6, (fun _ => rfl), c8, c9, c10, c11⟩
      · rintro L a w ⟨b0, b1, b2, b3, b4, b5, b6, b7, b8, b9, b10, b11, x34, x35, x36, x37, x38, x39, x40, x41, x42, x10, x11, x12, rfl, rfl, hb, c0, c1, c2, c3, c4, c5, c6, c7, c8, c9, c10, c11⟩ hf hd K hK
        have hf' : b8 = false := hf
        subst hf'
        have d6 : b6 = true := hd ⟨6, .data⟩ (by simp) rfl
        subst d6
        have d7 : b7 = true := hd ⟨7, .data⟩ (by simp) rfl
        subst d7
        have d5 : b5 = true := hd ⟨5, .chain⟩ (by simp) rfl
        subst d5
        obtain rfl := c6 rfl
        obtain rfl := c7 rfl
        obtain rfl := c5 rfl
        clear hf hd
        try simp only [List.setIfInBounds_toArray, List.set_cons_zero, List.set_cons_succ]
        rw [if_pos (by rfl)]
        go_simp
        go_at_call 10
        refine (cxz _).mono ?_
        rintro e w2 ⟨rfl, bx⟩
        exact hK.out _ _ ⟨b0, b1, b2, b3, b4, true, true, true, true, b9, b10, b11, x34, x35, x36, x37, x38, .int .i64 q, vv K1 N1 S1, vv K3 N3 S3, (.int .i64 r), x10, x11, x12, (by simp only [List.setIfInBounds_toArray, List.set_cons_zero, List.set_cons_succ]), (by simp only [List.setIfInBounds_toArray, List.set_cons_zero, List.set_cons_succ]), hb.trans (bx.mono hb.size), c0, c1, c2, c3, c4, (fun _ => rfl), (fun _ => rfl), (fun _ => rfl), (fun _ => rfl), c9, c10, c11⟩
      · rintro L a w ⟨b0, b1, b2, b3, b4, b5, b6, b7, b8, b9, b10, b11, x34, x35, x36, x37, x38, x39, x40, x41, x42, x10, x11, x12, rfl, rfl, hb, c0, c1, c2, c3, c4, c5, c6, c7, c8, c9, c10, c11⟩ hf hd K hK
        have hf' : b9 = false := hf
        subst hf'
        have d2 : b2 = true := hd ⟨2, .data⟩ (by simp) rfl
        subst d2
        have d8 : b8 = true := hd ⟨8, .chain⟩ (by simp) rfl
        subst d8
        have d0 : b0 = true := hd ⟨0, .phase⟩ (by simp) rfl
        subst d0
        have d1 : b1 = true := hd ⟨1, .phase⟩ (by simp) rfl
        subst d1
        obtain rfl := c2 rfl
        obtain rfl := c8 rfl
        obtain rfl := c0 rfl
        obtain rfl := c1 rfl
        clear hf hd
        try simp only [List.setIfInBounds_toArray, List.set_cons_zero, List.set_cons_succ]
        rw [if_pos (by rfl)]
        go_simp
        exact hK.out _ _ ⟨true, true, true, b3, b4, b5, b6, b7, true, true, b10, b11, vv K1 N1 S1, vv K2 N2 S2, .int .i64 p, x37, x38, x39, x40, x41, .int .i64 r, (.int .i64 p), x11, x12, (by simp only [List.setIfInBounds_toArray, List.set_cons_zero, List.set_cons_succ]), (by simp only [List.setIfInBounds_toArray, List.set_cons_zero, List.set_cons_succ]), hb, (fun _ => rfl), (fun _ => rfl), (fun _ => rfl), c3, c4, c5, c6, c7, (fun _ => rfl), (fun _ => rfl), c10, c11⟩
      · rintro L a w ⟨b0, b1, b2, b3, b4, b5, b6, b7, b8, b9, b10, b11, x34, x35, x36, x37, x38, x39, x40, x41, x42, x10, x11, x12, rfl, rfl, hb, c0, c1, c2, c3, c4, c5, c6, c7, c8, c9, c10, c11⟩ hf hd K hK
        have hf' : b10 = false := hf
        subst hf'
        have d5 : b5 = true := hd ⟨5, .data⟩ (by simp) rfl
        subst d5
        have d9 : b9 = true := hd ⟨9, .chain⟩ (by simp) rfl
        subst d9
        have d0 : b0 = true := hd ⟨0, .phase⟩ (by simp) rfl
        subst d0
        have d1 : b1 = true := hd ⟨1, .phase⟩ (by simp) rfl
        subst d1
        have d2 : b2 = true := hd ⟨2, .phase⟩ (by simp) rfl
        subst d2
        have d3 : b3 = true := hd ⟨3, .phase⟩ (by simp) rfl
        subst d3
        have d4 : b4 = true := hd ⟨4, .phase⟩ (by simp) rfl
        subst d4
        obtain rfl := c5 rfl
        obtain rfl := c9 rfl
        obtain rfl := c0 rfl
        obtain rfl := c1 rfl
        obtain rfl := c2 rfl
        obtain rfl := c3 rfl
        obtain rfl := c4 rfl
        clear hf hd
        try simp only [List.setIfInBounds_toArray, List.set_cons_zero, List.set_cons_succ]
        rw [if_pos (by rfl)]
        go_simp
        exact hK.out _ _ ⟨true, true, true, true, true, true, b6, b7, b8, true, true, b11, vv K1 N1 S1, vv K2 N2 S2, .int .i64 p, vv K2 N2 S2, vv K3 N3 S3, .int .i64 q, x40, x41, x42, .int .i64 p, (.int .i64 q), x12, (by simp only [List.setIfInBounds_toArray, List.set_cons_zero, List.set_cons_succ]), (by simp only [List.setIfInBounds_toArray, List.set_cons_zero, List.set_cons_succ]), hb, (fun _ => rfl), (fun _ => rfl), (fun _ => rfl), (fun _ => rfl), (fun _ => rfl), (fun _ => rfl), c6, c7, c8, (fun _ => rfl), (fun _ => rfl), c11⟩
      · rintro L a w ⟨b0, b1, b2, b3, b4, b5, b6, b7, b8, b9, b10, b11, x34, x35, x36, x37, x38, x39, x40, x41, x42, x10, x11, x12, rfl, rfl, hb, c0, c1, c2, c3, c4, c5, c6, c7, c8, c9, c10, c11⟩ hf hd K hK
        have hf' : b11 = false := hf
        subst hf'
        have d8 : b8 = true := hd ⟨8, .data⟩ (by simp) rfl
        subst d8
        have d10 : b10 = true := hd ⟨10, .chain⟩ (by simp) rfl
        subst d10
        have d0 : b0 = true := hd ⟨0, .phase⟩ (by simp) rfl
        subst d0
        have d1 : b1 = true := hd ⟨1, .phase⟩ (by simp) rfl
        subst d1
        have d2 : b2 = true := hd ⟨2, .phase⟩ (by simp) rfl
        subst d2
        have d3 : b3 = true := hd ⟨3, .phase⟩ (by simp) rfl
        subst d3
        have d4 : b4 = true := hd ⟨4, .phase⟩ (by simp) rfl
        subst d4
        have d5 : b5 = true := hd ⟨5, .phase⟩ (by simp) rfl
        subst d5
        have d6 : b6 = true := hd ⟨6, .phase⟩ (by simp) rfl
        subst d6
        have d7 : b7 = true := hd ⟨7, .phase⟩ (by simp) rfl
        subst d7
        have d9 : b9 = true := hd ⟨9, .phase⟩ (by simp) rfl
        subst d9
        obtain rfl := c8 rfl
        obtain rfl := c10 rfl
        obtain rfl := c0 rfl
        obtain rfl := c1 rfl
        obtain rfl := c2 rfl
        obtain rfl := c3 rfl
        obtain rfl := c4 rfl
        obtain rfl := c5 rfl
        obtain rfl := c6 rfl
        obtain rfl := c7 rfl
        obtain rfl := c9 rfl
        clear hf hd
        try simp only [List.setIfInBounds_toArray, List.set_cons_zero, List.set_cons_succ]
        rw [if_pos (by rfl)]
        go_simp
        exact hK.out _ _ ⟨true, true, true, true, true, true, true, true, true, true, true, true, vv K1 N1 S1, vv K2 N2 S2, .int .i64 p, vv K2 N2 S2, vv K3 N3 S3, .int .i64 q, vv K1 N1 S1, vv K3 N3 S3, .int .i64 r, .int .i64 p, .int .i64 q, (.int .i64 r), (by simp only [List.setIfInBounds_toArray, List.set_cons_zero, List.set_cons_succ]), (by simp only [List.setIfInBounds_toArray, List.set_cons_zero, List.set_cons_succ]), hb, (fun _ => rfl), (fun _ => rfl), (fun _ => rfl), (fun _ => rfl), (fun _ => rfl), (fun _ => rfl), (fun _ => rfl), (fun _ => rfl), (fun _ => rfl), (fun _ => rfl), (fun _ => rfl), (fun _ => rfl)⟩
    · rintro a w ⟨b0, b1, b2, b3, b4, b5, b6, b7, b8, b9, b10, b11, x34, x35, x36, x37, x38, x39, x40, x41, x42, x10, x11, x12, hL, rfl, hb, c0, c1, c2, c3, c4, c5, c6, c7, c8, c9, c10, c11⟩
      have hL' : [true, true, true, true, true, true, true, true, true, true, true, true] = [b0, b1, b2, b3, b4, b5, b6, b7, b8, b9, b10, b11] := congrArg Array.toList hL
      simp only [List.cons.injEq, and_true] at hL'
      obtain ⟨rfl, rfl, rfl, rfl, rfl, rfl, rfl, rfl, rfl, rfl, rfl, rfl⟩ := hL'
      obtain rfl := c0 rfl
      obtain rfl := c1 rfl
      obtain rfl := c2 rfl
      obtain rfl := c3 rfl
      obtain rfl := c4 rfl
      obtain rfl := c5 rfl
      obtain rfl := c6 rfl
      obtain rfl := c7 rfl
      obtain rfl := c8 rfl
      obtain rfl := c9 rfl
      obtain rfl := c10 rfl
      obtain rfl := c11 rfl
      clear hL
      simp only [List.setIfInBounds_toArray, List.set_cons_zero, List.set_cons_succ]
      replace va_g1 := va_g1.past hb
      replace va_g2 := va_g2.past hb
      replace va_g3 := va_g3.past hb
      replace b1 := b1.trans (hb.mono b1.size)
      clear hb cxy cyz cxz
      obtain ⟨m10, m11, m12, -, -, -, -⟩ := id va_g1
      obtain ⟨m20, m21, m22, -, -, -, -⟩ := id va_g2
      obtain ⟨vx, vy, vz, le, lt1, lt2, e1, e2⟩ := T
      have cont : ∀ {P : Prop}, False → P := fun h => h.elim
      rcases vx with rfl | rfl | rfl <;> rcases vy with rfl | rfl | rfl <;> rcases vz with rfl | rfl | rfl <;> first
        | (exfalso; omega)
        | (clear le lt1 lt2 e1 e2 cont
           simp only [Int.reduceNeg, Int.reduceBEq, Int.neg_neg, Int.neg_zero] at heq cyx
           go_wp2_with (first | (go_at_call 10; (with_reducible refine (cxx _).mono ?_); rintro e w2 ⟨rfl, bx⟩; have vb1 := va_g1.past bx; have vb2 := va_g2.past bx; have bb := b1.trans (bx.mono b1.size); obtain ⟨u10, u11, u12, -, -, -, -⟩ := id vb1; obtain ⟨u20, u21, u22, -, -, -, -⟩ := id vb2) | (go_at_call 10; (with_reducible refine (cyx _).mono ?_); rintro e w3 ⟨rfl, by'⟩; have vc1 := vb1.past by'; have vc2 := vb2.past by'; have bc := bb.trans (by'.mono bb.size); obtain ⟨y10, y11, y12, -, -, -, -⟩ := id vc1; obtain ⟨y20, y21, y22, -, -, -, -⟩ := id vc2))
           go_ret
           exact ⟨rfl, bc⟩)
end Go.Proofs.Ytgjjpejimpiikaa
