/-
  ValueAll, walked (by gen_vall.py).
-/
import Derived.Test.YtalnnifmlhckbaaDoorText
import Derived.Test.YtalnnifmlhckbaaDoorRChk4
import Derived.Test.YtalnnifmlhckbaaDoorKnow4
import Derived.Test.YtalnnifmlhckbaaDoorInv
import Derived.OpenShut
namespace Go.Proofs.YtalnnifmlhckbaaDoor
open Go.RowKit
set_option linter.unusedSimpArgs false
theorem TB.drew {w : World} (h : TB w) : TB w.drew := h.past (Below.refl _ _).drew
theorem wf_rng {n : Int} (h : (Lit.int .i64 n).wf = true) : -9223372036854775808 ≤ n ∧ n ≤ 9223372036854775807 := by
  have := bounds_i64 h
  omega
theorem val_chk {k n : Int} {s : ByteArray} (h : Val k n s) : chkV k n s = 0 := by
  have he : ByteArray.empty.toList.isEmpty = true := by decide +kernel
  cases h with
  | none => rw [chk0, if_pos ⟨rfl, he⟩]
  | bool _ h0 h1 => rw [chk1, if_pos (by omega), if_pos he]
  | int _ => rw [chk2, if_pos he]
  | text _ hs => rw [chk3, if_pos rfl, if_neg (by omega)]
/-- What stands while the region's operations come up: which have (b), what their slots hold (x), what the world holds. -/
inductive VAll5 (k1 : Int) (k2 : Int) (n1 : Int) (n2 : Int) (s1 : ByteArray) (s2 : ByteArray) (a0 : Act) (w0 : World) (L : Array Bool) (a : Act) (w : World) : Prop
  | mk (b0 b1 b2 b3 b4 b5 b6 b7 : Bool) (x17 x18 x19 x20 x5 x6 : Value) (K1 : Int) (N1 : Int) (S1 : ByteArray) (K2 : Int) (N2 : Int) (S2 : ByteArray) (g1 : Nat) (g2 : Nat) (hL : L = #[b0, b1, b2, b3, b4, b5, b6, b7]) (ha : a = ⟨((((((a0.tmps.setIfInBounds 17 x17).setIfInBounds 18 x18).setIfInBounds 19 x19).setIfInBounds 20 x20).setIfInBounds 5 x5).setIfInBounds 6 x6), a0.defers⟩) (hb : Below w0.heap.size w0 w) (cd0 : Hid (b0 = true → x17 = vv k1 n1 s1)) (cd1 : Hid (b1 = true → x18 = vv K1 N1 S1 ∧ Val K1 N1 S1 ∧ (N1 = n1 ∨ 0 ≤ N1 ∧ N1 ≤ 1))) (cd2 : Hid (b2 = true → x19 = vv k2 n2 s2)) (cd3 : Hid (b3 = true → x20 = vv K2 N2 S2 ∧ Val K2 N2 S2 ∧ (N2 = n2 ∨ 0 ≤ N2 ∧ N2 ≤ 1))) (cd4 : Hid (b4 = true → x5 = .pointer (some ⟨g1, 0, none⟩))) (cd5 : Hid (b5 = true → x6 = .pointer (some ⟨g2, 0, none⟩))) (v_g1 : Hid (b4 = true → w0.heap.size ≤ g1 ∧ VAt w g1 (bif b6 then K1 else 0) (bif b6 then N1 else 0) (bif b6 then S1 else ⟨#[]⟩))) (v_g2 : Hid (b5 = true → w0.heap.size ≤ g2 ∧ VAt w g2 (bif b7 then K2 else 0) (bif b7 then N2 else 0) (bif b7 then S2 else ⟨#[]⟩))) (s_g1 : Hid (b6 = true → b4 = true)) (s_g2 : Hid (b7 = true → b5 = true)) (r_g1 : Hid (b6 = true → b1 = true)) (r_g2 : Hid (b7 = true → b3 = true)) (p_g1_g2 : Hid (b4 = true → b5 = true → g1 ≠ g2)) : VAll5 k1 k2 n1 n2 s1 s2 a0 w0 L a w
/-- What stands while the region's operations come up: which have (b), what their slots hold (x), what the world holds. -/
inductive VAll6 (k1 : Int) (n1 : Int) (s1 : ByteArray) (K1 : Int) (N1 : Int) (S1 : ByteArray) (K2 : Int) (N2 : Int) (S2 : ByteArray) (cq : Int) (cc : Int) (tx : ByteArray) (a0 : Act) (w0 : World) (L : Array Bool) (a : Act) (w : World) : Prop
  | mk (b0 b1 b2 b3 b4 b5 b6 b7 b8 b9 b10 b11 b12 b13 b14 b15 b16 b17 b18 b19 b20 b21 b22 b23 b24 b25 b26 : Bool) (x21 x22 x23 x24 x25 x26 x27 x28 x29 x30 x31 x32 x33 x34 x35 x36 x37 x38 x39 x40 x41 x42 x43 x44 x45 x46 x4 : Value) (hL : L = #[b0, b1, b2, b3, b4, b5, b6, b7, b8, b9, b10, b11, b12, b13, b14, b15, b16, b17, b18, b19, b20, b21, b22, b23, b24, b25, b26]) (ha : a = ⟨(((((((((((((((((((((((((((a0.tmps.setIfInBounds 21 x21).setIfInBounds 22 x22).setIfInBounds 23 x23).setIfInBounds 24 x24).setIfInBounds 25 x25).setIfInBounds 26 x26).setIfInBounds 27 x27).setIfInBounds 28 x28).setIfInBounds 29 x29).setIfInBounds 30 x30).setIfInBounds 31 x31).setIfInBounds 32 x32).setIfInBounds 33 x33).setIfInBounds 34 x34).setIfInBounds 35 x35).setIfInBounds 36 x36).setIfInBounds 37 x37).setIfInBounds 38 x38).setIfInBounds 39 x39).setIfInBounds 40 x40).setIfInBounds 41 x41).setIfInBounds 42 x42).setIfInBounds 43 x43).setIfInBounds 44 x44).setIfInBounds 45 x45).setIfInBounds 46 x46).setIfInBounds 4 x4), a0.defers⟩) (hb : Below w0.heap.size w0 w) (cd0 : Hid (b0 = true → x21 = vv k1 n1 s1)) (cd1 : Hid (b1 = true → x22 = .int .i64 cq)) (cd2 : Hid (b2 = true → x23 = vv k1 n1 s1)) (cd3 : Hid (b3 = true → x24 = .int .i64 cq)) (cd4 : Hid (b4 = true → x25 = .bool true)) (cd5 : Hid (b5 = true → x26 = .bool true)) (cd6 : Hid (b6 = true → x27 = vv K1 N1 S1)) (cd7 : Hid (b7 = true → x28 = .int .i64 0)) (cd8 : Hid (b8 = true → x29 = .bool true)) (cd9 : Hid (b9 = true → x30 = .bool true)) (cd10 : Hid (b10 = true → x31 = .bool true)) (cd11 : Hid (b11 = true → x32 = vv K1 N1 S1)) (cd12 : Hid (b12 = true → x33 = vv K2 N2 S2)) (cd13 : Hid (b13 = true → x34 = .int .i64 cc)) (cd14 : Hid (b14 = true → x35 = vv K1 N1 S1)) (cd15 : Hid (b15 = true → x36 = vv K2 N2 S2)) (cd16 : Hid (b16 = true → x37 = .int .i64 cc)) (cd17 : Hid (b17 = true → x38 = .bool true)) (cd18 : Hid (b18 = true → x39 = .bool true)) (cd19 : Hid (b19 = true → x40 = .bool true)) (cd20 : Hid (b20 = true → x41 = vv K1 N1 S1)) (cd21 : Hid (b21 = true → x42 = .string tx)) (cd22 : Hid (b22 = true → x43 = vv K1 N1 S1)) (cd23 : Hid (b23 = true → x44 = .string tx)) (cd24 : Hid (b24 = true → x45 = .bool true)) (cd25 : Hid (b25 = true → x46 = .bool true)) (cd26 : Hid (b26 = true → x4 = .bool true)) : VAll6 k1 n1 s1 K1 N1 S1 K2 N2 S2 cq cc tx a0 w0 L a w
set_option maxRecDepth 100000 in
set_option maxHeartbeats 8000000 in
theorem valueAll_walk (k1 n1 : Int) (s1 : ByteArray) (k2 n2 : Int) (s2 : ByteArray) (w : World) (tb : TB w) (_ : (Lit.int .i64 k1).wf = true) (wn1 : (Lit.int .i64 n1).wf = true) (_ : s1.size ≤ maxLen) (_ : (Lit.int .i64 k2).wf = true) (_ : (Lit.int .i64 n2).wf = true) (_ : s2.size ≤ maxLen) :
    Calls Tryd.prog 4 #[vv k1 n1 s1, vv k2 n2 s2] w (Told w true) := by
  rename_i h1 h2 h3 h4 h5
  clear h1 h2 h3 h4 h5
  have b0 : Below w.heap.size w ((w.alloc (.cells #[.int .i64 k1, .int .i64 n1, .string s1] 36)).alloc (.cells #[.int .i64 k2, .int .i64 n2, .string s2] 36)) := ((Below.refl _ _).alloc (Nat.le_refl _) _).alloc (by simp) _
  have t1 := (VAt.new w k1 n1 s1).alloc (.cells #[.int .i64 k2, .int .i64 n2, .string s2] 36)
  have t2 := VAt.new (w.alloc (.cells #[.int .i64 k1, .int .i64 n1, .string s1] 36)) k2 n2 s2
  simp only [World.size_alloc] at t2
  go_enter Tryd.func4, Tryd.ntmps4
  go_wp2_with fail
  generalize ((w.alloc (.cells #[.int .i64 k1, .int .i64 n1, .string s1] 36)).alloc (.cells #[.int .i64 k2, .int .i64 n2, .string s2] 36)) = wa at b0 t1 t2 ⊢
  refine (known4 _).mono ?_
  rintro e w1 ⟨rfl, b1⟩
  replace t1 := t1.past b1
  replace t2 := t2.past b1
  replace b1 := b0.trans (b1.mono b0.size)
  clear b0
  obtain ⟨l10, l11, l12, -, -, -, l1⟩ := id t1
  obtain ⟨l20, l21, l22, -, -, -, l2⟩ := id t2
  have few : ∀ (b : Bool) (k n : Int) (s : ByteArray) (w : World), decide ((s.size : Int) ≤ 80) = b → Calls Tryd.prog 14 #[vv k n s] w fun e w' => e = .returned (.bool b) ∧ Below w.heap.size w w' := fun b k n s w h => by rw [← h]; exact few_any k n s w
  cases q1 : decide ((s1.size : Int) ≤ 80)
  · go_wp2_with (go_at_call 14; refine (few false _ _ s1 _ q1).mono ?_; rintro e w2 ⟨rfl, b2⟩)
    go_ret
    exact ⟨rfl, b1.trans (b2.mono b1.size)⟩
  go_wp2_with fail
  refine (few true _ _ s1 _ q1).mono ?_
  rintro e w2 ⟨rfl, b2⟩
  replace t1 := t1.past b2
  replace t2 := t2.past b2
  replace b1 := b1.trans (b2.mono b1.size)
  clear b2
  clear l10 l11 l12 l20 l21 l22 l1 l2
  obtain ⟨l10, l11, l12, -, -, -, l1⟩ := id t1
  obtain ⟨l20, l21, l22, -, -, -, l2⟩ := id t2
  cases q2 : decide ((s2.size : Int) ≤ 80)
  · go_wp2_with (go_at_call 14; refine (few false _ _ s2 _ q2).mono ?_; rintro e w3 ⟨rfl, b3⟩)
    go_ret
    exact ⟨rfl, b1.trans (b3.mono b1.size)⟩
  go_wp2_with fail
  refine (few true _ _ s2 _ q2).mono ?_
  rintro e w3 ⟨rfl, b3⟩
  replace t1 := t1.past b3
  replace t2 := t2.past b3
  replace b1 := b1.trans (b3.mono b1.size)
  clear b3
  clear few q1 q2
  clear l10 l11 l12 l20 l21 l22 l1 l2
  go_wp2_with fail
  replace t1 := t1.drew
  replace t2 := t2.drew
  replace b1 := b1.drew
  replace tb := tb.past b1
  refine region_inv (VAll5 k1 k2 n1 n2 s1 s2) (by kernel_rfl) (by kernel_rfl) ?_ ?_ ?_
  · exact ⟨false, false, false, false, false, false, false, false, undef, undef, undef, undef, undef, undef, 0, 0, ⟨#[]⟩, 0, 0, ⟨#[]⟩, 0, 0, rfl, (by simp only [Act.put, List.setIfInBounds_toArray, List.set_cons_zero, List.set_cons_succ]), Below.refl _ _, (fun h => by cases h), (fun h => by cases h), (fun h => by cases h), (fun h => by cases h), (fun h => by cases h), (fun h => by cases h), (fun h => by cases h), (fun h => by cases h), (fun h => by cases h), (fun h => by cases h), (fun h => by cases h), (fun h => by cases h), (fun h => by cases h)⟩
  · refine ⟨?_, ?_, ?_, ?_, ?_, ?_, ?_, ?_, trivial⟩
    · rintro L a w ⟨b0, b1, b2, b3, b4, b5, b6, b7, x17, x18, x19, x20, x5, x6, K1, N1, S1, K2, N2, S2, g1, g2, rfl, rfl, hb, cd0, cd1, cd2, cd3, cd4, cd5, v_g1, v_g2, s_g1, s_g2, r_g1, r_g2, p_g1_g2⟩ hf hd
      have hf' : b0 = false := hf
      subst hf'
      clear hf hd
      try simp only [List.setIfInBounds_toArray, List.set_cons_zero, List.set_cons_succ]
      have z := t1.past hb
      obtain ⟨z0, z1, z2, -, -, -, -⟩ := z
      intro K hK
      rw [if_pos (by rfl)]
      go_simp
      exact hK.out _ _ ⟨true, b1, b2, b3, b4, b5, b6, b7, (vv k1 n1 s1), x18, x19, x20, x5, x6, K1, N1, S1, K2, N2, S2, g1, g2, (by simp only [Act.put, List.setIfInBounds_toArray, List.set_cons_zero, List.set_cons_succ]), (by simp only [Act.put, List.setIfInBounds_toArray, List.set_cons_zero, List.set_cons_succ]), hb, (fun _ => rfl), cd1, cd2, cd3, cd4, cd5, v_g1, v_g2, s_g1, s_g2, r_g1, r_g2, p_g1_g2⟩
    · rintro L a w ⟨b0, b1, b2, b3, b4, b5, b6, b7, x17, x18, x19, x20, x5, x6, K1, N1, S1, K2, N2, S2, g1, g2, rfl, rfl, hb, cd0, cd1, cd2, cd3, cd4, cd5, v_g1, v_g2, s_g1, s_g2, r_g1, r_g2, p_g1_g2⟩ hf hd
      have hf' : b1 = false := hf
      subst hf'
      have d0 : b0 = true := hd ⟨0, .data⟩ (by simp) rfl
      subst d0
      obtain rfl := cd0.out rfl
      clear hf hd
      try simp only [List.setIfInBounds_toArray, List.set_cons_zero, List.set_cons_succ]
      intro K hK
      rw [if_pos (by rfl)]
      go_simp
      go_at_call 15
      refine (good_any _ _ _ _).mono ?_
      rintro e w2 ⟨k, n, s, hv, -, hn, rfl, bx⟩
      have e_g1 : b6 = false := by cases hq : b6 with | false => rfl | true => exact absurd (r_g1.out hq) (by simp)
      subst e_g1
      exact hK.out _ _ ⟨true, true, b2, b3, b4, b5, false, b7, vv k1 n1 s1, (vv k n s), x19, x20, x5, x6, k, n, s, K2, N2, S2, g1, g2, (by simp only [Act.put, List.setIfInBounds_toArray, List.set_cons_zero, List.set_cons_succ]), (by simp only [Act.put, List.setIfInBounds_toArray, List.set_cons_zero, List.set_cons_succ]), hb.trans (bx.mono hb.size), (fun _ => rfl), (fun _ => ⟨rfl, hv, hn⟩), cd2, cd3, cd4, cd5, (fun h => ⟨(v_g1.out h).1, (v_g1.out h).2.past bx⟩), (fun h => ⟨(v_g2.out h).1, (v_g2.out h).2.past bx⟩), s_g1, s_g2, (fun _ => rfl), r_g2, p_g1_g2⟩
    · rintro L a w ⟨b0, b1, b2, b3, b4, b5, b6, b7, x17, x18, x19, x20, x5, x6, K1, N1, S1, K2, N2, S2, g1, g2, rfl, rfl, hb, cd0, cd1, cd2, cd3, cd4, cd5, v_g1, v_g2, s_g1, s_g2, r_g1, r_g2, p_g1_g2⟩ hf hd
      have hf' : b2 = false := hf
      subst hf'
      clear hf hd
      try simp only [List.setIfInBounds_toArray, List.set_cons_zero, List.set_cons_succ]
      have z := t2.past hb
      obtain ⟨z0, z1, z2, -, -, -, -⟩ := z
      intro K hK
      rw [if_pos (by rfl)]
      go_simp
      exact hK.out _ _ ⟨b0, b1, true, b3, b4, b5, b6, b7, x17, x18, (vv k2 n2 s2), x20, x5, x6, K1, N1, S1, K2, N2, S2, g1, g2, (by simp only [Act.put, List.setIfInBounds_toArray, List.set_cons_zero, List.set_cons_succ]), (by simp only [Act.put, List.setIfInBounds_toArray, List.set_cons_zero, List.set_cons_succ]), hb, cd0, cd1, (fun _ => rfl), cd3, cd4, cd5, v_g1, v_g2, s_g1, s_g2, r_g1, r_g2, p_g1_g2⟩
    · rintro L a w ⟨b0, b1, b2, b3, b4, b5, b6, b7, x17, x18, x19, x20, x5, x6, K1, N1, S1, K2, N2, S2, g1, g2, rfl, rfl, hb, cd0, cd1, cd2, cd3, cd4, cd5, v_g1, v_g2, s_g1, s_g2, r_g1, r_g2, p_g1_g2⟩ hf hd
      have hf' : b3 = false := hf
      subst hf'
      have d2 : b2 = true := hd ⟨2, .data⟩ (by simp) rfl
      subst d2
      have d1 : b1 = true := hd ⟨1, .chain⟩ (by simp) rfl
      subst d1
      obtain rfl := cd2.out rfl
      obtain ⟨rfl, q1_0, q1_1⟩ := cd1.out rfl
      clear hf hd
      try simp only [List.setIfInBounds_toArray, List.set_cons_zero, List.set_cons_succ]
      intro K hK
      rw [if_pos (by rfl)]
      go_simp
      go_at_call 15
      refine (good_any _ _ _ _).mono ?_
      rintro e w2 ⟨k, n, s, hv, -, hn, rfl, bx⟩
      have e_g2 : b7 = false := by cases hq : b7 with | false => rfl | true => exact absurd (r_g2.out hq) (by simp)
      subst e_g2
      exact hK.out _ _ ⟨b0, true, true, true, b4, b5, b6, false, x17, vv K1 N1 S1, vv k2 n2 s2, (vv k n s), x5, x6, K1, N1, S1, k, n, s, g1, g2, (by simp only [Act.put, List.setIfInBounds_toArray, List.set_cons_zero, List.set_cons_succ]), (by simp only [Act.put, List.setIfInBounds_toArray, List.set_cons_zero, List.set_cons_succ]), hb.trans (bx.mono hb.size), cd0, (fun _ => ⟨rfl, q1_0, q1_1⟩), (fun _ => rfl), (fun _ => ⟨rfl, hv, hn⟩), cd4, cd5, (fun h => ⟨(v_g1.out h).1, (v_g1.out h).2.past bx⟩), (fun h => ⟨(v_g2.out h).1, (v_g2.out h).2.past bx⟩), s_g1, s_g2, (fun _ => rfl), (fun _ => rfl), p_g1_g2⟩
    · rintro L a w ⟨b0, b1, b2, b3, b4, b5, b6, b7, x17, x18, x19, x20, x5, x6, K1, N1, S1, K2, N2, S2, g1, g2, rfl, rfl, hb, cd0, cd1, cd2, cd3, cd4, cd5, v_g1, v_g2, s_g1, s_g2, r_g1, r_g2, p_g1_g2⟩ hf hd
      have hf' : b4 = false := hf
      subst hf'
      clear hf hd
      try simp only [List.setIfInBounds_toArray, List.set_cons_zero, List.set_cons_succ]
      intro K hK
      rw [if_pos (by rfl)]
      go_simp
      have bx : Below w.heap.size w (w.alloc (.cells #[.int .i64 0, .int .i64 0, .string ⟨#[]⟩] 36)) := (Below.refl _ _).alloc (Nat.le_refl _) _
      exact hK.out _ _ ⟨b0, b1, b2, b3, true, b5, b6, b7, x17, x18, x19, x20, (.pointer (some ⟨(w.heap.size), 0, none⟩)), x6, K1, N1, S1, K2, N2, S2, w.heap.size, g2, (by simp only [Act.put, List.setIfInBounds_toArray, List.set_cons_zero, List.set_cons_succ]), (by simp only [Act.put, List.setIfInBounds_toArray, List.set_cons_zero, List.set_cons_succ]), hb.trans (bx.mono hb.size), cd0, cd1, cd2, cd3, (fun _ => rfl), cd5, (fun _ => ⟨hb.size, by cases hq : b6 with | false => exact VAt.new w 0 0 ⟨#[]⟩ | true => exact absurd (s_g1.out hq) (by simp)⟩), (fun h => ⟨(v_g2.out h).1, (v_g2.out h).2.past bx⟩), (fun _ => rfl), s_g2, r_g1, r_g2, (fun _ h => Nat.ne_of_gt (v_g2.out h).2.lt)⟩
    · rintro L a w ⟨b0, b1, b2, b3, b4, b5, b6, b7, x17, x18, x19, x20, x5, x6, K1, N1, S1, K2, N2, S2, g1, g2, rfl, rfl, hb, cd0, cd1, cd2, cd3, cd4, cd5, v_g1, v_g2, s_g1, s_g2, r_g1, r_g2, p_g1_g2⟩ hf hd
      have hf' : b5 = false := hf
      subst hf'
      clear hf hd
      try simp only [List.setIfInBounds_toArray, List.set_cons_zero, List.set_cons_succ]
      intro K hK
      rw [if_pos (by rfl)]
      go_simp
      have bx : Below w.heap.size w (w.alloc (.cells #[.int .i64 0, .int .i64 0, .string ⟨#[]⟩] 36)) := (Below.refl _ _).alloc (Nat.le_refl _) _
      exact hK.out _ _ ⟨b0, b1, b2, b3, b4, true, b6, b7, x17, x18, x19, x20, x5, (.pointer (some ⟨(w.heap.size), 0, none⟩)), K1, N1, S1, K2, N2, S2, g1, w.heap.size, (by simp only [Act.put, List.setIfInBounds_toArray, List.set_cons_zero, List.set_cons_succ]), (by simp only [Act.put, List.setIfInBounds_toArray, List.set_cons_zero, List.set_cons_succ]), hb.trans (bx.mono hb.size), cd0, cd1, cd2, cd3, cd4, (fun _ => rfl), (fun h => ⟨(v_g1.out h).1, (v_g1.out h).2.past bx⟩), (fun _ => ⟨hb.size, by cases hq : b7 with | false => exact VAt.new w 0 0 ⟨#[]⟩ | true => exact absurd (s_g2.out hq) (by simp)⟩), s_g1, (fun _ => rfl), r_g1, r_g2, (fun h _ => Nat.ne_of_lt (v_g1.out h).2.lt)⟩
    · rintro L a w ⟨b0, b1, b2, b3, b4, b5, b6, b7, x17, x18, x19, x20, x5, x6, K1, N1, S1, K2, N2, S2, g1, g2, rfl, rfl, hb, cd0, cd1, cd2, cd3, cd4, cd5, v_g1, v_g2, s_g1, s_g2, r_g1, r_g2, p_g1_g2⟩ hf hd
      have hf' : b6 = false := hf
      subst hf'
      have d4 : b4 = true := hd ⟨4, .data⟩ (by simp) rfl
      subst d4
      have d1 : b1 = true := hd ⟨1, .data⟩ (by simp) rfl
      subst d1
      have d3 : b3 = true := hd ⟨3, .chain⟩ (by simp) rfl
      subst d3
      have d0 : b0 = true := hd ⟨0, .phase⟩ (by simp) rfl
      subst d0
      have d5 : b5 = true := hd ⟨5, .phase⟩ (by simp) rfl
      subst d5
      obtain rfl := cd4.out rfl
      obtain ⟨rfl, q1_0, q1_1⟩ := cd1.out rfl
      obtain ⟨rfl, q3_0, q3_1⟩ := cd3.out rfl
      obtain rfl := cd0.out rfl
      obtain rfl := cd5.out rfl
      clear hf hd
      try simp only [List.setIfInBounds_toArray, List.set_cons_zero, List.set_cons_succ]
      obtain ⟨vg, va⟩ := v_g1.out rfl
      simp only [cond_false] at va
      obtain ⟨z0, z1, z2, y0, y1, y2, vl⟩ := id va
      intro K hK
      rw [if_pos (by rfl)]
      go_simp
      have NE_g1_g2 : true = true → g1 ≠ g2 := fun h => p_g1_g2.out rfl h
      exact hK.out _ _ ⟨true, true, b2, true, true, true, true, b7, vv k1 n1 s1, vv K1 N1 S1, x19, vv K2 N2 S2, .pointer (some ⟨g1, 0, none⟩), .pointer (some ⟨g2, 0, none⟩), K1, N1, S1, K2, N2, S2, g1, g2, (by simp only [Act.put, List.setIfInBounds_toArray, List.set_cons_zero, List.set_cons_succ]), (by simp only [Act.put, List.setIfInBounds_toArray, List.set_cons_zero, List.set_cons_succ]), ((hb.setCell (p := ⟨g1, 0, none⟩) vg _).setCell (p := ⟨g1, 1, none⟩) vg _).setCell (p := ⟨g1, 2, none⟩) vg _, (fun _ => rfl), (fun _ => ⟨rfl, q1_0, q1_1⟩), cd2, (fun _ => ⟨rfl, q3_0, q3_1⟩), (fun _ => rfl), (fun _ => rfl), (fun _ => ⟨vg, va.set _ _ _⟩), (fun h => ⟨(v_g2.out h).1, (((v_g2.out h).2.far (NE_g1_g2 h) 0 _).far (NE_g1_g2 h) 1 _).far (NE_g1_g2 h) 2 _⟩), (fun _ => rfl), (fun _ => rfl), (fun _ => rfl), (fun _ => rfl), p_g1_g2⟩
    · rintro L a w ⟨b0, b1, b2, b3, b4, b5, b6, b7, x17, x18, x19, x20, x5, x6, K1, N1, S1, K2, N2, S2, g1, g2, rfl, rfl, hb, cd0, cd1, cd2, cd3, cd4, cd5, v_g1, v_g2, s_g1, s_g2, r_g1, r_g2, p_g1_g2⟩ hf hd
      have hf' : b7 = false := hf
      subst hf'
      have d5 : b5 = true := hd ⟨5, .data⟩ (by simp) rfl
      subst d5
      have d3 : b3 = true := hd ⟨3, .data⟩ (by simp) rfl
      subst d3
      have d6 : b6 = true := hd ⟨6, .chain⟩ (by simp) rfl
      subst d6
      have d0 : b0 = true := hd ⟨0, .phase⟩ (by simp) rfl
      subst d0
      have d1 : b1 = true := hd ⟨1, .phase⟩ (by simp) rfl
      subst d1
      have d2 : b2 = true := hd ⟨2, .phase⟩ (by simp) rfl
      subst d2
      have d4 : b4 = true := hd ⟨4, .phase⟩ (by simp) rfl
      subst d4
      obtain rfl := cd5.out rfl
      obtain ⟨rfl, q3_0, q3_1⟩ := cd3.out rfl
      obtain rfl := cd0.out rfl
      obtain ⟨rfl, q1_0, q1_1⟩ := cd1.out rfl
      obtain rfl := cd2.out rfl
      obtain rfl := cd4.out rfl
      clear hf hd
      try simp only [List.setIfInBounds_toArray, List.set_cons_zero, List.set_cons_succ]
      obtain ⟨vg, va⟩ := v_g2.out rfl
      simp only [cond_false] at va
      obtain ⟨z0, z1, z2, y0, y1, y2, vl⟩ := id va
      intro K hK
      rw [if_pos (by rfl)]
      go_simp
      have NE_g2_g1 : true = true → g2 ≠ g1 := fun h => (p_g1_g2.out h rfl).symm
      exact hK.out _ _ ⟨true, true, true, true, true, true, true, true, vv k1 n1 s1, vv K1 N1 S1, vv k2 n2 s2, vv K2 N2 S2, .pointer (some ⟨g1, 0, none⟩), .pointer (some ⟨g2, 0, none⟩), K1, N1, S1, K2, N2, S2, g1, g2, (by simp only [Act.put, List.setIfInBounds_toArray, List.set_cons_zero, List.set_cons_succ]), (by simp only [Act.put, List.setIfInBounds_toArray, List.set_cons_zero, List.set_cons_succ]), ((hb.setCell (p := ⟨g2, 0, none⟩) vg _).setCell (p := ⟨g2, 1, none⟩) vg _).setCell (p := ⟨g2, 2, none⟩) vg _, (fun _ => rfl), (fun _ => ⟨rfl, q1_0, q1_1⟩), (fun _ => rfl), (fun _ => ⟨rfl, q3_0, q3_1⟩), (fun _ => rfl), (fun _ => rfl), (fun h => ⟨(v_g1.out h).1, (((v_g1.out h).2.far (NE_g2_g1 h) 0 _).far (NE_g2_g1 h) 1 _).far (NE_g2_g1 h) 2 _⟩), (fun _ => ⟨vg, va.set _ _ _⟩), (fun _ => rfl), (fun _ => rfl), (fun _ => rfl), (fun _ => rfl), p_g1_g2⟩
  · rintro a w ⟨b0, b1, b2, b3, b4, b5, b6, b7, x17, x18, x19, x20, x5, x6, K1, N1, S1, K2, N2, S2, g1, g2, hL, rfl, hb, cd0, cd1, cd2, cd3, cd4, cd5, v_g1, v_g2, s_g1, s_g2, r_g1, r_g2, p_g1_g2⟩
    have hL' : [true, true, true, true, true, true, true, true] = [b0, b1, b2, b3, b4, b5, b6, b7] := congrArg Array.toList hL
    simp only [List.cons.injEq, and_true] at hL'
    obtain ⟨rfl, rfl, rfl, rfl, rfl, rfl, rfl, rfl⟩ := hL'
    obtain rfl := cd0.out rfl
    obtain ⟨rfl, q1_0, q1_1⟩ := cd1.out rfl
    obtain rfl := cd2.out rfl
    obtain ⟨rfl, q3_0, q3_1⟩ := cd3.out rfl
    obtain rfl := cd4.out rfl
    obtain rfl := cd5.out rfl
    obtain ⟨vg_g1, va_g1⟩ := v_g1.out rfl
    simp only [cond_true] at va_g1
    obtain ⟨vg_g2, va_g2⟩ := v_g2.out rfl
    simp only [cond_true] at va_g2
    replace p_g1_g2 := p_g1_g2.out rfl rfl
    clear hL
    simp only [List.setIfInBounds_toArray, List.set_cons_zero, List.set_cons_succ]
    replace b1 := b1.trans (hb.mono b1.size)
    replace t1 := t1.past hb
    replace tb := tb.past hb
    clear t2 hb p_g1_g2 vg_g1 vg_g2
    have hr1 : -9223372036854775808 ≤ N1 ∧ N1 ≤ 9223372036854775807 := by have := wf_rng wn1; omega
    have hc1 := check_any k1 n1 s1
    have hc2 := rchk4_any k1 n1 s1
    have hc3 := check_any K1 N1 S1
    rw [val_chk q1_0] at hc3
    have hd1 := compare_any K1 N1 S1 K2 N2 S2
    have hd2 := fun w => rcmp4_any K1 N1 S1 K2 N2 S2 w q1_0 q3_0
    have ht1 := fun w h => text_any4 K1 N1 S1 w h q1_0 hr1
    have ht2 := fun w => rtext4_any K1 N1 S1 w q1_0 hr1
    generalize chkV k1 n1 s1 = cq at hc1 hc2
    generalize cmpV K1 N1 S1 K2 N2 S2 = cc at hd1 hd2
    generalize (⟨(txtV K1 N1 S1).toArray⟩ : ByteArray) = tx at ht1 ht2
    clear q1_0 q1_1 q3_0 q3_1 hr1
    go_wp2_with fail
    replace t1 := t1.drew
    replace va_g1 := va_g1.drew
    replace va_g2 := va_g2.drew
    replace b1 := b1.drew
    replace tb := tb.drew
    refine region_inv (VAll6 k1 n1 s1 K1 N1 S1 K2 N2 S2 cq cc tx) (by kernel_rfl) (by kernel_rfl) ?_ ?_ ?_
    · exact ⟨false, false, false, false, false, false, false, false, false, false, false, false, false, false, false, false, false, false, false, false, false, false, false, false, false, false, false, undef, undef, undef, undef, undef, undef, undef, undef, undef, undef, undef, undef, undef, undef, undef, undef, undef, undef, undef, undef, undef, undef, undef, undef, undef, undef, .bool false, rfl, (by simp only [Act.put, List.setIfInBounds_toArray, List.set_cons_zero, List.set_cons_succ]), Below.refl _ _, (fun h => by cases h), (fun h => by cases h), (fun h => by cases h), (fun h => by cases h), (fun h => by cases h), (fun h => by cases h), (fun h => by cases h), (fun h => by cases h), (fun h => by cases h), (fun h => by cases h), (fun h => by cases h), (fun h => by cases h), (fun h => by cases h), (fun h => by cases h), (fun h => by cases h), (fun h => by cases h), (fun h => by cases h), (fun h => by cases h), (fun h => by cases h), (fun h => by cases h), (fun h => by cases h), (fun h => by cases h), (fun h => by cases h), (fun h => by cases h), (fun h => by cases h), (fun h => by cases h), (fun h => by cases h)⟩
    · refine ⟨?_, ?_, ?_, ?_, ?_, ?_, ?_, ?_, ?_, ?_, ?_, ?_, ?_, ?_, ?_, ?_, ?_, ?_, ?_, ?_, ?_, ?_, ?_, ?_, ?_, ?_, ?_, trivial⟩
      · rintro L a w ⟨b0, b1, b2, b3, b4, b5, b6, b7, b8, b9, b10, b11, b12, b13, b14, b15, b16, b17, b18, b19, b20, b21, b22, b23, b24, b25, b26, x21, x22, x23, x24, x25, x26, x27, x28, x29, x30, x31, x32, x33, x34, x35, x36, x37, x38, x39, x40, x41, x42, x43, x44, x45, x46, x4, rfl, rfl, hb, cd0, cd1, cd2, cd3, cd4, cd5, cd6, cd7, cd8, cd9, cd10, cd11, cd12, cd13, cd14, cd15, cd16, cd17, cd18, cd19, cd20, cd21, cd22, cd23, cd24, cd25, cd26⟩ hf hd
        have hf' : b0 = false := hf
        subst hf'
        clear hf hd
        try simp only [List.setIfInBounds_toArray, List.set_cons_zero, List.set_cons_succ]
        have z := t1.past hb
        obtain ⟨z0, z1, z2, -, -, -, -⟩ := z
        intro K hK
        rw [if_pos (by rfl)]
        go_simp
        exact hK.out _ _ ⟨true, b1, b2, b3, b4, b5, b6, b7, b8, b9, b10, b11, b12, b13, b14, b15, b16, b17, b18, b19, b20, b21, b22, b23, b24, b25, b26, (vv k1 n1 s1), x22, x23, x24, x25, x26, x27, x28, x29, x30, x31, x32, x33, x34, x35, x36, x37, x38, x39, x40, x41, x42, x43, x44, x45, x46, x4, (by simp only [Act.put, List.setIfInBounds_toArray, List.set_cons_zero, List.set_cons_succ]), (by simp only [Act.put, List.setIfInBounds_toArray, List.set_cons_zero, List.set_cons_succ]), hb, (fun _ => rfl), cd1, cd2, cd3, cd4, cd5, cd6, cd7, cd8, cd9, cd10, cd11, cd12, cd13, cd14, cd15, cd16, cd17, cd18, cd19, cd20, cd21, cd22, cd23, cd24, cd25, cd26⟩
      · rintro L a w ⟨b0, b1, b2, b3, b4, b5, b6, b7, b8, b9, b10, b11, b12, b13, b14, b15, b16, b17, b18, b19, b20, b21, b22, b23, b24, b25, b26, x21, x22, x23, x24, x25, x26, x27, x28, x29, x30, x31, x32, x33, x34, x35, x36, x37, x38, x39, x40, x41, x42, x43, x44, x45, x46, x4, rfl, rfl, hb, cd0, cd1, cd2, cd3, cd4, cd5, cd6, cd7, cd8, cd9, cd10, cd11, cd12, cd13, cd14, cd15, cd16, cd17, cd18, cd19, cd20, cd21, cd22, cd23, cd24, cd25, cd26⟩ hf hd
        have hf' : b1 = false := hf
        subst hf'
        have d0 : b0 = true := hd ⟨0, .data⟩ (by simp) rfl
        subst d0
        obtain rfl := cd0.out rfl
        clear hf hd
        try simp only [List.setIfInBounds_toArray, List.set_cons_zero, List.set_cons_succ]
        intro K hK
        rw [if_pos (by rfl)]
        go_simp
        go_at_call 16
        refine (hc1 _).mono ?_
        rintro e w2 ⟨rfl, bx⟩
        exact hK.out _ _ ⟨true, true, b2, b3, b4, b5, b6, b7, b8, b9, b10, b11, b12, b13, b14, b15, b16, b17, b18, b19, b20, b21, b22, b23, b24, b25, b26, vv k1 n1 s1, (.int .i64 cq), x23, x24, x25, x26, x27, x28, x29, x30, x31, x32, x33, x34, x35, x36, x37, x38, x39, x40, x41, x42, x43, x44, x45, x46, x4, (by simp only [Act.put, List.setIfInBounds_toArray, List.set_cons_zero, List.set_cons_succ]), (by simp only [Act.put, List.setIfInBounds_toArray, List.set_cons_zero, List.set_cons_succ]), hb.trans (bx.mono hb.size), (fun _ => rfl), (fun _ => rfl), cd2, cd3, cd4, cd5, cd6, cd7, cd8, cd9, cd10, cd11, cd12, cd13, cd14, cd15, cd16, cd17, cd18, cd19, cd20, cd21, cd22, cd23, cd24, cd25, cd26⟩
      · rintro L a w ⟨b0, b1, b2, b3, b4, b5, b6, b7, b8, b9, b10, b11, b12, b13, b14, b15, b16, b17, b18, b19, b20, b21, b22, b23, b24, b25, b26, x21, x22, x23, x24, x25, x26, x27, x28, x29, x30, x31, x32, x33, x34, x35, x36, x37, x38, x39, x40, x41, x42, x43, x44, x45, x46, x4, rfl, rfl, hb, cd0, cd1, cd2, cd3, cd4, cd5, cd6, cd7, cd8, cd9, cd10, cd11, cd12, cd13, cd14, cd15, cd16, cd17, cd18, cd19, cd20, cd21, cd22, cd23, cd24, cd25, cd26⟩ hf hd
        have hf' : b2 = false := hf
        subst hf'
        clear hf hd
        try simp only [List.setIfInBounds_toArray, List.set_cons_zero, List.set_cons_succ]
        have z := t1.past hb
        obtain ⟨z0, z1, z2, -, -, -, -⟩ := z
        intro K hK
        rw [if_pos (by rfl)]
        go_simp
        exact hK.out _ _ ⟨b0, b1, true, b3, b4, b5, b6, b7, b8, b9, b10, b11, b12, b13, b14, b15, b16, b17, b18, b19, b20, b21, b22, b23, b24, b25, b26, x21, x22, (vv k1 n1 s1), x24, x25, x26, x27, x28, x29, x30, x31, x32, x33, x34, x35, x36, x37, x38, x39, x40, x41, x42, x43, x44, x45, x46, x4, (by simp only [Act.put, List.setIfInBounds_toArray, List.set_cons_zero, List.set_cons_succ]), (by simp only [Act.put, List.setIfInBounds_toArray, List.set_cons_zero, List.set_cons_succ]), hb, cd0, cd1, (fun _ => rfl), cd3, cd4, cd5, cd6, cd7, cd8, cd9, cd10, cd11, cd12, cd13, cd14, cd15, cd16, cd17, cd18, cd19, cd20, cd21, cd22, cd23, cd24, cd25, cd26⟩
      · rintro L a w ⟨b0, b1, b2, b3, b4, b5, b6, b7, b8, b9, b10, b11, b12, b13, b14, b15, b16, b17, b18, b19, b20, b21, b22, b23, b24, b25, b26, x21, x22, x23, x24, x25, x26, x27, x28, x29, x30, x31, x32, x33, x34, x35, x36, x37, x38, x39, x40, x41, x42, x43, x44, x45, x46, x4, rfl, rfl, hb, cd0, cd1, cd2, cd3, cd4, cd5, cd6, cd7, cd8, cd9, cd10, cd11, cd12, cd13, cd14, cd15, cd16, cd17, cd18, cd19, cd20, cd21, cd22, cd23, cd24, cd25, cd26⟩ hf hd
        have hf' : b3 = false := hf
        subst hf'
        have d2 : b2 = true := hd ⟨2, .data⟩ (by simp) rfl
        subst d2
        have d1 : b1 = true := hd ⟨1, .chain⟩ (by simp) rfl
        subst d1
        obtain rfl := cd2.out rfl
        obtain rfl := cd1.out rfl
        clear hf hd
        try simp only [List.setIfInBounds_toArray, List.set_cons_zero, List.set_cons_succ]
        intro K hK
        rw [if_pos (by rfl)]
        go_simp
        go_at_call 17
        refine (hc2 _).mono ?_
        rintro e w2 ⟨rfl, bx⟩
        exact hK.out _ _ ⟨b0, true, true, true, b4, b5, b6, b7, b8, b9, b10, b11, b12, b13, b14, b15, b16, b17, b18, b19, b20, b21, b22, b23, b24, b25, b26, x21, .int .i64 cq, vv k1 n1 s1, (.int .i64 cq), x25, x26, x27, x28, x29, x30, x31, x32, x33, x34, x35, x36, x37, x38, x39, x40, x41, x42, x43, x44, x45, x46, x4, (by simp only [Act.put, List.setIfInBounds_toArray, List.set_cons_zero, List.set_cons_succ]), (by simp only [Act.put, List.setIfInBounds_toArray, List.set_cons_zero, List.set_cons_succ]), hb.trans (bx.mono hb.size), cd0, (fun _ => rfl), (fun _ => rfl), (fun _ => rfl), cd4, cd5, cd6, cd7, cd8, cd9, cd10, cd11, cd12, cd13, cd14, cd15, cd16, cd17, cd18, cd19, cd20, cd21, cd22, cd23, cd24, cd25, cd26⟩
      · rintro L a w ⟨b0, b1, b2, b3, b4, b5, b6, b7, b8, b9, b10, b11, b12, b13, b14, b15, b16, b17, b18, b19, b20, b21, b22, b23, b24, b25, b26, x21, x22, x23, x24, x25, x26, x27, x28, x29, x30, x31, x32, x33, x34, x35, x36, x37, x38, x39, x40, x41, x42, x43, x44, x45, x46, x4, rfl, rfl, hb, cd0, cd1, cd2, cd3, cd4, cd5, cd6, cd7, cd8, cd9, cd10, cd11, cd12, cd13, cd14, cd15, cd16, cd17, cd18, cd19, cd20, cd21, cd22, cd23, cd24, cd25, cd26⟩ hf hd
        have hf' : b4 = false := hf
        subst hf'
        have d1 : b1 = true := hd ⟨1, .data⟩ (by simp) rfl
        subst d1
        have d3 : b3 = true := hd ⟨3, .data⟩ (by simp) rfl
        subst d3
        obtain rfl := cd1.out rfl
        obtain rfl := cd3.out rfl
        clear hf hd
        try simp only [List.setIfInBounds_toArray, List.set_cons_zero, List.set_cons_succ]
        intro K hK
        rw [if_pos (by rfl)]
        go_simp
        exact hK.out _ _ ⟨b0, true, b2, true, true, b5, b6, b7, b8, b9, b10, b11, b12, b13, b14, b15, b16, b17, b18, b19, b20, b21, b22, b23, b24, b25, b26, x21, .int .i64 cq, x23, .int .i64 cq, (.bool true), x26, x27, x28, x29, x30, x31, x32, x33, x34, x35, x36, x37, x38, x39, x40, x41, x42, x43, x44, x45, x46, x4, (by simp only [Act.put, List.setIfInBounds_toArray, List.set_cons_zero, List.set_cons_succ]), (by simp only [Act.put, List.setIfInBounds_toArray, List.set_cons_zero, List.set_cons_succ]), hb, cd0, (fun _ => rfl), cd2, (fun _ => rfl), (fun _ => rfl), cd5, cd6, cd7, cd8, cd9, cd10, cd11, cd12, cd13, cd14, cd15, cd16, cd17, cd18, cd19, cd20, cd21, cd22, cd23, cd24, cd25, cd26⟩
      · rintro L a w ⟨b0, b1, b2, b3, b4, b5, b6, b7, b8, b9, b10, b11, b12, b13, b14, b15, b16, b17, b18, b19, b20, b21, b22, b23, b24, b25, b26, x21, x22, x23, x24, x25, x26, x27, x28, x29, x30, x31, x32, x33, x34, x35, x36, x37, x38, x39, x40, x41, x42, x43, x44, x45, x46, x4, rfl, rfl, hb, cd0, cd1, cd2, cd3, cd4, cd5, cd6, cd7, cd8, cd9, cd10, cd11, cd12, cd13, cd14, cd15, cd16, cd17, cd18, cd19, cd20, cd21, cd22, cd23, cd24, cd25, cd26⟩ hf hd
        have hf' : b5 = false := hf
        subst hf'
        have d4 : b4 = true := hd ⟨4, .data⟩ (by simp) rfl
        subst d4
        have d3 : b3 = true := hd ⟨3, .chain⟩ (by simp) rfl
        subst d3
        obtain rfl := cd4.out rfl
        obtain rfl := cd3.out rfl
        clear hf hd
        try simp only [List.setIfInBounds_toArray, List.set_cons_zero, List.set_cons_succ]
        intro K hK
        rw [if_pos (by rfl)]
        go_simp
        exact hK.out _ _ ⟨b0, b1, b2, true, true, true, b6, b7, b8, b9, b10, b11, b12, b13, b14, b15, b16, b17, b18, b19, b20, b21, b22, b23, b24, b25, b26, x21, x22, x23, .int .i64 cq, .bool true, (.bool true), x27, x28, x29, x30, x31, x32, x33, x34, x35, x36, x37, x38, x39, x40, x41, x42, x43, x44, x45, x46, x4, (by simp only [Act.put, List.setIfInBounds_toArray, List.set_cons_zero, List.set_cons_succ]), (by simp only [Act.put, List.setIfInBounds_toArray, List.set_cons_zero, List.set_cons_succ]), hb, cd0, cd1, cd2, (fun _ => rfl), (fun _ => rfl), (fun _ => rfl), cd6, cd7, cd8, cd9, cd10, cd11, cd12, cd13, cd14, cd15, cd16, cd17, cd18, cd19, cd20, cd21, cd22, cd23, cd24, cd25, cd26⟩
      · rintro L a w ⟨b0, b1, b2, b3, b4, b5, b6, b7, b8, b9, b10, b11, b12, b13, b14, b15, b16, b17, b18, b19, b20, b21, b22, b23, b24, b25, b26, x21, x22, x23, x24, x25, x26, x27, x28, x29, x30, x31, x32, x33, x34, x35, x36, x37, x38, x39, x40, x41, x42, x43, x44, x45, x46, x4, rfl, rfl, hb, cd0, cd1, cd2, cd3, cd4, cd5, cd6, cd7, cd8, cd9, cd10, cd11, cd12, cd13, cd14, cd15, cd16, cd17, cd18, cd19, cd20, cd21, cd22, cd23, cd24, cd25, cd26⟩ hf hd
        have hf' : b6 = false := hf
        subst hf'
        have d5 : b5 = true := hd ⟨5, .guard⟩ (by simp) rfl
        subst d5
        obtain rfl := cd5.out rfl
        clear hf hd
        try simp only [List.setIfInBounds_toArray, List.set_cons_zero, List.set_cons_succ]
        have z := va_g1.past hb
        obtain ⟨z0, z1, z2, -, -, -, -⟩ := z
        intro K hK
        rw [if_pos (by rfl)]
        go_simp
        exact hK.out _ _ ⟨b0, b1, b2, b3, b4, true, true, b7, b8, b9, b10, b11, b12, b13, b14, b15, b16, b17, b18, b19, b20, b21, b22, b23, b24, b25, b26, x21, x22, x23, x24, x25, .bool true, (vv K1 N1 S1), x28, x29, x30, x31, x32, x33, x34, x35, x36, x37, x38, x39, x40, x41, x42, x43, x44, x45, x46, x4, (by simp only [Act.put, List.setIfInBounds_toArray, List.set_cons_zero, List.set_cons_succ]), (by simp only [Act.put, List.setIfInBounds_toArray, List.set_cons_zero, List.set_cons_succ]), hb, cd0, cd1, cd2, cd3, cd4, (fun _ => rfl), (fun _ => rfl), cd7, cd8, cd9, cd10, cd11, cd12, cd13, cd14, cd15, cd16, cd17, cd18, cd19, cd20, cd21, cd22, cd23, cd24, cd25, cd26⟩
      · rintro L a w ⟨b0, b1, b2, b3, b4, b5, b6, b7, b8, b9, b10, b11, b12, b13, b14, b15, b16, b17, b18, b19, b20, b21, b22, b23, b24, b25, b26, x21, x22, x23, x24, x25, x26, x27, x28, x29, x30, x31, x32, x33, x34, x35, x36, x37, x38, x39, x40, x41, x42, x43, x44, x45, x46, x4, rfl, rfl, hb, cd0, cd1, cd2, cd3, cd4, cd5, cd6, cd7, cd8, cd9, cd10, cd11, cd12, cd13, cd14, cd15, cd16, cd17, cd18, cd19, cd20, cd21, cd22, cd23, cd24, cd25, cd26⟩ hf hd
        have hf' : b7 = false := hf
        subst hf'
        have d6 : b6 = true := hd ⟨6, .data⟩ (by simp) rfl
        subst d6
        have d5 : b5 = true := hd ⟨5, .chain⟩ (by simp) rfl
        subst d5
        obtain rfl := cd6.out rfl
        obtain rfl := cd5.out rfl
        clear hf hd
        try simp only [List.setIfInBounds_toArray, List.set_cons_zero, List.set_cons_succ]
        intro K hK
        rw [if_pos (by rfl)]
        go_simp
        go_at_call 16
        refine (hc3 _).mono ?_
        rintro e w2 ⟨rfl, bx⟩
        exact hK.out _ _ ⟨b0, b1, b2, b3, b4, true, true, true, b8, b9, b10, b11, b12, b13, b14, b15, b16, b17, b18, b19, b20, b21, b22, b23, b24, b25, b26, x21, x22, x23, x24, x25, .bool true, vv K1 N1 S1, (.int .i64 0), x29, x30, x31, x32, x33, x34, x35, x36, x37, x38, x39, x40, x41, x42, x43, x44, x45, x46, x4, (by simp only [Act.put, List.setIfInBounds_toArray, List.set_cons_zero, List.set_cons_succ]), (by simp only [Act.put, List.setIfInBounds_toArray, List.set_cons_zero, List.set_cons_succ]), hb.trans (bx.mono hb.size), cd0, cd1, cd2, cd3, cd4, (fun _ => rfl), (fun _ => rfl), (fun _ => rfl), cd8, cd9, cd10, cd11, cd12, cd13, cd14, cd15, cd16, cd17, cd18, cd19, cd20, cd21, cd22, cd23, cd24, cd25, cd26⟩
      · rintro L a w ⟨b0, b1, b2, b3, b4, b5, b6, b7, b8, b9, b10, b11, b12, b13, b14, b15, b16, b17, b18, b19, b20, b21, b22, b23, b24, b25, b26, x21, x22, x23, x24, x25, x26, x27, x28, x29, x30, x31, x32, x33, x34, x35, x36, x37, x38, x39, x40, x41, x42, x43, x44, x45, x46, x4, rfl, rfl, hb, cd0, cd1, cd2, cd3, cd4, cd5, cd6, cd7, cd8, cd9, cd10, cd11, cd12, cd13, cd14, cd15, cd16, cd17, cd18, cd19, cd20, cd21, cd22, cd23, cd24, cd25, cd26⟩ hf hd
        have hf' : b8 = false := hf
        subst hf'
        have d7 : b7 = true := hd ⟨7, .data⟩ (by simp) rfl
        subst d7
        have d5 : b5 = true := hd ⟨5, .guard⟩ (by simp) rfl
        subst d5
        obtain rfl := cd7.out rfl
        obtain rfl := cd5.out rfl
        clear hf hd
        try simp only [List.setIfInBounds_toArray, List.set_cons_zero, List.set_cons_succ]
        intro K hK
        rw [if_pos (by rfl)]
        go_simp
        exact hK.out _ _ ⟨b0, b1, b2, b3, b4, true, b6, true, true, b9, b10, b11, b12, b13, b14, b15, b16, b17, b18, b19, b20, b21, b22, b23, b24, b25, b26, x21, x22, x23, x24, x25, .bool true, x27, .int .i64 0, (.bool true), x30, x31, x32, x33, x34, x35, x36, x37, x38, x39, x40, x41, x42, x43, x44, x45, x46, x4, (by simp only [Act.put, List.setIfInBounds_toArray, List.set_cons_zero, List.set_cons_succ]), (by simp only [Act.put, List.setIfInBounds_toArray, List.set_cons_zero, List.set_cons_succ]), hb, cd0, cd1, cd2, cd3, cd4, (fun _ => rfl), cd6, (fun _ => rfl), (fun _ => rfl), cd9, cd10, cd11, cd12, cd13, cd14, cd15, cd16, cd17, cd18, cd19, cd20, cd21, cd22, cd23, cd24, cd25, cd26⟩
      · rintro L a w ⟨b0, b1, b2, b3, b4, b5, b6, b7, b8, b9, b10, b11, b12, b13, b14, b15, b16, b17, b18, b19, b20, b21, b22, b23, b24, b25, b26, x21, x22, x23, x24, x25, x26, x27, x28, x29, x30, x31, x32, x33, x34, x35, x36, x37, x38, x39, x40, x41, x42, x43, x44, x45, x46, x4, rfl, rfl, hb, cd0, cd1, cd2, cd3, cd4, cd5, cd6, cd7, cd8, cd9, cd10, cd11, cd12, cd13, cd14, cd15, cd16, cd17, cd18, cd19, cd20, cd21, cd22, cd23, cd24, cd25, cd26⟩ hf hd
        have hf' : b9 = false := hf
        subst hf'
        have d5 : b5 = true := hd ⟨5, .data⟩ (by simp) rfl
        subst d5
        have d8 : b8 = true := hd ⟨8, .data⟩ (by simp) rfl
        subst d8
        obtain rfl := cd5.out rfl
        obtain rfl := cd8.out rfl
        clear hf hd
        try simp only [List.setIfInBounds_toArray, List.set_cons_zero, List.set_cons_succ]
        intro K hK
        rw [if_pos (by rfl)]
        go_simp
        exact hK.out _ _ ⟨b0, b1, b2, b3, b4, true, b6, b7, true, true, b10, b11, b12, b13, b14, b15, b16, b17, b18, b19, b20, b21, b22, b23, b24, b25, b26, x21, x22, x23, x24, x25, .bool true, x27, x28, .bool true, (.bool true), x31, x32, x33, x34, x35, x36, x37, x38, x39, x40, x41, x42, x43, x44, x45, x46, x4, (by simp only [Act.put, List.setIfInBounds_toArray, List.set_cons_zero, List.set_cons_succ]), (by simp only [Act.put, List.setIfInBounds_toArray, List.set_cons_zero, List.set_cons_succ]), hb, cd0, cd1, cd2, cd3, cd4, (fun _ => rfl), cd6, cd7, (fun _ => rfl), (fun _ => rfl), cd10, cd11, cd12, cd13, cd14, cd15, cd16, cd17, cd18, cd19, cd20, cd21, cd22, cd23, cd24, cd25, cd26⟩
      · rintro L a w ⟨b0, b1, b2, b3, b4, b5, b6, b7, b8, b9, b10, b11, b12, b13, b14, b15, b16, b17, b18, b19, b20, b21, b22, b23, b24, b25, b26, x21, x22, x23, x24, x25, x26, x27, x28, x29, x30, x31, x32, x33, x34, x35, x36, x37, x38, x39, x40, x41, x42, x43, x44, x45, x46, x4, rfl, rfl, hb, cd0, cd1, cd2, cd3, cd4, cd5, cd6, cd7, cd8, cd9, cd10, cd11, cd12, cd13, cd14, cd15, cd16, cd17, cd18, cd19, cd20, cd21, cd22, cd23, cd24, cd25, cd26⟩ hf hd
        have hf' : b10 = false := hf
        subst hf'
        have d9 : b9 = true := hd ⟨9, .data⟩ (by simp) rfl
        subst d9
        have d7 : b7 = true := hd ⟨7, .chain⟩ (by simp) rfl
        subst d7
        obtain rfl := cd9.out rfl
        obtain rfl := cd7.out rfl
        clear hf hd
        try simp only [List.setIfInBounds_toArray, List.set_cons_zero, List.set_cons_succ]
        intro K hK
        rw [if_pos (by rfl)]
        go_simp
        exact hK.out _ _ ⟨b0, b1, b2, b3, b4, b5, b6, true, b8, true, true, b11, b12, b13, b14, b15, b16, b17, b18, b19, b20, b21, b22, b23, b24, b25, b26, x21, x22, x23, x24, x25, x26, x27, .int .i64 0, x29, .bool true, (.bool true), x32, x33, x34, x35, x36, x37, x38, x39, x40, x41, x42, x43, x44, x45, x46, x4, (by simp only [Act.put, List.setIfInBounds_toArray, List.set_cons_zero, List.set_cons_succ]), (by simp only [Act.put, List.setIfInBounds_toArray, List.set_cons_zero, List.set_cons_succ]), hb, cd0, cd1, cd2, cd3, cd4, cd5, cd6, (fun _ => rfl), cd8, (fun _ => rfl), (fun _ => rfl), cd11, cd12, cd13, cd14, cd15, cd16, cd17, cd18, cd19, cd20, cd21, cd22, cd23, cd24, cd25, cd26⟩
      · rintro L a w ⟨b0, b1, b2, b3, b4, b5, b6, b7, b8, b9, b10, b11, b12, b13, b14, b15, b16, b17, b18, b19, b20, b21, b22, b23, b24, b25, b26, x21, x22, x23, x24, x25, x26, x27, x28, x29, x30, x31, x32, x33, x34, x35, x36, x37, x38, x39, x40, x41, x42, x43, x44, x45, x46, x4, rfl, rfl, hb, cd0, cd1, cd2, cd3, cd4, cd5, cd6, cd7, cd8, cd9, cd10, cd11, cd12, cd13, cd14, cd15, cd16, cd17, cd18, cd19, cd20, cd21, cd22, cd23, cd24, cd25, cd26⟩ hf hd
        have hf' : b11 = false := hf
        subst hf'
        have d10 : b10 = true := hd ⟨10, .guard⟩ (by simp) rfl
        subst d10
        obtain rfl := cd10.out rfl
        clear hf hd
        try simp only [List.setIfInBounds_toArray, List.set_cons_zero, List.set_cons_succ]
        have z := va_g1.past hb
        obtain ⟨z0, z1, z2, -, -, -, -⟩ := z
        intro K hK
        rw [if_pos (by rfl)]
        go_simp
        exact hK.out _ _ ⟨b0, b1, b2, b3, b4, b5, b6, b7, b8, b9, true, true, b12, b13, b14, b15, b16, b17, b18, b19, b20, b21, b22, b23, b24, b25, b26, x21, x22, x23, x24, x25, x26, x27, x28, x29, x30, .bool true, (vv K1 N1 S1), x33, x34, x35, x36, x37, x38, x39, x40, x41, x42, x43, x44, x45, x46, x4, (by simp only [Act.put, List.setIfInBounds_toArray, List.set_cons_zero, List.set_cons_succ]), (by simp only [Act.put, List.setIfInBounds_toArray, List.set_cons_zero, List.set_cons_succ]), hb, cd0, cd1, cd2, cd3, cd4, cd5, cd6, cd7, cd8, cd9, (fun _ => rfl), (fun _ => rfl), cd12, cd13, cd14, cd15, cd16, cd17, cd18, cd19, cd20, cd21, cd22, cd23, cd24, cd25, cd26⟩
      · rintro L a w ⟨b0, b1, b2, b3, b4, b5, b6, b7, b8, b9, b10, b11, b12, b13, b14, b15, b16, b17, b18, b19, b20, b21, b22, b23, b24, b25, b26, x21, x22, x23, x24, x25, x26, x27, x28, x29, x30, x31, x32, x33, x34, x35, x36, x37, x38, x39, x40, x41, x42, x43, x44, x45, x46, x4, rfl, rfl, hb, cd0, cd1, cd2, cd3, cd4, cd5, cd6, cd7, cd8, cd9, cd10, cd11, cd12, cd13, cd14, cd15, cd16, cd17, cd18, cd19, cd20, cd21, cd22, cd23, cd24, cd25, cd26⟩ hf hd
        have hf' : b12 = false := hf
        subst hf'
        have d10 : b10 = true := hd ⟨10, .guard⟩ (by simp) rfl
        subst d10
        obtain rfl := cd10.out rfl
        clear hf hd
        try simp only [List.setIfInBounds_toArray, List.set_cons_zero, List.set_cons_succ]
        have z := va_g2.past hb
        obtain ⟨z0, z1, z2, -, -, -, -⟩ := z
        intro K hK
        rw [if_pos (by rfl)]
        go_simp
        exact hK.out _ _ ⟨b0, b1, b2, b3, b4, b5, b6, b7, b8, b9, true, b11, true, b13, b14, b15, b16, b17, b18, b19, b20, b21, b22, b23, b24, b25, b26, x21, x22, x23, x24, x25, x26, x27, x28, x29, x30, .bool true, x32, (vv K2 N2 S2), x34, x35, x36, x37, x38, x39, x40, x41, x42, x43, x44, x45, x46, x4, (by simp only [Act.put, List.setIfInBounds_toArray, List.set_cons_zero, List.set_cons_succ]), (by simp only [Act.put, List.setIfInBounds_toArray, List.set_cons_zero, List.set_cons_succ]), hb, cd0, cd1, cd2, cd3, cd4, cd5, cd6, cd7, cd8, cd9, (fun _ => rfl), cd11, (fun _ => rfl), cd13, cd14, cd15, cd16, cd17, cd18, cd19, cd20, cd21, cd22, cd23, cd24, cd25, cd26⟩
      · rintro L a w ⟨b0, b1, b2, b3, b4, b5, b6, b7, b8, b9, b10, b11, b12, b13, b14, b15, b16, b17, b18, b19, b20, b21, b22, b23, b24, b25, b26, x21, x22, x23, x24, x25, x26, x27, x28, x29, x30, x31, x32, x33, x34, x35, x36, x37, x38, x39, x40, x41, x42, x43, x44, x45, x46, x4, rfl, rfl, hb, cd0, cd1, cd2, cd3, cd4, cd5, cd6, cd7, cd8, cd9, cd10, cd11, cd12, cd13, cd14, cd15, cd16, cd17, cd18, cd19, cd20, cd21, cd22, cd23, cd24, cd25, cd26⟩ hf hd
        have hf' : b13 = false := hf
        subst hf'
        have d11 : b11 = true := hd ⟨11, .data⟩ (by simp) rfl
        subst d11
        have d12 : b12 = true := hd ⟨12, .data⟩ (by simp) rfl
        subst d12
        have d10 : b10 = true := hd ⟨10, .chain⟩ (by simp) rfl
        subst d10
        obtain rfl := cd11.out rfl
        obtain rfl := cd12.out rfl
        obtain rfl := cd10.out rfl
        clear hf hd
        try simp only [List.setIfInBounds_toArray, List.set_cons_zero, List.set_cons_succ]
        intro K hK
        rw [if_pos (by rfl)]
        go_simp
        go_at_call 18
        refine (hd1 _).mono ?_
        rintro e w2 ⟨rfl, bx⟩
        exact hK.out _ _ ⟨b0, b1, b2, b3, b4, b5, b6, b7, b8, b9, true, true, true, true, b14, b15, b16, b17, b18, b19, b20, b21, b22, b23, b24, b25, b26, x21, x22, x23, x24, x25, x26, x27, x28, x29, x30, .bool true, vv K1 N1 S1, vv K2 N2 S2, (.int .i64 cc), x35, x36, x37, x38, x39, x40, x41, x42, x43, x44, x45, x46, x4, (by simp only [Act.put, List.setIfInBounds_toArray, List.set_cons_zero, List.set_cons_succ]), (by simp only [Act.put, List.setIfInBounds_toArray, List.set_cons_zero, List.set_cons_succ]), hb.trans (bx.mono hb.size), cd0, cd1, cd2, cd3, cd4, cd5, cd6, cd7, cd8, cd9, (fun _ => rfl), (fun _ => rfl), (fun _ => rfl), (fun _ => rfl), cd14, cd15, cd16, cd17, cd18, cd19, cd20, cd21, cd22, cd23, cd24, cd25, cd26⟩
      · rintro L a w ⟨b0, b1, b2, b3, b4, b5, b6, b7, b8, b9, b10, b11, b12, b13, b14, b15, b16, b17, b18, b19, b20, b21, b22, b23, b24, b25, b26, x21, x22, x23, x24, x25, x26, x27, x28, x29, x30, x31, x32, x33, x34, x35, x36, x37, x38, x39, x40, x41, x42, x43, x44, x45, x46, x4, rfl, rfl, hb, cd0, cd1, cd2, cd3, cd4, cd5, cd6, cd7, cd8, cd9, cd10, cd11, cd12, cd13, cd14, cd15, cd16, cd17, cd18, cd19, cd20, cd21, cd22, cd23, cd24, cd25, cd26⟩ hf hd
        have hf' : b14 = false := hf
        subst hf'
        have d10 : b10 = true := hd ⟨10, .guard⟩ (by simp) rfl
        subst d10
        obtain rfl := cd10.out rfl
        clear hf hd
        try simp only [List.setIfInBounds_toArray, List.set_cons_zero, List.set_cons_succ]
        have z := va_g1.past hb
        obtain ⟨z0, z1, z2, -, -, -, -⟩ := z
        intro K hK
        rw [if_pos (by rfl)]
        go_simp
        exact hK.out _ _ ⟨b0, b1, b2, b3, b4, b5, b6, b7, b8, b9, true, b11, b12, b13, true, b15, b16, b17, b18, b19, b20, b21, b22, b23, b24, b25, b26, x21, x22, x23, x24, x25, x26, x27, x28, x29, x30, .bool true, x32, x33, x34, (vv K1 N1 S1), x36, x37, x38, x39, x40, x41, x42, x43, x44, x45, x46, x4, (by simp only [Act.put, List.setIfInBounds_toArray, List.set_cons_zero, List.set_cons_succ]), (by simp only [Act.put, List.setIfInBounds_toArray, List.set_cons_zero, List.set_cons_succ]), hb, cd0, cd1, cd2, cd3, cd4, cd5, cd6, cd7, cd8, cd9, (fun _ => rfl), cd11, cd12, cd13, (fun _ => rfl), cd15, cd16, cd17, cd18, cd19, cd20, cd21, cd22, cd23, cd24, cd25, cd26⟩
      · rintro L a w ⟨b0, b1, b2, b3, b4, b5, b6, b7, b8, b9, b10, b11, b12, b13, b14, b15, b16, b17, b18, b19, b20, b21, b22, b23, b24, b25, b26, x21, x22, x23, x24, x25, x26, x27, x28, x29, x30, x31, x32, x33, x34, x35, x36, x37, x38, x39, x40, x41, x42, x43, x44, x45, x46, x4, rfl, rfl, hb, cd0, cd1, cd2, cd3, cd4, cd5, cd6, cd7, cd8, cd9, cd10, cd11, cd12, cd13, cd14, cd15, cd16, cd17, cd18, cd19, cd20, cd21, cd22, cd23, cd24, cd25, cd26⟩ hf hd
        have hf' : b15 = false := hf
        subst hf'
        have d10 : b10 = true := hd ⟨10, .guard⟩ (by simp) rfl
        subst d10
        obtain rfl := cd10.out rfl
        clear hf hd
        try simp only [List.setIfInBounds_toArray, List.set_cons_zero, List.set_cons_succ]
        have z := va_g2.past hb
        obtain ⟨z0, z1, z2, -, -, -, -⟩ := z
        intro K hK
        rw [if_pos (by rfl)]
        go_simp
        exact hK.out _ _ ⟨b0, b1, b2, b3, b4, b5, b6, b7, b8, b9, true, b11, b12, b13, b14, true, b16, b17, b18, b19, b20, b21, b22, b23, b24, b25, b26, x21, x22, x23, x24, x25, x26, x27, x28, x29, x30, .bool true, x32, x33, x34, x35, (vv K2 N2 S2), x37, x38, x39, x40, x41, x42, x43, x44, x45, x46, x4, (by simp only [Act.put, List.setIfInBounds_toArray, List.set_cons_zero, List.set_cons_succ]), (by simp only [Act.put, List.setIfInBounds_toArray, List.set_cons_zero, List.set_cons_succ]), hb, cd0, cd1, cd2, cd3, cd4, cd5, cd6, cd7, cd8, cd9, (fun _ => rfl), cd11, cd12, cd13, cd14, (fun _ => rfl), cd16, cd17, cd18, cd19, cd20, cd21, cd22, cd23, cd24, cd25, cd26⟩
      · rintro L a w ⟨b0, b1, b2, b3, b4, b5, b6, b7, b8, b9, b10, b11, b12, b13, b14, b15, b16, b17, b18, b19, b20, b21, b22, b23, b24, b25, b26, x21, x22, x23, x24, x25, x26, x27, x28, x29, x30, x31, x32, x33, x34, x35, x36, x37, x38, x39, x40, x41, x42, x43, x44, x45, x46, x4, rfl, rfl, hb, cd0, cd1, cd2, cd3, cd4, cd5, cd6, cd7, cd8, cd9, cd10, cd11, cd12, cd13, cd14, cd15, cd16, cd17, cd18, cd19, cd20, cd21, cd22, cd23, cd24, cd25, cd26⟩ hf hd
        have hf' : b16 = false := hf
        subst hf'
        have d14 : b14 = true := hd ⟨14, .data⟩ (by simp) rfl
        subst d14
        have d15 : b15 = true := hd ⟨15, .data⟩ (by simp) rfl
        subst d15
        have d13 : b13 = true := hd ⟨13, .chain⟩ (by simp) rfl
        subst d13
        have d10 : b10 = true := hd ⟨10, .guard⟩ (by simp) rfl
        subst d10
        obtain rfl := cd14.out rfl
        obtain rfl := cd15.out rfl
        obtain rfl := cd13.out rfl
        obtain rfl := cd10.out rfl
        clear hf hd
        try simp only [List.setIfInBounds_toArray, List.set_cons_zero, List.set_cons_succ]
        intro K hK
        rw [if_pos (by rfl)]
        go_simp
        go_at_call 19
        refine (hd2 _).mono ?_
        rintro e w2 ⟨rfl, bx⟩
        exact hK.out _ _ ⟨b0, b1, b2, b3, b4, b5, b6, b7, b8, b9, true, b11, b12, true, true, true, true, b17, b18, b19, b20, b21, b22, b23, b24, b25, b26, x21, x22, x23, x24, x25, x26, x27, x28, x29, x30, .bool true, x32, x33, .int .i64 cc, vv K1 N1 S1, vv K2 N2 S2, (.int .i64 cc), x38, x39, x40, x41, x42, x43, x44, x45, x46, x4, (by simp only [Act.put, List.setIfInBounds_toArray, List.set_cons_zero, List.set_cons_succ]), (by simp only [Act.put, List.setIfInBounds_toArray, List.set_cons_zero, List.set_cons_succ]), hb.trans (bx.mono hb.size), cd0, cd1, cd2, cd3, cd4, cd5, cd6, cd7, cd8, cd9, (fun _ => rfl), cd11, cd12, (fun _ => rfl), (fun _ => rfl), (fun _ => rfl), (fun _ => rfl), cd17, cd18, cd19, cd20, cd21, cd22, cd23, cd24, cd25, cd26⟩
      · rintro L a w ⟨b0, b1, b2, b3, b4, b5, b6, b7, b8, b9, b10, b11, b12, b13, b14, b15, b16, b17, b18, b19, b20, b21, b22, b23, b24, b25, b26, x21, x22, x23, x24, x25, x26, x27, x28, x29, x30, x31, x32, x33, x34, x35, x36, x37, x38, x39, x40, x41, x42, x43, x44, x45, x46, x4, rfl, rfl, hb, cd0, cd1, cd2, cd3, cd4, cd5, cd6, cd7, cd8, cd9, cd10, cd11, cd12, cd13, cd14, cd15, cd16, cd17, cd18, cd19, cd20, cd21, cd22, cd23, cd24, cd25, cd26⟩ hf hd
        have hf' : b17 = false := hf
        subst hf'
        have d13 : b13 = true := hd ⟨13, .data⟩ (by simp) rfl
        subst d13
        have d16 : b16 = true := hd ⟨16, .data⟩ (by simp) rfl
        subst d16
        have d10 : b10 = true := hd ⟨10, .guard⟩ (by simp) rfl
        subst d10
        obtain rfl := cd13.out rfl
        obtain rfl := cd16.out rfl
        obtain rfl := cd10.out rfl
        clear hf hd
        try simp only [List.setIfInBounds_toArray, List.set_cons_zero, List.set_cons_succ]
        intro K hK
        rw [if_pos (by rfl)]
        go_simp
        exact hK.out _ _ ⟨b0, b1, b2, b3, b4, b5, b6, b7, b8, b9, true, b11, b12, true, b14, b15, true, true, b18, b19, b20, b21, b22, b23, b24, b25, b26, x21, x22, x23, x24, x25, x26, x27, x28, x29, x30, .bool true, x32, x33, .int .i64 cc, x35, x36, .int .i64 cc, (.bool true), x39, x40, x41, x42, x43, x44, x45, x46, x4, (by simp only [Act.put, List.setIfInBounds_toArray, List.set_cons_zero, List.set_cons_succ]), (by simp only [Act.put, List.setIfInBounds_toArray, List.set_cons_zero, List.set_cons_succ]), hb, cd0, cd1, cd2, cd3, cd4, cd5, cd6, cd7, cd8, cd9, (fun _ => rfl), cd11, cd12, (fun _ => rfl), cd14, cd15, (fun _ => rfl), (fun _ => rfl), cd18, cd19, cd20, cd21, cd22, cd23, cd24, cd25, cd26⟩
      · rintro L a w ⟨b0, b1, b2, b3, b4, b5, b6, b7, b8, b9, b10, b11, b12, b13, b14, b15, b16, b17, b18, b19, b20, b21, b22, b23, b24, b25, b26, x21, x22, x23, x24, x25, x26, x27, x28, x29, x30, x31, x32, x33, x34, x35, x36, x37, x38, x39, x40, x41, x42, x43, x44, x45, x46, x4, rfl, rfl, hb, cd0, cd1, cd2, cd3, cd4, cd5, cd6, cd7, cd8, cd9, cd10, cd11, cd12, cd13, cd14, cd15, cd16, cd17, cd18, cd19, cd20, cd21, cd22, cd23, cd24, cd25, cd26⟩ hf hd
        have hf' : b18 = false := hf
        subst hf'
        have d10 : b10 = true := hd ⟨10, .data⟩ (by simp) rfl
        subst d10
        have d17 : b17 = true := hd ⟨17, .data⟩ (by simp) rfl
        subst d17
        obtain rfl := cd10.out rfl
        obtain rfl := cd17.out rfl
        clear hf hd
        try simp only [List.setIfInBounds_toArray, List.set_cons_zero, List.set_cons_succ]
        intro K hK
        rw [if_pos (by rfl)]
        go_simp
        exact hK.out _ _ ⟨b0, b1, b2, b3, b4, b5, b6, b7, b8, b9, true, b11, b12, b13, b14, b15, b16, true, true, b19, b20, b21, b22, b23, b24, b25, b26, x21, x22, x23, x24, x25, x26, x27, x28, x29, x30, .bool true, x32, x33, x34, x35, x36, x37, .bool true, (.bool true), x40, x41, x42, x43, x44, x45, x46, x4, (by simp only [Act.put, List.setIfInBounds_toArray, List.set_cons_zero, List.set_cons_succ]), (by simp only [Act.put, List.setIfInBounds_toArray, List.set_cons_zero, List.set_cons_succ]), hb, cd0, cd1, cd2, cd3, cd4, cd5, cd6, cd7, cd8, cd9, (fun _ => rfl), cd11, cd12, cd13, cd14, cd15, cd16, (fun _ => rfl), (fun _ => rfl), cd19, cd20, cd21, cd22, cd23, cd24, cd25, cd26⟩
      · rintro L a w ⟨b0, b1, b2, b3, b4, b5, b6, b7, b8, b9, b10, b11, b12, b13, b14, b15, b16, b17, b18, b19, b20, b21, b22, b23, b24, b25, b26, x21, x22, x23, x24, x25, x26, x27, x28, x29, x30, x31, x32, x33, x34, x35, x36, x37, x38, x39, x40, x41, x42, x43, x44, x45, x46, x4, rfl, rfl, hb, cd0, cd1, cd2, cd3, cd4, cd5, cd6, cd7, cd8, cd9, cd10, cd11, cd12, cd13, cd14, cd15, cd16, cd17, cd18, cd19, cd20, cd21, cd22, cd23, cd24, cd25, cd26⟩ hf hd
        have hf' : b19 = false := hf
        subst hf'
        have d18 : b18 = true := hd ⟨18, .data⟩ (by simp) rfl
        subst d18
        have d16 : b16 = true := hd ⟨16, .chain⟩ (by simp) rfl
        subst d16
        obtain rfl := cd18.out rfl
        obtain rfl := cd16.out rfl
        clear hf hd
        try simp only [List.setIfInBounds_toArray, List.set_cons_zero, List.set_cons_succ]
        intro K hK
        rw [if_pos (by rfl)]
        go_simp
        exact hK.out _ _ ⟨b0, b1, b2, b3, b4, b5, b6, b7, b8, b9, b10, b11, b12, b13, b14, b15, true, b17, true, true, b20, b21, b22, b23, b24, b25, b26, x21, x22, x23, x24, x25, x26, x27, x28, x29, x30, x31, x32, x33, x34, x35, x36, .int .i64 cc, x38, .bool true, (.bool true), x41, x42, x43, x44, x45, x46, x4, (by simp only [Act.put, List.setIfInBounds_toArray, List.set_cons_zero, List.set_cons_succ]), (by simp only [Act.put, List.setIfInBounds_toArray, List.set_cons_zero, List.set_cons_succ]), hb, cd0, cd1, cd2, cd3, cd4, cd5, cd6, cd7, cd8, cd9, cd10, cd11, cd12, cd13, cd14, cd15, (fun _ => rfl), cd17, (fun _ => rfl), (fun _ => rfl), cd20, cd21, cd22, cd23, cd24, cd25, cd26⟩
      · rintro L a w ⟨b0, b1, b2, b3, b4, b5, b6, b7, b8, b9, b10, b11, b12, b13, b14, b15, b16, b17, b18, b19, b20, b21, b22, b23, b24, b25, b26, x21, x22, x23, x24, x25, x26, x27, x28, x29, x30, x31, x32, x33, x34, x35, x36, x37, x38, x39, x40, x41, x42, x43, x44, x45, x46, x4, rfl, rfl, hb, cd0, cd1, cd2, cd3, cd4, cd5, cd6, cd7, cd8, cd9, cd10, cd11, cd12, cd13, cd14, cd15, cd16, cd17, cd18, cd19, cd20, cd21, cd22, cd23, cd24, cd25, cd26⟩ hf hd
        have hf' : b20 = false := hf
        subst hf'
        have d19 : b19 = true := hd ⟨19, .guard⟩ (by simp) rfl
        subst d19
        obtain rfl := cd19.out rfl
        clear hf hd
        try simp only [List.setIfInBounds_toArray, List.set_cons_zero, List.set_cons_succ]
        have z := va_g1.past hb
        obtain ⟨z0, z1, z2, -, -, -, -⟩ := z
        intro K hK
        rw [if_pos (by rfl)]
        go_simp
        exact hK.out _ _ ⟨b0, b1, b2, b3, b4, b5, b6, b7, b8, b9, b10, b11, b12, b13, b14, b15, b16, b17, b18, true, true, b21, b22, b23, b24, b25, b26, x21, x22, x23, x24, x25, x26, x27, x28, x29, x30, x31, x32, x33, x34, x35, x36, x37, x38, x39, .bool true, (vv K1 N1 S1), x42, x43, x44, x45, x46, x4, (by simp only [Act.put, List.setIfInBounds_toArray, List.set_cons_zero, List.set_cons_succ]), (by simp only [Act.put, List.setIfInBounds_toArray, List.set_cons_zero, List.set_cons_succ]), hb, cd0, cd1, cd2, cd3, cd4, cd5, cd6, cd7, cd8, cd9, cd10, cd11, cd12, cd13, cd14, cd15, cd16, cd17, cd18, (fun _ => rfl), (fun _ => rfl), cd21, cd22, cd23, cd24, cd25, cd26⟩
      · rintro L a w ⟨b0, b1, b2, b3, b4, b5, b6, b7, b8, b9, b10, b11, b12, b13, b14, b15, b16, b17, b18, b19, b20, b21, b22, b23, b24, b25, b26, x21, x22, x23, x24, x25, x26, x27, x28, x29, x30, x31, x32, x33, x34, x35, x36, x37, x38, x39, x40, x41, x42, x43, x44, x45, x46, x4, rfl, rfl, hb, cd0, cd1, cd2, cd3, cd4, cd5, cd6, cd7, cd8, cd9, cd10, cd11, cd12, cd13, cd14, cd15, cd16, cd17, cd18, cd19, cd20, cd21, cd22, cd23, cd24, cd25, cd26⟩ hf hd
        have hf' : b21 = false := hf
        subst hf'
        have d20 : b20 = true := hd ⟨20, .data⟩ (by simp) rfl
        subst d20
        have d19 : b19 = true := hd ⟨19, .chain⟩ (by simp) rfl
        subst d19
        obtain rfl := cd20.out rfl
        obtain rfl := cd19.out rfl
        clear hf hd
        try simp only [List.setIfInBounds_toArray, List.set_cons_zero, List.set_cons_succ]
        intro K hK
        rw [if_pos (by rfl)]
        go_simp
        go_at_call 20
        refine (ht1 _ (tb.past hb)).mono ?_
        rintro e w2 ⟨rfl, bx⟩
        exact hK.out _ _ ⟨b0, b1, b2, b3, b4, b5, b6, b7, b8, b9, b10, b11, b12, b13, b14, b15, b16, b17, b18, true, true, true, b22, b23, b24, b25, b26, x21, x22, x23, x24, x25, x26, x27, x28, x29, x30, x31, x32, x33, x34, x35, x36, x37, x38, x39, .bool true, vv K1 N1 S1, (.string tx), x43, x44, x45, x46, x4, (by simp only [Act.put, List.setIfInBounds_toArray, List.set_cons_zero, List.set_cons_succ]), (by simp only [Act.put, List.setIfInBounds_toArray, List.set_cons_zero, List.set_cons_succ]), hb.trans (bx.mono hb.size), cd0, cd1, cd2, cd3, cd4, cd5, cd6, cd7, cd8, cd9, cd10, cd11, cd12, cd13, cd14, cd15, cd16, cd17, cd18, (fun _ => rfl), (fun _ => rfl), (fun _ => rfl), cd22, cd23, cd24, cd25, cd26⟩
      · rintro L a w ⟨b0, b1, b2, b3, b4, b5, b6, b7, b8, b9, b10, b11, b12, b13, b14, b15, b16, b17, b18, b19, b20, b21, b22, b23, b24, b25, b26, x21, x22, x23, x24, x25, x26, x27, x28, x29, x30, x31, x32, x33, x34, x35, x36, x37, x38, x39, x40, x41, x42, x43, x44, x45, x46, x4, rfl, rfl, hb, cd0, cd1, cd2, cd3, cd4, cd5, cd6, cd7, cd8, cd9, cd10, cd11, cd12, cd13, cd14, cd15, cd16, cd17, cd18, cd19, cd20, cd21, cd22, cd23, cd24, cd25, cd26⟩ hf hd
        have hf' : b22 = false := hf
        subst hf'
        have d19 : b19 = true := hd ⟨19, .guard⟩ (by simp) rfl
        subst d19
        obtain rfl := cd19.out rfl
        clear hf hd
        try simp only [List.setIfInBounds_toArray, List.set_cons_zero, List.set_cons_succ]
        have z := va_g1.past hb
        obtain ⟨z0, z1, z2, -, -, -, -⟩ := z
        intro K hK
        rw [if_pos (by rfl)]
        go_simp
        exact hK.out _ _ ⟨b0, b1, b2, b3, b4, b5, b6, b7, b8, b9, b10, b11, b12, b13, b14, b15, b16, b17, b18, true, b20, b21, true, b23, b24, b25, b26, x21, x22, x23, x24, x25, x26, x27, x28, x29, x30, x31, x32, x33, x34, x35, x36, x37, x38, x39, .bool true, x41, x42, (vv K1 N1 S1), x44, x45, x46, x4, (by simp only [Act.put, List.setIfInBounds_toArray, List.set_cons_zero, List.set_cons_succ]), (by simp only [Act.put, List.setIfInBounds_toArray, List.set_cons_zero, List.set_cons_succ]), hb, cd0, cd1, cd2, cd3, cd4, cd5, cd6, cd7, cd8, cd9, cd10, cd11, cd12, cd13, cd14, cd15, cd16, cd17, cd18, (fun _ => rfl), cd20, cd21, (fun _ => rfl), cd23, cd24, cd25, cd26⟩
      · rintro L a w ⟨b0, b1, b2, b3, b4, b5, b6, b7, b8, b9, b10, b11, b12, b13, b14, b15, b16, b17, b18, b19, b20, b21, b22, b23, b24, b25, b26, x21, x22, x23, x24, x25, x26, x27, x28, x29, x30, x31, x32, x33, x34, x35, x36, x37, x38, x39, x40, x41, x42, x43, x44, x45, x46, x4, rfl, rfl, hb, cd0, cd1, cd2, cd3, cd4, cd5, cd6, cd7, cd8, cd9, cd10, cd11, cd12, cd13, cd14, cd15, cd16, cd17, cd18, cd19, cd20, cd21, cd22, cd23, cd24, cd25, cd26⟩ hf hd
        have hf' : b23 = false := hf
        subst hf'
        have d22 : b22 = true := hd ⟨22, .data⟩ (by simp) rfl
        subst d22
        have d21 : b21 = true := hd ⟨21, .chain⟩ (by simp) rfl
        subst d21
        have d19 : b19 = true := hd ⟨19, .guard⟩ (by simp) rfl
        subst d19
        obtain rfl := cd22.out rfl
        obtain rfl := cd21.out rfl
        obtain rfl := cd19.out rfl
        clear hf hd
        try simp only [List.setIfInBounds_toArray, List.set_cons_zero, List.set_cons_succ]
        intro K hK
        rw [if_pos (by rfl)]
        go_simp
        go_at_call 21
        refine (ht2 _).mono ?_
        rintro e w2 ⟨rfl, bx⟩
        exact hK.out _ _ ⟨b0, b1, b2, b3, b4, b5, b6, b7, b8, b9, b10, b11, b12, b13, b14, b15, b16, b17, b18, true, b20, true, true, true, b24, b25, b26, x21, x22, x23, x24, x25, x26, x27, x28, x29, x30, x31, x32, x33, x34, x35, x36, x37, x38, x39, .bool true, x41, .string tx, vv K1 N1 S1, (.string tx), x45, x46, x4, (by simp only [Act.put, List.setIfInBounds_toArray, List.set_cons_zero, List.set_cons_succ]), (by simp only [Act.put, List.setIfInBounds_toArray, List.set_cons_zero, List.set_cons_succ]), hb.trans (bx.mono hb.size), cd0, cd1, cd2, cd3, cd4, cd5, cd6, cd7, cd8, cd9, cd10, cd11, cd12, cd13, cd14, cd15, cd16, cd17, cd18, (fun _ => rfl), cd20, (fun _ => rfl), (fun _ => rfl), (fun _ => rfl), cd24, cd25, cd26⟩
      · rintro L a w ⟨b0, b1, b2, b3, b4, b5, b6, b7, b8, b9, b10, b11, b12, b13, b14, b15, b16, b17, b18, b19, b20, b21, b22, b23, b24, b25, b26, x21, x22, x23, x24, x25, x26, x27, x28, x29, x30, x31, x32, x33, x34, x35, x36, x37, x38, x39, x40, x41, x42, x43, x44, x45, x46, x4, rfl, rfl, hb, cd0, cd1, cd2, cd3, cd4, cd5, cd6, cd7, cd8, cd9, cd10, cd11, cd12, cd13, cd14, cd15, cd16, cd17, cd18, cd19, cd20, cd21, cd22, cd23, cd24, cd25, cd26⟩ hf hd
        have hf' : b24 = false := hf
        subst hf'
        have d21 : b21 = true := hd ⟨21, .data⟩ (by simp) rfl
        subst d21
        have d23 : b23 = true := hd ⟨23, .data⟩ (by simp) rfl
        subst d23
        have d19 : b19 = true := hd ⟨19, .guard⟩ (by simp) rfl
        subst d19
        obtain rfl := cd21.out rfl
        obtain rfl := cd23.out rfl
        obtain rfl := cd19.out rfl
        clear hf hd
        try simp only [List.setIfInBounds_toArray, List.set_cons_zero, List.set_cons_succ]
        intro K hK
        rw [if_pos (by rfl)]
        go_simp
        exact hK.out _ _ ⟨b0, b1, b2, b3, b4, b5, b6, b7, b8, b9, b10, b11, b12, b13, b14, b15, b16, b17, b18, true, b20, true, b22, true, true, b25, b26, x21, x22, x23, x24, x25, x26, x27, x28, x29, x30, x31, x32, x33, x34, x35, x36, x37, x38, x39, .bool true, x41, .string tx, x43, .string tx, (.bool true), x46, x4, (by simp only [Act.put, List.setIfInBounds_toArray, List.set_cons_zero, List.set_cons_succ]), (by simp only [Act.put, List.setIfInBounds_toArray, List.set_cons_zero, List.set_cons_succ]), hb, cd0, cd1, cd2, cd3, cd4, cd5, cd6, cd7, cd8, cd9, cd10, cd11, cd12, cd13, cd14, cd15, cd16, cd17, cd18, (fun _ => rfl), cd20, (fun _ => rfl), cd22, (fun _ => rfl), (fun _ => rfl), cd25, cd26⟩
      · rintro L a w ⟨b0, b1, b2, b3, b4, b5, b6, b7, b8, b9, b10, b11, b12, b13, b14, b15, b16, b17, b18, b19, b20, b21, b22, b23, b24, b25, b26, x21, x22, x23, x24, x25, x26, x27, x28, x29, x30, x31, x32, x33, x34, x35, x36, x37, x38, x39, x40, x41, x42, x43, x44, x45, x46, x4, rfl, rfl, hb, cd0, cd1, cd2, cd3, cd4, cd5, cd6, cd7, cd8, cd9, cd10, cd11, cd12, cd13, cd14, cd15, cd16, cd17, cd18, cd19, cd20, cd21, cd22, cd23, cd24, cd25, cd26⟩ hf hd
        have hf' : b25 = false := hf
        subst hf'
        have d19 : b19 = true := hd ⟨19, .data⟩ (by simp) rfl
        subst d19
        have d24 : b24 = true := hd ⟨24, .data⟩ (by simp) rfl
        subst d24
        obtain rfl := cd19.out rfl
        obtain rfl := cd24.out rfl
        clear hf hd
        try simp only [List.setIfInBounds_toArray, List.set_cons_zero, List.set_cons_succ]
        intro K hK
        rw [if_pos (by rfl)]
        go_simp
        exact hK.out _ _ ⟨b0, b1, b2, b3, b4, b5, b6, b7, b8, b9, b10, b11, b12, b13, b14, b15, b16, b17, b18, true, b20, b21, b22, b23, true, true, b26, x21, x22, x23, x24, x25, x26, x27, x28, x29, x30, x31, x32, x33, x34, x35, x36, x37, x38, x39, .bool true, x41, x42, x43, x44, .bool true, (.bool true), x4, (by simp only [Act.put, List.setIfInBounds_toArray, List.set_cons_zero, List.set_cons_succ]), (by simp only [Act.put, List.setIfInBounds_toArray, List.set_cons_zero, List.set_cons_succ]), hb, cd0, cd1, cd2, cd3, cd4, cd5, cd6, cd7, cd8, cd9, cd10, cd11, cd12, cd13, cd14, cd15, cd16, cd17, cd18, (fun _ => rfl), cd20, cd21, cd22, cd23, (fun _ => rfl), (fun _ => rfl), cd26⟩
      · rintro L a w ⟨b0, b1, b2, b3, b4, b5, b6, b7, b8, b9, b10, b11, b12, b13, b14, b15, b16, b17, b18, b19, b20, b21, b22, b23, b24, b25, b26, x21, x22, x23, x24, x25, x26, x27, x28, x29, x30, x31, x32, x33, x34, x35, x36, x37, x38, x39, x40, x41, x42, x43, x44, x45, x46, x4, rfl, rfl, hb, cd0, cd1, cd2, cd3, cd4, cd5, cd6, cd7, cd8, cd9, cd10, cd11, cd12, cd13, cd14, cd15, cd16, cd17, cd18, cd19, cd20, cd21, cd22, cd23, cd24, cd25, cd26⟩ hf hd
        have hf' : b26 = false := hf
        subst hf'
        have d25 : b25 = true := hd ⟨25, .data⟩ (by simp) rfl
        subst d25
        have d23 : b23 = true := hd ⟨23, .chain⟩ (by simp) rfl
        subst d23
        have d0 : b0 = true := hd ⟨0, .phase⟩ (by simp) rfl
        subst d0
        have d1 : b1 = true := hd ⟨1, .phase⟩ (by simp) rfl
        subst d1
        have d2 : b2 = true := hd ⟨2, .phase⟩ (by simp) rfl
        subst d2
        have d3 : b3 = true := hd ⟨3, .phase⟩ (by simp) rfl
        subst d3
        have d4 : b4 = true := hd ⟨4, .phase⟩ (by simp) rfl
        subst d4
        have d5 : b5 = true := hd ⟨5, .phase⟩ (by simp) rfl
        subst d5
        have d6 : b6 = true := hd ⟨6, .phase⟩ (by simp) rfl
        subst d6
        have d7 : b7 = true := hd ⟨7, .phase⟩ (by simp) rfl
        subst d7
        have d8 : b8 = true := hd ⟨8, .phase⟩ (by simp) rfl
        subst d8
        have d9 : b9 = true := hd ⟨9, .phase⟩ (by simp) rfl
        subst d9
        have d10 : b10 = true := hd ⟨10, .phase⟩ (by simp) rfl
        subst d10
        have d11 : b11 = true := hd ⟨11, .phase⟩ (by simp) rfl
        subst d11
        have d12 : b12 = true := hd ⟨12, .phase⟩ (by simp) rfl
        subst d12
        have d13 : b13 = true := hd ⟨13, .phase⟩ (by simp) rfl
        subst d13
        have d14 : b14 = true := hd ⟨14, .phase⟩ (by simp) rfl
        subst d14
        have d15 : b15 = true := hd ⟨15, .phase⟩ (by simp) rfl
        subst d15
        have d16 : b16 = true := hd ⟨16, .phase⟩ (by simp) rfl
        subst d16
        have d17 : b17 = true := hd ⟨17, .phase⟩ (by simp) rfl
        subst d17
        have d18 : b18 = true := hd ⟨18, .phase⟩ (by simp) rfl
        subst d18
        have d19 : b19 = true := hd ⟨19, .phase⟩ (by simp) rfl
        subst d19
        have d20 : b20 = true := hd ⟨20, .phase⟩ (by simp) rfl
        subst d20
        have d21 : b21 = true := hd ⟨21, .phase⟩ (by simp) rfl
        subst d21
        have d22 : b22 = true := hd ⟨22, .phase⟩ (by simp) rfl
        subst d22
        have d24 : b24 = true := hd ⟨24, .phase⟩ (by simp) rfl
        subst d24
        obtain rfl := cd25.out rfl
        obtain rfl := cd23.out rfl
        obtain rfl := cd0.out rfl
        obtain rfl := cd1.out rfl
        obtain rfl := cd2.out rfl
        obtain rfl := cd3.out rfl
        obtain rfl := cd4.out rfl
        obtain rfl := cd5.out rfl
        obtain rfl := cd6.out rfl
        obtain rfl := cd7.out rfl
        obtain rfl := cd8.out rfl
        obtain rfl := cd9.out rfl
        obtain rfl := cd10.out rfl
        obtain rfl := cd11.out rfl
        obtain rfl := cd12.out rfl
        obtain rfl := cd13.out rfl
        obtain rfl := cd14.out rfl
        obtain rfl := cd15.out rfl
        obtain rfl := cd16.out rfl
        obtain rfl := cd17.out rfl
        obtain rfl := cd18.out rfl
        obtain rfl := cd19.out rfl
        obtain rfl := cd20.out rfl
        obtain rfl := cd21.out rfl
        obtain rfl := cd22.out rfl
        obtain rfl := cd24.out rfl
        clear hf hd
        try simp only [List.setIfInBounds_toArray, List.set_cons_zero, List.set_cons_succ]
        intro K hK
        rw [if_pos (by rfl)]
        go_simp
        exact hK.out _ _ ⟨true, true, true, true, true, true, true, true, true, true, true, true, true, true, true, true, true, true, true, true, true, true, true, true, true, true, true, vv k1 n1 s1, .int .i64 cq, vv k1 n1 s1, .int .i64 cq, .bool true, .bool true, vv K1 N1 S1, .int .i64 0, .bool true, .bool true, .bool true, vv K1 N1 S1, vv K2 N2 S2, .int .i64 cc, vv K1 N1 S1, vv K2 N2 S2, .int .i64 cc, .bool true, .bool true, .bool true, vv K1 N1 S1, .string tx, vv K1 N1 S1, .string tx, .bool true, .bool true, (.bool true), (by simp only [Act.put, List.setIfInBounds_toArray, List.set_cons_zero, List.set_cons_succ]), (by simp only [Act.put, List.setIfInBounds_toArray, List.set_cons_zero, List.set_cons_succ]), hb, (fun _ => rfl), (fun _ => rfl), (fun _ => rfl), (fun _ => rfl), (fun _ => rfl), (fun _ => rfl), (fun _ => rfl), (fun _ => rfl), (fun _ => rfl), (fun _ => rfl), (fun _ => rfl), (fun _ => rfl), (fun _ => rfl), (fun _ => rfl), (fun _ => rfl), (fun _ => rfl), (fun _ => rfl), (fun _ => rfl), (fun _ => rfl), (fun _ => rfl), (fun _ => rfl), (fun _ => rfl), (fun _ => rfl), (fun _ => rfl), (fun _ => rfl), (fun _ => rfl), (fun _ => rfl)⟩
    · rintro a w ⟨b0, b1, b2, b3, b4, b5, b6, b7, b8, b9, b10, b11, b12, b13, b14, b15, b16, b17, b18, b19, b20, b21, b22, b23, b24, b25, b26, x21, x22, x23, x24, x25, x26, x27, x28, x29, x30, x31, x32, x33, x34, x35, x36, x37, x38, x39, x40, x41, x42, x43, x44, x45, x46, x4, hL, rfl, hb, cd0, cd1, cd2, cd3, cd4, cd5, cd6, cd7, cd8, cd9, cd10, cd11, cd12, cd13, cd14, cd15, cd16, cd17, cd18, cd19, cd20, cd21, cd22, cd23, cd24, cd25, cd26⟩
      have hL' : [true, true, true, true, true, true, true, true, true, true, true, true, true, true, true, true, true, true, true, true, true, true, true, true, true, true, true] = [b0, b1, b2, b3, b4, b5, b6, b7, b8, b9, b10, b11, b12, b13, b14, b15, b16, b17, b18, b19, b20, b21, b22, b23, b24, b25, b26] := congrArg Array.toList hL
      simp only [List.cons.injEq, and_true] at hL'
      obtain ⟨rfl, rfl, rfl, rfl, rfl, rfl, rfl, rfl, rfl, rfl, rfl, rfl, rfl, rfl, rfl, rfl, rfl, rfl, rfl, rfl, rfl, rfl, rfl, rfl, rfl, rfl, rfl⟩ := hL'
      obtain rfl := cd0.out rfl
      obtain rfl := cd1.out rfl
      obtain rfl := cd2.out rfl
      obtain rfl := cd3.out rfl
      obtain rfl := cd4.out rfl
      obtain rfl := cd5.out rfl
      obtain rfl := cd6.out rfl
      obtain rfl := cd7.out rfl
      obtain rfl := cd8.out rfl
      obtain rfl := cd9.out rfl
      obtain rfl := cd10.out rfl
      obtain rfl := cd11.out rfl
      obtain rfl := cd12.out rfl
      obtain rfl := cd13.out rfl
      obtain rfl := cd14.out rfl
      obtain rfl := cd15.out rfl
      obtain rfl := cd16.out rfl
      obtain rfl := cd17.out rfl
      obtain rfl := cd18.out rfl
      obtain rfl := cd19.out rfl
      obtain rfl := cd20.out rfl
      obtain rfl := cd21.out rfl
      obtain rfl := cd22.out rfl
      obtain rfl := cd23.out rfl
      obtain rfl := cd24.out rfl
      obtain rfl := cd25.out rfl
      obtain rfl := cd26.out rfl
      clear hL
      simp only [List.setIfInBounds_toArray, List.set_cons_zero, List.set_cons_succ]
      have BE := b1.trans (hb.mono b1.size)
      go_wp2_with fail
      go_ret
      exact ⟨rfl, BE⟩
end Go.Proofs.YtalnnifmlhckbaaDoor
