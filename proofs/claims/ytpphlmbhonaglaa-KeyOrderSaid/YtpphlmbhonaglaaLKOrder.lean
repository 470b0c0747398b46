/-
  KeyOrder, walked (by gen_korder.py).
-/
import Derived.Test.YtpphlmbhonaglaaKOrdD
namespace Go.Proofs.Ytpphlmbhonaglaa
open Go.RowKit
set_option linter.unusedSimpArgs false
set_option maxRecDepth 100000 in
set_option maxHeartbeats 40000000 in
theorem keyOrder_walk (k1 n1 : Int) (s1 : ByteArray) (k2 n2 : Int) (s2 : ByteArray) (near : Int) (w : World) (_ : (Lit.int .i64 k1).wf = true) (hn1 : (Lit.int .i64 n1).wf = true) (_ : s1.size ≤ maxLen) (_ : (Lit.int .i64 k2).wf = true) (hn2 : (Lit.int .i64 n2).wf = true) (_ : s2.size ≤ maxLen) (hnear : (Lit.int .i64 near).wf = true) :
    Calls Try.prog 4 #[vv k1 n1 s1, vv k2 n2 s2, .int .i64 near] w (Told w true) := by
  rename_i q1 q2 q3 q4
  clear q1 q2 q3 q4
  have HFa := few_any k1 n1 s1
  have HFb := few_any k2 n2 s2
  have b0 : Below w.heap.size w ((w.alloc (.cells #[.int .i64 k1, .int .i64 n1, .string s1] 39)).alloc (.cells #[.int .i64 k2, .int .i64 n2, .string s2] 39)) := ((Below.refl _ _).alloc (Nat.le_refl _) _).alloc (by simp) _
  have ta := (VAt.new w k1 n1 s1).alloc (.cells #[.int .i64 k2, .int .i64 n2, .string s2] 39)
  have tb := VAt.new (w.alloc (.cells #[.int .i64 k1, .int .i64 n1, .string s1] 39)) k2 n2 s2
  rw [World.size_alloc] at tb
  cases qa : decide ((s1.size : Int) ≤ 80) <;> rw [qa] at HFa
  · go_enter Try.func4, Try.ntmps4
    go_wp2_with (first
      | (go_at_call 17; (with_reducible refine (known6_any _).mono ?_); rintro e w1 ⟨rfl, b1⟩; have B1 := b0.trans (b1.mono b0.size); obtain ⟨y0, y1, y2, -, -, -, -⟩ := ta.past b1)
      | (go_at_call 18; (with_reducible refine (HFa _).mono ?_); rintro e w2 ⟨rfl, b2⟩; have B2 := B1.trans (b2.mono B1.size)))
    go_ret
    exact ⟨rfl, B2⟩
  · cases qb : decide ((s2.size : Int) ≤ 80) <;> rw [qb] at HFb
    · go_enter Try.func4, Try.ntmps4
      go_wp2_with (first
        | (go_at_call 17; (with_reducible refine (known6_any _).mono ?_); rintro e w1 ⟨rfl, b1⟩; have B1 := b0.trans (b1.mono b0.size); have ta1 := ta.past b1; have tb1 := tb.past b1; obtain ⟨y0, y1, y2, -, -, -, -⟩ := id ta1)
        | (go_at_call 18; (with_reducible refine (HFa _).mono ?_); rintro e w2 ⟨rfl, b2⟩; have B2 := B1.trans (b2.mono B1.size); obtain ⟨v0, v1, v2, -, -, -, -⟩ := tb1.past b2)
        | (go_at_call 18; (with_reducible refine (HFb _).mono ?_); rintro e w3 ⟨rfl, b3⟩; have B3 := B2.trans (b3.mono B2.size)))
      go_ret
      exact ⟨rfl, B3⟩
    · have HGa0 := goodv_any k1 n1 s1
      have HGb0 := goodv_any k2 n2 s2
      have okA : Hid (Vok (gd ⟨k1, n1, s1⟩)) := gd_ok _ hn1
      have okB : Hid (Vok (gd ⟨k2, n2, s2⟩)) := gd_ok _ hn2
      generalize gd ⟨k1, n1, s1⟩ = x at HGa0 okA
      generalize gd ⟨k2, n2, s2⟩ = y at HGb0 okB
      obtain ⟨KA, NA, SA⟩ := x
      obtain ⟨KB, NB, SB⟩ := y
      have HGa : ∀ w, Calls Try.prog 19 #[vv k1 n1 s1] w fun e w' => e = .returned (vv KA NA SA) ∧ Below w.heap.size w w' := HGa0
      have HGb : ∀ w, Calls Try.prog 19 #[vv k2 n2 s2] w fun e w' => e = .returned (vv KB NB SB) ∧ Below w.heap.size w w' := HGb0
      clear HGa0 HGb0 qa qb hn1 hn2
      go_enter Try.func4, Try.ntmps4
      go_wp2_with (first
        | (go_at_call 17; (with_reducible refine (known6_any _).mono ?_); rintro e w1 ⟨rfl, b1⟩; have B1 := b0.trans (b1.mono b0.size); have ta1 := ta.past b1; have tb1 := tb.past b1; obtain ⟨y0, y1, y2, -, -, -, -⟩ := id ta1)
        | (go_at_call 18; (with_reducible refine (HFa _).mono ?_); rintro e w2 ⟨rfl, b2⟩; have B2 := B1.trans (b2.mono B1.size); have ta2 := ta1.past b2; have tb2 := tb1.past b2; obtain ⟨v0, v1, v2, -, -, -, -⟩ := id tb2)
        | (go_at_call 18; (with_reducible refine (HFb _).mono ?_); rintro e w3 ⟨rfl, b3⟩; have B3 := B2.trans (b3.mono B2.size); have ta3 := ta2.past b3; have tb3 := tb2.past b3))
      clear ta tb ta1 tb1 ta2 tb2 y0 y1 y2 v0 v1 v2 B1 B2 b1 b2 b3 b0
      have ta := ta3.drew
      have tb := tb3.drew
      have b1 := B3.drew
      clear ta3 tb3 B3
      generalize hW0 : w = W0 at *
      clear hW0
      refine region_inv (KOrder5 k1 n1 s1 k2 n2 s2 KA NA SA KB NB SB) (by kernel_rfl) (by kernel_rfl) ?_ ?_ ?_
      · exact ⟨false, false, false, false, false, false, false, false, undef, undef, undef, undef, undef, undef, 0, 0, rfl, (by simp only [Act.put, List.setIfInBounds_toArray, List.set_cons_zero, List.set_cons_succ]), Below.refl _ _, (fun h => by cases h), (fun h => by cases h), (fun h => by cases h), (fun h => by cases h), (fun h => by cases h), (fun h => by cases h), (fun h => by cases h), (fun h => by cases h), (fun h => by cases h), (fun h => by cases h), (fun h => by cases h), (fun h => by cases h), (fun h => by cases h)⟩
      · refine ⟨?_, ?_, ?_, ?_, ?_, ?_, ?_, ?_, trivial⟩
        · rintro L a w ⟨b0, b1, b2, b3, b4, b5, b6, b7, x22, x23, x24, x25, x7, x8, g7, g8, rfl, rfl, hb, cd0, cd1, cd2, cd3, cd4, cd5, v_g7, v_g8, s_g7, s_g8, r_g7, r_g8, p_g7_g8⟩ hf hd
          have hf' : b0 = false := hf
          subst hf'
          clear hf hd
          try simp only [List.setIfInBounds_toArray, List.set_cons_zero, List.set_cons_succ]
          have z := ta.past hb
          obtain ⟨z0, z1, z2, -, -, -, -⟩ := z
          intro K hK
          rw [if_pos (by rfl)]
          go_simp
          exact hK.out _ _ ⟨true, b1, b2, b3, b4, b5, b6, b7, (vv k1 n1 s1), x23, x24, x25, x7, x8, g7, g8, (by simp only [Act.put, List.setIfInBounds_toArray, List.set_cons_zero, List.set_cons_succ]), (by simp only [Act.put, List.setIfInBounds_toArray, List.set_cons_zero, List.set_cons_succ]), hb, (fun _ => rfl), cd1, cd2, cd3, cd4, cd5, v_g7, v_g8, s_g7, s_g8, r_g7, r_g8, p_g7_g8⟩
        · rintro L a w ⟨b0, b1, b2, b3, b4, b5, b6, b7, x22, x23, x24, x25, x7, x8, g7, g8, rfl, rfl, hb, cd0, cd1, cd2, cd3, cd4, cd5, v_g7, v_g8, s_g7, s_g8, r_g7, r_g8, p_g7_g8⟩ hf hd
          have hf' : b1 = false := hf
          subst hf'
          have d0 : b0 = true := hd ⟨0, .data⟩ (by simp) rfl
          subst d0
          obtain rfl := cd0.out rfl
          clear hf hd
          try simp only [List.setIfInBounds_toArray, List.set_cons_zero, List.set_cons_succ]
          intro K hK
          rw [if_pos (by rfl)]
          go_simp
          go_at_call 19
          refine (HGa _).mono ?_
          rintro e w2 ⟨rfl, bx⟩
          have e_g7 : b6 = false := by cases hq : b6 with | false => rfl | true => exact absurd (r_g7.out hq) (by simp)
          subst e_g7
          exact hK.out _ _ ⟨true, true, b2, b3, b4, b5, false, b7, vv k1 n1 s1, (vv KA NA SA), x24, x25, x7, x8, g7, g8, (by simp only [Act.put, List.setIfInBounds_toArray, List.set_cons_zero, List.set_cons_succ]), (by simp only [Act.put, List.setIfInBounds_toArray, List.set_cons_zero, List.set_cons_succ]), hb.trans (bx.mono hb.size), (fun _ => rfl), (fun _ => rfl), cd2, cd3, cd4, cd5, (fun h => ⟨(v_g7.out h).1, (v_g7.out h).2.past bx⟩), (fun h => ⟨(v_g8.out h).1, (v_g8.out h).2.past bx⟩), s_g7, s_g8, (fun _ => rfl), r_g8, p_g7_g8⟩
        · rintro L a w ⟨b0, b1, b2, b3, b4, b5, b6, b7, x22, x23, x24, x25, x7, x8, g7, g8, rfl, rfl, hb, cd0, cd1, cd2, cd3, cd4, cd5, v_g7, v_g8, s_g7, s_g8, r_g7, r_g8, p_g7_g8⟩ hf hd
          have hf' : b2 = false := hf
          subst hf'
          clear hf hd
          try simp only [List.setIfInBounds_toArray, List.set_cons_zero, List.set_cons_succ]
          have z := tb.past hb
          obtain ⟨z0, z1, z2, -, -, -, -⟩ := z
          intro K hK
          rw [if_pos (by rfl)]
          go_simp
          exact hK.out _ _ ⟨b0, b1, true, b3, b4, b5, b6, b7, x22, x23, (vv k2 n2 s2), x25, x7, x8, g7, g8, (by simp only [Act.put, List.setIfInBounds_toArray, List.set_cons_zero, List.set_cons_succ]), (by simp only [Act.put, List.setIfInBounds_toArray, List.set_cons_zero, List.set_cons_succ]), hb, cd0, cd1, (fun _ => rfl), cd3, cd4, cd5, v_g7, v_g8, s_g7, s_g8, r_g7, r_g8, p_g7_g8⟩
        · rintro L a w ⟨b0, b1, b2, b3, b4, b5, b6, b7, x22, x23, x24, x25, x7, x8, g7, g8, rfl, rfl, hb, cd0, cd1, cd2, cd3, cd4, cd5, v_g7, v_g8, s_g7, s_g8, r_g7, r_g8, p_g7_g8⟩ hf hd
          have hf' : b3 = false := hf
          subst hf'
          have d2 : b2 = true := hd ⟨2, .data⟩ (by simp) rfl
          subst d2
          have d1 : b1 = true := hd ⟨1, .chain⟩ (by simp) rfl
          subst d1
          obtain rfl := cd2.out rfl
          obtain rfl := cd1.out rfl
          clear hf hd
          try simp only [List.setIfInBounds_toArray, List.set_cons_zero, List.set_cons_succ]
          intro K hK
          rw [if_pos (by rfl)]
          go_simp
          go_at_call 19
          refine (HGb _).mono ?_
          rintro e w2 ⟨rfl, bx⟩
          have e_g8 : b7 = false := by cases hq : b7 with | false => rfl | true => exact absurd (r_g8.out hq) (by simp)
          subst e_g8
          exact hK.out _ _ ⟨b0, true, true, true, b4, b5, b6, false, x22, vv KA NA SA, vv k2 n2 s2, (vv KB NB SB), x7, x8, g7, g8, (by simp only [Act.put, List.setIfInBounds_toArray, List.set_cons_zero, List.set_cons_succ]), (by simp only [Act.put, List.setIfInBounds_toArray, List.set_cons_zero, List.set_cons_succ]), hb.trans (bx.mono hb.size), cd0, (fun _ => rfl), (fun _ => rfl), (fun _ => rfl), cd4, cd5, (fun h => ⟨(v_g7.out h).1, (v_g7.out h).2.past bx⟩), (fun h => ⟨(v_g8.out h).1, (v_g8.out h).2.past bx⟩), s_g7, s_g8, (fun _ => rfl), (fun _ => rfl), p_g7_g8⟩
        · rintro L a w ⟨b0, b1, b2, b3, b4, b5, b6, b7, x22, x23, x24, x25, x7, x8, g7, g8, rfl, rfl, hb, cd0, cd1, cd2, cd3, cd4, cd5, v_g7, v_g8, s_g7, s_g8, r_g7, r_g8, p_g7_g8⟩ hf hd
          have hf' : b4 = false := hf
          subst hf'
          clear hf hd
          try simp only [List.setIfInBounds_toArray, List.set_cons_zero, List.set_cons_succ]
          intro K hK
          rw [if_pos (by rfl)]
          go_simp
          have bx : Below w.heap.size w (w.alloc (.cells #[.int .i64 0, .int .i64 0, .string ⟨#[]⟩] 39)) := (Below.refl _ _).alloc (Nat.le_refl _) _
          exact hK.out _ _ ⟨b0, b1, b2, b3, true, b5, b6, b7, x22, x23, x24, x25, (.pointer (some ⟨(w.heap.size), 0, none⟩)), x8, w.heap.size, g8, (by simp only [Act.put, List.setIfInBounds_toArray, List.set_cons_zero, List.set_cons_succ]), (by simp only [Act.put, List.setIfInBounds_toArray, List.set_cons_zero, List.set_cons_succ]), hb.trans (bx.mono hb.size), cd0, cd1, cd2, cd3, (fun _ => rfl), cd5, (fun _ => ⟨hb.size, by cases hq : b6 with | false => exact VAt.new w 0 0 ⟨#[]⟩ | true => exact absurd (s_g7.out hq) (by simp)⟩), (fun h => ⟨(v_g8.out h).1, (v_g8.out h).2.past bx⟩), (fun _ => rfl), s_g8, r_g7, r_g8, (fun _ h => Nat.ne_of_gt (v_g8.out h).2.lt)⟩
        · rintro L a w ⟨b0, b1, b2, b3, b4, b5, b6, b7, x22, x23, x24, x25, x7, x8, g7, g8, rfl, rfl, hb, cd0, cd1, cd2, cd3, cd4, cd5, v_g7, v_g8, s_g7, s_g8, r_g7, r_g8, p_g7_g8⟩ hf hd
          have hf' : b5 = false := hf
          subst hf'
          clear hf hd
          try simp only [List.setIfInBounds_toArray, List.set_cons_zero, List.set_cons_succ]
          intro K hK
          rw [if_pos (by rfl)]
          go_simp
          have bx : Below w.heap.size w (w.alloc (.cells #[.int .i64 0, .int .i64 0, .string ⟨#[]⟩] 39)) := (Below.refl _ _).alloc (Nat.le_refl _) _
          exact hK.out _ _ ⟨b0, b1, b2, b3, b4, true, b6, b7, x22, x23, x24, x25, x7, (.pointer (some ⟨(w.heap.size), 0, none⟩)), g7, w.heap.size, (by simp only [Act.put, List.setIfInBounds_toArray, List.set_cons_zero, List.set_cons_succ]), (by simp only [Act.put, List.setIfInBounds_toArray, List.set_cons_zero, List.set_cons_succ]), hb.trans (bx.mono hb.size), cd0, cd1, cd2, cd3, cd4, (fun _ => rfl), (fun h => ⟨(v_g7.out h).1, (v_g7.out h).2.past bx⟩), (fun _ => ⟨hb.size, by cases hq : b7 with | false => exact VAt.new w 0 0 ⟨#[]⟩ | true => exact absurd (s_g8.out hq) (by simp)⟩), s_g7, (fun _ => rfl), r_g7, r_g8, (fun h _ => Nat.ne_of_lt (v_g7.out h).2.lt)⟩
        · rintro L a w ⟨b0, b1, b2, b3, b4, b5, b6, b7, x22, x23, x24, x25, x7, x8, g7, g8, rfl, rfl, hb, cd0, cd1, cd2, cd3, cd4, cd5, v_g7, v_g8, s_g7, s_g8, r_g7, r_g8, p_g7_g8⟩ hf hd
          have hf' : b6 = false := hf
          subst hf'
          have d4 : b4 = true := hd ⟨4, .data⟩ (by simp) rfl
          subst d4
          have d1 : b1 = true := hd ⟨1, .data⟩ (by simp) rfl
          subst d1
          have d3 : b3 = true := hd ⟨3, .chain⟩ (by simp) rfl
          subst d3
          have d0 : b0 = true := hd ⟨0, .phase⟩ (by simp) rfl
          subst d0
          have d5 : b5 = true := hd ⟨5, .phase⟩ (by simp) rfl
          subst d5
          obtain rfl := cd4.out rfl
          obtain rfl := cd1.out rfl
          obtain rfl := cd3.out rfl
          obtain rfl := cd0.out rfl
          obtain rfl := cd5.out rfl
          clear hf hd
          try simp only [List.setIfInBounds_toArray, List.set_cons_zero, List.set_cons_succ]
          obtain ⟨vg, va⟩ := v_g7.out rfl
          simp only [cond_false] at va
          obtain ⟨z0, z1, z2, y0, y1, y2, vl⟩ := id va
          intro K hK
          rw [if_pos (by rfl)]
          go_simp
          have NE_g7_g8 : true = true → g7 ≠ g8 := fun h => p_g7_g8.out rfl h
          exact hK.out _ _ ⟨true, true, b2, true, true, true, true, b7, vv k1 n1 s1, vv KA NA SA, x24, vv KB NB SB, .pointer (some ⟨g7, 0, none⟩), .pointer (some ⟨g8, 0, none⟩), g7, g8, (by simp only [Act.put, List.setIfInBounds_toArray, List.set_cons_zero, List.set_cons_succ]), (by simp only [Act.put, List.setIfInBounds_toArray, List.set_cons_zero, List.set_cons_succ]), ((hb.setCell (p := ⟨g7, 0, none⟩) vg _).setCell (p := ⟨g7, 1, none⟩) vg _).setCell (p := ⟨g7, 2, none⟩) vg _, (fun _ => rfl), (fun _ => rfl), cd2, (fun _ => rfl), (fun _ => rfl), (fun _ => rfl), (fun _ => ⟨vg, va.set _ _ _⟩), (fun h => ⟨(v_g8.out h).1, (((v_g8.out h).2.far (NE_g7_g8 h) 0 _).far (NE_g7_g8 h) 1 _).far (NE_g7_g8 h) 2 _⟩), (fun _ => rfl), (fun _ => rfl), (fun _ => rfl), (fun _ => rfl), p_g7_g8⟩
        · rintro L a w ⟨b0, b1, b2, b3, b4, b5, b6, b7, x22, x23, x24, x25, x7, x8, g7, g8, rfl, rfl, hb, cd0, cd1, cd2, cd3, cd4, cd5, v_g7, v_g8, s_g7, s_g8, r_g7, r_g8, p_g7_g8⟩ hf hd
          have hf' : b7 = false := hf
          subst hf'
          have d5 : b5 = true := hd ⟨5, .data⟩ (by simp) rfl
          subst d5
          have d3 : b3 = true := hd ⟨3, .data⟩ (by simp) rfl
          subst d3
          have d6 : b6 = true := hd ⟨6, .chain⟩ (by simp) rfl
          subst d6
          have d0 : b0 = true := hd ⟨0, .phase⟩ (by simp) rfl
          subst d0
          have d1 : b1 = true := hd ⟨1, .phase⟩ (by simp) rfl
          subst d1
          have d2 : b2 = true := hd ⟨2, .phase⟩ (by simp) rfl
          subst d2
          have d4 : b4 = true := hd ⟨4, .phase⟩ (by simp) rfl
          subst d4
          obtain rfl := cd5.out rfl
          obtain rfl := cd3.out rfl
          obtain rfl := cd0.out rfl
          obtain rfl := cd1.out rfl
          obtain rfl := cd2.out rfl
          obtain rfl := cd4.out rfl
          clear hf hd
          try simp only [List.setIfInBounds_toArray, List.set_cons_zero, List.set_cons_succ]
          obtain ⟨vg, va⟩ := v_g8.out rfl
          simp only [cond_false] at va
          obtain ⟨z0, z1, z2, y0, y1, y2, vl⟩ := id va
          intro K hK
          rw [if_pos (by rfl)]
          go_simp
          have NE_g8_g7 : true = true → g8 ≠ g7 := fun h => (p_g7_g8.out h rfl).symm
          exact hK.out _ _ ⟨true, true, true, true, true, true, true, true, vv k1 n1 s1, vv KA NA SA, vv k2 n2 s2, vv KB NB SB, .pointer (some ⟨g7, 0, none⟩), .pointer (some ⟨g8, 0, none⟩), g7, g8, (by simp only [Act.put, List.setIfInBounds_toArray, List.set_cons_zero, List.set_cons_succ]), (by simp only [Act.put, List.setIfInBounds_toArray, List.set_cons_zero, List.set_cons_succ]), ((hb.setCell (p := ⟨g8, 0, none⟩) vg _).setCell (p := ⟨g8, 1, none⟩) vg _).setCell (p := ⟨g8, 2, none⟩) vg _, (fun _ => rfl), (fun _ => rfl), (fun _ => rfl), (fun _ => rfl), (fun _ => rfl), (fun _ => rfl), (fun h => ⟨(v_g7.out h).1, (((v_g7.out h).2.far (NE_g8_g7 h) 0 _).far (NE_g8_g7 h) 1 _).far (NE_g8_g7 h) 2 _⟩), (fun _ => ⟨vg, va.set _ _ _⟩), (fun _ => rfl), (fun _ => rfl), (fun _ => rfl), (fun _ => rfl), p_g7_g8⟩
      · rintro a w ⟨b0, b1, b2, b3, b4, b5, b6, b7, x22, x23, x24, x25, x7, x8, g7, g8, hL, rfl, hb, cd0, cd1, cd2, cd3, cd4, cd5, v_g7, v_g8, s_g7, s_g8, r_g7, r_g8, p_g7_g8⟩
        have hL' : [true, true, true, true, true, true, true, true] = [b0, b1, b2, b3, b4, b5, b6, b7] := congrArg Array.toList hL
        simp only [List.cons.injEq, and_true] at hL'
        obtain ⟨rfl, rfl, rfl, rfl, rfl, rfl, rfl, rfl⟩ := hL'
        obtain rfl := cd0.out rfl
        obtain rfl := cd1.out rfl
        obtain rfl := cd2.out rfl
        obtain rfl := cd3.out rfl
        obtain rfl := cd4.out rfl
        obtain rfl := cd5.out rfl
        obtain ⟨vg_g7, va_g7⟩ := v_g7.out rfl
        simp only [cond_true] at va_g7
        obtain ⟨vg_g8, va_g8⟩ := v_g8.out rfl
        simp only [cond_true] at va_g8
        replace p_g7_g8 := p_g7_g8.out rfl rfl
        clear hL
        simp only [List.setIfInBounds_toArray, List.set_cons_zero, List.set_cons_succ]
        have vg8 : W0.heap.size ≤ g8 := Nat.le_trans b1.size vg_g8
        replace b1 := b1.trans (hb.mono b1.size)
        clear hb v_g7 v_g8 s_g7 s_g8 r_g7 r_g8 ta tb HGa HGb HFa HFb
        go_upto_region 6 with fail
        obtain ⟨c0, c1, c2, -, -, -, -⟩ := id va_g7
        go_cut [33] from 26 to 33 (fun c wx => ∃ b : Bool, c = .bool b ∧ (b = false ∨ KA = 3) ∧ wx = w)
        case first =>
          by_cases h3 : near.tmod 3 = 1
          · have e3 : (near.tmod 3 == 1) = true := by simpa using h3
            by_cases hK : KA = 3
            · subst hK
              go_wp2_with fail
              go_meet
              exact ⟨true, rfl, by simp, rfl⟩
            · have eK : (KA == 3) = false := by simpa using hK
              go_wp2_with fail
              go_meet
              exact ⟨false, rfl, .inl rfl, rfl⟩
          · have e3 : (near.tmod 3 == 1) = false := by simpa using h3
            go_wp2_with fail
            go_meet
            exact ⟨false, rfl, .inl rfl, rfl⟩
        case rest =>
          obtain ⟨bb, rfl, hb3, rfl⟩ := hcut
          go_upto_if 33 with fail
          go_cut [6] from 34 to 44 (fun v wx => v = .bool false ∧ ∃ k n s, Hid (Vok ⟨k, n, s⟩) ∧ VAt wx g7 KA NA SA ∧ VAt wx g8 k n s ∧ Below W0.heap.size W0 wx)
          case first =>
            cases bb
            · go_wp2_with fail
              go_meet
              exact ⟨rfl, KB, NB, SB, okB, va_g7, va_g8, b1⟩
            · obtain rfl : KA = 3 := hb3.resolve_left (by simp)
              have hS : SA.size ≤ 60 := by have := okA.out; cases this with | text _ h => exact h
              have hq : IntKind.i64.wrap (near.tdiv 3) = near.tdiv 3 := by
                have t1 : (near.tdiv 3).natAbs = near.natAbs / 3 := Int.natAbs_tdiv near 3
                have := wf_range hnear
                exact IntWalk.i64_in _ (by omega)
              obtain ⟨k, hk, hk2⟩ : ∃ k : Nat, wth (near.tdiv 3) ((SA.size : Int) + 1) = k ∧ k ≤ SA.size := ⟨(wth (near.tdiv 3) ((SA.size : Int) + 1)).toNat, by have := wth_lo (near.tdiv 3) ((SA.size : Int) + 1) (by omega); omega, by have := wth_hi (near.tdiv 3) ((SA.size : Int) + 1) (by omega); have := wth_lo (near.tdiv 3) ((SA.size : Int) + 1) (by omega); omega⟩
              have HW : ∀ w, Calls Try.prog 20 #[.int .i64 (near.tdiv 3), .int .i64 ((SA.size : Int) + 1)] w fun e w' => e = .returned (.int .i64 (k : Int)) ∧ w' = w := fun w => by
                have := within6_any (near.tdiv 3) ((SA.size : Int) + 1) w (by omega) (by omega)
                rw [hk] at this
                exact this.mono fun _ _ ⟨a, b⟩ => ⟨a, b.symm⟩
              have hk3 : (k : Int) ≤ SA.size := by omega
              have hs1 : IntKind.i64.wrap ((SA.size : Int) + 1) = (SA.size : Int) + 1 := IntWalk.i64_in _ (by omega)
              go_wp2_with fail
              go_still_tail 11, (by kernel_rfl)
              still_call (HW _)
              repeat still_step
              refine wpStill_nil ?_
              change wpList _ _ _ _ _ (World.drew _)
              have t8 := va_g8.drew
              have t7 := va_g7.drew
              have b2 := b1.drew
              generalize World.drew _ = w2 at t7 t8 b2 ⊢
              obtain ⟨d0, d1, d2, f0, f1, f2, -⟩ := id t8
              go_wp2_with fail
              go_meet
              exact ⟨rfl, 3, 0, SA.extract 0 k, Vok.text _ (by simp; omega), ((t7.far (Ne.symm p_g7_g8) 0 _).far (Ne.symm p_g7_g8) 1 _).far (Ne.symm p_g7_g8) 2 _, t8.set 3 0 _, (((b2.setCell (p := ⟨g8, 0, none⟩) vg8 _).setCell (p := ⟨g8, 1, none⟩) vg8 _).setCell (p := ⟨g8, 2, none⟩) vg8 _)⟩
          case rest =>
            clear va_g7 va_g8 b1 okB c0 c1 c2 hb3 vg_g7 vg_g8
            obtain ⟨rfl, KB, NB, SB, okB, va_g7, va_g8, b1⟩ := hcut
            go_upto_region 8 with fail
            obtain ⟨c0, c1, c2, -, -, -, -⟩ := id va_g7
            go_cut [52] from 45 to 52 (fun c wx => ∃ b : Bool, c = .bool b ∧ (b = false ∨ KA = 2) ∧ wx = wc)
            case first =>
              by_cases h3 : near.tmod 3 = 2
              · have e3 : (near.tmod 3 == 2) = true := by simpa using h3
                by_cases hK : KA = 2
                · subst hK
                  go_wp2_with fail
                  go_meet
                  exact ⟨true, rfl, by simp, rfl⟩
                · have eK : (KA == 2) = false := by simpa using hK
                  go_wp2_with fail
                  go_meet
                  exact ⟨false, rfl, .inl rfl, rfl⟩
              · have e3 : (near.tmod 3 == 2) = false := by simpa using h3
                go_wp2_with fail
                go_meet
                exact ⟨false, rfl, .inl rfl, rfl⟩
            case rest =>
              obtain ⟨bb, rfl, hb3, rfl⟩ := hcut
              go_upto_if 52 with fail
              go_cut [6] from 53 to 61 (fun v wx => v = .bool false ∧ ∃ k n s, Hid (Vok ⟨k, n, s⟩) ∧ VAt wx g7 KA NA SA ∧ VAt wx g8 k n s ∧ Below W0.heap.size W0 wx)
              case first =>
                cases bb
                · go_wp2_with fail
                  go_meet
                  exact ⟨rfl, KB, NB, SB, okB, va_g7, va_g8, b1⟩
                · obtain rfl : KA = 2 := hb3.resolve_left (by simp)
                  have hq : IntKind.i64.wrap (near.tdiv 3) = near.tdiv 3 := by
                    have t1 : (near.tdiv 3).natAbs = near.natAbs / 3 := Int.natAbs_tdiv near 3
                    have := wf_range hnear
                    exact IntWalk.i64_in _ (by omega)
                  obtain ⟨k, hk, hk2⟩ : ∃ k : Nat, wth (near.tdiv 3) 63 = k ∧ k < 63 := ⟨(wth (near.tdiv 3) 63).toNat, by have := wth_lo (near.tdiv 3) 63 (by omega); omega, by have := wth_hi (near.tdiv 3) 63 (by omega); have := wth_lo (near.tdiv 3) 63 (by omega); omega⟩
                  have HW : ∀ w, Calls Try.prog 20 #[.int .i64 (near.tdiv 3), .int .i64 63] w fun e w' => e = .returned (.int .i64 (k : Int)) ∧ w' = w := fun w => by
                    have := within6_any (near.tdiv 3) 63 w (by omega) (by omega)
                    rw [hk] at this
                    exact this.mono fun _ _ ⟨a, b⟩ => ⟨a, b.symm⟩
                  have hwk : IntKind.u64.wrap (k : Int) = (k : Int) := IntWalk.u64_in _ (by omega)
                  go_wp2_with fail
                  go_still_tail 9, (by kernel_rfl)
                  still_call (HW _)
                  repeat still_step
                  refine wpStill_nil ?_
                  change wpList _ _ _ _ _ (World.drew _)
                  have t8 := va_g8.drew
                  have t7 := va_g7.drew
                  have b2 := b1.drew
                  generalize World.drew _ = w2 at t7 t8 b2 ⊢
                  obtain ⟨d0, d1, d2, f0, f1, f2, -⟩ := id t8
                  go_wp2_with fail
                  go_meet
                  exact ⟨rfl, 2, _, ByteArray.empty, Vok.int _ ⟨bits_lo_i64 _ _ _, bits_hi_i64 _ _ _⟩, ((t7.far (Ne.symm p_g7_g8) 0 _).far (Ne.symm p_g7_g8) 1 _).far (Ne.symm p_g7_g8) 2 _, t8.set 2 _ _, (((b2.setCell (p := ⟨g8, 0, none⟩) vg8 _).setCell (p := ⟨g8, 1, none⟩) vg8 _).setCell (p := ⟨g8, 2, none⟩) vg8 _)⟩
              case rest =>
                clear va_g7 va_g8 b1 okB c0 c1 c2 hb3
                obtain ⟨rfl, KB, NB, SB, okB, va_g7, va_g8, b1⟩ := hcut
                go_wp2_with fail
                replace va_g7 := va_g7.drew
                replace va_g8 := va_g8.drew
                replace b1 := b1.drew
                have HX : ∀ w, Calls Try.prog 21 #[vv KA NA SA] w (FreshI w (keyB ⟨KA, NA, SA⟩)) := fun w => keyBytes_any _ okA.out w
                have HY : ∀ w, Calls Try.prog 21 #[vv KB NB SB] w (FreshI w (keyB ⟨KB, NB, SB⟩)) := fun w => keyBytes_any _ okB.out w
                have KC := key_cmp ⟨KA, NA, SA⟩ ⟨KB, NB, SB⟩ okA.out okB.out [] []
                rw [List.append_nil, List.append_nil, show cmpL [] [] = 0 from rfl, or2_zero] at KC
                have HCM : ∀ w, Calls Try.prog 23 #[vv KA NA SA, vv KB NB SB] w fun e w' => e = .returned (.int .i64 (V.cmp ⟨KA, NA, SA⟩ ⟨KB, NB, SB⟩)) ∧ Below w.heap.size w w' := fun w => rcmp4_any _ _ _ _ _ _ w okA.out.val okB.out.val
                rw [← KC] at HCM
                have NF1 := Lib.hid (no_front ⟨KA, NA, SA⟩ ⟨KB, NB, SB⟩ okA.out okB.out)
                have NF2 := Lib.hid (no_front ⟨KB, NB, SB⟩ ⟨KA, NA, SA⟩ okB.out okA.out)
                have LX := (key_len _ okA.out).2
                have LY := (key_len _ okB.out).2
                unfold FreshI at HX HY
                clear KC
                generalize keyB ⟨KA, NA, SA⟩ = KX at *
                generalize keyB ⟨KB, NB, SB⟩ = KY at *
                have HBL := fun (gx gy : Nat) w h1 h2 => below_any (some ⟨gx, 0, none⟩) KX.length KX.length KX (some ⟨gy, 0, none⟩) KY.length KY.length KY w h1 h2 (by omega) (by omega)
                generalize KX.length = lX at *
                generalize KY.length = lY at *
                generalize cmpL KX KY = C at *
                refine region_inv (KOrder10 g7 g8 KA NA SA KB NB SB KX KY lX lY) (by kernel_rfl) (by kernel_rfl) ?_ ?_ ?_
                · exact ⟨false, false, false, false, false, false, undef, undef, undef, undef, undef, undef, 0, 0, rfl, (by simp only [Act.put, List.setIfInBounds_toArray, List.set_cons_zero, List.set_cons_succ]), Below.refl _ _, (fun h => by cases h), (fun h => by cases h), (fun h => by cases h), (fun h => by cases h), (fun h => by cases h), (fun h => by cases h), (fun h => by cases h), (fun h => by cases h), (fun h => by cases h), (fun h => by cases h)⟩
                · refine ⟨?_, ?_, ?_, ?_, ?_, ?_, trivial⟩
                  · rintro L a w ⟨b0, b1, b2, b3, b4, b5, x62, x63, x64, x65, x9, x10, gx, gy, rfl, rfl, hb, cd0, cd1, cd2, cd3, cd4, cd5, w_4_1, w_5_3, wf1, wf3⟩ hf hd
                    have hf' : b0 = false := hf
                    subst hf'
                    clear hf hd
                    try simp only [List.setIfInBounds_toArray, List.set_cons_zero, List.set_cons_succ]
                    have z := va_g7.past hb
                    obtain ⟨z0, z1, z2, -, -, -, -⟩ := z
                    intro K hK
                    rw [if_pos (by rfl)]
                    go_simp
                    exact hK.out _ _ ⟨true, b1, b2, b3, b4, b5, (vv KA NA SA), x63, x64, x65, x9, x10, gx, gy, (by simp only [Act.put, List.setIfInBounds_toArray, List.set_cons_zero, List.set_cons_succ]), (by simp only [Act.put, List.setIfInBounds_toArray, List.set_cons_zero, List.set_cons_succ]), hb, (fun _ => rfl), cd1, cd2, cd3, cd4, cd5, w_4_1, w_5_3, wf1, wf3⟩
                  · rintro L a w ⟨b0, b1, b2, b3, b4, b5, x62, x63, x64, x65, x9, x10, gx, gy, rfl, rfl, hb, cd0, cd1, cd2, cd3, cd4, cd5, w_4_1, w_5_3, wf1, wf3⟩ hf hd
                    have hf' : b1 = false := hf
                    subst hf'
                    have d0 : b0 = true := hd ⟨0, .data⟩ (by simp) rfl
                    subst d0
                    obtain rfl := cd0.out rfl
                    clear hf hd
                    try simp only [List.setIfInBounds_toArray, List.set_cons_zero, List.set_cons_succ]
                    intro K hK
                    rw [if_pos (by rfl)]
                    go_simp
                    go_at_call 21
                    refine (HX _).mono ?_
                    rintro e w2 ⟨g', rfl, i2, bx, q2⟩
                    have e_4 : b4 = false := by cases hq : b4 with | false => rfl | true => exact absurd (w_4_1.out hq) (by simp)
                    subst e_4
                    exact hK.out _ _ ⟨true, true, b2, b3, false, b5, vv KA NA SA, (.slice (some ⟨(g'), 0, none⟩) lX lX), x64, x65, x9, x10, g', gy, (by simp only [Act.put, List.setIfInBounds_toArray, List.set_cons_zero, List.set_cons_succ]), (by simp only [Act.put, List.setIfInBounds_toArray, List.set_cons_zero, List.set_cons_succ]), hb.trans (bx.mono hb.size), (fun _ => rfl), (fun _ => rfl), cd2, cd3, (fun h => by cases h), cd5, (fun _ => rfl), w_5_3, (fun _ => i2), (fun h => (wf3.out h).past bx)⟩
                  · rintro L a w ⟨b0, b1, b2, b3, b4, b5, x62, x63, x64, x65, x9, x10, gx, gy, rfl, rfl, hb, cd0, cd1, cd2, cd3, cd4, cd5, w_4_1, w_5_3, wf1, wf3⟩ hf hd
                    have hf' : b2 = false := hf
                    subst hf'
                    clear hf hd
                    try simp only [List.setIfInBounds_toArray, List.set_cons_zero, List.set_cons_succ]
                    have z := va_g8.past hb
                    obtain ⟨z0, z1, z2, -, -, -, -⟩ := z
                    intro K hK
                    rw [if_pos (by rfl)]
                    go_simp
                    exact hK.out _ _ ⟨b0, b1, true, b3, b4, b5, x62, x63, (vv KB NB SB), x65, x9, x10, gx, gy, (by simp only [Act.put, List.setIfInBounds_toArray, List.set_cons_zero, List.set_cons_succ]), (by simp only [Act.put, List.setIfInBounds_toArray, List.set_cons_zero, List.set_cons_succ]), hb, cd0, cd1, (fun _ => rfl), cd3, cd4, cd5, w_4_1, w_5_3, wf1, wf3⟩
                  · rintro L a w ⟨b0, b1, b2, b3, b4, b5, x62, x63, x64, x65, x9, x10, gx, gy, rfl, rfl, hb, cd0, cd1, cd2, cd3, cd4, cd5, w_4_1, w_5_3, wf1, wf3⟩ hf hd
                    have hf' : b3 = false := hf
                    subst hf'
                    have d2 : b2 = true := hd ⟨2, .data⟩ (by simp) rfl
                    subst d2
                    have d1 : b1 = true := hd ⟨1, .chain⟩ (by simp) rfl
                    subst d1
                    obtain rfl := cd2.out rfl
                    obtain rfl := cd1.out rfl
                    clear hf hd
                    have W1 := wf1.out rfl
                    try simp only [List.setIfInBounds_toArray, List.set_cons_zero, List.set_cons_succ]
                    intro K hK
                    rw [if_pos (by rfl)]
                    go_simp
                    go_at_call 21
                    refine (HY _).mono ?_
                    rintro e w2 ⟨g', rfl, i2, bx, q2⟩
                    have e_5 : b5 = false := by cases hq : b5 with | false => rfl | true => exact absurd (w_5_3.out hq) (by simp)
                    subst e_5
                    exact hK.out _ _ ⟨b0, true, true, true, b4, false, x62, .slice (some ⟨gx, 0, none⟩) lX lX, vv KB NB SB, (.slice (some ⟨(g'), 0, none⟩) lY lY), x9, x10, gx, g', (by simp only [Act.put, List.setIfInBounds_toArray, List.set_cons_zero, List.set_cons_succ]), (by simp only [Act.put, List.setIfInBounds_toArray, List.set_cons_zero, List.set_cons_succ]), hb.trans (bx.mono hb.size), cd0, (fun _ => rfl), (fun _ => rfl), (fun _ => rfl), cd4, (fun h => by cases h), (fun _ => rfl), (fun _ => rfl), (fun h => (wf1.out h).past bx), (fun _ => i2)⟩
                  · rintro L a w ⟨b0, b1, b2, b3, b4, b5, x62, x63, x64, x65, x9, x10, gx, gy, rfl, rfl, hb, cd0, cd1, cd2, cd3, cd4, cd5, w_4_1, w_5_3, wf1, wf3⟩ hf hd
                    have hf' : b4 = false := hf
                    subst hf'
                    have d1 : b1 = true := hd ⟨1, .data⟩ (by simp) rfl
                    subst d1
                    have d3 : b3 = true := hd ⟨3, .chain⟩ (by simp) rfl
                    subst d3
                    have d0 : b0 = true := hd ⟨0, .phase⟩ (by simp) rfl
                    subst d0
                    obtain rfl := cd1.out rfl
                    obtain rfl := cd3.out rfl
                    obtain rfl := cd0.out rfl
                    clear hf hd
                    have W1 := wf1.out rfl
                    have W3 := wf3.out rfl
                    try simp only [List.setIfInBounds_toArray, List.set_cons_zero, List.set_cons_succ]
                    intro K hK
                    rw [if_pos (by rfl)]
                    go_simp
                    exact hK.out _ _ ⟨true, true, b2, true, true, b5, vv KA NA SA, .slice (some ⟨gx, 0, none⟩) lX lX, x64, .slice (some ⟨gy, 0, none⟩) lY lY, (.slice (some ⟨gx, 0, none⟩) lX lX), x10, gx, gy, (by simp only [Act.put, List.setIfInBounds_toArray, List.set_cons_zero, List.set_cons_succ]), (by simp only [Act.put, List.setIfInBounds_toArray, List.set_cons_zero, List.set_cons_succ]), hb, (fun _ => rfl), (fun _ => rfl), cd2, (fun _ => rfl), (fun _ => rfl), cd5, (fun _ => rfl), (fun _ => rfl), wf1, wf3⟩
                  · rintro L a w ⟨b0, b1, b2, b3, b4, b5, x62, x63, x64, x65, x9, x10, gx, gy, rfl, rfl, hb, cd0, cd1, cd2, cd3, cd4, cd5, w_4_1, w_5_3, wf1, wf3⟩ hf hd
                    have hf' : b5 = false := hf
                    subst hf'
                    have d3 : b3 = true := hd ⟨3, .data⟩ (by simp) rfl
                    subst d3
                    have d4 : b4 = true := hd ⟨4, .chain⟩ (by simp) rfl
                    subst d4
                    have d0 : b0 = true := hd ⟨0, .phase⟩ (by simp) rfl
                    subst d0
                    have d1 : b1 = true := hd ⟨1, .phase⟩ (by simp) rfl
                    subst d1
                    have d2 : b2 = true := hd ⟨2, .phase⟩ (by simp) rfl
                    subst d2
                    obtain rfl := cd3.out rfl
                    obtain rfl := cd4.out rfl
                    obtain rfl := cd0.out rfl
                    obtain rfl := cd1.out rfl
                    obtain rfl := cd2.out rfl
                    clear hf hd
                    have W1 := wf1.out rfl
                    have W3 := wf3.out rfl
                    try simp only [List.setIfInBounds_toArray, List.set_cons_zero, List.set_cons_succ]
                    intro K hK
                    rw [if_pos (by rfl)]
                    go_simp
                    exact hK.out _ _ ⟨true, true, true, true, true, true, vv KA NA SA, .slice (some ⟨gx, 0, none⟩) lX lX, vv KB NB SB, .slice (some ⟨gy, 0, none⟩) lY lY, .slice (some ⟨gx, 0, none⟩) lX lX, (.slice (some ⟨gy, 0, none⟩) lY lY), gx, gy, (by simp only [Act.put, List.setIfInBounds_toArray, List.set_cons_zero, List.set_cons_succ]), (by simp only [Act.put, List.setIfInBounds_toArray, List.set_cons_zero, List.set_cons_succ]), hb, (fun _ => rfl), (fun _ => rfl), (fun _ => rfl), (fun _ => rfl), (fun _ => rfl), (fun _ => rfl), (fun _ => rfl), (fun _ => rfl), wf1, wf3⟩
                · rintro a w ⟨b0, b1, b2, b3, b4, b5, x62, x63, x64, x65, x9, x10, gx, gy, hL, rfl, hb, cd0, cd1, cd2, cd3, cd4, cd5, w_4_1, w_5_3, wf1, wf3⟩
                  have hL' : [true, true, true, true, true, true] = [b0, b1, b2, b3, b4, b5] := congrArg Array.toList hL
                  simp only [List.cons.injEq, and_true] at hL'
                  obtain ⟨rfl, rfl, rfl, rfl, rfl, rfl⟩ := hL'
                  obtain rfl := cd0.out rfl
                  obtain rfl := cd1.out rfl
                  obtain rfl := cd2.out rfl
                  obtain rfl := cd3.out rfl
                  obtain rfl := cd4.out rfl
                  obtain rfl := cd5.out rfl
                  have W1 := wf1.out rfl
                  have W3 := wf3.out rfl
                  clear hL
                  simp only [List.setIfInBounds_toArray, List.set_cons_zero, List.set_cons_succ]
                  replace va_g7 := va_g7.past hb
                  replace va_g8 := va_g8.past hb
                  replace b1 := b1.trans (hb.mono b1.size)
                  clear hb
                  go_upto_region 11 with fail
                  go_cut [11] from 66 to 97 (fun v wx => v = .bool false ∧ Below w.heap.size w wx)
                  case first =>
                    have hb11 := (Below.refl w.heap.size w).drew
                    have jX := W1.drew
                    have jY := W3.drew
                    clear va_g7 va_g8 b1 W1 W3
                    rcases Nat.lt_trichotomy lX lY with hl | hl | hl
                    · have l1 : (lX : Int) < lY := by omega
                      have l2 : ¬ ((lY : Int) < lX) := by omega
                      have l3 : (lX : Int) ≤ lY := by omega
                      have jT := IsB_take jY (m := lX) (by omega)
                      have ne := NF1.out hl
                      have ne2 : (List.take lX KY == KX) = false := by simpa using ne
                      refine region_inv (KOrder11a gx gy KX KY lX lY) (by kernel_rfl) (by kernel_rfl) ?_ ?_ ?_
                      · exact ⟨false, false, false, false, false, false, false, false, false, false, false, false, false, false, false, false, false, false, false, false, false, false, false, false, false, false, false, false, false, false, false, false, false, undef, undef, undef, undef, undef, undef, undef, undef, undef, undef, undef, undef, undef, undef, undef, undef, undef, undef, undef, undef, undef, undef, undef, undef, undef, undef, undef, undef, undef, undef, undef, undef, undef, rfl, (by simp only [Act.put, List.setIfInBounds_toArray, List.set_cons_zero, List.set_cons_succ]), Below.refl _ _, (fun h => by cases h), (fun h => by cases h), (fun h => by cases h), (fun h => by cases h), (fun h => by cases h), (fun h => by cases h), (fun h => by cases h), (fun h => by cases h), (fun h => by cases h), (fun h => by cases h), (fun h => by cases h), (fun h => by cases h), (fun h => by cases h), (fun h => by cases h), (fun h => by cases h), (fun h => by cases h), (fun h => by cases h), (fun h => by cases h), (fun h => by cases h), (fun h => by cases h), (fun h => by cases h), (fun h => by cases h), (fun h => by cases h), (fun h => by cases h), (fun h => by cases h), (fun h => by cases h), (fun h => by cases h), (fun h => by cases h), (fun h => by cases h), (fun h => by cases h), (fun h => by cases h), (fun h => by cases h), (fun h => by cases h)⟩
                      · refine ⟨?_, ?_, ?_, ?_, ?_, ?_, ?_, ?_, ?_, ?_, ?_, ?_, ?_, ?_, ?_, ?_, ?_, ?_, ?_, ?_, ?_, ?_, ?_, ?_, ?_, ?_, ?_, ?_, ?_, ?_, ?_, ?_, ?_, trivial⟩
                        · rintro L a w ⟨b0, b1, b2, b3, b4, b5, b6, b7, b8, b9, b10, b11, b12, b13, b14, b15, b16, b17, b18, b19, b20, b21, b22, b23, b24, b25, b26, b27, b28, b29, b30, b31, b32, x66, x67, x68, x69, x70, x71, x72, x73, x74, x75, x76, x77, x78, x79, x80, x81, x82, x83, x84, x85, x86, x87, x88, x89, x90, x91, x92, x93, x94, x95, x96, x97, x11, rfl, rfl, hb, cd0, cd1, cd2, cd3, cd4, cd5, cd6, cd7, cd8, cd9, cd10, cd11, cd12, cd13, cd14, cd15, cd16, cd17, cd18, cd19, cd20, cd21, cd22, cd23, cd24, cd25, cd26, cd27, cd28, cd29, cd30, cd31, cd32⟩ hf hd
                          have hf' : b0 = false := hf
                          subst hf'
                          clear hf hd
                          try simp only [List.setIfInBounds_toArray, List.set_cons_zero, List.set_cons_succ]
                          intro K hK
                          rw [if_pos (by rfl)]
                          go_simp
                          exact hK.out _ _ ⟨true, b1, b2, b3, b4, b5, b6, b7, b8, b9, b10, b11, b12, b13, b14, b15, b16, b17, b18, b19, b20, b21, b22, b23, b24, b25, b26, b27, b28, b29, b30, b31, b32, (.slice (some ⟨gx, 0, none⟩) lX lX), x67, x68, x69, x70, x71, x72, x73, x74, x75, x76, x77, x78, x79, x80, x81, x82, x83, x84, x85, x86, x87, x88, x89, x90, x91, x92, x93, x94, x95, x96, x97, x11, (by simp only [Act.put, List.setIfInBounds_toArray, List.set_cons_zero, List.set_cons_succ]), (by simp only [Act.put, List.setIfInBounds_toArray, List.set_cons_zero, List.set_cons_succ]), hb, (fun _ => rfl), cd1, cd2, cd3, cd4, cd5, cd6, cd7, cd8, cd9, cd10, cd11, cd12, cd13, cd14, cd15, cd16, cd17, cd18, cd19, cd20, cd21, cd22, cd23, cd24, cd25, cd26, cd27, cd28, cd29, cd30, cd31, cd32⟩
                        · rintro L a w ⟨b0, b1, b2, b3, b4, b5, b6, b7, b8, b9, b10, b11, b12, b13, b14, b15, b16, b17, b18, b19, b20, b21, b22, b23, b24, b25, b26, b27, b28, b29, b30, b31, b32, x66, x67, x68, x69, x70, x71, x72, x73, x74, x75, x76, x77, x78, x79, x80, x81, x82, x83, x84, x85, x86, x87, x88, x89, x90, x91, x92, x93, x94, x95, x96, x97, x11, rfl, rfl, hb, cd0, cd1, cd2, cd3, cd4, cd5, cd6, cd7, cd8, cd9, cd10, cd11, cd12, cd13, cd14, cd15, cd16, cd17, cd18, cd19, cd20, cd21, cd22, cd23, cd24, cd25, cd26, cd27, cd28, cd29, cd30, cd31, cd32⟩ hf hd
                          have hf' : b1 = false := hf
                          subst hf'
                          have d0 : b0 = true := hd ⟨0, .data⟩ (by simp) rfl
                          subst d0
                          obtain rfl := cd0.out rfl
                          clear hf hd
                          try simp only [List.setIfInBounds_toArray, List.set_cons_zero, List.set_cons_succ]
                          intro K hK
                          rw [if_pos (by rfl)]
                          go_simp
                          exact hK.out _ _ ⟨true, true, b2, b3, b4, b5, b6, b7, b8, b9, b10, b11, b12, b13, b14, b15, b16, b17, b18, b19, b20, b21, b22, b23, b24, b25, b26, b27, b28, b29, b30, b31, b32, .slice (some ⟨gx, 0, none⟩) lX lX, (.int .i64 (lX : Nat)), x68, x69, x70, x71, x72, x73, x74, x75, x76, x77, x78, x79, x80, x81, x82, x83, x84, x85, x86, x87, x88, x89, x90, x91, x92, x93, x94, x95, x96, x97, x11, (by simp only [Act.put, List.setIfInBounds_toArray, List.set_cons_zero, List.set_cons_succ]), (by simp only [Act.put, List.setIfInBounds_toArray, List.set_cons_zero, List.set_cons_succ]), hb, (fun _ => rfl), (fun _ => rfl), cd2, cd3, cd4, cd5, cd6, cd7, cd8, cd9, cd10, cd11, cd12, cd13, cd14, cd15, cd16, cd17, cd18, cd19, cd20, cd21, cd22, cd23, cd24, cd25, cd26, cd27, cd28, cd29, cd30, cd31, cd32⟩
                        · rintro L a w ⟨b0, b1, b2, b3, b4, b5, b6, b7, b8, b9, b10, b11, b12, b13, b14, b15, b16, b17, b18, b19, b20, b21, b22, b23, b24, b25, b26, b27, b28, b29, b30, b31, b32, x66, x67, x68, x69, x70, x71, x72, x73, x74, x75, x76, x77, x78, x79, x80, x81, x82, x83, x84, x85, x86, x87, x88, x89, x90, x91, x92, x93, x94, x95, x96, x97, x11, rfl, rfl, hb, cd0, cd1, cd2, cd3, cd4, cd5, cd6, cd7, cd8, cd9, cd10, cd11, cd12, cd13, cd14, cd15, cd16, cd17, cd18, cd19, cd20, cd21, cd22, cd23, cd24, cd25, cd26, cd27, cd28, cd29, cd30, cd31, cd32⟩ hf hd
                          have hf' : b2 = false := hf
                          subst hf'
                          clear hf hd
                          try simp only [List.setIfInBounds_toArray, List.set_cons_zero, List.set_cons_succ]
                          intro K hK
                          rw [if_pos (by rfl)]
                          go_simp
                          exact hK.out _ _ ⟨b0, b1, true, b3, b4, b5, b6, b7, b8, b9, b10, b11, b12, b13, b14, b15, b16, b17, b18, b19, b20, b21, b22, b23, b24, b25, b26, b27, b28, b29, b30, b31, b32, x66, x67, (.slice (some ⟨gy, 0, none⟩) lY lY), x69, x70, x71, x72, x73, x74, x75, x76, x77, x78, x79, x80, x81, x82, x83, x84, x85, x86, x87, x88, x89, x90, x91, x92, x93, x94, x95, x96, x97, x11, (by simp only [Act.put, List.setIfInBounds_toArray, List.set_cons_zero, List.set_cons_succ]), (by simp only [Act.put, List.setIfInBounds_toArray, List.set_cons_zero, List.set_cons_succ]), hb, cd0, cd1, (fun _ => rfl), cd3, cd4, cd5, cd6, cd7, cd8, cd9, cd10, cd11, cd12, cd13, cd14, cd15, cd16, cd17, cd18, cd19, cd20, cd21, cd22, cd23, cd24, cd25, cd26, cd27, cd28, cd29, cd30, cd31, cd32⟩
                        · rintro L a w ⟨b0, b1, b2, b3, b4, b5, b6, b7, b8, b9, b10, b11, b12, b13, b14, b15, b16, b17, b18, b19, b20, b21, b22, b23, b24, b25, b26, b27, b28, b29, b30, b31, b32, x66, x67, x68, x69, x70, x71, x72, x73, x74, x75, x76, x77, x78, x79, x80, x81, x82, x83, x84, x85, x86, x87, x88, x89, x90, x91, x92, x93, x94, x95, x96, x97, x11, rfl, rfl, hb, cd0, cd1, cd2, cd3, cd4, cd5, cd6, cd7, cd8, cd9, cd10, cd11, cd12, cd13, cd14, cd15, cd16, cd17, cd18, cd19, cd20, cd21, cd22, cd23, cd24, cd25, cd26, cd27, cd28, cd29, cd30, cd31, cd32⟩ hf hd
                          have hf' : b3 = false := hf
                          subst hf'
                          have d2 : b2 = true := hd ⟨2, .data⟩ (by simp) rfl
                          subst d2
                          obtain rfl := cd2.out rfl
                          clear hf hd
                          try simp only [List.setIfInBounds_toArray, List.set_cons_zero, List.set_cons_succ]
                          intro K hK
                          rw [if_pos (by rfl)]
                          go_simp
                          exact hK.out _ _ ⟨b0, b1, true, true, b4, b5, b6, b7, b8, b9, b10, b11, b12, b13, b14, b15, b16, b17, b18, b19, b20, b21, b22, b23, b24, b25, b26, b27, b28, b29, b30, b31, b32, x66, x67, .slice (some ⟨gy, 0, none⟩) lY lY, (.int .i64 (lY : Nat)), x70, x71, x72, x73, x74, x75, x76, x77, x78, x79, x80, x81, x82, x83, x84, x85, x86, x87, x88, x89, x90, x91, x92, x93, x94, x95, x96, x97, x11, (by simp only [Act.put, List.setIfInBounds_toArray, List.set_cons_zero, List.set_cons_succ]), (by simp only [Act.put, List.setIfInBounds_toArray, List.set_cons_zero, List.set_cons_succ]), hb, cd0, cd1, (fun _ => rfl), (fun _ => rfl), cd4, cd5, cd6, cd7, cd8, cd9, cd10, cd11, cd12, cd13, cd14, cd15, cd16, cd17, cd18, cd19, cd20, cd21, cd22, cd23, cd24, cd25, cd26, cd27, cd28, cd29, cd30, cd31, cd32⟩
                        · rintro L a w ⟨b0, b1, b2, b3, b4, b5, b6, b7, b8, b9, b10, b11, b12, b13, b14, b15, b16, b17, b18, b19, b20, b21, b22, b23, b24, b25, b26, b27, b28, b29, b30, b31, b32, x66, x67, x68, x69, x70, x71, x72, x73, x74, x75, x76, x77, x78, x79, x80, x81, x82, x83, x84, x85, x86, x87, x88, x89, x90, x91, x92, x93, x94, x95, x96, x97, x11, rfl, rfl, hb, cd0, cd1, cd2, cd3, cd4, cd5, cd6, cd7, cd8, cd9, cd10, cd11, cd12, cd13, cd14, cd15, cd16, cd17, cd18, cd19, cd20, cd21, cd22, cd23, cd24, cd25, cd26, cd27, cd28, cd29, cd30, cd31, cd32⟩ hf hd
                          have hf' : b4 = false := hf
                          subst hf'
                          have d1 : b1 = true := hd ⟨1, .data⟩ (by simp) rfl
                          subst d1
                          have d3 : b3 = true := hd ⟨3, .data⟩ (by simp) rfl
                          subst d3
                          obtain rfl := cd1.out rfl
                          obtain rfl := cd3.out rfl
                          clear hf hd
                          try simp only [List.setIfInBounds_toArray, List.set_cons_zero, List.set_cons_succ]
                          intro K hK
                          rw [if_pos (by rfl)]
                          go_simp
                          exact hK.out _ _ ⟨b0, true, b2, true, true, b5, b6, b7, b8, b9, b10, b11, b12, b13, b14, b15, b16, b17, b18, b19, b20, b21, b22, b23, b24, b25, b26, b27, b28, b29, b30, b31, b32, x66, .int .i64 (lX : Nat), x68, .int .i64 (lY : Nat), (.bool true), x71, x72, x73, x74, x75, x76, x77, x78, x79, x80, x81, x82, x83, x84, x85, x86, x87, x88, x89, x90, x91, x92, x93, x94, x95, x96, x97, x11, (by simp only [Act.put, List.setIfInBounds_toArray, List.set_cons_zero, List.set_cons_succ]), (by simp only [Act.put, List.setIfInBounds_toArray, List.set_cons_zero, List.set_cons_succ]), hb, cd0, (fun _ => rfl), cd2, (fun _ => rfl), (fun _ => rfl), cd5, cd6, cd7, cd8, cd9, cd10, cd11, cd12, cd13, cd14, cd15, cd16, cd17, cd18, cd19, cd20, cd21, cd22, cd23, cd24, cd25, cd26, cd27, cd28, cd29, cd30, cd31, cd32⟩
                        · rintro L a w ⟨b0, b1, b2, b3, b4, b5, b6, b7, b8, b9, b10, b11, b12, b13, b14, b15, b16, b17, b18, b19, b20, b21, b22, b23, b24, b25, b26, b27, b28, b29, b30, b31, b32, x66, x67, x68, x69, x70, x71, x72, x73, x74, x75, x76, x77, x78, x79, x80, x81, x82, x83, x84, x85, x86, x87, x88, x89, x90, x91, x92, x93, x94, x95, x96, x97, x11, rfl, rfl, hb, cd0, cd1, cd2, cd3, cd4, cd5, cd6, cd7, cd8, cd9, cd10, cd11, cd12, cd13, cd14, cd15, cd16, cd17, cd18, cd19, cd20, cd21, cd22, cd23, cd24, cd25, cd26, cd27, cd28, cd29, cd30, cd31, cd32⟩ hf hd
                          have hf' : b5 = false := hf
                          subst hf'
                          have d4 : b4 = true := hd ⟨4, .data⟩ (by simp) rfl
                          subst d4
                          obtain rfl := cd4.out rfl
                          clear hf hd
                          try simp only [List.setIfInBounds_toArray, List.set_cons_zero, List.set_cons_succ]
                          intro K hK
                          rw [if_pos (by rfl)]
                          go_simp
                          exact hK.out _ _ ⟨b0, b1, b2, b3, true, true, b6, b7, b8, b9, b10, b11, b12, b13, b14, b15, b16, b17, b18, b19, b20, b21, b22, b23, b24, b25, b26, b27, b28, b29, b30, b31, b32, x66, x67, x68, x69, .bool true, (.bool true), x72, x73, x74, x75, x76, x77, x78, x79, x80, x81, x82, x83, x84, x85, x86, x87, x88, x89, x90, x91, x92, x93, x94, x95, x96, x97, x11, (by simp only [Act.put, List.setIfInBounds_toArray, List.set_cons_zero, List.set_cons_succ]), (by simp only [Act.put, List.setIfInBounds_toArray, List.set_cons_zero, List.set_cons_succ]), hb, cd0, cd1, cd2, cd3, (fun _ => rfl), (fun _ => rfl), cd6, cd7, cd8, cd9, cd10, cd11, cd12, cd13, cd14, cd15, cd16, cd17, cd18, cd19, cd20, cd21, cd22, cd23, cd24, cd25, cd26, cd27, cd28, cd29, cd30, cd31, cd32⟩
                        · rintro L a w ⟨b0, b1, b2, b3, b4, b5, b6, b7, b8, b9, b10, b11, b12, b13, b14, b15, b16, b17, b18, b19, b20, b21, b22, b23, b24, b25, b26, b27, b28, b29, b30, b31, b32, x66, x67, x68, x69, x70, x71, x72, x73, x74, x75, x76, x77, x78, x79, x80, x81, x82, x83, x84, x85, x86, x87, x88, x89, x90, x91, x92, x93, x94, x95, x96, x97, x11, rfl, rfl, hb, cd0, cd1, cd2, cd3, cd4, cd5, cd6, cd7, cd8, cd9, cd10, cd11, cd12, cd13, cd14, cd15, cd16, cd17, cd18, cd19, cd20, cd21, cd22, cd23, cd24, cd25, cd26, cd27, cd28, cd29, cd30, cd31, cd32⟩ hf hd
                          have hf' : b6 = false := hf
                          subst hf'
                          have d5 : b5 = true := hd ⟨5, .guard⟩ (by simp) rfl
                          subst d5
                          obtain rfl := cd5.out rfl
                          clear hf hd
                          try simp only [List.setIfInBounds_toArray, List.set_cons_zero, List.set_cons_succ]
                          intro K hK
                          rw [if_pos (by rfl)]
                          go_simp
                          exact hK.out _ _ ⟨b0, b1, b2, b3, b4, true, true, b7, b8, b9, b10, b11, b12, b13, b14, b15, b16, b17, b18, b19, b20, b21, b22, b23, b24, b25, b26, b27, b28, b29, b30, b31, b32, x66, x67, x68, x69, x70, .bool true, (.slice (some ⟨gy, 0, none⟩) lY lY), x73, x74, x75, x76, x77, x78, x79, x80, x81, x82, x83, x84, x85, x86, x87, x88, x89, x90, x91, x92, x93, x94, x95, x96, x97, x11, (by simp only [Act.put, List.setIfInBounds_toArray, List.set_cons_zero, List.set_cons_succ]), (by simp only [Act.put, List.setIfInBounds_toArray, List.set_cons_zero, List.set_cons_succ]), hb, cd0, cd1, cd2, cd3, cd4, (fun _ => rfl), (fun _ => rfl), cd7, cd8, cd9, cd10, cd11, cd12, cd13, cd14, cd15, cd16, cd17, cd18, cd19, cd20, cd21, cd22, cd23, cd24, cd25, cd26, cd27, cd28, cd29, cd30, cd31, cd32⟩
                        · rintro L a w ⟨b0, b1, b2, b3, b4, b5, b6, b7, b8, b9, b10, b11, b12, b13, b14, b15, b16, b17, b18, b19, b20, b21, b22, b23, b24, b25, b26, b27, b28, b29, b30, b31, b32, x66, x67, x68, x69, x70, x71, x72, x73, x74, x75, x76, x77, x78, x79, x80, x81, x82, x83, x84, x85, x86, x87, x88, x89, x90, x91, x92, x93, x94, x95, x96, x97, x11, rfl, rfl, hb, cd0, cd1, cd2, cd3, cd4, cd5, cd6, cd7, cd8, cd9, cd10, cd11, cd12, cd13, cd14, cd15, cd16, cd17, cd18, cd19, cd20, cd21, cd22, cd23, cd24, cd25, cd26, cd27, cd28, cd29, cd30, cd31, cd32⟩ hf hd
                          have hf' : b7 = false := hf
                          subst hf'
                          have d5 : b5 = true := hd ⟨5, .guard⟩ (by simp) rfl
                          subst d5
                          obtain rfl := cd5.out rfl
                          clear hf hd
                          try simp only [List.setIfInBounds_toArray, List.set_cons_zero, List.set_cons_succ]
                          intro K hK
                          rw [if_pos (by rfl)]
                          go_simp
                          exact hK.out _ _ ⟨b0, b1, b2, b3, b4, true, b6, true, b8, b9, b10, b11, b12, b13, b14, b15, b16, b17, b18, b19, b20, b21, b22, b23, b24, b25, b26, b27, b28, b29, b30, b31, b32, x66, x67, x68, x69, x70, .bool true, x72, (.slice (some ⟨gx, 0, none⟩) lX lX), x74, x75, x76, x77, x78, x79, x80, x81, x82, x83, x84, x85, x86, x87, x88, x89, x90, x91, x92, x93, x94, x95, x96, x97, x11, (by simp only [Act.put, List.setIfInBounds_toArray, List.set_cons_zero, List.set_cons_succ]), (by simp only [Act.put, List.setIfInBounds_toArray, List.set_cons_zero, List.set_cons_succ]), hb, cd0, cd1, cd2, cd3, cd4, (fun _ => rfl), cd6, (fun _ => rfl), cd8, cd9, cd10, cd11, cd12, cd13, cd14, cd15, cd16, cd17, cd18, cd19, cd20, cd21, cd22, cd23, cd24, cd25, cd26, cd27, cd28, cd29, cd30, cd31, cd32⟩
                        · rintro L a w ⟨b0, b1, b2, b3, b4, b5, b6, b7, b8, b9, b10, b11, b12, b13, b14, b15, b16, b17, b18, b19, b20, b21, b22, b23, b24, b25, b26, b27, b28, b29, b30, b31, b32, x66, x67, x68, x69, x70, x71, x72, x73, x74, x75, x76, x77, x78, x79, x80, x81, x82, x83, x84, x85, x86, x87, x88, x89, x90, x91, x92, x93, x94, x95, x96, x97, x11, rfl, rfl, hb, cd0, cd1, cd2, cd3, cd4, cd5, cd6, cd7, cd8, cd9, cd10, cd11, cd12, cd13, cd14, cd15, cd16, cd17, cd18, cd19, cd20, cd21, cd22, cd23, cd24, cd25, cd26, cd27, cd28, cd29, cd30, cd31, cd32⟩ hf hd
                          have hf' : b8 = false := hf
                          subst hf'
                          have d7 : b7 = true := hd ⟨7, .data⟩ (by simp) rfl
                          subst d7
                          have d5 : b5 = true := hd ⟨5, .guard⟩ (by simp) rfl
                          subst d5
                          obtain rfl := cd7.out rfl
                          obtain rfl := cd5.out rfl
                          clear hf hd
                          try simp only [List.setIfInBounds_toArray, List.set_cons_zero, List.set_cons_succ]
                          intro K hK
                          rw [if_pos (by rfl)]
                          go_simp
                          exact hK.out _ _ ⟨b0, b1, b2, b3, b4, true, b6, true, true, b9, b10, b11, b12, b13, b14, b15, b16, b17, b18, b19, b20, b21, b22, b23, b24, b25, b26, b27, b28, b29, b30, b31, b32, x66, x67, x68, x69, x70, .bool true, x72, .slice (some ⟨gx, 0, none⟩) lX lX, (.int .i64 (lX : Nat)), x75, x76, x77, x78, x79, x80, x81, x82, x83, x84, x85, x86, x87, x88, x89, x90, x91, x92, x93, x94, x95, x96, x97, x11, (by simp only [Act.put, List.setIfInBounds_toArray, List.set_cons_zero, List.set_cons_succ]), (by simp only [Act.put, List.setIfInBounds_toArray, List.set_cons_zero, List.set_cons_succ]), hb, cd0, cd1, cd2, cd3, cd4, (fun _ => rfl), cd6, (fun _ => rfl), (fun _ => rfl), cd9, cd10, cd11, cd12, cd13, cd14, cd15, cd16, cd17, cd18, cd19, cd20, cd21, cd22, cd23, cd24, cd25, cd26, cd27, cd28, cd29, cd30, cd31, cd32⟩
                        · rintro L a w ⟨b0, b1, b2, b3, b4, b5, b6, b7, b8, b9, b10, b11, b12, b13, b14, b15, b16, b17, b18, b19, b20, b21, b22, b23, b24, b25, b26, b27, b28, b29, b30, b31, b32, x66, x67, x68, x69, x70, x71, x72, x73, x74, x75, x76, x77, x78, x79, x80, x81, x82, x83, x84, x85, x86, x87, x88, x89, x90, x91, x92, x93, x94, x95, x96, x97, x11, rfl, rfl, hb, cd0, cd1, cd2, cd3, cd4, cd5, cd6, cd7, cd8, cd9, cd10, cd11, cd12, cd13, cd14, cd15, cd16, cd17, cd18, cd19, cd20, cd21, cd22, cd23, cd24, cd25, cd26, cd27, cd28, cd29, cd30, cd31, cd32⟩ hf hd
                          have hf' : b9 = false := hf
                          subst hf'
                          have d6 : b6 = true := hd ⟨6, .data⟩ (by simp) rfl
                          subst d6
                          have d8 : b8 = true := hd ⟨8, .data⟩ (by simp) rfl
                          subst d8
                          have d5 : b5 = true := hd ⟨5, .guard⟩ (by simp) rfl
                          subst d5
                          obtain rfl := cd6.out rfl
                          obtain rfl := cd8.out rfl
                          obtain rfl := cd5.out rfl
                          clear hf hd
                          try simp only [List.setIfInBounds_toArray, List.set_cons_zero, List.set_cons_succ]
                          intro K hK
                          rw [if_pos (by rfl)]
                          go_simp
                          exact hK.out _ _ ⟨b0, b1, b2, b3, b4, true, true, b7, true, true, b10, b11, b12, b13, b14, b15, b16, b17, b18, b19, b20, b21, b22, b23, b24, b25, b26, b27, b28, b29, b30, b31, b32, x66, x67, x68, x69, x70, .bool true, .slice (some ⟨gy, 0, none⟩) lY lY, x73, .int .i64 (lX : Nat), (.slice (some ⟨gy, 0, none⟩) lX lY), x76, x77, x78, x79, x80, x81, x82, x83, x84, x85, x86, x87, x88, x89, x90, x91, x92, x93, x94, x95, x96, x97, x11, (by simp only [Act.put, List.setIfInBounds_toArray, List.set_cons_zero, List.set_cons_succ]), (by simp only [Act.put, List.setIfInBounds_toArray, List.set_cons_zero, List.set_cons_succ]), hb, cd0, cd1, cd2, cd3, cd4, (fun _ => rfl), (fun _ => rfl), cd7, (fun _ => rfl), (fun _ => rfl), cd10, cd11, cd12, cd13, cd14, cd15, cd16, cd17, cd18, cd19, cd20, cd21, cd22, cd23, cd24, cd25, cd26, cd27, cd28, cd29, cd30, cd31, cd32⟩
                        · rintro L a w ⟨b0, b1, b2, b3, b4, b5, b6, b7, b8, b9, b10, b11, b12, b13, b14, b15, b16, b17, b18, b19, b20, b21, b22, b23, b24, b25, b26, b27, b28, b29, b30, b31, b32, x66, x67, x68, x69, x70, x71, x72, x73, x74, x75, x76, x77, x78, x79, x80, x81, x82, x83, x84, x85, x86, x87, x88, x89, x90, x91, x92, x93, x94, x95, x96, x97, x11, rfl, rfl, hb, cd0, cd1, cd2, cd3, cd4, cd5, cd6, cd7, cd8, cd9, cd10, cd11, cd12, cd13, cd14, cd15, cd16, cd17, cd18, cd19, cd20, cd21, cd22, cd23, cd24, cd25, cd26, cd27, cd28, cd29, cd30, cd31, cd32⟩ hf hd
                          have hf' : b10 = false := hf
                          subst hf'
                          have d9 : b9 = true := hd ⟨9, .data⟩ (by simp) rfl
                          subst d9
                          have d5 : b5 = true := hd ⟨5, .guard⟩ (by simp) rfl
                          subst d5
                          obtain rfl := cd9.out rfl
                          obtain rfl := cd5.out rfl
                          clear hf hd
                          try simp only [List.setIfInBounds_toArray, List.set_cons_zero, List.set_cons_succ]
                          have cv := (jT.past hb).conv byteTy Try.underlying9
                          intro K hK
                          rw [if_pos (by rfl)]
                          go_simp
                          exact hK.out _ _ ⟨b0, b1, b2, b3, b4, true, b6, b7, b8, true, true, b11, b12, b13, b14, b15, b16, b17, b18, b19, b20, b21, b22, b23, b24, b25, b26, b27, b28, b29, b30, b31, b32, x66, x67, x68, x69, x70, .bool true, x72, x73, x74, .slice (some ⟨gy, 0, none⟩) lX lY, (.string ⟨(KY.take lX).toArray⟩), x77, x78, x79, x80, x81, x82, x83, x84, x85, x86, x87, x88, x89, x90, x91, x92, x93, x94, x95, x96, x97, x11, (by simp only [Act.put, List.setIfInBounds_toArray, List.set_cons_zero, List.set_cons_succ]), (by simp only [Act.put, List.setIfInBounds_toArray, List.set_cons_zero, List.set_cons_succ]), hb, cd0, cd1, cd2, cd3, cd4, (fun _ => rfl), cd6, cd7, cd8, (fun _ => rfl), (fun _ => rfl), cd11, cd12, cd13, cd14, cd15, cd16, cd17, cd18, cd19, cd20, cd21, cd22, cd23, cd24, cd25, cd26, cd27, cd28, cd29, cd30, cd31, cd32⟩
                        · rintro L a w ⟨b0, b1, b2, b3, b4, b5, b6, b7, b8, b9, b10, b11, b12, b13, b14, b15, b16, b17, b18, b19, b20, b21, b22, b23, b24, b25, b26, b27, b28, b29, b30, b31, b32, x66, x67, x68, x69, x70, x71, x72, x73, x74, x75, x76, x77, x78, x79, x80, x81, x82, x83, x84, x85, x86, x87, x88, x89, x90, x91, x92, x93, x94, x95, x96, x97, x11, rfl, rfl, hb, cd0, cd1, cd2, cd3, cd4, cd5, cd6, cd7, cd8, cd9, cd10, cd11, cd12, cd13, cd14, cd15, cd16, cd17, cd18, cd19, cd20, cd21, cd22, cd23, cd24, cd25, cd26, cd27, cd28, cd29, cd30, cd31, cd32⟩ hf hd
                          have hf' : b11 = false := hf
                          subst hf'
                          have d5 : b5 = true := hd ⟨5, .guard⟩ (by simp) rfl
                          subst d5
                          obtain rfl := cd5.out rfl
                          clear hf hd
                          try simp only [List.setIfInBounds_toArray, List.set_cons_zero, List.set_cons_succ]
                          intro K hK
                          rw [if_pos (by rfl)]
                          go_simp
                          exact hK.out _ _ ⟨b0, b1, b2, b3, b4, true, b6, b7, b8, b9, b10, true, b12, b13, b14, b15, b16, b17, b18, b19, b20, b21, b22, b23, b24, b25, b26, b27, b28, b29, b30, b31, b32, x66, x67, x68, x69, x70, .bool true, x72, x73, x74, x75, x76, (.slice (some ⟨gx, 0, none⟩) lX lX), x78, x79, x80, x81, x82, x83, x84, x85, x86, x87, x88, x89, x90, x91, x92, x93, x94, x95, x96, x97, x11, (by simp only [Act.put, List.setIfInBounds_toArray, List.set_cons_zero, List.set_cons_succ]), (by simp only [Act.put, List.setIfInBounds_toArray, List.set_cons_zero, List.set_cons_succ]), hb, cd0, cd1, cd2, cd3, cd4, (fun _ => rfl), cd6, cd7, cd8, cd9, cd10, (fun _ => rfl), cd12, cd13, cd14, cd15, cd16, cd17, cd18, cd19, cd20, cd21, cd22, cd23, cd24, cd25, cd26, cd27, cd28, cd29, cd30, cd31, cd32⟩
                        · rintro L a w ⟨b0, b1, b2, b3, b4, b5, b6, b7, b8, b9, b10, b11, b12, b13, b14, b15, b16, b17, b18, b19, b20, b21, b22, b23, b24, b25, b26, b27, b28, b29, b30, b31, b32, x66, x67, x68, x69, x70, x71, x72, x73, x74, x75, x76, x77, x78, x79, x80, x81, x82, x83, x84, x85, x86, x87, x88, x89, x90, x91, x92, x93, x94, x95, x96, x97, x11, rfl, rfl, hb, cd0, cd1, cd2, cd3, cd4, cd5, cd6, cd7, cd8, cd9, cd10, cd11, cd12, cd13, cd14, cd15, cd16, cd17, cd18, cd19, cd20, cd21, cd22, cd23, cd24, cd25, cd26, cd27, cd28, cd29, cd30, cd31, cd32⟩ hf hd
                          have hf' : b12 = false := hf
                          subst hf'
                          have d11 : b11 = true := hd ⟨11, .data⟩ (by simp) rfl
                          subst d11
                          have d5 : b5 = true := hd ⟨5, .guard⟩ (by simp) rfl
                          subst d5
                          obtain rfl := cd11.out rfl
                          obtain rfl := cd5.out rfl
                          clear hf hd
                          try simp only [List.setIfInBounds_toArray, List.set_cons_zero, List.set_cons_succ]
                          have cv := (jX.past hb).conv byteTy Try.underlying9
                          intro K hK
                          rw [if_pos (by rfl)]
                          go_simp
                          exact hK.out _ _ ⟨b0, b1, b2, b3, b4, true, b6, b7, b8, b9, b10, true, true, b13, b14, b15, b16, b17, b18, b19, b20, b21, b22, b23, b24, b25, b26, b27, b28, b29, b30, b31, b32, x66, x67, x68, x69, x70, .bool true, x72, x73, x74, x75, x76, .slice (some ⟨gx, 0, none⟩) lX lX, (.string ⟨KX.toArray⟩), x79, x80, x81, x82, x83, x84, x85, x86, x87, x88, x89, x90, x91, x92, x93, x94, x95, x96, x97, x11, (by simp only [Act.put, List.setIfInBounds_toArray, List.set_cons_zero, List.set_cons_succ]), (by simp only [Act.put, List.setIfInBounds_toArray, List.set_cons_zero, List.set_cons_succ]), hb, cd0, cd1, cd2, cd3, cd4, (fun _ => rfl), cd6, cd7, cd8, cd9, cd10, (fun _ => rfl), (fun _ => rfl), cd13, cd14, cd15, cd16, cd17, cd18, cd19, cd20, cd21, cd22, cd23, cd24, cd25, cd26, cd27, cd28, cd29, cd30, cd31, cd32⟩
                        · rintro L a w ⟨b0, b1, b2, b3, b4, b5, b6, b7, b8, b9, b10, b11, b12, b13, b14, b15, b16, b17, b18, b19, b20, b21, b22, b23, b24, b25, b26, b27, b28, b29, b30, b31, b32, x66, x67, x68, x69, x70, x71, x72, x73, x74, x75, x76, x77, x78, x79, x80, x81, x82, x83, x84, x85, x86, x87, x88, x89, x90, x91, x92, x93, x94, x95, x96, x97, x11, rfl, rfl, hb, cd0, cd1, cd2, cd3, cd4, cd5, cd6, cd7, cd8, cd9, cd10, cd11, cd12, cd13, cd14, cd15, cd16, cd17, cd18, cd19, cd20, cd21, cd22, cd23, cd24, cd25, cd26, cd27, cd28, cd29, cd30, cd31, cd32⟩ hf hd
                          have hf' : b13 = false := hf
                          subst hf'
                          have d10 : b10 = true := hd ⟨10, .data⟩ (by simp) rfl
                          subst d10
                          have d12 : b12 = true := hd ⟨12, .data⟩ (by simp) rfl
                          subst d12
                          have d5 : b5 = true := hd ⟨5, .guard⟩ (by simp) rfl
                          subst d5
                          obtain rfl := cd10.out rfl
                          obtain rfl := cd12.out rfl
                          obtain rfl := cd5.out rfl
                          clear hf hd
                          try simp only [List.setIfInBounds_toArray, List.set_cons_zero, List.set_cons_succ]
                          intro K hK
                          rw [if_pos (by rfl)]
                          go_simp
                          exact hK.out _ _ ⟨b0, b1, b2, b3, b4, true, b6, b7, b8, b9, true, b11, true, true, b14, b15, b16, b17, b18, b19, b20, b21, b22, b23, b24, b25, b26, b27, b28, b29, b30, b31, b32, x66, x67, x68, x69, x70, .bool true, x72, x73, x74, x75, .string ⟨(KY.take lX).toArray⟩, x77, .string ⟨KX.toArray⟩, (.bool false), x80, x81, x82, x83, x84, x85, x86, x87, x88, x89, x90, x91, x92, x93, x94, x95, x96, x97, x11, (by simp only [Act.put, List.setIfInBounds_toArray, List.set_cons_zero, List.set_cons_succ]), (by simp only [Act.put, List.setIfInBounds_toArray, List.set_cons_zero, List.set_cons_succ]), hb, cd0, cd1, cd2, cd3, cd4, (fun _ => rfl), cd6, cd7, cd8, cd9, (fun _ => rfl), cd11, (fun _ => rfl), (fun _ => rfl), cd14, cd15, cd16, cd17, cd18, cd19, cd20, cd21, cd22, cd23, cd24, cd25, cd26, cd27, cd28, cd29, cd30, cd31, cd32⟩
                        · rintro L a w ⟨b0, b1, b2, b3, b4, b5, b6, b7, b8, b9, b10, b11, b12, b13, b14, b15, b16, b17, b18, b19, b20, b21, b22, b23, b24, b25, b26, b27, b28, b29, b30, b31, b32, x66, x67, x68, x69, x70, x71, x72, x73, x74, x75, x76, x77, x78, x79, x80, x81, x82, x83, x84, x85, x86, x87, x88, x89, x90, x91, x92, x93, x94, x95, x96, x97, x11, rfl, rfl, hb, cd0, cd1, cd2, cd3, cd4, cd5, cd6, cd7, cd8, cd9, cd10, cd11, cd12, cd13, cd14, cd15, cd16, cd17, cd18, cd19, cd20, cd21, cd22, cd23, cd24, cd25, cd26, cd27, cd28, cd29, cd30, cd31, cd32⟩ hf hd
                          have hf' : b14 = false := hf
                          subst hf'
                          have d5 : b5 = true := hd ⟨5, .data⟩ (by simp) rfl
                          subst d5
                          have d13 : b13 = true := hd ⟨13, .data⟩ (by simp) rfl
                          subst d13
                          obtain rfl := cd5.out rfl
                          obtain rfl := cd13.out rfl
                          clear hf hd
                          try simp only [List.setIfInBounds_toArray, List.set_cons_zero, List.set_cons_succ]
                          intro K hK
                          rw [if_pos (by rfl)]
                          go_simp
                          exact hK.out _ _ ⟨b0, b1, b2, b3, b4, true, b6, b7, b8, b9, b10, b11, b12, true, true, b15, b16, b17, b18, b19, b20, b21, b22, b23, b24, b25, b26, b27, b28, b29, b30, b31, b32, x66, x67, x68, x69, x70, .bool true, x72, x73, x74, x75, x76, x77, x78, .bool false, (.bool false), x81, x82, x83, x84, x85, x86, x87, x88, x89, x90, x91, x92, x93, x94, x95, x96, x97, x11, (by simp only [Act.put, List.setIfInBounds_toArray, List.set_cons_zero, List.set_cons_succ]), (by simp only [Act.put, List.setIfInBounds_toArray, List.set_cons_zero, List.set_cons_succ]), hb, cd0, cd1, cd2, cd3, cd4, (fun _ => rfl), cd6, cd7, cd8, cd9, cd10, cd11, cd12, (fun _ => rfl), (fun _ => rfl), cd15, cd16, cd17, cd18, cd19, cd20, cd21, cd22, cd23, cd24, cd25, cd26, cd27, cd28, cd29, cd30, cd31, cd32⟩
                        · rintro L a w ⟨b0, b1, b2, b3, b4, b5, b6, b7, b8, b9, b10, b11, b12, b13, b14, b15, b16, b17, b18, b19, b20, b21, b22, b23, b24, b25, b26, b27, b28, b29, b30, b31, b32, x66, x67, x68, x69, x70, x71, x72, x73, x74, x75, x76, x77, x78, x79, x80, x81, x82, x83, x84, x85, x86, x87, x88, x89, x90, x91, x92, x93, x94, x95, x96, x97, x11, rfl, rfl, hb, cd0, cd1, cd2, cd3, cd4, cd5, cd6, cd7, cd8, cd9, cd10, cd11, cd12, cd13, cd14, cd15, cd16, cd17, cd18, cd19, cd20, cd21, cd22, cd23, cd24, cd25, cd26, cd27, cd28, cd29, cd30, cd31, cd32⟩ hf hd
                          have hf' : b15 = false := hf
                          subst hf'
                          have d14 : b14 = true := hd ⟨14, .data⟩ (by simp) rfl
                          subst d14
                          have d5 : b5 = true := hd ⟨5, .chain⟩ (by simp) rfl
                          subst d5
                          obtain rfl := cd14.out rfl
                          obtain rfl := cd5.out rfl
                          clear hf hd
                          try simp only [List.setIfInBounds_toArray, List.set_cons_zero, List.set_cons_succ]
                          intro K hK
                          rw [if_pos (by rfl)]
                          go_simp
                          exact hK.out _ _ ⟨b0, b1, b2, b3, b4, true, b6, b7, b8, b9, b10, b11, b12, b13, true, true, b16, b17, b18, b19, b20, b21, b22, b23, b24, b25, b26, b27, b28, b29, b30, b31, b32, x66, x67, x68, x69, x70, .bool true, x72, x73, x74, x75, x76, x77, x78, x79, .bool false, (.bool false), x82, x83, x84, x85, x86, x87, x88, x89, x90, x91, x92, x93, x94, x95, x96, x97, x11, (by simp only [Act.put, List.setIfInBounds_toArray, List.set_cons_zero, List.set_cons_succ]), (by simp only [Act.put, List.setIfInBounds_toArray, List.set_cons_zero, List.set_cons_succ]), hb, cd0, cd1, cd2, cd3, cd4, (fun _ => rfl), cd6, cd7, cd8, cd9, cd10, cd11, cd12, cd13, (fun _ => rfl), (fun _ => rfl), cd16, cd17, cd18, cd19, cd20, cd21, cd22, cd23, cd24, cd25, cd26, cd27, cd28, cd29, cd30, cd31, cd32⟩
                        · rintro L a w ⟨b0, b1, b2, b3, b4, b5, b6, b7, b8, b9, b10, b11, b12, b13, b14, b15, b16, b17, b18, b19, b20, b21, b22, b23, b24, b25, b26, b27, b28, b29, b30, b31, b32, x66, x67, x68, x69, x70, x71, x72, x73, x74, x75, x76, x77, x78, x79, x80, x81, x82, x83, x84, x85, x86, x87, x88, x89, x90, x91, x92, x93, x94, x95, x96, x97, x11, rfl, rfl, hb, cd0, cd1, cd2, cd3, cd4, cd5, cd6, cd7, cd8, cd9, cd10, cd11, cd12, cd13, cd14, cd15, cd16, cd17, cd18, cd19, cd20, cd21, cd22, cd23, cd24, cd25, cd26, cd27, cd28, cd29, cd30, cd31, cd32⟩ hf hd
                          have hf' : b16 = false := hf
                          subst hf'
                          have d15 : b15 = true := hd ⟨15, .guard⟩ (by simp) rfl
                          subst d15
                          obtain rfl := cd15.out rfl
                          clear hf hd
                          try simp only [List.setIfInBounds_toArray, List.set_cons_zero, List.set_cons_succ]
                          intro K hK
                          rw [if_pos (by rfl)]
                          go_simp
                          exact hK.out _ _ ⟨b0, b1, b2, b3, b4, b5, b6, b7, b8, b9, b10, b11, b12, b13, b14, true, true, b17, b18, b19, b20, b21, b22, b23, b24, b25, b26, b27, b28, b29, b30, b31, b32, x66, x67, x68, x69, x70, x71, x72, x73, x74, x75, x76, x77, x78, x79, x80, .bool false, (.slice (some ⟨gy, 0, none⟩) lY lY), x83, x84, x85, x86, x87, x88, x89, x90, x91, x92, x93, x94, x95, x96, x97, x11, (by simp only [Act.put, List.setIfInBounds_toArray, List.set_cons_zero, List.set_cons_succ]), (by simp only [Act.put, List.setIfInBounds_toArray, List.set_cons_zero, List.set_cons_succ]), hb, cd0, cd1, cd2, cd3, cd4, cd5, cd6, cd7, cd8, cd9, cd10, cd11, cd12, cd13, cd14, (fun _ => rfl), (fun _ => rfl), cd17, cd18, cd19, cd20, cd21, cd22, cd23, cd24, cd25, cd26, cd27, cd28, cd29, cd30, cd31, cd32⟩
                        · rintro L a w ⟨b0, b1, b2, b3, b4, b5, b6, b7, b8, b9, b10, b11, b12, b13, b14, b15, b16, b17, b18, b19, b20, b21, b22, b23, b24, b25, b26, b27, b28, b29, b30, b31, b32, x66, x67, x68, x69, x70, x71, x72, x73, x74, x75, x76, x77, x78, x79, x80, x81, x82, x83, x84, x85, x86, x87, x88, x89, x90, x91, x92, x93, x94, x95, x96, x97, x11, rfl, rfl, hb, cd0, cd1, cd2, cd3, cd4, cd5, cd6, cd7, cd8, cd9, cd10, cd11, cd12, cd13, cd14, cd15, cd16, cd17, cd18, cd19, cd20, cd21, cd22, cd23, cd24, cd25, cd26, cd27, cd28, cd29, cd30, cd31, cd32⟩ hf hd
                          have hf' : b17 = false := hf
                          subst hf'
                          have d16 : b16 = true := hd ⟨16, .data⟩ (by simp) rfl
                          subst d16
                          have d15 : b15 = true := hd ⟨15, .guard⟩ (by simp) rfl
                          subst d15
                          obtain rfl := cd16.out rfl
                          obtain rfl := cd15.out rfl
                          clear hf hd
                          try simp only [List.setIfInBounds_toArray, List.set_cons_zero, List.set_cons_succ]
                          intro K hK
                          rw [if_pos (by rfl)]
                          go_simp
                          exact hK.out _ _ ⟨b0, b1, b2, b3, b4, b5, b6, b7, b8, b9, b10, b11, b12, b13, b14, true, true, true, b18, b19, b20, b21, b22, b23, b24, b25, b26, b27, b28, b29, b30, b31, b32, x66, x67, x68, x69, x70, x71, x72, x73, x74, x75, x76, x77, x78, x79, x80, .bool false, .slice (some ⟨gy, 0, none⟩) lY lY, (.int .i64 (lY : Nat)), x84, x85, x86, x87, x88, x89, x90, x91, x92, x93, x94, x95, x96, x97, x11, (by simp only [Act.put, List.setIfInBounds_toArray, List.set_cons_zero, List.set_cons_succ]), (by simp only [Act.put, List.setIfInBounds_toArray, List.set_cons_zero, List.set_cons_succ]), hb, cd0, cd1, cd2, cd3, cd4, cd5, cd6, cd7, cd8, cd9, cd10, cd11, cd12, cd13, cd14, (fun _ => rfl), (fun _ => rfl), (fun _ => rfl), cd18, cd19, cd20, cd21, cd22, cd23, cd24, cd25, cd26, cd27, cd28, cd29, cd30, cd31, cd32⟩
                        · rintro L a w ⟨b0, b1, b2, b3, b4, b5, b6, b7, b8, b9, b10, b11, b12, b13, b14, b15, b16, b17, b18, b19, b20, b21, b22, b23, b24, b25, b26, b27, b28, b29, b30, b31, b32, x66, x67, x68, x69, x70, x71, x72, x73, x74, x75, x76, x77, x78, x79, x80, x81, x82, x83, x84, x85, x86, x87, x88, x89, x90, x91, x92, x93, x94, x95, x96, x97, x11, rfl, rfl, hb, cd0, cd1, cd2, cd3, cd4, cd5, cd6, cd7, cd8, cd9, cd10, cd11, cd12, cd13, cd14, cd15, cd16, cd17, cd18, cd19, cd20, cd21, cd22, cd23, cd24, cd25, cd26, cd27, cd28, cd29, cd30, cd31, cd32⟩ hf hd
                          have hf' : b18 = false := hf
                          subst hf'
                          have d15 : b15 = true := hd ⟨15, .guard⟩ (by simp) rfl
                          subst d15
                          obtain rfl := cd15.out rfl
                          clear hf hd
                          try simp only [List.setIfInBounds_toArray, List.set_cons_zero, List.set_cons_succ]
                          intro K hK
                          rw [if_pos (by rfl)]
                          go_simp
                          exact hK.out _ _ ⟨b0, b1, b2, b3, b4, b5, b6, b7, b8, b9, b10, b11, b12, b13, b14, true, b16, b17, true, b19, b20, b21, b22, b23, b24, b25, b26, b27, b28, b29, b30, b31, b32, x66, x67, x68, x69, x70, x71, x72, x73, x74, x75, x76, x77, x78, x79, x80, .bool false, x82, x83, (.slice (some ⟨gx, 0, none⟩) lX lX), x85, x86, x87, x88, x89, x90, x91, x92, x93, x94, x95, x96, x97, x11, (by simp only [Act.put, List.setIfInBounds_toArray, List.set_cons_zero, List.set_cons_succ]), (by simp only [Act.put, List.setIfInBounds_toArray, List.set_cons_zero, List.set_cons_succ]), hb, cd0, cd1, cd2, cd3, cd4, cd5, cd6, cd7, cd8, cd9, cd10, cd11, cd12, cd13, cd14, (fun _ => rfl), cd16, cd17, (fun _ => rfl), cd19, cd20, cd21, cd22, cd23, cd24, cd25, cd26, cd27, cd28, cd29, cd30, cd31, cd32⟩
                        · rintro L a w ⟨b0, b1, b2, b3, b4, b5, b6, b7, b8, b9, b10, b11, b12, b13, b14, b15, b16, b17, b18, b19, b20, b21, b22, b23, b24, b25, b26, b27, b28, b29, b30, b31, b32, x66, x67, x68, x69, x70, x71, x72, x73, x74, x75, x76, x77, x78, x79, x80, x81, x82, x83, x84, x85, x86, x87, x88, x89, x90, x91, x92, x93, x94, x95, x96, x97, x11, rfl, rfl, hb, cd0, cd1, cd2, cd3, cd4, cd5, cd6, cd7, cd8, cd9, cd10, cd11, cd12, cd13, cd14, cd15, cd16, cd17, cd18, cd19, cd20, cd21, cd22, cd23, cd24, cd25, cd26, cd27, cd28, cd29, cd30, cd31, cd32⟩ hf hd
                          have hf' : b19 = false := hf
                          subst hf'
                          have d18 : b18 = true := hd ⟨18, .data⟩ (by simp) rfl
                          subst d18
                          have d15 : b15 = true := hd ⟨15, .guard⟩ (by simp) rfl
                          subst d15
                          obtain rfl := cd18.out rfl
                          obtain rfl := cd15.out rfl
                          clear hf hd
                          try simp only [List.setIfInBounds_toArray, List.set_cons_zero, List.set_cons_succ]
                          intro K hK
                          rw [if_pos (by rfl)]
                          go_simp
                          exact hK.out _ _ ⟨b0, b1, b2, b3, b4, b5, b6, b7, b8, b9, b10, b11, b12, b13, b14, true, b16, b17, true, true, b20, b21, b22, b23, b24, b25, b26, b27, b28, b29, b30, b31, b32, x66, x67, x68, x69, x70, x71, x72, x73, x74, x75, x76, x77, x78, x79, x80, .bool false, x82, x83, .slice (some ⟨gx, 0, none⟩) lX lX, (.int .i64 (lX : Nat)), x86, x87, x88, x89, x90, x91, x92, x93, x94, x95, x96, x97, x11, (by simp only [Act.put, List.setIfInBounds_toArray, List.set_cons_zero, List.set_cons_succ]), (by simp only [Act.put, List.setIfInBounds_toArray, List.set_cons_zero, List.set_cons_succ]), hb, cd0, cd1, cd2, cd3, cd4, cd5, cd6, cd7, cd8, cd9, cd10, cd11, cd12, cd13, cd14, (fun _ => rfl), cd16, cd17, (fun _ => rfl), (fun _ => rfl), cd20, cd21, cd22, cd23, cd24, cd25, cd26, cd27, cd28, cd29, cd30, cd31, cd32⟩
                        · rintro L a w ⟨b0, b1, b2, b3, b4, b5, b6, b7, b8, b9, b10, b11, b12, b13, b14, b15, b16, b17, b18, b19, b20, b21, b22, b23, b24, b25, b26, b27, b28, b29, b30, b31, b32, x66, x67, x68, x69, x70, x71, x72, x73, x74, x75, x76, x77, x78, x79, x80, x81, x82, x83, x84, x85, x86, x87, x88, x89, x90, x91, x92, x93, x94, x95, x96, x97, x11, rfl, rfl, hb, cd0, cd1, cd2, cd3, cd4, cd5, cd6, cd7, cd8, cd9, cd10, cd11, cd12, cd13, cd14, cd15, cd16, cd17, cd18, cd19, cd20, cd21, cd22, cd23, cd24, cd25, cd26, cd27, cd28, cd29, cd30, cd31, cd32⟩ hf hd
                          have hf' : b20 = false := hf
                          subst hf'
                          have d17 : b17 = true := hd ⟨17, .data⟩ (by simp) rfl
                          subst d17
                          have d19 : b19 = true := hd ⟨19, .data⟩ (by simp) rfl
                          subst d19
                          have d15 : b15 = true := hd ⟨15, .guard⟩ (by simp) rfl
                          subst d15
                          obtain rfl := cd17.out rfl
                          obtain rfl := cd19.out rfl
                          obtain rfl := cd15.out rfl
                          clear hf hd
                          try simp only [List.setIfInBounds_toArray, List.set_cons_zero, List.set_cons_succ]
                          intro K hK
                          rw [if_pos (by rfl)]
                          go_simp
                          exact hK.out _ _ ⟨b0, b1, b2, b3, b4, b5, b6, b7, b8, b9, b10, b11, b12, b13, b14, true, b16, true, b18, true, true, b21, b22, b23, b24, b25, b26, b27, b28, b29, b30, b31, b32, x66, x67, x68, x69, x70, x71, x72, x73, x74, x75, x76, x77, x78, x79, x80, .bool false, x82, .int .i64 (lY : Nat), x84, .int .i64 (lX : Nat), (.bool false), x87, x88, x89, x90, x91, x92, x93, x94, x95, x96, x97, x11, (by simp only [Act.put, List.setIfInBounds_toArray, List.set_cons_zero, List.set_cons_succ]), (by simp only [Act.put, List.setIfInBounds_toArray, List.set_cons_zero, List.set_cons_succ]), hb, cd0, cd1, cd2, cd3, cd4, cd5, cd6, cd7, cd8, cd9, cd10, cd11, cd12, cd13, cd14, (fun _ => rfl), cd16, (fun _ => rfl), cd18, (fun _ => rfl), (fun _ => rfl), cd21, cd22, cd23, cd24, cd25, cd26, cd27, cd28, cd29, cd30, cd31, cd32⟩
                        · rintro L a w ⟨b0, b1, b2, b3, b4, b5, b6, b7, b8, b9, b10, b11, b12, b13, b14, b15, b16, b17, b18, b19, b20, b21, b22, b23, b24, b25, b26, b27, b28, b29, b30, b31, b32, x66, x67, x68, x69, x70, x71, x72, x73, x74, x75, x76, x77, x78, x79, x80, x81, x82, x83, x84, x85, x86, x87, x88, x89, x90, x91, x92, x93, x94, x95, x96, x97, x11, rfl, rfl, hb, cd0, cd1, cd2, cd3, cd4, cd5, cd6, cd7, cd8, cd9, cd10, cd11, cd12, cd13, cd14, cd15, cd16, cd17, cd18, cd19, cd20, cd21, cd22, cd23, cd24, cd25, cd26, cd27, cd28, cd29, cd30, cd31, cd32⟩ hf hd
                          have hf' : b21 = false := hf
                          subst hf'
                          have d20 : b20 = true := hd ⟨20, .data⟩ (by simp) rfl
                          subst d20
                          have d15 : b15 = true := hd ⟨15, .chain⟩ (by simp) rfl
                          subst d15
                          obtain rfl := cd20.out rfl
                          obtain rfl := cd15.out rfl
                          clear hf hd
                          try simp only [List.setIfInBounds_toArray, List.set_cons_zero, List.set_cons_succ]
                          intro K hK
                          rw [if_pos (by rfl)]
                          go_simp
                          exact hK.out _ _ ⟨b0, b1, b2, b3, b4, b5, b6, b7, b8, b9, b10, b11, b12, b13, b14, true, b16, b17, b18, b19, true, true, b22, b23, b24, b25, b26, b27, b28, b29, b30, b31, b32, x66, x67, x68, x69, x70, x71, x72, x73, x74, x75, x76, x77, x78, x79, x80, .bool false, x82, x83, x84, x85, .bool false, (.bool false), x88, x89, x90, x91, x92, x93, x94, x95, x96, x97, x11, (by simp only [Act.put, List.setIfInBounds_toArray, List.set_cons_zero, List.set_cons_succ]), (by simp only [Act.put, List.setIfInBounds_toArray, List.set_cons_zero, List.set_cons_succ]), hb, cd0, cd1, cd2, cd3, cd4, cd5, cd6, cd7, cd8, cd9, cd10, cd11, cd12, cd13, cd14, (fun _ => rfl), cd16, cd17, cd18, cd19, (fun _ => rfl), (fun _ => rfl), cd22, cd23, cd24, cd25, cd26, cd27, cd28, cd29, cd30, cd31, cd32⟩
                        · rintro L a w ⟨b0, b1, b2, b3, b4, b5, b6, b7, b8, b9, b10, b11, b12, b13, b14, b15, b16, b17, b18, b19, b20, b21, b22, b23, b24, b25, b26, b27, b28, b29, b30, b31, b32, x66, x67, x68, x69, x70, x71, x72, x73, x74, x75, x76, x77, x78, x79, x80, x81, x82, x83, x84, x85, x86, x87, x88, x89, x90, x91, x92, x93, x94, x95, x96, x97, x11, rfl, rfl, hb, cd0, cd1, cd2, cd3, cd4, cd5, cd6, cd7, cd8, cd9, cd10, cd11, cd12, cd13, cd14, cd15, cd16, cd17, cd18, cd19, cd20, cd21, cd22, cd23, cd24, cd25, cd26, cd27, cd28, cd29, cd30, cd31, cd32⟩ hf hd
                          have hf' : b22 = false := hf
                          subst hf'
                          have d21 : b21 = true := hd ⟨21, .guard⟩ (by simp) rfl
                          subst d21
                          obtain rfl := cd21.out rfl
                          clear hf hd
                          try simp only [List.setIfInBounds_toArray, List.set_cons_zero, List.set_cons_succ]
                          intro K hK
                          rw [if_neg (Bool.eq_false_iff.1 (by rfl))]
                          exact hK.out _ _ ⟨b0, b1, b2, b3, b4, b5, b6, b7, b8, b9, b10, b11, b12, b13, b14, b15, b16, b17, b18, b19, b20, true, true, b23, b24, b25, b26, b27, b28, b29, b30, b31, b32, x66, x67, x68, x69, x70, x71, x72, x73, x74, x75, x76, x77, x78, x79, x80, x81, x82, x83, x84, x85, x86, .bool false, (undef), x89, x90, x91, x92, x93, x94, x95, x96, x97, x11, (by simp only [Act.put, List.setIfInBounds_toArray, List.set_cons_zero, List.set_cons_succ]), (by simp only [Act.put, List.setIfInBounds_toArray, List.set_cons_zero, List.set_cons_succ]), hb, cd0, cd1, cd2, cd3, cd4, cd5, cd6, cd7, cd8, cd9, cd10, cd11, cd12, cd13, cd14, cd15, cd16, cd17, cd18, cd19, cd20, (fun _ => rfl), (fun _ => rfl), cd23, cd24, cd25, cd26, cd27, cd28, cd29, cd30, cd31, cd32⟩
                        · rintro L a w ⟨b0, b1, b2, b3, b4, b5, b6, b7, b8, b9, b10, b11, b12, b13, b14, b15, b16, b17, b18, b19, b20, b21, b22, b23, b24, b25, b26, b27, b28, b29, b30, b31, b32, x66, x67, x68, x69, x70, x71, x72, x73, x74, x75, x76, x77, x78, x79, x80, x81, x82, x83, x84, x85, x86, x87, x88, x89, x90, x91, x92, x93, x94, x95, x96, x97, x11, rfl, rfl, hb, cd0, cd1, cd2, cd3, cd4, cd5, cd6, cd7, cd8, cd9, cd10, cd11, cd12, cd13, cd14, cd15, cd16, cd17, cd18, cd19, cd20, cd21, cd22, cd23, cd24, cd25, cd26, cd27, cd28, cd29, cd30, cd31, cd32⟩ hf hd
                          have hf' : b23 = false := hf
                          subst hf'
                          have d21 : b21 = true := hd ⟨21, .guard⟩ (by simp) rfl
                          subst d21
                          obtain rfl := cd21.out rfl
                          clear hf hd
                          try simp only [List.setIfInBounds_toArray, List.set_cons_zero, List.set_cons_succ]
                          intro K hK
                          rw [if_neg (Bool.eq_false_iff.1 (by rfl))]
                          exact hK.out _ _ ⟨b0, b1, b2, b3, b4, b5, b6, b7, b8, b9, b10, b11, b12, b13, b14, b15, b16, b17, b18, b19, b20, true, b22, true, b24, b25, b26, b27, b28, b29, b30, b31, b32, x66, x67, x68, x69, x70, x71, x72, x73, x74, x75, x76, x77, x78, x79, x80, x81, x82, x83, x84, x85, x86, .bool false, x88, (undef), x90, x91, x92, x93, x94, x95, x96, x97, x11, (by simp only [Act.put, List.setIfInBounds_toArray, List.set_cons_zero, List.set_cons_succ]), (by simp only [Act.put, List.setIfInBounds_toArray, List.set_cons_zero, List.set_cons_succ]), hb, cd0, cd1, cd2, cd3, cd4, cd5, cd6, cd7, cd8, cd9, cd10, cd11, cd12, cd13, cd14, cd15, cd16, cd17, cd18, cd19, cd20, (fun _ => rfl), cd22, (fun _ => rfl), cd24, cd25, cd26, cd27, cd28, cd29, cd30, cd31, cd32⟩
                        · rintro L a w ⟨b0, b1, b2, b3, b4, b5, b6, b7, b8, b9, b10, b11, b12, b13, b14, b15, b16, b17, b18, b19, b20, b21, b22, b23, b24, b25, b26, b27, b28, b29, b30, b31, b32, x66, x67, x68, x69, x70, x71, x72, x73, x74, x75, x76, x77, x78, x79, x80, x81, x82, x83, x84, x85, x86, x87, x88, x89, x90, x91, x92, x93, x94, x95, x96, x97, x11, rfl, rfl, hb, cd0, cd1, cd2, cd3, cd4, cd5, cd6, cd7, cd8, cd9, cd10, cd11, cd12, cd13, cd14, cd15, cd16, cd17, cd18, cd19, cd20, cd21, cd22, cd23, cd24, cd25, cd26, cd27, cd28, cd29, cd30, cd31, cd32⟩ hf hd
                          have hf' : b24 = false := hf
                          subst hf'
                          have d23 : b23 = true := hd ⟨23, .data⟩ (by simp) rfl
                          subst d23
                          have d21 : b21 = true := hd ⟨21, .guard⟩ (by simp) rfl
                          subst d21
                          obtain rfl := cd23.out rfl
                          obtain rfl := cd21.out rfl
                          clear hf hd
                          try simp only [List.setIfInBounds_toArray, List.set_cons_zero, List.set_cons_succ]
                          intro K hK
                          rw [if_neg (Bool.eq_false_iff.1 (by rfl))]
                          exact hK.out _ _ ⟨b0, b1, b2, b3, b4, b5, b6, b7, b8, b9, b10, b11, b12, b13, b14, b15, b16, b17, b18, b19, b20, true, b22, true, true, b25, b26, b27, b28, b29, b30, b31, b32, x66, x67, x68, x69, x70, x71, x72, x73, x74, x75, x76, x77, x78, x79, x80, x81, x82, x83, x84, x85, x86, .bool false, x88, undef, (undef), x91, x92, x93, x94, x95, x96, x97, x11, (by simp only [Act.put, List.setIfInBounds_toArray, List.set_cons_zero, List.set_cons_succ]), (by simp only [Act.put, List.setIfInBounds_toArray, List.set_cons_zero, List.set_cons_succ]), hb, cd0, cd1, cd2, cd3, cd4, cd5, cd6, cd7, cd8, cd9, cd10, cd11, cd12, cd13, cd14, cd15, cd16, cd17, cd18, cd19, cd20, (fun _ => rfl), cd22, (fun _ => rfl), (fun _ => rfl), cd25, cd26, cd27, cd28, cd29, cd30, cd31, cd32⟩
                        · rintro L a w ⟨b0, b1, b2, b3, b4, b5, b6, b7, b8, b9, b10, b11, b12, b13, b14, b15, b16, b17, b18, b19, b20, b21, b22, b23, b24, b25, b26, b27, b28, b29, b30, b31, b32, x66, x67, x68, x69, x70, x71, x72, x73, x74, x75, x76, x77, x78, x79, x80, x81, x82, x83, x84, x85, x86, x87, x88, x89, x90, x91, x92, x93, x94, x95, x96, x97, x11, rfl, rfl, hb, cd0, cd1, cd2, cd3, cd4, cd5, cd6, cd7, cd8, cd9, cd10, cd11, cd12, cd13, cd14, cd15, cd16, cd17, cd18, cd19, cd20, cd21, cd22, cd23, cd24, cd25, cd26, cd27, cd28, cd29, cd30, cd31, cd32⟩ hf hd
                          have hf' : b25 = false := hf
                          subst hf'
                          have d22 : b22 = true := hd ⟨22, .data⟩ (by simp) rfl
                          subst d22
                          have d24 : b24 = true := hd ⟨24, .data⟩ (by simp) rfl
                          subst d24
                          have d21 : b21 = true := hd ⟨21, .guard⟩ (by simp) rfl
                          subst d21
                          obtain rfl := cd22.out rfl
                          obtain rfl := cd24.out rfl
                          obtain rfl := cd21.out rfl
                          clear hf hd
                          try simp only [List.setIfInBounds_toArray, List.set_cons_zero, List.set_cons_succ]
                          intro K hK
                          rw [if_neg (Bool.eq_false_iff.1 (by rfl))]
                          exact hK.out _ _ ⟨b0, b1, b2, b3, b4, b5, b6, b7, b8, b9, b10, b11, b12, b13, b14, b15, b16, b17, b18, b19, b20, true, true, b23, true, true, b26, b27, b28, b29, b30, b31, b32, x66, x67, x68, x69, x70, x71, x72, x73, x74, x75, x76, x77, x78, x79, x80, x81, x82, x83, x84, x85, x86, .bool false, undef, x89, undef, (undef), x92, x93, x94, x95, x96, x97, x11, (by simp only [Act.put, List.setIfInBounds_toArray, List.set_cons_zero, List.set_cons_succ]), (by simp only [Act.put, List.setIfInBounds_toArray, List.set_cons_zero, List.set_cons_succ]), hb, cd0, cd1, cd2, cd3, cd4, cd5, cd6, cd7, cd8, cd9, cd10, cd11, cd12, cd13, cd14, cd15, cd16, cd17, cd18, cd19, cd20, (fun _ => rfl), (fun _ => rfl), cd23, (fun _ => rfl), (fun _ => rfl), cd26, cd27, cd28, cd29, cd30, cd31, cd32⟩
                        · rintro L a w ⟨b0, b1, b2, b3, b4, b5, b6, b7, b8, b9, b10, b11, b12, b13, b14, b15, b16, b17, b18, b19, b20, b21, b22, b23, b24, b25, b26, b27, b28, b29, b30, b31, b32, x66, x67, x68, x69, x70, x71, x72, x73, x74, x75, x76, x77, x78, x79, x80, x81, x82, x83, x84, x85, x86, x87, x88, x89, x90, x91, x92, x93, x94, x95, x96, x97, x11, rfl, rfl, hb, cd0, cd1, cd2, cd3, cd4, cd5, cd6, cd7, cd8, cd9, cd10, cd11, cd12, cd13, cd14, cd15, cd16, cd17, cd18, cd19, cd20, cd21, cd22, cd23, cd24, cd25, cd26, cd27, cd28, cd29, cd30, cd31, cd32⟩ hf hd
                          have hf' : b26 = false := hf
                          subst hf'
                          have d25 : b25 = true := hd ⟨25, .data⟩ (by simp) rfl
                          subst d25
                          have d21 : b21 = true := hd ⟨21, .guard⟩ (by simp) rfl
                          subst d21
                          obtain rfl := cd25.out rfl
                          obtain rfl := cd21.out rfl
                          clear hf hd
                          try simp only [List.setIfInBounds_toArray, List.set_cons_zero, List.set_cons_succ]
                          intro K hK
                          rw [if_neg (Bool.eq_false_iff.1 (by rfl))]
                          exact hK.out _ _ ⟨b0, b1, b2, b3, b4, b5, b6, b7, b8, b9, b10, b11, b12, b13, b14, b15, b16, b17, b18, b19, b20, true, b22, b23, b24, true, true, b27, b28, b29, b30, b31, b32, x66, x67, x68, x69, x70, x71, x72, x73, x74, x75, x76, x77, x78, x79, x80, x81, x82, x83, x84, x85, x86, .bool false, x88, x89, x90, undef, (undef), x93, x94, x95, x96, x97, x11, (by simp only [Act.put, List.setIfInBounds_toArray, List.set_cons_zero, List.set_cons_succ]), (by simp only [Act.put, List.setIfInBounds_toArray, List.set_cons_zero, List.set_cons_succ]), hb, cd0, cd1, cd2, cd3, cd4, cd5, cd6, cd7, cd8, cd9, cd10, cd11, cd12, cd13, cd14, cd15, cd16, cd17, cd18, cd19, cd20, (fun _ => rfl), cd22, cd23, cd24, (fun _ => rfl), (fun _ => rfl), cd27, cd28, cd29, cd30, cd31, cd32⟩
                        · rintro L a w ⟨b0, b1, b2, b3, b4, b5, b6, b7, b8, b9, b10, b11, b12, b13, b14, b15, b16, b17, b18, b19, b20, b21, b22, b23, b24, b25, b26, b27, b28, b29, b30, b31, b32, x66, x67, x68, x69, x70, x71, x72, x73, x74, x75, x76, x77, x78, x79, x80, x81, x82, x83, x84, x85, x86, x87, x88, x89, x90, x91, x92, x93, x94, x95, x96, x97, x11, rfl, rfl, hb, cd0, cd1, cd2, cd3, cd4, cd5, cd6, cd7, cd8, cd9, cd10, cd11, cd12, cd13, cd14, cd15, cd16, cd17, cd18, cd19, cd20, cd21, cd22, cd23, cd24, cd25, cd26, cd27, cd28, cd29, cd30, cd31, cd32⟩ hf hd
                          have hf' : b27 = false := hf
                          subst hf'
                          have d21 : b21 = true := hd ⟨21, .guard⟩ (by simp) rfl
                          subst d21
                          obtain rfl := cd21.out rfl
                          clear hf hd
                          try simp only [List.setIfInBounds_toArray, List.set_cons_zero, List.set_cons_succ]
                          intro K hK
                          rw [if_neg (Bool.eq_false_iff.1 (by rfl))]
                          exact hK.out _ _ ⟨b0, b1, b2, b3, b4, b5, b6, b7, b8, b9, b10, b11, b12, b13, b14, b15, b16, b17, b18, b19, b20, true, b22, b23, b24, b25, b26, true, b28, b29, b30, b31, b32, x66, x67, x68, x69, x70, x71, x72, x73, x74, x75, x76, x77, x78, x79, x80, x81, x82, x83, x84, x85, x86, .bool false, x88, x89, x90, x91, x92, (undef), x94, x95, x96, x97, x11, (by simp only [Act.put, List.setIfInBounds_toArray, List.set_cons_zero, List.set_cons_succ]), (by simp only [Act.put, List.setIfInBounds_toArray, List.set_cons_zero, List.set_cons_succ]), hb, cd0, cd1, cd2, cd3, cd4, cd5, cd6, cd7, cd8, cd9, cd10, cd11, cd12, cd13, cd14, cd15, cd16, cd17, cd18, cd19, cd20, (fun _ => rfl), cd22, cd23, cd24, cd25, cd26, (fun _ => rfl), cd28, cd29, cd30, cd31, cd32⟩
                        · rintro L a w ⟨b0, b1, b2, b3, b4, b5, b6, b7, b8, b9, b10, b11, b12, b13, b14, b15, b16, b17, b18, b19, b20, b21, b22, b23, b24, b25, b26, b27, b28, b29, b30, b31, b32, x66, x67, x68, x69, x70, x71, x72, x73, x74, x75, x76, x77, x78, x79, x80, x81, x82, x83, x84, x85, x86, x87, x88, x89, x90, x91, x92, x93, x94, x95, x96, x97, x11, rfl, rfl, hb, cd0, cd1, cd2, cd3, cd4, cd5, cd6, cd7, cd8, cd9, cd10, cd11, cd12, cd13, cd14, cd15, cd16, cd17, cd18, cd19, cd20, cd21, cd22, cd23, cd24, cd25, cd26, cd27, cd28, cd29, cd30, cd31, cd32⟩ hf hd
                          have hf' : b28 = false := hf
                          subst hf'
                          have d27 : b27 = true := hd ⟨27, .data⟩ (by simp) rfl
                          subst d27
                          have d21 : b21 = true := hd ⟨21, .guard⟩ (by simp) rfl
                          subst d21
                          obtain rfl := cd27.out rfl
                          obtain rfl := cd21.out rfl
                          clear hf hd
                          try simp only [List.setIfInBounds_toArray, List.set_cons_zero, List.set_cons_succ]
                          intro K hK
                          rw [if_neg (Bool.eq_false_iff.1 (by rfl))]
                          exact hK.out _ _ ⟨b0, b1, b2, b3, b4, b5, b6, b7, b8, b9, b10, b11, b12, b13, b14, b15, b16, b17, b18, b19, b20, true, b22, b23, b24, b25, b26, true, true, b29, b30, b31, b32, x66, x67, x68, x69, x70, x71, x72, x73, x74, x75, x76, x77, x78, x79, x80, x81, x82, x83, x84, x85, x86, .bool false, x88, x89, x90, x91, x92, undef, (undef), x95, x96, x97, x11, (by simp only [Act.put, List.setIfInBounds_toArray, List.set_cons_zero, List.set_cons_succ]), (by simp only [Act.put, List.setIfInBounds_toArray, List.set_cons_zero, List.set_cons_succ]), hb, cd0, cd1, cd2, cd3, cd4, cd5, cd6, cd7, cd8, cd9, cd10, cd11, cd12, cd13, cd14, cd15, cd16, cd17, cd18, cd19, cd20, (fun _ => rfl), cd22, cd23, cd24, cd25, cd26, (fun _ => rfl), (fun _ => rfl), cd29, cd30, cd31, cd32⟩
                        · rintro L a w ⟨b0, b1, b2, b3, b4, b5, b6, b7, b8, b9, b10, b11, b12, b13, b14, b15, b16, b17, b18, b19, b20, b21, b22, b23, b24, b25, b26, b27, b28, b29, b30, b31, b32, x66, x67, x68, x69, x70, x71, x72, x73, x74, x75, x76, x77, x78, x79, x80, x81, x82, x83, x84, x85, x86, x87, x88, x89, x90, x91, x92, x93, x94, x95, x96, x97, x11, rfl, rfl, hb, cd0, cd1, cd2, cd3, cd4, cd5, cd6, cd7, cd8, cd9, cd10, cd11, cd12, cd13, cd14, cd15, cd16, cd17, cd18, cd19, cd20, cd21, cd22, cd23, cd24, cd25, cd26, cd27, cd28, cd29, cd30, cd31, cd32⟩ hf hd
                          have hf' : b29 = false := hf
                          subst hf'
                          have d26 : b26 = true := hd ⟨26, .data⟩ (by simp) rfl
                          subst d26
                          have d28 : b28 = true := hd ⟨28, .data⟩ (by simp) rfl
                          subst d28
                          have d21 : b21 = true := hd ⟨21, .guard⟩ (by simp) rfl
                          subst d21
                          obtain rfl := cd26.out rfl
                          obtain rfl := cd28.out rfl
                          obtain rfl := cd21.out rfl
                          clear hf hd
                          try simp only [List.setIfInBounds_toArray, List.set_cons_zero, List.set_cons_succ]
                          intro K hK
                          rw [if_neg (Bool.eq_false_iff.1 (by rfl))]
                          exact hK.out _ _ ⟨b0, b1, b2, b3, b4, b5, b6, b7, b8, b9, b10, b11, b12, b13, b14, b15, b16, b17, b18, b19, b20, true, b22, b23, b24, b25, true, b27, true, true, b30, b31, b32, x66, x67, x68, x69, x70, x71, x72, x73, x74, x75, x76, x77, x78, x79, x80, x81, x82, x83, x84, x85, x86, .bool false, x88, x89, x90, x91, undef, x93, undef, (undef), x96, x97, x11, (by simp only [Act.put, List.setIfInBounds_toArray, List.set_cons_zero, List.set_cons_succ]), (by simp only [Act.put, List.setIfInBounds_toArray, List.set_cons_zero, List.set_cons_succ]), hb, cd0, cd1, cd2, cd3, cd4, cd5, cd6, cd7, cd8, cd9, cd10, cd11, cd12, cd13, cd14, cd15, cd16, cd17, cd18, cd19, cd20, (fun _ => rfl), cd22, cd23, cd24, cd25, (fun _ => rfl), cd27, (fun _ => rfl), (fun _ => rfl), cd30, cd31, cd32⟩
                        · rintro L a w ⟨b0, b1, b2, b3, b4, b5, b6, b7, b8, b9, b10, b11, b12, b13, b14, b15, b16, b17, b18, b19, b20, b21, b22, b23, b24, b25, b26, b27, b28, b29, b30, b31, b32, x66, x67, x68, x69, x70, x71, x72, x73, x74, x75, x76, x77, x78, x79, x80, x81, x82, x83, x84, x85, x86, x87, x88, x89, x90, x91, x92, x93, x94, x95, x96, x97, x11, rfl, rfl, hb, cd0, cd1, cd2, cd3, cd4, cd5, cd6, cd7, cd8, cd9, cd10, cd11, cd12, cd13, cd14, cd15, cd16, cd17, cd18, cd19, cd20, cd21, cd22, cd23, cd24, cd25, cd26, cd27, cd28, cd29, cd30, cd31, cd32⟩ hf hd
                          have hf' : b30 = false := hf
                          subst hf'
                          have d21 : b21 = true := hd ⟨21, .data⟩ (by simp) rfl
                          subst d21
                          have d29 : b29 = true := hd ⟨29, .data⟩ (by simp) rfl
                          subst d29
                          have d15 : b15 = true := hd ⟨15, .guard⟩ (by simp) rfl
                          subst d15
                          obtain rfl := cd21.out rfl
                          obtain rfl := cd29.out rfl
                          obtain rfl := cd15.out rfl
                          clear hf hd
                          try simp only [List.setIfInBounds_toArray, List.set_cons_zero, List.set_cons_succ]
                          intro K hK
                          rw [if_pos (by rfl)]
                          go_simp
                          exact hK.out _ _ ⟨b0, b1, b2, b3, b4, b5, b6, b7, b8, b9, b10, b11, b12, b13, b14, true, b16, b17, b18, b19, b20, true, b22, b23, b24, b25, b26, b27, b28, true, true, b31, b32, x66, x67, x68, x69, x70, x71, x72, x73, x74, x75, x76, x77, x78, x79, x80, .bool false, x82, x83, x84, x85, x86, .bool false, x88, x89, x90, x91, x92, x93, x94, undef, (.bool false), x97, x11, (by simp only [Act.put, List.setIfInBounds_toArray, List.set_cons_zero, List.set_cons_succ]), (by simp only [Act.put, List.setIfInBounds_toArray, List.set_cons_zero, List.set_cons_succ]), hb, cd0, cd1, cd2, cd3, cd4, cd5, cd6, cd7, cd8, cd9, cd10, cd11, cd12, cd13, cd14, (fun _ => rfl), cd16, cd17, cd18, cd19, cd20, (fun _ => rfl), cd22, cd23, cd24, cd25, cd26, cd27, cd28, (fun _ => rfl), (fun _ => rfl), cd31, cd32⟩
                        · rintro L a w ⟨b0, b1, b2, b3, b4, b5, b6, b7, b8, b9, b10, b11, b12, b13, b14, b15, b16, b17, b18, b19, b20, b21, b22, b23, b24, b25, b26, b27, b28, b29, b30, b31, b32, x66, x67, x68, x69, x70, x71, x72, x73, x74, x75, x76, x77, x78, x79, x80, x81, x82, x83, x84, x85, x86, x87, x88, x89, x90, x91, x92, x93, x94, x95, x96, x97, x11, rfl, rfl, hb, cd0, cd1, cd2, cd3, cd4, cd5, cd6, cd7, cd8, cd9, cd10, cd11, cd12, cd13, cd14, cd15, cd16, cd17, cd18, cd19, cd20, cd21, cd22, cd23, cd24, cd25, cd26, cd27, cd28, cd29, cd30, cd31, cd32⟩ hf hd
                          have hf' : b31 = false := hf
                          subst hf'
                          have d15 : b15 = true := hd ⟨15, .data⟩ (by simp) rfl
                          subst d15
                          have d30 : b30 = true := hd ⟨30, .data⟩ (by simp) rfl
                          subst d30
                          obtain rfl := cd15.out rfl
                          obtain rfl := cd30.out rfl
                          clear hf hd
                          try simp only [List.setIfInBounds_toArray, List.set_cons_zero, List.set_cons_succ]
                          intro K hK
                          rw [if_pos (by rfl)]
                          go_simp
                          exact hK.out _ _ ⟨b0, b1, b2, b3, b4, b5, b6, b7, b8, b9, b10, b11, b12, b13, b14, true, b16, b17, b18, b19, b20, b21, b22, b23, b24, b25, b26, b27, b28, b29, true, true, b32, x66, x67, x68, x69, x70, x71, x72, x73, x74, x75, x76, x77, x78, x79, x80, .bool false, x82, x83, x84, x85, x86, x87, x88, x89, x90, x91, x92, x93, x94, x95, .bool false, (.bool false), x11, (by simp only [Act.put, List.setIfInBounds_toArray, List.set_cons_zero, List.set_cons_succ]), (by simp only [Act.put, List.setIfInBounds_toArray, List.set_cons_zero, List.set_cons_succ]), hb, cd0, cd1, cd2, cd3, cd4, cd5, cd6, cd7, cd8, cd9, cd10, cd11, cd12, cd13, cd14, (fun _ => rfl), cd16, cd17, cd18, cd19, cd20, cd21, cd22, cd23, cd24, cd25, cd26, cd27, cd28, cd29, (fun _ => rfl), (fun _ => rfl), cd32⟩
                        · rintro L a w ⟨b0, b1, b2, b3, b4, b5, b6, b7, b8, b9, b10, b11, b12, b13, b14, b15, b16, b17, b18, b19, b20, b21, b22, b23, b24, b25, b26, b27, b28, b29, b30, b31, b32, x66, x67, x68, x69, x70, x71, x72, x73, x74, x75, x76, x77, x78, x79, x80, x81, x82, x83, x84, x85, x86, x87, x88, x89, x90, x91, x92, x93, x94, x95, x96, x97, x11, rfl, rfl, hb, cd0, cd1, cd2, cd3, cd4, cd5, cd6, cd7, cd8, cd9, cd10, cd11, cd12, cd13, cd14, cd15, cd16, cd17, cd18, cd19, cd20, cd21, cd22, cd23, cd24, cd25, cd26, cd27, cd28, cd29, cd30, cd31, cd32⟩ hf hd
                          have hf' : b32 = false := hf
                          subst hf'
                          have d31 : b31 = true := hd ⟨31, .data⟩ (by simp) rfl
                          subst d31
                          have d21 : b21 = true := hd ⟨21, .chain⟩ (by simp) rfl
                          subst d21
                          have d0 : b0 = true := hd ⟨0, .phase⟩ (by simp) rfl
                          subst d0
                          have d1 : b1 = true := hd ⟨1, .phase⟩ (by simp) rfl
                          subst d1
                          have d2 : b2 = true := hd ⟨2, .phase⟩ (by simp) rfl
                          subst d2
                          have d3 : b3 = true := hd ⟨3, .phase⟩ (by simp) rfl
                          subst d3
                          have d4 : b4 = true := hd ⟨4, .phase⟩ (by simp) rfl
                          subst d4
                          have d5 : b5 = true := hd ⟨5, .phase⟩ (by simp) rfl
                          subst d5
                          have d6 : b6 = true := hd ⟨6, .phase⟩ (by simp) rfl
                          subst d6
                          have d7 : b7 = true := hd ⟨7, .phase⟩ (by simp) rfl
                          subst d7
                          have d8 : b8 = true := hd ⟨8, .phase⟩ (by simp) rfl
                          subst d8
                          have d9 : b9 = true := hd ⟨9, .phase⟩ (by simp) rfl
                          subst d9
                          have d10 : b10 = true := hd ⟨10, .phase⟩ (by simp) rfl
                          subst d10
                          have d11 : b11 = true := hd ⟨11, .phase⟩ (by simp) rfl
                          subst d11
                          have d12 : b12 = true := hd ⟨12, .phase⟩ (by simp) rfl
                          subst d12
                          have d13 : b13 = true := hd ⟨13, .phase⟩ (by simp) rfl
                          subst d13
                          have d14 : b14 = true := hd ⟨14, .phase⟩ (by simp) rfl
                          subst d14
                          have d15 : b15 = true := hd ⟨15, .phase⟩ (by simp) rfl
                          subst d15
                          have d16 : b16 = true := hd ⟨16, .phase⟩ (by simp) rfl
                          subst d16
                          have d17 : b17 = true := hd ⟨17, .phase⟩ (by simp) rfl
                          subst d17
                          have d18 : b18 = true := hd ⟨18, .phase⟩ (by simp) rfl
                          subst d18
                          have d19 : b19 = true := hd ⟨19, .phase⟩ (by simp) rfl
                          subst d19
                          have d20 : b20 = true := hd ⟨20, .phase⟩ (by simp) rfl
                          subst d20
                          have d22 : b22 = true := hd ⟨22, .phase⟩ (by simp) rfl
                          subst d22
                          have d23 : b23 = true := hd ⟨23, .phase⟩ (by simp) rfl
                          subst d23
                          have d24 : b24 = true := hd ⟨24, .phase⟩ (by simp) rfl
                          subst d24
                          have d25 : b25 = true := hd ⟨25, .phase⟩ (by simp) rfl
                          subst d25
                          have d26 : b26 = true := hd ⟨26, .phase⟩ (by simp) rfl
                          subst d26
                          have d27 : b27 = true := hd ⟨27, .phase⟩ (by simp) rfl
                          subst d27
                          have d28 : b28 = true := hd ⟨28, .phase⟩ (by simp) rfl
                          subst d28
                          have d29 : b29 = true := hd ⟨29, .phase⟩ (by simp) rfl
                          subst d29
                          have d30 : b30 = true := hd ⟨30, .phase⟩ (by simp) rfl
                          subst d30
                          obtain rfl := cd31.out rfl
                          obtain rfl := cd21.out rfl
                          obtain rfl := cd0.out rfl
                          obtain rfl := cd1.out rfl
                          obtain rfl := cd2.out rfl
                          obtain rfl := cd3.out rfl
                          obtain rfl := cd4.out rfl
                          obtain rfl := cd5.out rfl
                          obtain rfl := cd6.out rfl
                          obtain rfl := cd7.out rfl
                          obtain rfl := cd8.out rfl
                          obtain rfl := cd9.out rfl
                          obtain rfl := cd10.out rfl
                          obtain rfl := cd11.out rfl
                          obtain rfl := cd12.out rfl
                          obtain rfl := cd13.out rfl
                          obtain rfl := cd14.out rfl
                          obtain rfl := cd15.out rfl
                          obtain rfl := cd16.out rfl
                          obtain rfl := cd17.out rfl
                          obtain rfl := cd18.out rfl
                          obtain rfl := cd19.out rfl
                          obtain rfl := cd20.out rfl
                          obtain rfl := cd22.out rfl
                          obtain rfl := cd23.out rfl
                          obtain rfl := cd24.out rfl
                          obtain rfl := cd25.out rfl
                          obtain rfl := cd26.out rfl
                          obtain rfl := cd27.out rfl
                          obtain rfl := cd28.out rfl
                          obtain rfl := cd29.out rfl
                          obtain rfl := cd30.out rfl
                          clear hf hd
                          try simp only [List.setIfInBounds_toArray, List.set_cons_zero, List.set_cons_succ]
                          intro K hK
                          rw [if_pos (by rfl)]
                          go_simp
                          exact hK.out _ _ ⟨true, true, true, true, true, true, true, true, true, true, true, true, true, true, true, true, true, true, true, true, true, true, true, true, true, true, true, true, true, true, true, true, true, .slice (some ⟨gx, 0, none⟩) lX lX, .int .i64 (lX : Nat), .slice (some ⟨gy, 0, none⟩) lY lY, .int .i64 (lY : Nat), .bool true, .bool true, .slice (some ⟨gy, 0, none⟩) lY lY, .slice (some ⟨gx, 0, none⟩) lX lX, .int .i64 (lX : Nat), .slice (some ⟨gy, 0, none⟩) lX lY, .string ⟨(KY.take lX).toArray⟩, .slice (some ⟨gx, 0, none⟩) lX lX, .string ⟨KX.toArray⟩, .bool false, .bool false, .bool false, .slice (some ⟨gy, 0, none⟩) lY lY, .int .i64 (lY : Nat), .slice (some ⟨gx, 0, none⟩) lX lX, .int .i64 (lX : Nat), .bool false, .bool false, undef, undef, undef, undef, undef, undef, undef, undef, .bool false, .bool false, (.bool false), (by simp only [Act.put, List.setIfInBounds_toArray, List.set_cons_zero, List.set_cons_succ]), (by simp only [Act.put, List.setIfInBounds_toArray, List.set_cons_zero, List.set_cons_succ]), hb, (fun _ => rfl), (fun _ => rfl), (fun _ => rfl), (fun _ => rfl), (fun _ => rfl), (fun _ => rfl), (fun _ => rfl), (fun _ => rfl), (fun _ => rfl), (fun _ => rfl), (fun _ => rfl), (fun _ => rfl), (fun _ => rfl), (fun _ => rfl), (fun _ => rfl), (fun _ => rfl), (fun _ => rfl), (fun _ => rfl), (fun _ => rfl), (fun _ => rfl), (fun _ => rfl), (fun _ => rfl), (fun _ => rfl), (fun _ => rfl), (fun _ => rfl), (fun _ => rfl), (fun _ => rfl), (fun _ => rfl), (fun _ => rfl), (fun _ => rfl), (fun _ => rfl), (fun _ => rfl), (fun _ => rfl)⟩
                      · rintro a w ⟨b0, b1, b2, b3, b4, b5, b6, b7, b8, b9, b10, b11, b12, b13, b14, b15, b16, b17, b18, b19, b20, b21, b22, b23, b24, b25, b26, b27, b28, b29, b30, b31, b32, x66, x67, x68, x69, x70, x71, x72, x73, x74, x75, x76, x77, x78, x79, x80, x81, x82, x83, x84, x85, x86, x87, x88, x89, x90, x91, x92, x93, x94, x95, x96, x97, x11, hL, rfl, hb, cd0, cd1, cd2, cd3, cd4, cd5, cd6, cd7, cd8, cd9, cd10, cd11, cd12, cd13, cd14, cd15, cd16, cd17, cd18, cd19, cd20, cd21, cd22, cd23, cd24, cd25, cd26, cd27, cd28, cd29, cd30, cd31, cd32⟩
                        have hL' : [true, true, true, true, true, true, true, true, true, true, true, true, true, true, true, true, true, true, true, true, true, true, true, true, true, true, true, true, true, true, true, true, true] = [b0, b1, b2, b3, b4, b5, b6, b7, b8, b9, b10, b11, b12, b13, b14, b15, b16, b17, b18, b19, b20, b21, b22, b23, b24, b25, b26, b27, b28, b29, b30, b31, b32] := congrArg Array.toList hL
                        simp only [List.cons.injEq, and_true] at hL'
                        obtain ⟨rfl, rfl, rfl, rfl, rfl, rfl, rfl, rfl, rfl, rfl, rfl, rfl, rfl, rfl, rfl, rfl, rfl, rfl, rfl, rfl, rfl, rfl, rfl, rfl, rfl, rfl, rfl, rfl, rfl, rfl, rfl, rfl, rfl⟩ := hL'
                        obtain rfl := cd0.out rfl
                        obtain rfl := cd1.out rfl
                        obtain rfl := cd2.out rfl
                        obtain rfl := cd3.out rfl
                        obtain rfl := cd4.out rfl
                        obtain rfl := cd5.out rfl
                        obtain rfl := cd6.out rfl
                        obtain rfl := cd7.out rfl
                        obtain rfl := cd8.out rfl
                        obtain rfl := cd9.out rfl
                        obtain rfl := cd10.out rfl
                        obtain rfl := cd11.out rfl
                        obtain rfl := cd12.out rfl
                        obtain rfl := cd13.out rfl
                        obtain rfl := cd14.out rfl
                        obtain rfl := cd15.out rfl
                        obtain rfl := cd16.out rfl
                        obtain rfl := cd17.out rfl
                        obtain rfl := cd18.out rfl
                        obtain rfl := cd19.out rfl
                        obtain rfl := cd20.out rfl
                        obtain rfl := cd21.out rfl
                        obtain rfl := cd22.out rfl
                        obtain rfl := cd23.out rfl
                        obtain rfl := cd24.out rfl
                        obtain rfl := cd25.out rfl
                        obtain rfl := cd26.out rfl
                        obtain rfl := cd27.out rfl
                        obtain rfl := cd28.out rfl
                        obtain rfl := cd29.out rfl
                        obtain rfl := cd30.out rfl
                        obtain rfl := cd31.out rfl
                        obtain rfl := cd32.out rfl
                        clear hL
                        simp only [List.setIfInBounds_toArray, List.set_cons_zero, List.set_cons_succ]
                        go_wp2_with fail
                        go_meet
                        exact ⟨rfl, hb11.trans (hb.mono hb11.size)⟩
                    · have l1 : ¬ ((lX : Int) < lY) := by omega
                      have l2 : ¬ ((lY : Int) < lX) := by omega
                      clear hl
                      refine region_inv (KOrder11b gx gy KX KY lX lY) (by kernel_rfl) (by kernel_rfl) ?_ ?_ ?_
                      · exact ⟨false, false, false, false, false, false, false, false, false, false, false, false, false, false, false, false, false, false, false, false, false, false, false, false, false, false, false, false, false, false, false, false, false, undef, undef, undef, undef, undef, undef, undef, undef, undef, undef, undef, undef, undef, undef, undef, undef, undef, undef, undef, undef, undef, undef, undef, undef, undef, undef, undef, undef, undef, undef, undef, undef, undef, rfl, (by simp only [Act.put, List.setIfInBounds_toArray, List.set_cons_zero, List.set_cons_succ]), Below.refl _ _, (fun h => by cases h), (fun h => by cases h), (fun h => by cases h), (fun h => by cases h), (fun h => by cases h), (fun h => by cases h), (fun h => by cases h), (fun h => by cases h), (fun h => by cases h), (fun h => by cases h), (fun h => by cases h), (fun h => by cases h), (fun h => by cases h), (fun h => by cases h), (fun h => by cases h), (fun h => by cases h), (fun h => by cases h), (fun h => by cases h), (fun h => by cases h), (fun h => by cases h), (fun h => by cases h), (fun h => by cases h), (fun h => by cases h), (fun h => by cases h), (fun h => by cases h), (fun h => by cases h), (fun h => by cases h), (fun h => by cases h), (fun h => by cases h), (fun h => by cases h), (fun h => by cases h), (fun h => by cases h), (fun h => by cases h)⟩
                      · refine ⟨?_, ?_, ?_, ?_, ?_, ?_, ?_, ?_, ?_, ?_, ?_, ?_, ?_, ?_, ?_, ?_, ?_, ?_, ?_, ?_, ?_, ?_, ?_, ?_, ?_, ?_, ?_, ?_, ?_, ?_, ?_, ?_, ?_, trivial⟩
                        · rintro L a w ⟨b0, b1, b2, b3, b4, b5, b6, b7, b8, b9, b10, b11, b12, b13, b14, b15, b16, b17, b18, b19, b20, b21, b22, b23, b24, b25, b26, b27, b28, b29, b30, b31, b32, x66, x67, x68, x69, x70, x71, x72, x73, x74, x75, x76, x77, x78, x79, x80, x81, x82, x83, x84, x85, x86, x87, x88, x89, x90, x91, x92, x93, x94, x95, x96, x97, x11, rfl, rfl, hb, cd0, cd1, cd2, cd3, cd4, cd5, cd6, cd7, cd8, cd9, cd10, cd11, cd12, cd13, cd14, cd15, cd16, cd17, cd18, cd19, cd20, cd21, cd22, cd23, cd24, cd25, cd26, cd27, cd28, cd29, cd30, cd31, cd32⟩ hf hd
                          have hf' : b0 = false := hf
                          subst hf'
                          clear hf hd
                          try simp only [List.setIfInBounds_toArray, List.set_cons_zero, List.set_cons_succ]
                          intro K hK
                          rw [if_pos (by rfl)]
                          go_simp
                          exact hK.out _ _ ⟨true, b1, b2, b3, b4, b5, b6, b7, b8, b9, b10, b11, b12, b13, b14, b15, b16, b17, b18, b19, b20, b21, b22, b23, b24, b25, b26, b27, b28, b29, b30, b31, b32, (.slice (some ⟨gx, 0, none⟩) lX lX), x67, x68, x69, x70, x71, x72, x73, x74, x75, x76, x77, x78, x79, x80, x81, x82, x83, x84, x85, x86, x87, x88, x89, x90, x91, x92, x93, x94, x95, x96, x97, x11, (by simp only [Act.put, List.setIfInBounds_toArray, List.set_cons_zero, List.set_cons_succ]), (by simp only [Act.put, List.setIfInBounds_toArray, List.set_cons_zero, List.set_cons_succ]), hb, (fun _ => rfl), cd1, cd2, cd3, cd4, cd5, cd6, cd7, cd8, cd9, cd10, cd11, cd12, cd13, cd14, cd15, cd16, cd17, cd18, cd19, cd20, cd21, cd22, cd23, cd24, cd25, cd26, cd27, cd28, cd29, cd30, cd31, cd32⟩
                        · rintro L a w ⟨b0, b1, b2, b3, b4, b5, b6, b7, b8, b9, b10, b11, b12, b13, b14, b15, b16, b17, b18, b19, b20, b21, b22, b23, b24, b25, b26, b27, b28, b29, b30, b31, b32, x66, x67, x68, x69, x70, x71, x72, x73, x74, x75, x76, x77, x78, x79, x80, x81, x82, x83, x84, x85, x86, x87, x88, x89, x90, x91, x92, x93, x94, x95, x96, x97, x11, rfl, rfl, hb, cd0, cd1, cd2, cd3, cd4, cd5, cd6, cd7, cd8, cd9, cd10, cd11, cd12, cd13, cd14, cd15, cd16, cd17, cd18, cd19, cd20, cd21, cd22, cd23, cd24, cd25, cd26, cd27, cd28, cd29, cd30, cd31, cd32⟩ hf hd
                          have hf' : b1 = false := hf
                          subst hf'
                          have d0 : b0 = true := hd ⟨0, .data⟩ (by simp) rfl
                          subst d0
                          obtain rfl := cd0.out rfl
                          clear hf hd
                          try simp only [List.setIfInBounds_toArray, List.set_cons_zero, List.set_cons_succ]
                          intro K hK
                          rw [if_pos (by rfl)]
                          go_simp
                          exact hK.out _ _ ⟨true, true, b2, b3, b4, b5, b6, b7, b8, b9, b10, b11, b12, b13, b14, b15, b16, b17, b18, b19, b20, b21, b22, b23, b24, b25, b26, b27, b28, b29, b30, b31, b32, .slice (some ⟨gx, 0, none⟩) lX lX, (.int .i64 (lX : Nat)), x68, x69, x70, x71, x72, x73, x74, x75, x76, x77, x78, x79, x80, x81, x82, x83, x84, x85, x86, x87, x88, x89, x90, x91, x92, x93, x94, x95, x96, x97, x11, (by simp only [Act.put, List.setIfInBounds_toArray, List.set_cons_zero, List.set_cons_succ]), (by simp only [Act.put, List.setIfInBounds_toArray, List.set_cons_zero, List.set_cons_succ]), hb, (fun _ => rfl), (fun _ => rfl), cd2, cd3, cd4, cd5, cd6, cd7, cd8, cd9, cd10, cd11, cd12, cd13, cd14, cd15, cd16, cd17, cd18, cd19, cd20, cd21, cd22, cd23, cd24, cd25, cd26, cd27, cd28, cd29, cd30, cd31, cd32⟩
                        · rintro L a w ⟨b0, b1, b2, b3, b4, b5, b6, b7, b8, b9, b10, b11, b12, b13, b14, b15, b16, b17, b18, b19, b20, b21, b22, b23, b24, b25, b26, b27, b28, b29, b30, b31, b32, x66, x67, x68, x69, x70, x71, x72, x73, x74, x75, x76, x77, x78, x79, x80, x81, x82, x83, x84, x85, x86, x87, x88, x89, x90, x91, x92, x93, x94, x95, x96, x97, x11, rfl, rfl, hb, cd0, cd1, cd2, cd3, cd4, cd5, cd6, cd7, cd8, cd9, cd10, cd11, cd12, cd13, cd14, cd15, cd16, cd17, cd18, cd19, cd20, cd21, cd22, cd23, cd24, cd25, cd26, cd27, cd28, cd29, cd30, cd31, cd32⟩ hf hd
                          have hf' : b2 = false := hf
                          subst hf'
                          clear hf hd
                          try simp only [List.setIfInBounds_toArray, List.set_cons_zero, List.set_cons_succ]
                          intro K hK
                          rw [if_pos (by rfl)]
                          go_simp
                          exact hK.out _ _ ⟨b0, b1, true, b3, b4, b5, b6, b7, b8, b9, b10, b11, b12, b13, b14, b15, b16, b17, b18, b19, b20, b21, b22, b23, b24, b25, b26, b27, b28, b29, b30, b31, b32, x66, x67, (.slice (some ⟨gy, 0, none⟩) lY lY), x69, x70, x71, x72, x73, x74, x75, x76, x77, x78, x79, x80, x81, x82, x83, x84, x85, x86, x87, x88, x89, x90, x91, x92, x93, x94, x95, x96, x97, x11, (by simp only [Act.put, List.setIfInBounds_toArray, List.set_cons_zero, List.set_cons_succ]), (by simp only [Act.put, List.setIfInBounds_toArray, List.set_cons_zero, List.set_cons_succ]), hb, cd0, cd1, (fun _ => rfl), cd3, cd4, cd5, cd6, cd7, cd8, cd9, cd10, cd11, cd12, cd13, cd14, cd15, cd16, cd17, cd18, cd19, cd20, cd21, cd22, cd23, cd24, cd25, cd26, cd27, cd28, cd29, cd30, cd31, cd32⟩
                        · rintro L a w ⟨b0, b1, b2, b3, b4, b5, b6, b7, b8, b9, b10, b11, b12, b13, b14, b15, b16, b17, b18, b19, b20, b21, b22, b23, b24, b25, b26, b27, b28, b29, b30, b31, b32, x66, x67, x68, x69, x70, x71, x72, x73, x74, x75, x76, x77, x78, x79, x80, x81, x82, x83, x84, x85, x86, x87, x88, x89, x90, x91, x92, x93, x94, x95, x96, x97, x11, rfl, rfl, hb, cd0, cd1, cd2, cd3, cd4, cd5, cd6, cd7, cd8, cd9, cd10, cd11, cd12, cd13, cd14, cd15, cd16, cd17, cd18, cd19, cd20, cd21, cd22, cd23, cd24, cd25, cd26, cd27, cd28, cd29, cd30, cd31, cd32⟩ hf hd
                          have hf' : b3 = false := hf
                          subst hf'
                          have d2 : b2 = true := hd ⟨2, .data⟩ (by simp) rfl
                          subst d2
                          obtain rfl := cd2.out rfl
                          clear hf hd
                          try simp only [List.setIfInBounds_toArray, List.set_cons_zero, List.set_cons_succ]
                          intro K hK
                          rw [if_pos (by rfl)]
                          go_simp
                          exact hK.out _ _ ⟨b0, b1, true, true, b4, b5, b6, b7, b8, b9, b10, b11, b12, b13, b14, b15, b16, b17, b18, b19, b20, b21, b22, b23, b24, b25, b26, b27, b28, b29, b30, b31, b32, x66, x67, .slice (some ⟨gy, 0, none⟩) lY lY, (.int .i64 (lY : Nat)), x70, x71, x72, x73, x74, x75, x76, x77, x78, x79, x80, x81, x82, x83, x84, x85, x86, x87, x88, x89, x90, x91, x92, x93, x94, x95, x96, x97, x11, (by simp only [Act.put, List.setIfInBounds_toArray, List.set_cons_zero, List.set_cons_succ]), (by simp only [Act.put, List.setIfInBounds_toArray, List.set_cons_zero, List.set_cons_succ]), hb, cd0, cd1, (fun _ => rfl), (fun _ => rfl), cd4, cd5, cd6, cd7, cd8, cd9, cd10, cd11, cd12, cd13, cd14, cd15, cd16, cd17, cd18, cd19, cd20, cd21, cd22, cd23, cd24, cd25, cd26, cd27, cd28, cd29, cd30, cd31, cd32⟩
                        · rintro L a w ⟨b0, b1, b2, b3, b4, b5, b6, b7, b8, b9, b10, b11, b12, b13, b14, b15, b16, b17, b18, b19, b20, b21, b22, b23, b24, b25, b26, b27, b28, b29, b30, b31, b32, x66, x67, x68, x69, x70, x71, x72, x73, x74, x75, x76, x77, x78, x79, x80, x81, x82, x83, x84, x85, x86, x87, x88, x89, x90, x91, x92, x93, x94, x95, x96, x97, x11, rfl, rfl, hb, cd0, cd1, cd2, cd3, cd4, cd5, cd6, cd7, cd8, cd9, cd10, cd11, cd12, cd13, cd14, cd15, cd16, cd17, cd18, cd19, cd20, cd21, cd22, cd23, cd24, cd25, cd26, cd27, cd28, cd29, cd30, cd31, cd32⟩ hf hd
                          have hf' : b4 = false := hf
                          subst hf'
                          have d1 : b1 = true := hd ⟨1, .data⟩ (by simp) rfl
                          subst d1
                          have d3 : b3 = true := hd ⟨3, .data⟩ (by simp) rfl
                          subst d3
                          obtain rfl := cd1.out rfl
                          obtain rfl := cd3.out rfl
                          clear hf hd
                          try simp only [List.setIfInBounds_toArray, List.set_cons_zero, List.set_cons_succ]
                          intro K hK
                          rw [if_pos (by rfl)]
                          go_simp
                          exact hK.out _ _ ⟨b0, true, b2, true, true, b5, b6, b7, b8, b9, b10, b11, b12, b13, b14, b15, b16, b17, b18, b19, b20, b21, b22, b23, b24, b25, b26, b27, b28, b29, b30, b31, b32, x66, .int .i64 (lX : Nat), x68, .int .i64 (lY : Nat), (.bool false), x71, x72, x73, x74, x75, x76, x77, x78, x79, x80, x81, x82, x83, x84, x85, x86, x87, x88, x89, x90, x91, x92, x93, x94, x95, x96, x97, x11, (by simp only [Act.put, List.setIfInBounds_toArray, List.set_cons_zero, List.set_cons_succ]), (by simp only [Act.put, List.setIfInBounds_toArray, List.set_cons_zero, List.set_cons_succ]), hb, cd0, (fun _ => rfl), cd2, (fun _ => rfl), (fun _ => rfl), cd5, cd6, cd7, cd8, cd9, cd10, cd11, cd12, cd13, cd14, cd15, cd16, cd17, cd18, cd19, cd20, cd21, cd22, cd23, cd24, cd25, cd26, cd27, cd28, cd29, cd30, cd31, cd32⟩
                        · rintro L a w ⟨b0, b1, b2, b3, b4, b5, b6, b7, b8, b9, b10, b11, b12, b13, b14, b15, b16, b17, b18, b19, b20, b21, b22, b23, b24, b25, b26, b27, b28, b29, b30, b31, b32, x66, x67, x68, x69, x70, x71, x72, x73, x74, x75, x76, x77, x78, x79, x80, x81, x82, x83, x84, x85, x86, x87, x88, x89, x90, x91, x92, x93, x94, x95, x96, x97, x11, rfl, rfl, hb, cd0, cd1, cd2, cd3, cd4, cd5, cd6, cd7, cd8, cd9, cd10, cd11, cd12, cd13, cd14, cd15, cd16, cd17, cd18, cd19, cd20, cd21, cd22, cd23, cd24, cd25, cd26, cd27, cd28, cd29, cd30, cd31, cd32⟩ hf hd
                          have hf' : b5 = false := hf
                          subst hf'
                          have d4 : b4 = true := hd ⟨4, .data⟩ (by simp) rfl
                          subst d4
                          obtain rfl := cd4.out rfl
                          clear hf hd
                          try simp only [List.setIfInBounds_toArray, List.set_cons_zero, List.set_cons_succ]
                          intro K hK
                          rw [if_pos (by rfl)]
                          go_simp
                          exact hK.out _ _ ⟨b0, b1, b2, b3, true, true, b6, b7, b8, b9, b10, b11, b12, b13, b14, b15, b16, b17, b18, b19, b20, b21, b22, b23, b24, b25, b26, b27, b28, b29, b30, b31, b32, x66, x67, x68, x69, .bool false, (.bool false), x72, x73, x74, x75, x76, x77, x78, x79, x80, x81, x82, x83, x84, x85, x86, x87, x88, x89, x90, x91, x92, x93, x94, x95, x96, x97, x11, (by simp only [Act.put, List.setIfInBounds_toArray, List.set_cons_zero, List.set_cons_succ]), (by simp only [Act.put, List.setIfInBounds_toArray, List.set_cons_zero, List.set_cons_succ]), hb, cd0, cd1, cd2, cd3, (fun _ => rfl), (fun _ => rfl), cd6, cd7, cd8, cd9, cd10, cd11, cd12, cd13, cd14, cd15, cd16, cd17, cd18, cd19, cd20, cd21, cd22, cd23, cd24, cd25, cd26, cd27, cd28, cd29, cd30, cd31, cd32⟩
                        · rintro L a w ⟨b0, b1, b2, b3, b4, b5, b6, b7, b8, b9, b10, b11, b12, b13, b14, b15, b16, b17, b18, b19, b20, b21, b22, b23, b24, b25, b26, b27, b28, b29, b30, b31, b32, x66, x67, x68, x69, x70, x71, x72, x73, x74, x75, x76, x77, x78, x79, x80, x81, x82, x83, x84, x85, x86, x87, x88, x89, x90, x91, x92, x93, x94, x95, x96, x97, x11, rfl, rfl, hb, cd0, cd1, cd2, cd3, cd4, cd5, cd6, cd7, cd8, cd9, cd10, cd11, cd12, cd13, cd14, cd15, cd16, cd17, cd18, cd19, cd20, cd21, cd22, cd23, cd24, cd25, cd26, cd27, cd28, cd29, cd30, cd31, cd32⟩ hf hd
                          have hf' : b6 = false := hf
                          subst hf'
                          have d5 : b5 = true := hd ⟨5, .guard⟩ (by simp) rfl
                          subst d5
                          obtain rfl := cd5.out rfl
                          clear hf hd
                          try simp only [List.setIfInBounds_toArray, List.set_cons_zero, List.set_cons_succ]
                          intro K hK
                          rw [if_neg (Bool.eq_false_iff.1 (by rfl))]
                          exact hK.out _ _ ⟨b0, b1, b2, b3, b4, true, true, b7, b8, b9, b10, b11, b12, b13, b14, b15, b16, b17, b18, b19, b20, b21, b22, b23, b24, b25, b26, b27, b28, b29, b30, b31, b32, x66, x67, x68, x69, x70, .bool false, (undef), x73, x74, x75, x76, x77, x78, x79, x80, x81, x82, x83, x84, x85, x86, x87, x88, x89, x90, x91, x92, x93, x94, x95, x96, x97, x11, (by simp only [Act.put, List.setIfInBounds_toArray, List.set_cons_zero, List.set_cons_succ]), (by simp only [Act.put, List.setIfInBounds_toArray, List.set_cons_zero, List.set_cons_succ]), hb, cd0, cd1, cd2, cd3, cd4, (fun _ => rfl), (fun _ => rfl), cd7, cd8, cd9, cd10, cd11, cd12, cd13, cd14, cd15, cd16, cd17, cd18, cd19, cd20, cd21, cd22, cd23, cd24, cd25, cd26, cd27, cd28, cd29, cd30, cd31, cd32⟩
                        · rintro L a w ⟨b0, b1, b2, b3, b4, b5, b6, b7, b8, b9, b10, b11, b12, b13, b14, b15, b16, b17, b18, b19, b20, b21, b22, b23, b24, b25, b26, b27, b28, b29, b30, b31, b32, x66, x67, x68, x69, x70, x71, x72, x73, x74, x75, x76, x77, x78, x79, x80, x81, x82, x83, x84, x85, x86, x87, x88, x89, x90, x91, x92, x93, x94, x95, x96, x97, x11, rfl, rfl, hb, cd0, cd1, cd2, cd3, cd4, cd5, cd6, cd7, cd8, cd9, cd10, cd11, cd12, cd13, cd14, cd15, cd16, cd17, cd18, cd19, cd20, cd21, cd22, cd23, cd24, cd25, cd26, cd27, cd28, cd29, cd30, cd31, cd32⟩ hf hd
                          have hf' : b7 = false := hf
                          subst hf'
                          have d5 : b5 = true := hd ⟨5, .guard⟩ (by simp) rfl
                          subst d5
                          obtain rfl := cd5.out rfl
                          clear hf hd
                          try simp only [List.setIfInBounds_toArray, List.set_cons_zero, List.set_cons_succ]
                          intro K hK
                          rw [if_neg (Bool.eq_false_iff.1 (by rfl))]
                          exact hK.out _ _ ⟨b0, b1, b2, b3, b4, true, b6, true, b8, b9, b10, b11, b12, b13, b14, b15, b16, b17, b18, b19, b20, b21, b22, b23, b24, b25, b26, b27, b28, b29, b30, b31, b32, x66, x67, x68, x69, x70, .bool false, x72, (undef), x74, x75, x76, x77, x78, x79, x80, x81, x82, x83, x84, x85, x86, x87, x88, x89, x90, x91, x92, x93, x94, x95, x96, x97, x11, (by simp only [Act.put, List.setIfInBounds_toArray, List.set_cons_zero, List.set_cons_succ]), (by simp only [Act.put, List.setIfInBounds_toArray, List.set_cons_zero, List.set_cons_succ]), hb, cd0, cd1, cd2, cd3, cd4, (fun _ => rfl), cd6, (fun _ => rfl), cd8, cd9, cd10, cd11, cd12, cd13, cd14, cd15, cd16, cd17, cd18, cd19, cd20, cd21, cd22, cd23, cd24, cd25, cd26, cd27, cd28, cd29, cd30, cd31, cd32⟩
                        · rintro L a w ⟨b0, b1, b2, b3, b4, b5, b6, b7, b8, b9, b10, b11, b12, b13, b14, b15, b16, b17, b18, b19, b20, b21, b22, b23, b24, b25, b26, b27, b28, b29, b30, b31, b32, x66, x67, x68, x69, x70, x71, x72, x73, x74, x75, x76, x77, x78, x79, x80, x81, x82, x83, x84, x85, x86, x87, x88, x89, x90, x91, x92, x93, x94, x95, x96, x97, x11, rfl, rfl, hb, cd0, cd1, cd2, cd3, cd4, cd5, cd6, cd7, cd8, cd9, cd10, cd11, cd12, cd13, cd14, cd15, cd16, cd17, cd18, cd19, cd20, cd21, cd22, cd23, cd24, cd25, cd26, cd27, cd28, cd29, cd30, cd31, cd32⟩ hf hd
                          have hf' : b8 = false := hf
                          subst hf'
                          have d7 : b7 = true := hd ⟨7, .data⟩ (by simp) rfl
                          subst d7
                          have d5 : b5 = true := hd ⟨5, .guard⟩ (by simp) rfl
                          subst d5
                          obtain rfl := cd7.out rfl
                          obtain rfl := cd5.out rfl
                          clear hf hd
                          try simp only [List.setIfInBounds_toArray, List.set_cons_zero, List.set_cons_succ]
                          intro K hK
                          rw [if_neg (Bool.eq_false_iff.1 (by rfl))]
                          exact hK.out _ _ ⟨b0, b1, b2, b3, b4, true, b6, true, true, b9, b10, b11, b12, b13, b14, b15, b16, b17, b18, b19, b20, b21, b22, b23, b24, b25, b26, b27, b28, b29, b30, b31, b32, x66, x67, x68, x69, x70, .bool false, x72, undef, (undef), x75, x76, x77, x78, x79, x80, x81, x82, x83, x84, x85, x86, x87, x88, x89, x90, x91, x92, x93, x94, x95, x96, x97, x11, (by simp only [Act.put, List.setIfInBounds_toArray, List.set_cons_zero, List.set_cons_succ]), (by simp only [Act.put, List.setIfInBounds_toArray, List.set_cons_zero, List.set_cons_succ]), hb, cd0, cd1, cd2, cd3, cd4, (fun _ => rfl), cd6, (fun _ => rfl), (fun _ => rfl), cd9, cd10, cd11, cd12, cd13, cd14, cd15, cd16, cd17, cd18, cd19, cd20, cd21, cd22, cd23, cd24, cd25, cd26, cd27, cd28, cd29, cd30, cd31, cd32⟩
                        · rintro L a w ⟨b0, b1, b2, b3, b4, b5, b6, b7, b8, b9, b10, b11, b12, b13, b14, b15, b16, b17, b18, b19, b20, b21, b22, b23, b24, b25, b26, b27, b28, b29, b30, b31, b32, x66, x67, x68, x69, x70, x71, x72, x73, x74, x75, x76, x77, x78, x79, x80, x81, x82, x83, x84, x85, x86, x87, x88, x89, x90, x91, x92, x93, x94, x95, x96, x97, x11, rfl, rfl, hb, cd0, cd1, cd2, cd3, cd4, cd5, cd6, cd7, cd8, cd9, cd10, cd11, cd12, cd13, cd14, cd15, cd16, cd17, cd18, cd19, cd20, cd21, cd22, cd23, cd24, cd25, cd26, cd27, cd28, cd29, cd30, cd31, cd32⟩ hf hd
                          have hf' : b9 = false := hf
                          subst hf'
                          have d6 : b6 = true := hd ⟨6, .data⟩ (by simp) rfl
                          subst d6
                          have d8 : b8 = true := hd ⟨8, .data⟩ (by simp) rfl
                          subst d8
                          have d5 : b5 = true := hd ⟨5, .guard⟩ (by simp) rfl
                          subst d5
                          obtain rfl := cd6.out rfl
                          obtain rfl := cd8.out rfl
                          obtain rfl := cd5.out rfl
                          clear hf hd
                          try simp only [List.setIfInBounds_toArray, List.set_cons_zero, List.set_cons_succ]
                          intro K hK
                          rw [if_neg (Bool.eq_false_iff.1 (by rfl))]
                          exact hK.out _ _ ⟨b0, b1, b2, b3, b4, true, true, b7, true, true, b10, b11, b12, b13, b14, b15, b16, b17, b18, b19, b20, b21, b22, b23, b24, b25, b26, b27, b28, b29, b30, b31, b32, x66, x67, x68, x69, x70, .bool false, undef, x73, undef, (undef), x76, x77, x78, x79, x80, x81, x82, x83, x84, x85, x86, x87, x88, x89, x90, x91, x92, x93, x94, x95, x96, x97, x11, (by simp only [Act.put, List.setIfInBounds_toArray, List.set_cons_zero, List.set_cons_succ]), (by simp only [Act.put, List.setIfInBounds_toArray, List.set_cons_zero, List.set_cons_succ]), hb, cd0, cd1, cd2, cd3, cd4, (fun _ => rfl), (fun _ => rfl), cd7, (fun _ => rfl), (fun _ => rfl), cd10, cd11, cd12, cd13, cd14, cd15, cd16, cd17, cd18, cd19, cd20, cd21, cd22, cd23, cd24, cd25, cd26, cd27, cd28, cd29, cd30, cd31, cd32⟩
                        · rintro L a w ⟨b0, b1, b2, b3, b4, b5, b6, b7, b8, b9, b10, b11, b12, b13, b14, b15, b16, b17, b18, b19, b20, b21, b22, b23, b24, b25, b26, b27, b28, b29, b30, b31, b32, x66, x67, x68, x69, x70, x71, x72, x73, x74, x75, x76, x77, x78, x79, x80, x81, x82, x83, x84, x85, x86, x87, x88, x89, x90, x91, x92, x93, x94, x95, x96, x97, x11, rfl, rfl, hb, cd0, cd1, cd2, cd3, cd4, cd5, cd6, cd7, cd8, cd9, cd10, cd11, cd12, cd13, cd14, cd15, cd16, cd17, cd18, cd19, cd20, cd21, cd22, cd23, cd24, cd25, cd26, cd27, cd28, cd29, cd30, cd31, cd32⟩ hf hd
                          have hf' : b10 = false := hf
                          subst hf'
                          have d9 : b9 = true := hd ⟨9, .data⟩ (by simp) rfl
                          subst d9
                          have d5 : b5 = true := hd ⟨5, .guard⟩ (by simp) rfl
                          subst d5
                          obtain rfl := cd9.out rfl
                          obtain rfl := cd5.out rfl
                          clear hf hd
                          try simp only [List.setIfInBounds_toArray, List.set_cons_zero, List.set_cons_succ]
                          intro K hK
                          rw [if_neg (Bool.eq_false_iff.1 (by rfl))]
                          exact hK.out _ _ ⟨b0, b1, b2, b3, b4, true, b6, b7, b8, true, true, b11, b12, b13, b14, b15, b16, b17, b18, b19, b20, b21, b22, b23, b24, b25, b26, b27, b28, b29, b30, b31, b32, x66, x67, x68, x69, x70, .bool false, x72, x73, x74, undef, (undef), x77, x78, x79, x80, x81, x82, x83, x84, x85, x86, x87, x88, x89, x90, x91, x92, x93, x94, x95, x96, x97, x11, (by simp only [Act.put, List.setIfInBounds_toArray, List.set_cons_zero, List.set_cons_succ]), (by simp only [Act.put, List.setIfInBounds_toArray, List.set_cons_zero, List.set_cons_succ]), hb, cd0, cd1, cd2, cd3, cd4, (fun _ => rfl), cd6, cd7, cd8, (fun _ => rfl), (fun _ => rfl), cd11, cd12, cd13, cd14, cd15, cd16, cd17, cd18, cd19, cd20, cd21, cd22, cd23, cd24, cd25, cd26, cd27, cd28, cd29, cd30, cd31, cd32⟩
                        · rintro L a w ⟨b0, b1, b2, b3, b4, b5, b6, b7, b8, b9, b10, b11, b12, b13, b14, b15, b16, b17, b18, b19, b20, b21, b22, b23, b24, b25, b26, b27, b28, b29, b30, b31, b32, x66, x67, x68, x69, x70, x71, x72, x73, x74, x75, x76, x77, x78, x79, x80, x81, x82, x83, x84, x85, x86, x87, x88, x89, x90, x91, x92, x93, x94, x95, x96, x97, x11, rfl, rfl, hb, cd0, cd1, cd2, cd3, cd4, cd5, cd6, cd7, cd8, cd9, cd10, cd11, cd12, cd13, cd14, cd15, cd16, cd17, cd18, cd19, cd20, cd21, cd22, cd23, cd24, cd25, cd26, cd27, cd28, cd29, cd30, cd31, cd32⟩ hf hd
                          have hf' : b11 = false := hf
                          subst hf'
                          have d5 : b5 = true := hd ⟨5, .guard⟩ (by simp) rfl
                          subst d5
                          obtain rfl := cd5.out rfl
                          clear hf hd
                          try simp only [List.setIfInBounds_toArray, List.set_cons_zero, List.set_cons_succ]
                          intro K hK
                          rw [if_neg (Bool.eq_false_iff.1 (by rfl))]
                          exact hK.out _ _ ⟨b0, b1, b2, b3, b4, true, b6, b7, b8, b9, b10, true, b12, b13, b14, b15, b16, b17, b18, b19, b20, b21, b22, b23, b24, b25, b26, b27, b28, b29, b30, b31, b32, x66, x67, x68, x69, x70, .bool false, x72, x73, x74, x75, x76, (undef), x78, x79, x80, x81, x82, x83, x84, x85, x86, x87, x88, x89, x90, x91, x92, x93, x94, x95, x96, x97, x11, (by simp only [Act.put, List.setIfInBounds_toArray, List.set_cons_zero, List.set_cons_succ]), (by simp only [Act.put, List.setIfInBounds_toArray, List.set_cons_zero, List.set_cons_succ]), hb, cd0, cd1, cd2, cd3, cd4, (fun _ => rfl), cd6, cd7, cd8, cd9, cd10, (fun _ => rfl), cd12, cd13, cd14, cd15, cd16, cd17, cd18, cd19, cd20, cd21, cd22, cd23, cd24, cd25, cd26, cd27, cd28, cd29, cd30, cd31, cd32⟩
                        · rintro L a w ⟨b0, b1, b2, b3, b4, b5, b6, b7, b8, b9, b10, b11, b12, b13, b14, b15, b16, b17, b18, b19, b20, b21, b22, b23, b24, b25, b26, b27, b28, b29, b30, b31, b32, x66, x67, x68, x69, x70, x71, x72, x73, x74, x75, x76, x77, x78, x79, x80, x81, x82, x83, x84, x85, x86, x87, x88, x89, x90, x91, x92, x93, x94, x95, x96, x97, x11, rfl, rfl, hb, cd0, cd1, cd2, cd3, cd4, cd5, cd6, cd7, cd8, cd9, cd10, cd11, cd12, cd13, cd14, cd15, cd16, cd17, cd18, cd19, cd20, cd21, cd22, cd23, cd24, cd25, cd26, cd27, cd28, cd29, cd30, cd31, cd32⟩ hf hd
                          have hf' : b12 = false := hf
                          subst hf'
                          have d11 : b11 = true := hd ⟨11, .data⟩ (by simp) rfl
                          subst d11
                          have d5 : b5 = true := hd ⟨5, .guard⟩ (by simp) rfl
                          subst d5
                          obtain rfl := cd11.out rfl
                          obtain rfl := cd5.out rfl
                          clear hf hd
                          try simp only [List.setIfInBounds_toArray, List.set_cons_zero, List.set_cons_succ]
                          intro K hK
                          rw [if_neg (Bool.eq_false_iff.1 (by rfl))]
                          exact hK.out _ _ ⟨b0, b1, b2, b3, b4, true, b6, b7, b8, b9, b10, true, true, b13, b14, b15, b16, b17, b18, b19, b20, b21, b22, b23, b24, b25, b26, b27, b28, b29, b30, b31, b32, x66, x67, x68, x69, x70, .bool false, x72, x73, x74, x75, x76, undef, (undef), x79, x80, x81, x82, x83, x84, x85, x86, x87, x88, x89, x90, x91, x92, x93, x94, x95, x96, x97, x11, (by simp only [Act.put, List.setIfInBounds_toArray, List.set_cons_zero, List.set_cons_succ]), (by simp only [Act.put, List.setIfInBounds_toArray, List.set_cons_zero, List.set_cons_succ]), hb, cd0, cd1, cd2, cd3, cd4, (fun _ => rfl), cd6, cd7, cd8, cd9, cd10, (fun _ => rfl), (fun _ => rfl), cd13, cd14, cd15, cd16, cd17, cd18, cd19, cd20, cd21, cd22, cd23, cd24, cd25, cd26, cd27, cd28, cd29, cd30, cd31, cd32⟩
                        · rintro L a w ⟨b0, b1, b2, b3, b4, b5, b6, b7, b8, b9, b10, b11, b12, b13, b14, b15, b16, b17, b18, b19, b20, b21, b22, b23, b24, b25, b26, b27, b28, b29, b30, b31, b32, x66, x67, x68, x69, x70, x71, x72, x73, x74, x75, x76, x77, x78, x79, x80, x81, x82, x83, x84, x85, x86, x87, x88, x89, x90, x91, x92, x93, x94, x95, x96, x97, x11, rfl, rfl, hb, cd0, cd1, cd2, cd3, cd4, cd5, cd6, cd7, cd8, cd9, cd10, cd11, cd12, cd13, cd14, cd15, cd16, cd17, cd18, cd19, cd20, cd21, cd22, cd23, cd24, cd25, cd26, cd27, cd28, cd29, cd30, cd31, cd32⟩ hf hd
                          have hf' : b13 = false := hf
                          subst hf'
                          have d10 : b10 = true := hd ⟨10, .data⟩ (by simp) rfl
                          subst d10
                          have d12 : b12 = true := hd ⟨12, .data⟩ (by simp) rfl
                          subst d12
                          have d5 : b5 = true := hd ⟨5, .guard⟩ (by simp) rfl
                          subst d5
                          obtain rfl := cd10.out rfl
                          obtain rfl := cd12.out rfl
                          obtain rfl := cd5.out rfl
                          clear hf hd
                          try simp only [List.setIfInBounds_toArray, List.set_cons_zero, List.set_cons_succ]
                          intro K hK
                          rw [if_neg (Bool.eq_false_iff.1 (by rfl))]
                          exact hK.out _ _ ⟨b0, b1, b2, b3, b4, true, b6, b7, b8, b9, true, b11, true, true, b14, b15, b16, b17, b18, b19, b20, b21, b22, b23, b24, b25, b26, b27, b28, b29, b30, b31, b32, x66, x67, x68, x69, x70, .bool false, x72, x73, x74, x75, undef, x77, undef, (undef), x80, x81, x82, x83, x84, x85, x86, x87, x88, x89, x90, x91, x92, x93, x94, x95, x96, x97, x11, (by simp only [Act.put, List.setIfInBounds_toArray, List.set_cons_zero, List.set_cons_succ]), (by simp only [Act.put, List.setIfInBounds_toArray, List.set_cons_zero, List.set_cons_succ]), hb, cd0, cd1, cd2, cd3, cd4, (fun _ => rfl), cd6, cd7, cd8, cd9, (fun _ => rfl), cd11, (fun _ => rfl), (fun _ => rfl), cd14, cd15, cd16, cd17, cd18, cd19, cd20, cd21, cd22, cd23, cd24, cd25, cd26, cd27, cd28, cd29, cd30, cd31, cd32⟩
                        · rintro L a w ⟨b0, b1, b2, b3, b4, b5, b6, b7, b8, b9, b10, b11, b12, b13, b14, b15, b16, b17, b18, b19, b20, b21, b22, b23, b24, b25, b26, b27, b28, b29, b30, b31, b32, x66, x67, x68, x69, x70, x71, x72, x73, x74, x75, x76, x77, x78, x79, x80, x81, x82, x83, x84, x85, x86, x87, x88, x89, x90, x91, x92, x93, x94, x95, x96, x97, x11, rfl, rfl, hb, cd0, cd1, cd2, cd3, cd4, cd5, cd6, cd7, cd8, cd9, cd10, cd11, cd12, cd13, cd14, cd15, cd16, cd17, cd18, cd19, cd20, cd21, cd22, cd23, cd24, cd25, cd26, cd27, cd28, cd29, cd30, cd31, cd32⟩ hf hd
                          have hf' : b14 = false := hf
                          subst hf'
                          have d5 : b5 = true := hd ⟨5, .data⟩ (by simp) rfl
                          subst d5
                          have d13 : b13 = true := hd ⟨13, .data⟩ (by simp) rfl
                          subst d13
                          obtain rfl := cd5.out rfl
                          obtain rfl := cd13.out rfl
                          clear hf hd
                          try simp only [List.setIfInBounds_toArray, List.set_cons_zero, List.set_cons_succ]
                          intro K hK
                          rw [if_pos (by rfl)]
                          go_simp
                          exact hK.out _ _ ⟨b0, b1, b2, b3, b4, true, b6, b7, b8, b9, b10, b11, b12, true, true, b15, b16, b17, b18, b19, b20, b21, b22, b23, b24, b25, b26, b27, b28, b29, b30, b31, b32, x66, x67, x68, x69, x70, .bool false, x72, x73, x74, x75, x76, x77, x78, undef, (.bool false), x81, x82, x83, x84, x85, x86, x87, x88, x89, x90, x91, x92, x93, x94, x95, x96, x97, x11, (by simp only [Act.put, List.setIfInBounds_toArray, List.set_cons_zero, List.set_cons_succ]), (by simp only [Act.put, List.setIfInBounds_toArray, List.set_cons_zero, List.set_cons_succ]), hb, cd0, cd1, cd2, cd3, cd4, (fun _ => rfl), cd6, cd7, cd8, cd9, cd10, cd11, cd12, (fun _ => rfl), (fun _ => rfl), cd15, cd16, cd17, cd18, cd19, cd20, cd21, cd22, cd23, cd24, cd25, cd26, cd27, cd28, cd29, cd30, cd31, cd32⟩
                        · rintro L a w ⟨b0, b1, b2, b3, b4, b5, b6, b7, b8, b9, b10, b11, b12, b13, b14, b15, b16, b17, b18, b19, b20, b21, b22, b23, b24, b25, b26, b27, b28, b29, b30, b31, b32, x66, x67, x68, x69, x70, x71, x72, x73, x74, x75, x76, x77, x78, x79, x80, x81, x82, x83, x84, x85, x86, x87, x88, x89, x90, x91, x92, x93, x94, x95, x96, x97, x11, rfl, rfl, hb, cd0, cd1, cd2, cd3, cd4, cd5, cd6, cd7, cd8, cd9, cd10, cd11, cd12, cd13, cd14, cd15, cd16, cd17, cd18, cd19, cd20, cd21, cd22, cd23, cd24, cd25, cd26, cd27, cd28, cd29, cd30, cd31, cd32⟩ hf hd
                          have hf' : b15 = false := hf
                          subst hf'
                          have d14 : b14 = true := hd ⟨14, .data⟩ (by simp) rfl
                          subst d14
                          have d5 : b5 = true := hd ⟨5, .chain⟩ (by simp) rfl
                          subst d5
                          obtain rfl := cd14.out rfl
                          obtain rfl := cd5.out rfl
                          clear hf hd
                          try simp only [List.setIfInBounds_toArray, List.set_cons_zero, List.set_cons_succ]
                          intro K hK
                          rw [if_pos (by rfl)]
                          go_simp
                          exact hK.out _ _ ⟨b0, b1, b2, b3, b4, true, b6, b7, b8, b9, b10, b11, b12, b13, true, true, b16, b17, b18, b19, b20, b21, b22, b23, b24, b25, b26, b27, b28, b29, b30, b31, b32, x66, x67, x68, x69, x70, .bool false, x72, x73, x74, x75, x76, x77, x78, x79, .bool false, (.bool false), x82, x83, x84, x85, x86, x87, x88, x89, x90, x91, x92, x93, x94, x95, x96, x97, x11, (by simp only [Act.put, List.setIfInBounds_toArray, List.set_cons_zero, List.set_cons_succ]), (by simp only [Act.put, List.setIfInBounds_toArray, List.set_cons_zero, List.set_cons_succ]), hb, cd0, cd1, cd2, cd3, cd4, (fun _ => rfl), cd6, cd7, cd8, cd9, cd10, cd11, cd12, cd13, (fun _ => rfl), (fun _ => rfl), cd16, cd17, cd18, cd19, cd20, cd21, cd22, cd23, cd24, cd25, cd26, cd27, cd28, cd29, cd30, cd31, cd32⟩
                        · rintro L a w ⟨b0, b1, b2, b3, b4, b5, b6, b7, b8, b9, b10, b11, b12, b13, b14, b15, b16, b17, b18, b19, b20, b21, b22, b23, b24, b25, b26, b27, b28, b29, b30, b31, b32, x66, x67, x68, x69, x70, x71, x72, x73, x74, x75, x76, x77, x78, x79, x80, x81, x82, x83, x84, x85, x86, x87, x88, x89, x90, x91, x92, x93, x94, x95, x96, x97, x11, rfl, rfl, hb, cd0, cd1, cd2, cd3, cd4, cd5, cd6, cd7, cd8, cd9, cd10, cd11, cd12, cd13, cd14, cd15, cd16, cd17, cd18, cd19, cd20, cd21, cd22, cd23, cd24, cd25, cd26, cd27, cd28, cd29, cd30, cd31, cd32⟩ hf hd
                          have hf' : b16 = false := hf
                          subst hf'
                          have d15 : b15 = true := hd ⟨15, .guard⟩ (by simp) rfl
                          subst d15
                          obtain rfl := cd15.out rfl
                          clear hf hd
                          try simp only [List.setIfInBounds_toArray, List.set_cons_zero, List.set_cons_succ]
                          intro K hK
                          rw [if_pos (by rfl)]
                          go_simp
                          exact hK.out _ _ ⟨b0, b1, b2, b3, b4, b5, b6, b7, b8, b9, b10, b11, b12, b13, b14, true, true, b17, b18, b19, b20, b21, b22, b23, b24, b25, b26, b27, b28, b29, b30, b31, b32, x66, x67, x68, x69, x70, x71, x72, x73, x74, x75, x76, x77, x78, x79, x80, .bool false, (.slice (some ⟨gy, 0, none⟩) lY lY), x83, x84, x85, x86, x87, x88, x89, x90, x91, x92, x93, x94, x95, x96, x97, x11, (by simp only [Act.put, List.setIfInBounds_toArray, List.set_cons_zero, List.set_cons_succ]), (by simp only [Act.put, List.setIfInBounds_toArray, List.set_cons_zero, List.set_cons_succ]), hb, cd0, cd1, cd2, cd3, cd4, cd5, cd6, cd7, cd8, cd9, cd10, cd11, cd12, cd13, cd14, (fun _ => rfl), (fun _ => rfl), cd17, cd18, cd19, cd20, cd21, cd22, cd23, cd24, cd25, cd26, cd27, cd28, cd29, cd30, cd31, cd32⟩
                        · rintro L a w ⟨b0, b1, b2, b3, b4, b5, b6, b7, b8, b9, b10, b11, b12, b13, b14, b15, b16, b17, b18, b19, b20, b21, b22, b23, b24, b25, b26, b27, b28, b29, b30, b31, b32, x66, x67, x68, x69, x70, x71, x72, x73, x74, x75, x76, x77, x78, x79, x80, x81, x82, x83, x84, x85, x86, x87, x88, x89, x90, x91, x92, x93, x94, x95, x96, x97, x11, rfl, rfl, hb, cd0, cd1, cd2, cd3, cd4, cd5, cd6, cd7, cd8, cd9, cd10, cd11, cd12, cd13, cd14, cd15, cd16, cd17, cd18, cd19, cd20, cd21, cd22, cd23, cd24, cd25, cd26, cd27, cd28, cd29, cd30, cd31, cd32⟩ hf hd
                          have hf' : b17 = false := hf
                          subst hf'
                          have d16 : b16 = true := hd ⟨16, .data⟩ (by simp) rfl
                          subst d16
                          have d15 : b15 = true := hd ⟨15, .guard⟩ (by simp) rfl
                          subst d15
                          obtain rfl := cd16.out rfl
                          obtain rfl := cd15.out rfl
                          clear hf hd
                          try simp only [List.setIfInBounds_toArray, List.set_cons_zero, List.set_cons_succ]
                          intro K hK
                          rw [if_pos (by rfl)]
                          go_simp
                          exact hK.out _ _ ⟨b0, b1, b2, b3, b4, b5, b6, b7, b8, b9, b10, b11, b12, b13, b14, true, true, true, b18, b19, b20, b21, b22, b23, b24, b25, b26, b27, b28, b29, b30, b31, b32, x66, x67, x68, x69, x70, x71, x72, x73, x74, x75, x76, x77, x78, x79, x80, .bool false, .slice (some ⟨gy, 0, none⟩) lY lY, (.int .i64 (lY : Nat)), x84, x85, x86, x87, x88, x89, x90, x91, x92, x93, x94, x95, x96, x97, x11, (by simp only [Act.put, List.setIfInBounds_toArray, List.set_cons_zero, List.set_cons_succ]), (by simp only [Act.put, List.setIfInBounds_toArray, List.set_cons_zero, List.set_cons_succ]), hb, cd0, cd1, cd2, cd3, cd4, cd5, cd6, cd7, cd8, cd9, cd10, cd11, cd12, cd13, cd14, (fun _ => rfl), (fun _ => rfl), (fun _ => rfl), cd18, cd19, cd20, cd21, cd22, cd23, cd24, cd25, cd26, cd27, cd28, cd29, cd30, cd31, cd32⟩
                        · rintro L a w ⟨b0, b1, b2, b3, b4, b5, b6, b7, b8, b9, b10, b11, b12, b13, b14, b15, b16, b17, b18, b19, b20, b21, b22, b23, b24, b25, b26, b27, b28, b29, b30, b31, b32, x66, x67, x68, x69, x70, x71, x72, x73, x74, x75, x76, x77, x78, x79, x80, x81, x82, x83, x84, x85, x86, x87, x88, x89, x90, x91, x92, x93, x94, x95, x96, x97, x11, rfl, rfl, hb, cd0, cd1, cd2, cd3, cd4, cd5, cd6, cd7, cd8, cd9, cd10, cd11, cd12, cd13, cd14, cd15, cd16, cd17, cd18, cd19, cd20, cd21, cd22, cd23, cd24, cd25, cd26, cd27, cd28, cd29, cd30, cd31, cd32⟩ hf hd
                          have hf' : b18 = false := hf
                          subst hf'
                          have d15 : b15 = true := hd ⟨15, .guard⟩ (by simp) rfl
                          subst d15
                          obtain rfl := cd15.out rfl
                          clear hf hd
                          try simp only [List.setIfInBounds_toArray, List.set_cons_zero, List.set_cons_succ]
                          intro K hK
                          rw [if_pos (by rfl)]
                          go_simp
                          exact hK.out _ _ ⟨b0, b1, b2, b3, b4, b5, b6, b7, b8, b9, b10, b11, b12, b13, b14, true, b16, b17, true, b19, b20, b21, b22, b23, b24, b25, b26, b27, b28, b29, b30, b31, b32, x66, x67, x68, x69, x70, x71, x72, x73, x74, x75, x76, x77, x78, x79, x80, .bool false, x82, x83, (.slice (some ⟨gx, 0, none⟩) lX lX), x85, x86, x87, x88, x89, x90, x91, x92, x93, x94, x95, x96, x97, x11, (by simp only [Act.put, List.setIfInBounds_toArray, List.set_cons_zero, List.set_cons_succ]), (by simp only [Act.put, List.setIfInBounds_toArray, List.set_cons_zero, List.set_cons_succ]), hb, cd0, cd1, cd2, cd3, cd4, cd5, cd6, cd7, cd8, cd9, cd10, cd11, cd12, cd13, cd14, (fun _ => rfl), cd16, cd17, (fun _ => rfl), cd19, cd20, cd21, cd22, cd23, cd24, cd25, cd26, cd27, cd28, cd29, cd30, cd31, cd32⟩
                        · rintro L a w ⟨b0, b1, b2, b3, b4, b5, b6, b7, b8, b9, b10, b11, b12, b13, b14, b15, b16, b17, b18, b19, b20, b21, b22, b23, b24, b25, b26, b27, b28, b29, b30, b31, b32, x66, x67, x68, x69, x70, x71, x72, x73, x74, x75, x76, x77, x78, x79, x80, x81, x82, x83, x84, x85, x86, x87, x88, x89, x90, x91, x92, x93, x94, x95, x96, x97, x11, rfl, rfl, hb, cd0, cd1, cd2, cd3, cd4, cd5, cd6, cd7, cd8, cd9, cd10, cd11, cd12, cd13, cd14, cd15, cd16, cd17, cd18, cd19, cd20, cd21, cd22, cd23, cd24, cd25, cd26, cd27, cd28, cd29, cd30, cd31, cd32⟩ hf hd
                          have hf' : b19 = false := hf
                          subst hf'
                          have d18 : b18 = true := hd ⟨18, .data⟩ (by simp) rfl
                          subst d18
                          have d15 : b15 = true := hd ⟨15, .guard⟩ (by simp) rfl
                          subst d15
                          obtain rfl := cd18.out rfl
                          obtain rfl := cd15.out rfl
                          clear hf hd
                          try simp only [List.setIfInBounds_toArray, List.set_cons_zero, List.set_cons_succ]
                          intro K hK
                          rw [if_pos (by rfl)]
                          go_simp
                          exact hK.out _ _ ⟨b0, b1, b2, b3, b4, b5, b6, b7, b8, b9, b10, b11, b12, b13, b14, true, b16, b17, true, true, b20, b21, b22, b23, b24, b25, b26, b27, b28, b29, b30, b31, b32, x66, x67, x68, x69, x70, x71, x72, x73, x74, x75, x76, x77, x78, x79, x80, .bool false, x82, x83, .slice (some ⟨gx, 0, none⟩) lX lX, (.int .i64 (lX : Nat)), x86, x87, x88, x89, x90, x91, x92, x93, x94, x95, x96, x97, x11, (by simp only [Act.put, List.setIfInBounds_toArray, List.set_cons_zero, List.set_cons_succ]), (by simp only [Act.put, List.setIfInBounds_toArray, List.set_cons_zero, List.set_cons_succ]), hb, cd0, cd1, cd2, cd3, cd4, cd5, cd6, cd7, cd8, cd9, cd10, cd11, cd12, cd13, cd14, (fun _ => rfl), cd16, cd17, (fun _ => rfl), (fun _ => rfl), cd20, cd21, cd22, cd23, cd24, cd25, cd26, cd27, cd28, cd29, cd30, cd31, cd32⟩
                        · rintro L a w ⟨b0, b1, b2, b3, b4, b5, b6, b7, b8, b9, b10, b11, b12, b13, b14, b15, b16, b17, b18, b19, b20, b21, b22, b23, b24, b25, b26, b27, b28, b29, b30, b31, b32, x66, x67, x68, x69, x70, x71, x72, x73, x74, x75, x76, x77, x78, x79, x80, x81, x82, x83, x84, x85, x86, x87, x88, x89, x90, x91, x92, x93, x94, x95, x96, x97, x11, rfl, rfl, hb, cd0, cd1, cd2, cd3, cd4, cd5, cd6, cd7, cd8, cd9, cd10, cd11, cd12, cd13, cd14, cd15, cd16, cd17, cd18, cd19, cd20, cd21, cd22, cd23, cd24, cd25, cd26, cd27, cd28, cd29, cd30, cd31, cd32⟩ hf hd
                          have hf' : b20 = false := hf
                          subst hf'
                          have d17 : b17 = true := hd ⟨17, .data⟩ (by simp) rfl
                          subst d17
                          have d19 : b19 = true := hd ⟨19, .data⟩ (by simp) rfl
                          subst d19
                          have d15 : b15 = true := hd ⟨15, .guard⟩ (by simp) rfl
                          subst d15
                          obtain rfl := cd17.out rfl
                          obtain rfl := cd19.out rfl
                          obtain rfl := cd15.out rfl
                          clear hf hd
                          try simp only [List.setIfInBounds_toArray, List.set_cons_zero, List.set_cons_succ]
                          intro K hK
                          rw [if_pos (by rfl)]
                          go_simp
                          exact hK.out _ _ ⟨b0, b1, b2, b3, b4, b5, b6, b7, b8, b9, b10, b11, b12, b13, b14, true, b16, true, b18, true, true, b21, b22, b23, b24, b25, b26, b27, b28, b29, b30, b31, b32, x66, x67, x68, x69, x70, x71, x72, x73, x74, x75, x76, x77, x78, x79, x80, .bool false, x82, .int .i64 (lY : Nat), x84, .int .i64 (lX : Nat), (.bool false), x87, x88, x89, x90, x91, x92, x93, x94, x95, x96, x97, x11, (by simp only [Act.put, List.setIfInBounds_toArray, List.set_cons_zero, List.set_cons_succ]), (by simp only [Act.put, List.setIfInBounds_toArray, List.set_cons_zero, List.set_cons_succ]), hb, cd0, cd1, cd2, cd3, cd4, cd5, cd6, cd7, cd8, cd9, cd10, cd11, cd12, cd13, cd14, (fun _ => rfl), cd16, (fun _ => rfl), cd18, (fun _ => rfl), (fun _ => rfl), cd21, cd22, cd23, cd24, cd25, cd26, cd27, cd28, cd29, cd30, cd31, cd32⟩
                        · rintro L a w ⟨b0, b1, b2, b3, b4, b5, b6, b7, b8, b9, b10, b11, b12, b13, b14, b15, b16, b17, b18, b19, b20, b21, b22, b23, b24, b25, b26, b27, b28, b29, b30, b31, b32, x66, x67, x68, x69, x70, x71, x72, x73, x74, x75, x76, x77, x78, x79, x80, x81, x82, x83, x84, x85, x86, x87, x88, x89, x90, x91, x92, x93, x94, x95, x96, x97, x11, rfl, rfl, hb, cd0, cd1, cd2, cd3, cd4, cd5, cd6, cd7, cd8, cd9, cd10, cd11, cd12, cd13, cd14, cd15, cd16, cd17, cd18, cd19, cd20, cd21, cd22, cd23, cd24, cd25, cd26, cd27, cd28, cd29, cd30, cd31, cd32⟩ hf hd
                          have hf' : b21 = false := hf
                          subst hf'
                          have d20 : b20 = true := hd ⟨20, .data⟩ (by simp) rfl
                          subst d20
                          have d15 : b15 = true := hd ⟨15, .chain⟩ (by simp) rfl
                          subst d15
                          obtain rfl := cd20.out rfl
                          obtain rfl := cd15.out rfl
                          clear hf hd
                          try simp only [List.setIfInBounds_toArray, List.set_cons_zero, List.set_cons_succ]
                          intro K hK
                          rw [if_pos (by rfl)]
                          go_simp
                          exact hK.out _ _ ⟨b0, b1, b2, b3, b4, b5, b6, b7, b8, b9, b10, b11, b12, b13, b14, true, b16, b17, b18, b19, true, true, b22, b23, b24, b25, b26, b27, b28, b29, b30, b31, b32, x66, x67, x68, x69, x70, x71, x72, x73, x74, x75, x76, x77, x78, x79, x80, .bool false, x82, x83, x84, x85, .bool false, (.bool false), x88, x89, x90, x91, x92, x93, x94, x95, x96, x97, x11, (by simp only [Act.put, List.setIfInBounds_toArray, List.set_cons_zero, List.set_cons_succ]), (by simp only [Act.put, List.setIfInBounds_toArray, List.set_cons_zero, List.set_cons_succ]), hb, cd0, cd1, cd2, cd3, cd4, cd5, cd6, cd7, cd8, cd9, cd10, cd11, cd12, cd13, cd14, (fun _ => rfl), cd16, cd17, cd18, cd19, (fun _ => rfl), (fun _ => rfl), cd22, cd23, cd24, cd25, cd26, cd27, cd28, cd29, cd30, cd31, cd32⟩
                        · rintro L a w ⟨b0, b1, b2, b3, b4, b5, b6, b7, b8, b9, b10, b11, b12, b13, b14, b15, b16, b17, b18, b19, b20, b21, b22, b23, b24, b25, b26, b27, b28, b29, b30, b31, b32, x66, x67, x68, x69, x70, x71, x72, x73, x74, x75, x76, x77, x78, x79, x80, x81, x82, x83, x84, x85, x86, x87, x88, x89, x90, x91, x92, x93, x94, x95, x96, x97, x11, rfl, rfl, hb, cd0, cd1, cd2, cd3, cd4, cd5, cd6, cd7, cd8, cd9, cd10, cd11, cd12, cd13, cd14, cd15, cd16, cd17, cd18, cd19, cd20, cd21, cd22, cd23, cd24, cd25, cd26, cd27, cd28, cd29, cd30, cd31, cd32⟩ hf hd
                          have hf' : b22 = false := hf
                          subst hf'
                          have d21 : b21 = true := hd ⟨21, .guard⟩ (by simp) rfl
                          subst d21
                          obtain rfl := cd21.out rfl
                          clear hf hd
                          try simp only [List.setIfInBounds_toArray, List.set_cons_zero, List.set_cons_succ]
                          intro K hK
                          rw [if_neg (Bool.eq_false_iff.1 (by rfl))]
                          exact hK.out _ _ ⟨b0, b1, b2, b3, b4, b5, b6, b7, b8, b9, b10, b11, b12, b13, b14, b15, b16, b17, b18, b19, b20, true, true, b23, b24, b25, b26, b27, b28, b29, b30, b31, b32, x66, x67, x68, x69, x70, x71, x72, x73, x74, x75, x76, x77, x78, x79, x80, x81, x82, x83, x84, x85, x86, .bool false, (undef), x89, x90, x91, x92, x93, x94, x95, x96, x97, x11, (by simp only [Act.put, List.setIfInBounds_toArray, List.set_cons_zero, List.set_cons_succ]), (by simp only [Act.put, List.setIfInBounds_toArray, List.set_cons_zero, List.set_cons_succ]), hb, cd0, cd1, cd2, cd3, cd4, cd5, cd6, cd7, cd8, cd9, cd10, cd11, cd12, cd13, cd14, cd15, cd16, cd17, cd18, cd19, cd20, (fun _ => rfl), (fun _ => rfl), cd23, cd24, cd25, cd26, cd27, cd28, cd29, cd30, cd31, cd32⟩
                        · rintro L a w ⟨b0, b1, b2, b3, b4, b5, b6, b7, b8, b9, b10, b11, b12, b13, b14, b15, b16, b17, b18, b19, b20, b21, b22, b23, b24, b25, b26, b27, b28, b29, b30, b31, b32, x66, x67, x68, x69, x70, x71, x72, x73, x74, x75, x76, x77, x78, x79, x80, x81, x82, x83, x84, x85, x86, x87, x88, x89, x90, x91, x92, x93, x94, x95, x96, x97, x11, rfl, rfl, hb, cd0, cd1, cd2, cd3, cd4, cd5, cd6, cd7, cd8, cd9, cd10, cd11, cd12, cd13, cd14, cd15, cd16, cd17, cd18, cd19, cd20, cd21, cd22, cd23, cd24, cd25, cd26, cd27, cd28, cd29, cd30, cd31, cd32⟩ hf hd
                          have hf' : b23 = false := hf
                          subst hf'
                          have d21 : b21 = true := hd ⟨21, .guard⟩ (by simp) rfl
                          subst d21
                          obtain rfl := cd21.out rfl
                          clear hf hd
                          try simp only [List.setIfInBounds_toArray, List.set_cons_zero, List.set_cons_succ]
                          intro K hK
                          rw [if_neg (Bool.eq_false_iff.1 (by rfl))]
                          exact hK.out _ _ ⟨b0, b1, b2, b3, b4, b5, b6, b7, b8, b9, b10, b11, b12, b13, b14, b15, b16, b17, b18, b19, b20, true, b22, true, b24, b25, b26, b27, b28, b29, b30, b31, b32, x66, x67, x68, x69, x70, x71, x72, x73, x74, x75, x76, x77, x78, x79, x80, x81, x82, x83, x84, x85, x86, .bool false, x88, (undef), x90, x91, x92, x93, x94, x95, x96, x97, x11, (by simp only [Act.put, List.setIfInBounds_toArray, List.set_cons_zero, List.set_cons_succ]), (by simp only [Act.put, List.setIfInBounds_toArray, List.set_cons_zero, List.set_cons_succ]), hb, cd0, cd1, cd2, cd3, cd4, cd5, cd6, cd7, cd8, cd9, cd10, cd11, cd12, cd13, cd14, cd15, cd16, cd17, cd18, cd19, cd20, (fun _ => rfl), cd22, (fun _ => rfl), cd24, cd25, cd26, cd27, cd28, cd29, cd30, cd31, cd32⟩
                        · rintro L a w ⟨b0, b1, b2, b3, b4, b5, b6, b7, b8, b9, b10, b11, b12, b13, b14, b15, b16, b17, b18, b19, b20, b21, b22, b23, b24, b25, b26, b27, b28, b29, b30, b31, b32, x66, x67, x68, x69, x70, x71, x72, x73, x74, x75, x76, x77, x78, x79, x80, x81, x82, x83, x84, x85, x86, x87, x88, x89, x90, x91, x92, x93, x94, x95, x96, x97, x11, rfl, rfl, hb, cd0, cd1, cd2, cd3, cd4, cd5, cd6, cd7, cd8, cd9, cd10, cd11, cd12, cd13, cd14, cd15, cd16, cd17, cd18, cd19, cd20, cd21, cd22, cd23, cd24, cd25, cd26, cd27, cd28, cd29, cd30, cd31, cd32⟩ hf hd
                          have hf' : b24 = false := hf
                          subst hf'
                          have d23 : b23 = true := hd ⟨23, .data⟩ (by simp) rfl
                          subst d23
                          have d21 : b21 = true := hd ⟨21, .guard⟩ (by simp) rfl
                          subst d21
                          obtain rfl := cd23.out rfl
                          obtain rfl := cd21.out rfl
                          clear hf hd
                          try simp only [List.setIfInBounds_toArray, List.set_cons_zero, List.set_cons_succ]
                          intro K hK
                          rw [if_neg (Bool.eq_false_iff.1 (by rfl))]
                          exact hK.out _ _ ⟨b0, b1, b2, b3, b4, b5, b6, b7, b8, b9, b10, b11, b12, b13, b14, b15, b16, b17, b18, b19, b20, true, b22, true, true, b25, b26, b27, b28, b29, b30, b31, b32, x66, x67, x68, x69, x70, x71, x72, x73, x74, x75, x76, x77, x78, x79, x80, x81, x82, x83, x84, x85, x86, .bool false, x88, undef, (undef), x91, x92, x93, x94, x95, x96, x97, x11, (by simp only [Act.put, List.setIfInBounds_toArray, List.set_cons_zero, List.set_cons_succ]), (by simp only [Act.put, List.setIfInBounds_toArray, List.set_cons_zero, List.set_cons_succ]), hb, cd0, cd1, cd2, cd3, cd4, cd5, cd6, cd7, cd8, cd9, cd10, cd11, cd12, cd13, cd14, cd15, cd16, cd17, cd18, cd19, cd20, (fun _ => rfl), cd22, (fun _ => rfl), (fun _ => rfl), cd25, cd26, cd27, cd28, cd29, cd30, cd31, cd32⟩
                        · rintro L a w ⟨b0, b1, b2, b3, b4, b5, b6, b7, b8, b9, b10, b11, b12, b13, b14, b15, b16, b17, b18, b19, b20, b21, b22, b23, b24, b25, b26, b27, b28, b29, b30, b31, b32, x66, x67, x68, x69, x70, x71, x72, x73, x74, x75, x76, x77, x78, x79, x80, x81, x82, x83, x84, x85, x86, x87, x88, x89, x90, x91, x92, x93, x94, x95, x96, x97, x11, rfl, rfl, hb, cd0, cd1, cd2, cd3, cd4, cd5, cd6, cd7, cd8, cd9, cd10, cd11, cd12, cd13, cd14, cd15, cd16, cd17, cd18, cd19, cd20, cd21, cd22, cd23, cd24, cd25, cd26, cd27, cd28, cd29, cd30, cd31, cd32⟩ hf hd
                          have hf' : b25 = false := hf
                          subst hf'
                          have d22 : b22 = true := hd ⟨22, .data⟩ (by simp) rfl
                          subst d22
                          have d24 : b24 = true := hd ⟨24, .data⟩ (by simp) rfl
                          subst d24
                          have d21 : b21 = true := hd ⟨21, .guard⟩ (by simp) rfl
                          subst d21
                          obtain rfl := cd22.out rfl
                          obtain rfl := cd24.out rfl
                          obtain rfl := cd21.out rfl
                          clear hf hd
                          try simp only [List.setIfInBounds_toArray, List.set_cons_zero, List.set_cons_succ]
                          intro K hK
                          rw [if_neg (Bool.eq_false_iff.1 (by rfl))]
                          exact hK.out _ _ ⟨b0, b1, b2, b3, b4, b5, b6, b7, b8, b9, b10, b11, b12, b13, b14, b15, b16, b17, b18, b19, b20, true, true, b23, true, true, b26, b27, b28, b29, b30, b31, b32, x66, x67, x68, x69, x70, x71, x72, x73, x74, x75, x76, x77, x78, x79, x80, x81, x82, x83, x84, x85, x86, .bool false, undef, x89, undef, (undef), x92, x93, x94, x95, x96, x97, x11, (by simp only [Act.put, List.setIfInBounds_toArray, List.set_cons_zero, List.set_cons_succ]), (by simp only [Act.put, List.setIfInBounds_toArray, List.set_cons_zero, List.set_cons_succ]), hb, cd0, cd1, cd2, cd3, cd4, cd5, cd6, cd7, cd8, cd9, cd10, cd11, cd12, cd13, cd14, cd15, cd16, cd17, cd18, cd19, cd20, (fun _ => rfl), (fun _ => rfl), cd23, (fun _ => rfl), (fun _ => rfl), cd26, cd27, cd28, cd29, cd30, cd31, cd32⟩
                        · rintro L a w ⟨b0, b1, b2, b3, b4, b5, b6, b7, b8, b9, b10, b11, b12, b13, b14, b15, b16, b17, b18, b19, b20, b21, b22, b23, b24, b25, b26, b27, b28, b29, b30, b31, b32, x66, x67, x68, x69, x70, x71, x72, x73, x74, x75, x76, x77, x78, x79, x80, x81, x82, x83, x84, x85, x86, x87, x88, x89, x90, x91, x92, x93, x94, x95, x96, x97, x11, rfl, rfl, hb, cd0, cd1, cd2, cd3, cd4, cd5, cd6, cd7, cd8, cd9, cd10, cd11, cd12, cd13, cd14, cd15, cd16, cd17, cd18, cd19, cd20, cd21, cd22, cd23, cd24, cd25, cd26, cd27, cd28, cd29, cd30, cd31, cd32⟩ hf hd
                          have hf' : b26 = false := hf
                          subst hf'
                          have d25 : b25 = true := hd ⟨25, .data⟩ (by simp) rfl
                          subst d25
                          have d21 : b21 = true := hd ⟨21, .guard⟩ (by simp) rfl
                          subst d21
                          obtain rfl := cd25.out rfl
                          obtain rfl := cd21.out rfl
                          clear hf hd
                          try simp only [List.setIfInBounds_toArray, List.set_cons_zero, List.set_cons_succ]
                          intro K hK
                          rw [if_neg (Bool.eq_false_iff.1 (by rfl))]
                          exact hK.out _ _ ⟨b0, b1, b2, b3, b4, b5, b6, b7, b8, b9, b10, b11, b12, b13, b14, b15, b16, b17, b18, b19, b20, true, b22, b23, b24, true, true, b27, b28, b29, b30, b31, b32, x66, x67, x68, x69, x70, x71, x72, x73, x74, x75, x76, x77, x78, x79, x80, x81, x82, x83, x84, x85, x86, .bool false, x88, x89, x90, undef, (undef), x93, x94, x95, x96, x97, x11, (by simp only [Act.put, List.setIfInBounds_toArray, List.set_cons_zero, List.set_cons_succ]), (by simp only [Act.put, List.setIfInBounds_toArray, List.set_cons_zero, List.set_cons_succ]), hb, cd0, cd1, cd2, cd3, cd4, cd5, cd6, cd7, cd8, cd9, cd10, cd11, cd12, cd13, cd14, cd15, cd16, cd17, cd18, cd19, cd20, (fun _ => rfl), cd22, cd23, cd24, (fun _ => rfl), (fun _ => rfl), cd27, cd28, cd29, cd30, cd31, cd32⟩
                        · rintro L a w ⟨b0, b1, b2, b3, b4, b5, b6, b7, b8, b9, b10, b11, b12, b13, b14, b15, b16, b17, b18, b19, b20, b21, b22, b23, b24, b25, b26, b27, b28, b29, b30, b31, b32, x66, x67, x68, x69, x70, x71, x72, x73, x74, x75, x76, x77, x78, x79, x80, x81, x82, x83, x84, x85, x86, x87, x88, x89, x90, x91, x92, x93, x94, x95, x96, x97, x11, rfl, rfl, hb, cd0, cd1, cd2, cd3, cd4, cd5, cd6, cd7, cd8, cd9, cd10, cd11, cd12, cd13, cd14, cd15, cd16, cd17, cd18, cd19, cd20, cd21, cd22, cd23, cd24, cd25, cd26, cd27, cd28, cd29, cd30, cd31, cd32⟩ hf hd
                          have hf' : b27 = false := hf
                          subst hf'
                          have d21 : b21 = true := hd ⟨21, .guard⟩ (by simp) rfl
                          subst d21
                          obtain rfl := cd21.out rfl
                          clear hf hd
                          try simp only [List.setIfInBounds_toArray, List.set_cons_zero, List.set_cons_succ]
                          intro K hK
                          rw [if_neg (Bool.eq_false_iff.1 (by rfl))]
                          exact hK.out _ _ ⟨b0, b1, b2, b3, b4, b5, b6, b7, b8, b9, b10, b11, b12, b13, b14, b15, b16, b17, b18, b19, b20, true, b22, b23, b24, b25, b26, true, b28, b29, b30, b31, b32, x66, x67, x68, x69, x70, x71, x72, x73, x74, x75, x76, x77, x78, x79, x80, x81, x82, x83, x84, x85, x86, .bool false, x88, x89, x90, x91, x92, (undef), x94, x95, x96, x97, x11, (by simp only [Act.put, List.setIfInBounds_toArray, List.set_cons_zero, List.set_cons_succ]), (by simp only [Act.put, List.setIfInBounds_toArray, List.set_cons_zero, List.set_cons_succ]), hb, cd0, cd1, cd2, cd3, cd4, cd5, cd6, cd7, cd8, cd9, cd10, cd11, cd12, cd13, cd14, cd15, cd16, cd17, cd18, cd19, cd20, (fun _ => rfl), cd22, cd23, cd24, cd25, cd26, (fun _ => rfl), cd28, cd29, cd30, cd31, cd32⟩
                        · rintro L a w ⟨b0, b1, b2, b3, b4, b5, b6, b7, b8, b9, b10, b11, b12, b13, b14, b15, b16, b17, b18, b19, b20, b21, b22, b23, b24, b25, b26, b27, b28, b29, b30, b31, b32, x66, x67, x68, x69, x70, x71, x72, x73, x74, x75, x76, x77, x78, x79, x80, x81, x82, x83, x84, x85, x86, x87, x88, x89, x90, x91, x92, x93, x94, x95, x96, x97, x11, rfl, rfl, hb, cd0, cd1, cd2, cd3, cd4, cd5, cd6, cd7, cd8, cd9, cd10, cd11, cd12, cd13, cd14, cd15, cd16, cd17, cd18, cd19, cd20, cd21, cd22, cd23, cd24, cd25, cd26, cd27, cd28, cd29, cd30, cd31, cd32⟩ hf hd
                          have hf' : b28 = false := hf
                          subst hf'
                          have d27 : b27 = true := hd ⟨27, .data⟩ (by simp) rfl
                          subst d27
                          have d21 : b21 = true := hd ⟨21, .guard⟩ (by simp) rfl
                          subst d21
                          obtain rfl := cd27.out rfl
                          obtain rfl := cd21.out rfl
                          clear hf hd
                          try simp only [List.setIfInBounds_toArray, List.set_cons_zero, List.set_cons_succ]
                          intro K hK
                          rw [if_neg (Bool.eq_false_iff.1 (by rfl))]
                          exact hK.out _ _ ⟨b0, b1, b2, b3, b4, b5, b6, b7, b8, b9, b10, b11, b12, b13, b14, b15, b16, b17, b18, b19, b20, true, b22, b23, b24, b25, b26, true, true, b29, b30, b31, b32, x66, x67, x68, x69, x70, x71, x72, x73, x74, x75, x76, x77, x78, x79, x80, x81, x82, x83, x84, x85, x86, .bool false, x88, x89, x90, x91, x92, undef, (undef), x95, x96, x97, x11, (by simp only [Act.put, List.setIfInBounds_toArray, List.set_cons_zero, List.set_cons_succ]), (by simp only [Act.put, List.setIfInBounds_toArray, List.set_cons_zero, List.set_cons_succ]), hb, cd0, cd1, cd2, cd3, cd4, cd5, cd6, cd7, cd8, cd9, cd10, cd11, cd12, cd13, cd14, cd15, cd16, cd17, cd18, cd19, cd20, (fun _ => rfl), cd22, cd23, cd24, cd25, cd26, (fun _ => rfl), (fun _ => rfl), cd29, cd30, cd31, cd32⟩
                        · rintro L a w ⟨b0, b1, b2, b3, b4, b5, b6, b7, b8, b9, b10, b11, b12, b13, b14, b15, b16, b17, b18, b19, b20, b21, b22, b23, b24, b25, b26, b27, b28, b29, b30, b31, b32, x66, x67, x68, x69, x70, x71, x72, x73, x74, x75, x76, x77, x78, x79, x80, x81, x82, x83, x84, x85, x86, x87, x88, x89, x90, x91, x92, x93, x94, x95, x96, x97, x11, rfl, rfl, hb, cd0, cd1, cd2, cd3, cd4, cd5, cd6, cd7, cd8, cd9, cd10, cd11, cd12, cd13, cd14, cd15, cd16, cd17, cd18, cd19, cd20, cd21, cd22, cd23, cd24, cd25, cd26, cd27, cd28, cd29, cd30, cd31, cd32⟩ hf hd
                          have hf' : b29 = false := hf
                          subst hf'
                          have d26 : b26 = true := hd ⟨26, .data⟩ (by simp) rfl
                          subst d26
                          have d28 : b28 = true := hd ⟨28, .data⟩ (by simp) rfl
                          subst d28
                          have d21 : b21 = true := hd ⟨21, .guard⟩ (by simp) rfl
                          subst d21
                          obtain rfl := cd26.out rfl
                          obtain rfl := cd28.out rfl
                          obtain rfl := cd21.out rfl
                          clear hf hd
                          try simp only [List.setIfInBounds_toArray, List.set_cons_zero, List.set_cons_succ]
                          intro K hK
                          rw [if_neg (Bool.eq_false_iff.1 (by rfl))]
                          exact hK.out _ _ ⟨b0, b1, b2, b3, b4, b5, b6, b7, b8, b9, b10, b11, b12, b13, b14, b15, b16, b17, b18, b19, b20, true, b22, b23, b24, b25, true, b27, true, true, b30, b31, b32, x66, x67, x68, x69, x70, x71, x72, x73, x74, x75, x76, x77, x78, x79, x80, x81, x82, x83, x84, x85, x86, .bool false, x88, x89, x90, x91, undef, x93, undef, (undef), x96, x97, x11, (by simp only [Act.put, List.setIfInBounds_toArray, List.set_cons_zero, List.set_cons_succ]), (by simp only [Act.put, List.setIfInBounds_toArray, List.set_cons_zero, List.set_cons_succ]), hb, cd0, cd1, cd2, cd3, cd4, cd5, cd6, cd7, cd8, cd9, cd10, cd11, cd12, cd13, cd14, cd15, cd16, cd17, cd18, cd19, cd20, (fun _ => rfl), cd22, cd23, cd24, cd25, (fun _ => rfl), cd27, (fun _ => rfl), (fun _ => rfl), cd30, cd31, cd32⟩
                        · rintro L a w ⟨b0, b1, b2, b3, b4, b5, b6, b7, b8, b9, b10, b11, b12, b13, b14, b15, b16, b17, b18, b19, b20, b21, b22, b23, b24, b25, b26, b27, b28, b29, b30, b31, b32, x66, x67, x68, x69, x70, x71, x72, x73, x74, x75, x76, x77, x78, x79, x80, x81, x82, x83, x84, x85, x86, x87, x88, x89, x90, x91, x92, x93, x94, x95, x96, x97, x11, rfl, rfl, hb, cd0, cd1, cd2, cd3, cd4, cd5, cd6, cd7, cd8, cd9, cd10, cd11, cd12, cd13, cd14, cd15, cd16, cd17, cd18, cd19, cd20, cd21, cd22, cd23, cd24, cd25, cd26, cd27, cd28, cd29, cd30, cd31, cd32⟩ hf hd
                          have hf' : b30 = false := hf
                          subst hf'
                          have d21 : b21 = true := hd ⟨21, .data⟩ (by simp) rfl
                          subst d21
                          have d29 : b29 = true := hd ⟨29, .data⟩ (by simp) rfl
                          subst d29
                          have d15 : b15 = true := hd ⟨15, .guard⟩ (by simp) rfl
                          subst d15
                          obtain rfl := cd21.out rfl
                          obtain rfl := cd29.out rfl
                          obtain rfl := cd15.out rfl
                          clear hf hd
                          try simp only [List.setIfInBounds_toArray, List.set_cons_zero, List.set_cons_succ]
                          intro K hK
                          rw [if_pos (by rfl)]
                          go_simp
                          exact hK.out _ _ ⟨b0, b1, b2, b3, b4, b5, b6, b7, b8, b9, b10, b11, b12, b13, b14, true, b16, b17, b18, b19, b20, true, b22, b23, b24, b25, b26, b27, b28, true, true, b31, b32, x66, x67, x68, x69, x70, x71, x72, x73, x74, x75, x76, x77, x78, x79, x80, .bool false, x82, x83, x84, x85, x86, .bool false, x88, x89, x90, x91, x92, x93, x94, undef, (.bool false), x97, x11, (by simp only [Act.put, List.setIfInBounds_toArray, List.set_cons_zero, List.set_cons_succ]), (by simp only [Act.put, List.setIfInBounds_toArray, List.set_cons_zero, List.set_cons_succ]), hb, cd0, cd1, cd2, cd3, cd4, cd5, cd6, cd7, cd8, cd9, cd10, cd11, cd12, cd13, cd14, (fun _ => rfl), cd16, cd17, cd18, cd19, cd20, (fun _ => rfl), cd22, cd23, cd24, cd25, cd26, cd27, cd28, (fun _ => rfl), (fun _ => rfl), cd31, cd32⟩
                        · rintro L a w ⟨b0, b1, b2, b3, b4, b5, b6, b7, b8, b9, b10, b11, b12, b13, b14, b15, b16, b17, b18, b19, b20, b21, b22, b23, b24, b25, b26, b27, b28, b29, b30, b31, b32, x66, x67, x68, x69, x70, x71, x72, x73, x74, x75, x76, x77, x78, x79, x80, x81, x82, x83, x84, x85, x86, x87, x88, x89, x90, x91, x92, x93, x94, x95, x96, x97, x11, rfl, rfl, hb, cd0, cd1, cd2, cd3, cd4, cd5, cd6, cd7, cd8, cd9, cd10, cd11, cd12, cd13, cd14, cd15, cd16, cd17, cd18, cd19, cd20, cd21, cd22, cd23, cd24, cd25, cd26, cd27, cd28, cd29, cd30, cd31, cd32⟩ hf hd
                          have hf' : b31 = false := hf
                          subst hf'
                          have d15 : b15 = true := hd ⟨15, .data⟩ (by simp) rfl
                          subst d15
                          have d30 : b30 = true := hd ⟨30, .data⟩ (by simp) rfl
                          subst d30
                          obtain rfl := cd15.out rfl
                          obtain rfl := cd30.out rfl
                          clear hf hd
                          try simp only [List.setIfInBounds_toArray, List.set_cons_zero, List.set_cons_succ]
                          intro K hK
                          rw [if_pos (by rfl)]
                          go_simp
                          exact hK.out _ _ ⟨b0, b1, b2, b3, b4, b5, b6, b7, b8, b9, b10, b11, b12, b13, b14, true, b16, b17, b18, b19, b20, b21, b22, b23, b24, b25, b26, b27, b28, b29, true, true, b32, x66, x67, x68, x69, x70, x71, x72, x73, x74, x75, x76, x77, x78, x79, x80, .bool false, x82, x83, x84, x85, x86, x87, x88, x89, x90, x91, x92, x93, x94, x95, .bool false, (.bool false), x11, (by simp only [Act.put, List.setIfInBounds_toArray, List.set_cons_zero, List.set_cons_succ]), (by simp only [Act.put, List.setIfInBounds_toArray, List.set_cons_zero, List.set_cons_succ]), hb, cd0, cd1, cd2, cd3, cd4, cd5, cd6, cd7, cd8, cd9, cd10, cd11, cd12, cd13, cd14, (fun _ => rfl), cd16, cd17, cd18, cd19, cd20, cd21, cd22, cd23, cd24, cd25, cd26, cd27, cd28, cd29, (fun _ => rfl), (fun _ => rfl), cd32⟩
                        · rintro L a w ⟨b0, b1, b2, b3, b4, b5, b6, b7, b8, b9, b10, b11, b12, b13, b14, b15, b16, b17, b18, b19, b20, b21, b22, b23, b24, b25, b26, b27, b28, b29, b30, b31, b32, x66, x67, x68, x69, x70, x71, x72, x73, x74, x75, x76, x77, x78, x79, x80, x81, x82, x83, x84, x85, x86, x87, x88, x89, x90, x91, x92, x93, x94, x95, x96, x97, x11, rfl, rfl, hb, cd0, cd1, cd2, cd3, cd4, cd5, cd6, cd7, cd8, cd9, cd10, cd11, cd12, cd13, cd14, cd15, cd16, cd17, cd18, cd19, cd20, cd21, cd22, cd23, cd24, cd25, cd26, cd27, cd28, cd29, cd30, cd31, cd32⟩ hf hd
                          have hf' : b32 = false := hf
                          subst hf'
                          have d31 : b31 = true := hd ⟨31, .data⟩ (by simp) rfl
                          subst d31
                          have d21 : b21 = true := hd ⟨21, .chain⟩ (by simp) rfl
                          subst d21
                          have d0 : b0 = true := hd ⟨0, .phase⟩ (by simp) rfl
                          subst d0
                          have d1 : b1 = true := hd ⟨1, .phase⟩ (by simp) rfl
                          subst d1
                          have d2 : b2 = true := hd ⟨2, .phase⟩ (by simp) rfl
                          subst d2
                          have d3 : b3 = true := hd ⟨3, .phase⟩ (by simp) rfl
                          subst d3
                          have d4 : b4 = true := hd ⟨4, .phase⟩ (by simp) rfl
                          subst d4
                          have d5 : b5 = true := hd ⟨5, .phase⟩ (by simp) rfl
                          subst d5
                          have d6 : b6 = true := hd ⟨6, .phase⟩ (by simp) rfl
                          subst d6
                          have d7 : b7 = true := hd ⟨7, .phase⟩ (by simp) rfl
                          subst d7
                          have d8 : b8 = true := hd ⟨8, .phase⟩ (by simp) rfl
                          subst d8
                          have d9 : b9 = true := hd ⟨9, .phase⟩ (by simp) rfl
                          subst d9
                          have d10 : b10 = true := hd ⟨10, .phase⟩ (by simp) rfl
                          subst d10
                          have d11 : b11 = true := hd ⟨11, .phase⟩ (by simp) rfl
                          subst d11
                          have d12 : b12 = true := hd ⟨12, .phase⟩ (by simp) rfl
                          subst d12
                          have d13 : b13 = true := hd ⟨13, .phase⟩ (by simp) rfl
                          subst d13
                          have d14 : b14 = true := hd ⟨14, .phase⟩ (by simp) rfl
                          subst d14
                          have d15 : b15 = true := hd ⟨15, .phase⟩ (by simp) rfl
                          subst d15
                          have d16 : b16 = true := hd ⟨16, .phase⟩ (by simp) rfl
                          subst d16
                          have d17 : b17 = true := hd ⟨17, .phase⟩ (by simp) rfl
                          subst d17
                          have d18 : b18 = true := hd ⟨18, .phase⟩ (by simp) rfl
                          subst d18
                          have d19 : b19 = true := hd ⟨19, .phase⟩ (by simp) rfl
                          subst d19
                          have d20 : b20 = true := hd ⟨20, .phase⟩ (by simp) rfl
                          subst d20
                          have d22 : b22 = true := hd ⟨22, .phase⟩ (by simp) rfl
                          subst d22
                          have d23 : b23 = true := hd ⟨23, .phase⟩ (by simp) rfl
                          subst d23
                          have d24 : b24 = true := hd ⟨24, .phase⟩ (by simp) rfl
                          subst d24
                          have d25 : b25 = true := hd ⟨25, .phase⟩ (by simp) rfl
                          subst d25
                          have d26 : b26 = true := hd ⟨26, .phase⟩ (by simp) rfl
                          subst d26
                          have d27 : b27 = true := hd ⟨27, .phase⟩ (by simp) rfl
                          subst d27
                          have d28 : b28 = true := hd ⟨28, .phase⟩ (by simp) rfl
                          subst d28
                          have d29 : b29 = true := hd ⟨29, .phase⟩ (by simp) rfl
                          subst d29
                          have d30 : b30 = true := hd ⟨30, .phase⟩ (by simp) rfl
                          subst d30
                          obtain rfl := cd31.out rfl
                          obtain rfl := cd21.out rfl
                          obtain rfl := cd0.out rfl
                          obtain rfl := cd1.out rfl
                          obtain rfl := cd2.out rfl
                          obtain rfl := cd3.out rfl
                          obtain rfl := cd4.out rfl
                          obtain rfl := cd5.out rfl
                          obtain rfl := cd6.out rfl
                          obtain rfl := cd7.out rfl
                          obtain rfl := cd8.out rfl
                          obtain rfl := cd9.out rfl
                          obtain rfl := cd10.out rfl
                          obtain rfl := cd11.out rfl
                          obtain rfl := cd12.out rfl
                          obtain rfl := cd13.out rfl
                          obtain rfl := cd14.out rfl
                          obtain rfl := cd15.out rfl
                          obtain rfl := cd16.out rfl
                          obtain rfl := cd17.out rfl
                          obtain rfl := cd18.out rfl
                          obtain rfl := cd19.out rfl
                          obtain rfl := cd20.out rfl
                          obtain rfl := cd22.out rfl
                          obtain rfl := cd23.out rfl
                          obtain rfl := cd24.out rfl
                          obtain rfl := cd25.out rfl
                          obtain rfl := cd26.out rfl
                          obtain rfl := cd27.out rfl
                          obtain rfl := cd28.out rfl
                          obtain rfl := cd29.out rfl
                          obtain rfl := cd30.out rfl
                          clear hf hd
                          try simp only [List.setIfInBounds_toArray, List.set_cons_zero, List.set_cons_succ]
                          intro K hK
                          rw [if_pos (by rfl)]
                          go_simp
                          exact hK.out _ _ ⟨true, true, true, true, true, true, true, true, true, true, true, true, true, true, true, true, true, true, true, true, true, true, true, true, true, true, true, true, true, true, true, true, true, .slice (some ⟨gx, 0, none⟩) lX lX, .int .i64 (lX : Nat), .slice (some ⟨gy, 0, none⟩) lY lY, .int .i64 (lY : Nat), .bool false, .bool false, undef, undef, undef, undef, undef, undef, undef, undef, .bool false, .bool false, .slice (some ⟨gy, 0, none⟩) lY lY, .int .i64 (lY : Nat), .slice (some ⟨gx, 0, none⟩) lX lX, .int .i64 (lX : Nat), .bool false, .bool false, undef, undef, undef, undef, undef, undef, undef, undef, .bool false, .bool false, (.bool false), (by simp only [Act.put, List.setIfInBounds_toArray, List.set_cons_zero, List.set_cons_succ]), (by simp only [Act.put, List.setIfInBounds_toArray, List.set_cons_zero, List.set_cons_succ]), hb, (fun _ => rfl), (fun _ => rfl), (fun _ => rfl), (fun _ => rfl), (fun _ => rfl), (fun _ => rfl), (fun _ => rfl), (fun _ => rfl), (fun _ => rfl), (fun _ => rfl), (fun _ => rfl), (fun _ => rfl), (fun _ => rfl), (fun _ => rfl), (fun _ => rfl), (fun _ => rfl), (fun _ => rfl), (fun _ => rfl), (fun _ => rfl), (fun _ => rfl), (fun _ => rfl), (fun _ => rfl), (fun _ => rfl), (fun _ => rfl), (fun _ => rfl), (fun _ => rfl), (fun _ => rfl), (fun _ => rfl), (fun _ => rfl), (fun _ => rfl), (fun _ => rfl), (fun _ => rfl), (fun _ => rfl)⟩
                      · rintro a w ⟨b0, b1, b2, b3, b4, b5, b6, b7, b8, b9, b10, b11, b12, b13, b14, b15, b16, b17, b18, b19, b20, b21, b22, b23, b24, b25, b26, b27, b28, b29, b30, b31, b32, x66, x67, x68, x69, x70, x71, x72, x73, x74, x75, x76, x77, x78, x79, x80, x81, x82, x83, x84, x85, x86, x87, x88, x89, x90, x91, x92, x93, x94, x95, x96, x97, x11, hL, rfl, hb, cd0, cd1, cd2, cd3, cd4, cd5, cd6, cd7, cd8, cd9, cd10, cd11, cd12, cd13, cd14, cd15, cd16, cd17, cd18, cd19, cd20, cd21, cd22, cd23, cd24, cd25, cd26, cd27, cd28, cd29, cd30, cd31, cd32⟩
                        have hL' : [true, true, true, true, true, true, true, true, true, true, true, true, true, true, true, true, true, true, true, true, true, true, true, true, true, true, true, true, true, true, true, true, true] = [b0, b1, b2, b3, b4, b5, b6, b7, b8, b9, b10, b11, b12, b13, b14, b15, b16, b17, b18, b19, b20, b21, b22, b23, b24, b25, b26, b27, b28, b29, b30, b31, b32] := congrArg Array.toList hL
                        simp only [List.cons.injEq, and_true] at hL'
                        obtain ⟨rfl, rfl, rfl, rfl, rfl, rfl, rfl, rfl, rfl, rfl, rfl, rfl, rfl, rfl, rfl, rfl, rfl, rfl, rfl, rfl, rfl, rfl, rfl, rfl, rfl, rfl, rfl, rfl, rfl, rfl, rfl, rfl, rfl⟩ := hL'
                        obtain rfl := cd0.out rfl
                        obtain rfl := cd1.out rfl
                        obtain rfl := cd2.out rfl
                        obtain rfl := cd3.out rfl
                        obtain rfl := cd4.out rfl
                        obtain rfl := cd5.out rfl
                        obtain rfl := cd6.out rfl
                        obtain rfl := cd7.out rfl
                        obtain rfl := cd8.out rfl
                        obtain rfl := cd9.out rfl
                        obtain rfl := cd10.out rfl
                        obtain rfl := cd11.out rfl
                        obtain rfl := cd12.out rfl
                        obtain rfl := cd13.out rfl
                        obtain rfl := cd14.out rfl
                        obtain rfl := cd15.out rfl
                        obtain rfl := cd16.out rfl
                        obtain rfl := cd17.out rfl
                        obtain rfl := cd18.out rfl
                        obtain rfl := cd19.out rfl
                        obtain rfl := cd20.out rfl
                        obtain rfl := cd21.out rfl
                        obtain rfl := cd22.out rfl
                        obtain rfl := cd23.out rfl
                        obtain rfl := cd24.out rfl
                        obtain rfl := cd25.out rfl
                        obtain rfl := cd26.out rfl
                        obtain rfl := cd27.out rfl
                        obtain rfl := cd28.out rfl
                        obtain rfl := cd29.out rfl
                        obtain rfl := cd30.out rfl
                        obtain rfl := cd31.out rfl
                        obtain rfl := cd32.out rfl
                        clear hL
                        simp only [List.setIfInBounds_toArray, List.set_cons_zero, List.set_cons_succ]
                        go_wp2_with fail
                        go_meet
                        exact ⟨rfl, hb11.trans (hb.mono hb11.size)⟩
                    · have l1 : ¬ ((lX : Int) < lY) := by omega
                      have l2 : (lY : Int) < lX := by omega
                      have l3 : (lY : Int) ≤ lX := by omega
                      have jT := IsB_take jX (m := lY) (by omega)
                      have ne := NF2.out hl
                      have ne2 : (List.take lY KX == KY) = false := by simpa using ne
                      refine region_inv (KOrder11c gx gy KX KY lX lY) (by kernel_rfl) (by kernel_rfl) ?_ ?_ ?_
                      · exact ⟨false, false, false, false, false, false, false, false, false, false, false, false, false, false, false, false, false, false, false, false, false, false, false, false, false, false, false, false, false, false, false, false, false, undef, undef, undef, undef, undef, undef, undef, undef, undef, undef, undef, undef, undef, undef, undef, undef, undef, undef, undef, undef, undef, undef, undef, undef, undef, undef, undef, undef, undef, undef, undef, undef, undef, rfl, (by simp only [Act.put, List.setIfInBounds_toArray, List.set_cons_zero, List.set_cons_succ]), Below.refl _ _, (fun h => by cases h), (fun h => by cases h), (fun h => by cases h), (fun h => by cases h), (fun h => by cases h), (fun h => by cases h), (fun h => by cases h), (fun h => by cases h), (fun h => by cases h), (fun h => by cases h), (fun h => by cases h), (fun h => by cases h), (fun h => by cases h), (fun h => by cases h), (fun h => by cases h), (fun h => by cases h), (fun h => by cases h), (fun h => by cases h), (fun h => by cases h), (fun h => by cases h), (fun h => by cases h), (fun h => by cases h), (fun h => by cases h), (fun h => by cases h), (fun h => by cases h), (fun h => by cases h), (fun h => by cases h), (fun h => by cases h), (fun h => by cases h), (fun h => by cases h), (fun h => by cases h), (fun h => by cases h), (fun h => by cases h)⟩
                      · refine ⟨?_, ?_, ?_, ?_, ?_, ?_, ?_, ?_, ?_, ?_, ?_, ?_, ?_, ?_, ?_, ?_, ?_, ?_, ?_, ?_, ?_, ?_, ?_, ?_, ?_, ?_, ?_, ?_, ?_, ?_, ?_, ?_, ?_, trivial⟩
                        · rintro L a w ⟨b0, b1, b2, b3, b4, b5, b6, b7, b8, b9, b10, b11, b12, b13, b14, b15, b16, b17, b18, b19, b20, b21, b22, b23, b24, b25, b26, b27, b28, b29, b30, b31, b32, x66, x67, x68, x69, x70, x71, x72, x73, x74, x75, x76, x77, x78, x79, x80, x81, x82, x83, x84, x85, x86, x87, x88, x89, x90, x91, x92, x93, x94, x95, x96, x97, x11, rfl, rfl, hb, cd0, cd1, cd2, cd3, cd4, cd5, cd6, cd7, cd8, cd9, cd10, cd11, cd12, cd13, cd14, cd15, cd16, cd17, cd18, cd19, cd20, cd21, cd22, cd23, cd24, cd25, cd26, cd27, cd28, cd29, cd30, cd31, cd32⟩ hf hd
                          have hf' : b0 = false := hf
                          subst hf'
                          clear hf hd
                          try simp only [List.setIfInBounds_toArray, List.set_cons_zero, List.set_cons_succ]
                          intro K hK
                          rw [if_pos (by rfl)]
                          go_simp
                          exact hK.out _ _ ⟨true, b1, b2, b3, b4, b5, b6, b7, b8, b9, b10, b11, b12, b13, b14, b15, b16, b17, b18, b19, b20, b21, b22, b23, b24, b25, b26, b27, b28, b29, b30, b31, b32, (.slice (some ⟨gx, 0, none⟩) lX lX), x67, x68, x69, x70, x71, x72, x73, x74, x75, x76, x77, x78, x79, x80, x81, x82, x83, x84, x85, x86, x87, x88, x89, x90, x91, x92, x93, x94, x95, x96, x97, x11, (by simp only [Act.put, List.setIfInBounds_toArray, List.set_cons_zero, List.set_cons_succ]), (by simp only [Act.put, List.setIfInBounds_toArray, List.set_cons_zero, List.set_cons_succ]), hb, (fun _ => rfl), cd1, cd2, cd3, cd4, cd5, cd6, cd7, cd8, cd9, cd10, cd11, cd12, cd13, cd14, cd15, cd16, cd17, cd18, cd19, cd20, cd21, cd22, cd23, cd24, cd25, cd26, cd27, cd28, cd29, cd30, cd31, cd32⟩
                        · rintro L a w ⟨b0, b1, b2, b3, b4, b5, b6, b7, b8, b9, b10, b11, b12, b13, b14, b15, b16, b17, b18, b19, b20, b21, b22, b23, b24, b25, b26, b27, b28, b29, b30, b31, b32, x66, x67, x68, x69, x70, x71, x72, x73, x74, x75, x76, x77, x78, x79, x80, x81, x82, x83, x84, x85, x86, x87, x88, x89, x90, x91, x92, x93, x94, x95, x96, x97, x11, rfl, rfl, hb, cd0, cd1, cd2, cd3, cd4, cd5, cd6, cd7, cd8, cd9, cd10, cd11, cd12, cd13, cd14, cd15, cd16, cd17, cd18, cd19, cd20, cd21, cd22, cd23, cd24, cd25, cd26, cd27, cd28, cd29, cd30, cd31, cd32⟩ hf hd
                          have hf' : b1 = false := hf
                          subst hf'
                          have d0 : b0 = true := hd ⟨0, .data⟩ (by simp) rfl
                          subst d0
                          obtain rfl := cd0.out rfl
                          clear hf hd
                          try simp only [List.setIfInBounds_toArray, List.set_cons_zero, List.set_cons_succ]
                          intro K hK
                          rw [if_pos (by rfl)]
                          go_simp
                          exact hK.out _ _ ⟨true, true, b2, b3, b4, b5, b6, b7, b8, b9, b10, b11, b12, b13, b14, b15, b16, b17, b18, b19, b20, b21, b22, b23, b24, b25, b26, b27, b28, b29, b30, b31, b32, .slice (some ⟨gx, 0, none⟩) lX lX, (.int .i64 (lX : Nat)), x68, x69, x70, x71, x72, x73, x74, x75, x76, x77, x78, x79, x80, x81, x82, x83, x84, x85, x86, x87, x88, x89, x90, x91, x92, x93, x94, x95, x96, x97, x11, (by simp only [Act.put, List.setIfInBounds_toArray, List.set_cons_zero, List.set_cons_succ]), (by simp only [Act.put, List.setIfInBounds_toArray, List.set_cons_zero, List.set_cons_succ]), hb, (fun _ => rfl), (fun _ => rfl), cd2, cd3, cd4, cd5, cd6, cd7, cd8, cd9, cd10, cd11, cd12, cd13, cd14, cd15, cd16, cd17, cd18, cd19, cd20, cd21, cd22, cd23, cd24, cd25, cd26, cd27, cd28, cd29, cd30, cd31, cd32⟩
                        · rintro L a w ⟨b0, b1, b2, b3, b4, b5, b6, b7, b8, b9, b10, b11, b12, b13, b14, b15, b16, b17, b18, b19, b20, b21, b22, b23, b24, b25, b26, b27, b28, b29, b30, b31, b32, x66, x67, x68, x69, x70, x71, x72, x73, x74, x75, x76, x77, x78, x79, x80, x81, x82, x83, x84, x85, x86, x87, x88, x89, x90, x91, x92, x93, x94, x95, x96, x97, x11, rfl, rfl, hb, cd0, cd1, cd2, cd3, cd4, cd5, cd6, cd7, cd8, cd9, cd10, cd11, cd12, cd13, cd14, cd15, cd16, cd17, cd18, cd19, cd20, cd21, cd22, cd23, cd24, cd25, cd26, cd27, cd28, cd29, cd30, cd31, cd32⟩ hf hd
                          have hf' : b2 = false := hf
                          subst hf'
                          clear hf hd
                          try simp only [List.setIfInBounds_toArray, List.set_cons_zero, List.set_cons_succ]
                          intro K hK
                          rw [if_pos (by rfl)]
                          go_simp
                          exact hK.out _ _ ⟨b0, b1, true, b3, b4, b5, b6, b7, b8, b9, b10, b11, b12, b13, b14, b15, b16, b17, b18, b19, b20, b21, b22, b23, b24, b25, b26, b27, b28, b29, b30, b31, b32, x66, x67, (.slice (some ⟨gy, 0, none⟩) lY lY), x69, x70, x71, x72, x73, x74, x75, x76, x77, x78, x79, x80, x81, x82, x83, x84, x85, x86, x87, x88, x89, x90, x91, x92, x93, x94, x95, x96, x97, x11, (by simp only [Act.put, List.setIfInBounds_toArray, List.set_cons_zero, List.set_cons_succ]), (by simp only [Act.put, List.setIfInBounds_toArray, List.set_cons_zero, List.set_cons_succ]), hb, cd0, cd1, (fun _ => rfl), cd3, cd4, cd5, cd6, cd7, cd8, cd9, cd10, cd11, cd12, cd13, cd14, cd15, cd16, cd17, cd18, cd19, cd20, cd21, cd22, cd23, cd24, cd25, cd26, cd27, cd28, cd29, cd30, cd31, cd32⟩
                        · rintro L a w ⟨b0, b1, b2, b3, b4, b5, b6, b7, b8, b9, b10, b11, b12, b13, b14, b15, b16, b17, b18, b19, b20, b21, b22, b23, b24, b25, b26, b27, b28, b29, b30, b31, b32, x66, x67, x68, x69, x70, x71, x72, x73, x74, x75, x76, x77, x78, x79, x80, x81, x82, x83, x84, x85, x86, x87, x88, x89, x90, x91, x92, x93, x94, x95, x96, x97, x11, rfl, rfl, hb, cd0, cd1, cd2, cd3, cd4, cd5, cd6, cd7, cd8, cd9, cd10, cd11, cd12, cd13, cd14, cd15, cd16, cd17, cd18, cd19, cd20, cd21, cd22, cd23, cd24, cd25, cd26, cd27, cd28, cd29, cd30, cd31, cd32⟩ hf hd
                          have hf' : b3 = false := hf
                          subst hf'
                          have d2 : b2 = true := hd ⟨2, .data⟩ (by simp) rfl
                          subst d2
                          obtain rfl := cd2.out rfl
                          clear hf hd
                          try simp only [List.setIfInBounds_toArray, List.set_cons_zero, List.set_cons_succ]
                          intro K hK
                          rw [if_pos (by rfl)]
                          go_simp
                          exact hK.out _ _ ⟨b0, b1, true, true, b4, b5, b6, b7, b8, b9, b10, b11, b12, b13, b14, b15, b16, b17, b18, b19, b20, b21, b22, b23, b24, b25, b26, b27, b28, b29, b30, b31, b32, x66, x67, .slice (some ⟨gy, 0, none⟩) lY lY, (.int .i64 (lY : Nat)), x70, x71, x72, x73, x74, x75, x76, x77, x78, x79, x80, x81, x82, x83, x84, x85, x86, x87, x88, x89, x90, x91, x92, x93, x94, x95, x96, x97, x11, (by simp only [Act.put, List.setIfInBounds_toArray, List.set_cons_zero, List.set_cons_succ]), (by simp only [Act.put, List.setIfInBounds_toArray, List.set_cons_zero, List.set_cons_succ]), hb, cd0, cd1, (fun _ => rfl), (fun _ => rfl), cd4, cd5, cd6, cd7, cd8, cd9, cd10, cd11, cd12, cd13, cd14, cd15, cd16, cd17, cd18, cd19, cd20, cd21, cd22, cd23, cd24, cd25, cd26, cd27, cd28, cd29, cd30, cd31, cd32⟩
                        · rintro L a w ⟨b0, b1, b2, b3, b4, b5, b6, b7, b8, b9, b10, b11, b12, b13, b14, b15, b16, b17, b18, b19, b20, b21, b22, b23, b24, b25, b26, b27, b28, b29, b30, b31, b32, x66, x67, x68, x69, x70, x71, x72, x73, x74, x75, x76, x77, x78, x79, x80, x81, x82, x83, x84, x85, x86, x87, x88, x89, x90, x91, x92, x93, x94, x95, x96, x97, x11, rfl, rfl, hb, cd0, cd1, cd2, cd3, cd4, cd5, cd6, cd7, cd8, cd9, cd10, cd11, cd12, cd13, cd14, cd15, cd16, cd17, cd18, cd19, cd20, cd21, cd22, cd23, cd24, cd25, cd26, cd27, cd28, cd29, cd30, cd31, cd32⟩ hf hd
                          have hf' : b4 = false := hf
                          subst hf'
                          have d1 : b1 = true := hd ⟨1, .data⟩ (by simp) rfl
                          subst d1
                          have d3 : b3 = true := hd ⟨3, .data⟩ (by simp) rfl
                          subst d3
                          obtain rfl := cd1.out rfl
                          obtain rfl := cd3.out rfl
                          clear hf hd
                          try simp only [List.setIfInBounds_toArray, List.set_cons_zero, List.set_cons_succ]
                          intro K hK
                          rw [if_pos (by rfl)]
                          go_simp
                          exact hK.out _ _ ⟨b0, true, b2, true, true, b5, b6, b7, b8, b9, b10, b11, b12, b13, b14, b15, b16, b17, b18, b19, b20, b21, b22, b23, b24, b25, b26, b27, b28, b29, b30, b31, b32, x66, .int .i64 (lX : Nat), x68, .int .i64 (lY : Nat), (.bool false), x71, x72, x73, x74, x75, x76, x77, x78, x79, x80, x81, x82, x83, x84, x85, x86, x87, x88, x89, x90, x91, x92, x93, x94, x95, x96, x97, x11, (by simp only [Act.put, List.setIfInBounds_toArray, List.set_cons_zero, List.set_cons_succ]), (by simp only [Act.put, List.setIfInBounds_toArray, List.set_cons_zero, List.set_cons_succ]), hb, cd0, (fun _ => rfl), cd2, (fun _ => rfl), (fun _ => rfl), cd5, cd6, cd7, cd8, cd9, cd10, cd11, cd12, cd13, cd14, cd15, cd16, cd17, cd18, cd19, cd20, cd21, cd22, cd23, cd24, cd25, cd26, cd27, cd28, cd29, cd30, cd31, cd32⟩
                        · rintro L a w ⟨b0, b1, b2, b3, b4, b5, b6, b7, b8, b9, b10, b11, b12, b13, b14, b15, b16, b17, b18, b19, b20, b21, b22, b23, b24, b25, b26, b27, b28, b29, b30, b31, b32, x66, x67, x68, x69, x70, x71, x72, x73, x74, x75, x76, x77, x78, x79, x80, x81, x82, x83, x84, x85, x86, x87, x88, x89, x90, x91, x92, x93, x94, x95, x96, x97, x11, rfl, rfl, hb, cd0, cd1, cd2, cd3, cd4, cd5, cd6, cd7, cd8, cd9, cd10, cd11, cd12, cd13, cd14, cd15, cd16, cd17, cd18, cd19, cd20, cd21, cd22, cd23, cd24, cd25, cd26, cd27, cd28, cd29, cd30, cd31, cd32⟩ hf hd
                          have hf' : b5 = false := hf
                          subst hf'
                          have d4 : b4 = true := hd ⟨4, .data⟩ (by simp) rfl
                          subst d4
                          obtain rfl := cd4.out rfl
                          clear hf hd
                          try simp only [List.setIfInBounds_toArray, List.set_cons_zero, List.set_cons_succ]
                          intro K hK
                          rw [if_pos (by rfl)]
                          go_simp
                          exact hK.out _ _ ⟨b0, b1, b2, b3, true, true, b6, b7, b8, b9, b10, b11, b12, b13, b14, b15, b16, b17, b18, b19, b20, b21, b22, b23, b24, b25, b26, b27, b28, b29, b30, b31, b32, x66, x67, x68, x69, .bool false, (.bool false), x72, x73, x74, x75, x76, x77, x78, x79, x80, x81, x82, x83, x84, x85, x86, x87, x88, x89, x90, x91, x92, x93, x94, x95, x96, x97, x11, (by simp only [Act.put, List.setIfInBounds_toArray, List.set_cons_zero, List.set_cons_succ]), (by simp only [Act.put, List.setIfInBounds_toArray, List.set_cons_zero, List.set_cons_succ]), hb, cd0, cd1, cd2, cd3, (fun _ => rfl), (fun _ => rfl), cd6, cd7, cd8, cd9, cd10, cd11, cd12, cd13, cd14, cd15, cd16, cd17, cd18, cd19, cd20, cd21, cd22, cd23, cd24, cd25, cd26, cd27, cd28, cd29, cd30, cd31, cd32⟩
                        · rintro L a w ⟨b0, b1, b2, b3, b4, b5, b6, b7, b8, b9, b10, b11, b12, b13, b14, b15, b16, b17, b18, b19, b20, b21, b22, b23, b24, b25, b26, b27, b28, b29, b30, b31, b32, x66, x67, x68, x69, x70, x71, x72, x73, x74, x75, x76, x77, x78, x79, x80, x81, x82, x83, x84, x85, x86, x87, x88, x89, x90, x91, x92, x93, x94, x95, x96, x97, x11, rfl, rfl, hb, cd0, cd1, cd2, cd3, cd4, cd5, cd6, cd7, cd8, cd9, cd10, cd11, cd12, cd13, cd14, cd15, cd16, cd17, cd18, cd19, cd20, cd21, cd22, cd23, cd24, cd25, cd26, cd27, cd28, cd29, cd30, cd31, cd32⟩ hf hd
                          have hf' : b6 = false := hf
                          subst hf'
                          have d5 : b5 = true := hd ⟨5, .guard⟩ (by simp) rfl
                          subst d5
                          obtain rfl := cd5.out rfl
                          clear hf hd
                          try simp only [List.setIfInBounds_toArray, List.set_cons_zero, List.set_cons_succ]
                          intro K hK
                          rw [if_neg (Bool.eq_false_iff.1 (by rfl))]
                          exact hK.out _ _ ⟨b0, b1, b2, b3, b4, true, true, b7, b8, b9, b10, b11, b12, b13, b14, b15, b16, b17, b18, b19, b20, b21, b22, b23, b24, b25, b26, b27, b28, b29, b30, b31, b32, x66, x67, x68, x69, x70, .bool false, (undef), x73, x74, x75, x76, x77, x78, x79, x80, x81, x82, x83, x84, x85, x86, x87, x88, x89, x90, x91, x92, x93, x94, x95, x96, x97, x11, (by simp only [Act.put, List.setIfInBounds_toArray, List.set_cons_zero, List.set_cons_succ]), (by simp only [Act.put, List.setIfInBounds_toArray, List.set_cons_zero, List.set_cons_succ]), hb, cd0, cd1, cd2, cd3, cd4, (fun _ => rfl), (fun _ => rfl), cd7, cd8, cd9, cd10, cd11, cd12, cd13, cd14, cd15, cd16, cd17, cd18, cd19, cd20, cd21, cd22, cd23, cd24, cd25, cd26, cd27, cd28, cd29, cd30, cd31, cd32⟩
                        · rintro L a w ⟨b0, b1, b2, b3, b4, b5, b6, b7, b8, b9, b10, b11, b12, b13, b14, b15, b16, b17, b18, b19, b20, b21, b22, b23, b24, b25, b26, b27, b28, b29, b30, b31, b32, x66, x67, x68, x69, x70, x71, x72, x73, x74, x75, x76, x77, x78, x79, x80, x81, x82, x83, x84, x85, x86, x87, x88, x89, x90, x91, x92, x93, x94, x95, x96, x97, x11, rfl, rfl, hb, cd0, cd1, cd2, cd3, cd4, cd5, cd6, cd7, cd8, cd9, cd10, cd11, cd12, cd13, cd14, cd15, cd16, cd17, cd18, cd19, cd20, cd21, cd22, cd23, cd24, cd25, cd26, cd27, cd28, cd29, cd30, cd31, cd32⟩ hf hd
                          have hf' : b7 = false := hf
                          subst hf'
                          have d5 : b5 = true := hd ⟨5, .guard⟩ (by simp) rfl
                          subst d5
                          obtain rfl := cd5.out rfl
                          clear hf hd
                          try simp only [List.setIfInBounds_toArray, List.set_cons_zero, List.set_cons_succ]
                          intro K hK
                          rw [if_neg (Bool.eq_false_iff.1 (by rfl))]
                          exact hK.out _ _ ⟨b0, b1, b2, b3, b4, true, b6, true, b8, b9, b10, b11, b12, b13, b14, b15, b16, b17, b18, b19, b20, b21, b22, b23, b24, b25, b26, b27, b28, b29, b30, b31, b32, x66, x67, x68, x69, x70, .bool false, x72, (undef), x74, x75, x76, x77, x78, x79, x80, x81, x82, x83, x84, x85, x86, x87, x88, x89, x90, x91, x92, x93, x94, x95, x96, x97, x11, (by simp only [Act.put, List.setIfInBounds_toArray, List.set_cons_zero, List.set_cons_succ]), (by simp only [Act.put, List.setIfInBounds_toArray, List.set_cons_zero, List.set_cons_succ]), hb, cd0, cd1, cd2, cd3, cd4, (fun _ => rfl), cd6, (fun _ => rfl), cd8, cd9, cd10, cd11, cd12, cd13, cd14, cd15, cd16, cd17, cd18, cd19, cd20, cd21, cd22, cd23, cd24, cd25, cd26, cd27, cd28, cd29, cd30, cd31, cd32⟩
                        · rintro L a w ⟨b0, b1, b2, b3, b4, b5, b6, b7, b8, b9, b10, b11, b12, b13, b14, b15, b16, b17, b18, b19, b20, b21, b22, b23, b24, b25, b26, b27, b28, b29, b30, b31, b32, x66, x67, x68, x69, x70, x71, x72, x73, x74, x75, x76, x77, x78, x79, x80, x81, x82, x83, x84, x85, x86, x87, x88, x89, x90, x91, x92, x93, x94, x95, x96, x97, x11, rfl, rfl, hb, cd0, cd1, cd2, cd3, cd4, cd5, cd6, cd7, cd8, cd9, cd10, cd11, cd12, cd13, cd14, cd15, cd16, cd17, cd18, cd19, cd20, cd21, cd22, cd23, cd24, cd25, cd26, cd27, cd28, cd29, cd30, cd31, cd32⟩ hf hd
                          have hf' : b8 = false := hf
                          subst hf'
                          have d7 : b7 = true := hd ⟨7, .data⟩ (by simp) rfl
                          subst d7
                          have d5 : b5 = true := hd ⟨5, .guard⟩ (by simp) rfl
                          subst d5
                          obtain rfl := cd7.out rfl
                          obtain rfl := cd5.out rfl
                          clear hf hd
                          try simp only [List.setIfInBounds_toArray, List.set_cons_zero, List.set_cons_succ]
                          intro K hK
                          rw [if_neg (Bool.eq_false_iff.1 (by rfl))]
                          exact hK.out _ _ ⟨b0, b1, b2, b3, b4, true, b6, true, true, b9, b10, b11, b12, b13, b14, b15, b16, b17, b18, b19, b20, b21, b22, b23, b24, b25, b26, b27, b28, b29, b30, b31, b32, x66, x67, x68, x69, x70, .bool false, x72, undef, (undef), x75, x76, x77, x78, x79, x80, x81, x82, x83, x84, x85, x86, x87, x88, x89, x90, x91, x92, x93, x94, x95, x96, x97, x11, (by simp only [Act.put, List.setIfInBounds_toArray, List.set_cons_zero, List.set_cons_succ]), (by simp only [Act.put, List.setIfInBounds_toArray, List.set_cons_zero, List.set_cons_succ]), hb, cd0, cd1, cd2, cd3, cd4, (fun _ => rfl), cd6, (fun _ => rfl), (fun _ => rfl), cd9, cd10, cd11, cd12, cd13, cd14, cd15, cd16, cd17, cd18, cd19, cd20, cd21, cd22, cd23, cd24, cd25, cd26, cd27, cd28, cd29, cd30, cd31, cd32⟩
                        · rintro L a w ⟨b0, b1, b2, b3, b4, b5, b6, b7, b8, b9, b10, b11, b12, b13, b14, b15, b16, b17, b18, b19, b20, b21, b22, b23, b24, b25, b26, b27, b28, b29, b30, b31, b32, x66, x67, x68, x69, x70, x71, x72, x73, x74, x75, x76, x77, x78, x79, x80, x81, x82, x83, x84, x85, x86, x87, x88, x89, x90, x91, x92, x93, x94, x95, x96, x97, x11, rfl, rfl, hb, cd0, cd1, cd2, cd3, cd4, cd5, cd6, cd7, cd8, cd9, cd10, cd11, cd12, cd13, cd14, cd15, cd16, cd17, cd18, cd19, cd20, cd21, cd22, cd23, cd24, cd25, cd26, cd27, cd28, cd29, cd30, cd31, cd32⟩ hf hd
                          have hf' : b9 = false := hf
                          subst hf'
                          have d6 : b6 = true := hd ⟨6, .data⟩ (by simp) rfl
                          subst d6
                          have d8 : b8 = true := hd ⟨8, .data⟩ (by simp) rfl
                          subst d8
                          have d5 : b5 = true := hd ⟨5, .guard⟩ (by simp) rfl
                          subst d5
                          obtain rfl := cd6.out rfl
                          obtain rfl := cd8.out rfl
                          obtain rfl := cd5.out rfl
                          clear hf hd
                          try simp only [List.setIfInBounds_toArray, List.set_cons_zero, List.set_cons_succ]
                          intro K hK
                          rw [if_neg (Bool.eq_false_iff.1 (by rfl))]
                          exact hK.out _ _ ⟨b0, b1, b2, b3, b4, true, true, b7, true, true, b10, b11, b12, b13, b14, b15, b16, b17, b18, b19, b20, b21, b22, b23, b24, b25, b26, b27, b28, b29, b30, b31, b32, x66, x67, x68, x69, x70, .bool false, undef, x73, undef, (undef), x76, x77, x78, x79, x80, x81, x82, x83, x84, x85, x86, x87, x88, x89, x90, x91, x92, x93, x94, x95, x96, x97, x11, (by simp only [Act.put, List.setIfInBounds_toArray, List.set_cons_zero, List.set_cons_succ]), (by simp only [Act.put, List.setIfInBounds_toArray, List.set_cons_zero, List.set_cons_succ]), hb, cd0, cd1, cd2, cd3, cd4, (fun _ => rfl), (fun _ => rfl), cd7, (fun _ => rfl), (fun _ => rfl), cd10, cd11, cd12, cd13, cd14, cd15, cd16, cd17, cd18, cd19, cd20, cd21, cd22, cd23, cd24, cd25, cd26, cd27, cd28, cd29, cd30, cd31, cd32⟩
                        · rintro L a w ⟨b0, b1, b2, b3, b4, b5, b6, b7, b8, b9, b10, b11, b12, b13, b14, b15, b16, b17, b18, b19, b20, b21, b22, b23, b24, b25, b26, b27, b28, b29, b30, b31, b32, x66, x67, x68, x69, x70, x71, x72, x73, x74, x75, x76, x77, x78, x79, x80, x81, x82, x83, x84, x85, x86, x87, x88, x89, x90, x91, x92, x93, x94, x95, x96, x97, x11, rfl, rfl, hb, cd0, cd1, cd2, cd3, cd4, cd5, cd6, cd7, cd8, cd9, cd10, cd11, cd12, cd13, cd14, cd15, cd16, cd17, cd18, cd19, cd20, cd21, cd22, cd23, cd24, cd25, cd26, cd27, cd28, cd29, cd30, cd31, cd32⟩ hf hd
                          have hf' : b10 = false := hf
                          subst hf'
                          have d9 : b9 = true := hd ⟨9, .data⟩ (by simp) rfl
                          subst d9
                          have d5 : b5 = true := hd ⟨5, .guard⟩ (by simp) rfl
                          subst d5
                          obtain rfl := cd9.out rfl
                          obtain rfl := cd5.out rfl
                          clear hf hd
                          try simp only [List.setIfInBounds_toArray, List.set_cons_zero, List.set_cons_succ]
                          intro K hK
                          rw [if_neg (Bool.eq_false_iff.1 (by rfl))]
                          exact hK.out _ _ ⟨b0, b1, b2, b3, b4, true, b6, b7, b8, true, true, b11, b12, b13, b14, b15, b16, b17, b18, b19, b20, b21, b22, b23, b24, b25, b26, b27, b28, b29, b30, b31, b32, x66, x67, x68, x69, x70, .bool false, x72, x73, x74, undef, (undef), x77, x78, x79, x80, x81, x82, x83, x84, x85, x86, x87, x88, x89, x90, x91, x92, x93, x94, x95, x96, x97, x11, (by simp only [Act.put, List.setIfInBounds_toArray, List.set_cons_zero, List.set_cons_succ]), (by simp only [Act.put, List.setIfInBounds_toArray, List.set_cons_zero, List.set_cons_succ]), hb, cd0, cd1, cd2, cd3, cd4, (fun _ => rfl), cd6, cd7, cd8, (fun _ => rfl), (fun _ => rfl), cd11, cd12, cd13, cd14, cd15, cd16, cd17, cd18, cd19, cd20, cd21, cd22, cd23, cd24, cd25, cd26, cd27, cd28, cd29, cd30, cd31, cd32⟩
                        · rintro L a w ⟨b0, b1, b2, b3, b4, b5, b6, b7, b8, b9, b10, b11, b12, b13, b14, b15, b16, b17, b18, b19, b20, b21, b22, b23, b24, b25, b26, b27, b28, b29, b30, b31, b32, x66, x67, x68, x69, x70, x71, x72, x73, x74, x75, x76, x77, x78, x79, x80, x81, x82, x83, x84, x85, x86, x87, x88, x89, x90, x91, x92, x93, x94, x95, x96, x97, x11, rfl, rfl, hb, cd0, cd1, cd2, cd3, cd4, cd5, cd6, cd7, cd8, cd9, cd10, cd11, cd12, cd13, cd14, cd15, cd16, cd17, cd18, cd19, cd20, cd21, cd22, cd23, cd24, cd25, cd26, cd27, cd28, cd29, cd30, cd31, cd32⟩ hf hd
                          have hf' : b11 = false := hf
                          subst hf'
                          have d5 : b5 = true := hd ⟨5, .guard⟩ (by simp) rfl
                          subst d5
                          obtain rfl := cd5.out rfl
                          clear hf hd
                          try simp only [List.setIfInBounds_toArray, List.set_cons_zero, List.set_cons_succ]
                          intro K hK
                          rw [if_neg (Bool.eq_false_iff.1 (by rfl))]
                          exact hK.out _ _ ⟨b0, b1, b2, b3, b4, true, b6, b7, b8, b9, b10, true, b12, b13, b14, b15, b16, b17, b18, b19, b20, b21, b22, b23, b24, b25, b26, b27, b28, b29, b30, b31, b32, x66, x67, x68, x69, x70, .bool false, x72, x73, x74, x75, x76, (undef), x78, x79, x80, x81, x82, x83, x84, x85, x86, x87, x88, x89, x90, x91, x92, x93, x94, x95, x96, x97, x11, (by simp only [Act.put, List.setIfInBounds_toArray, List.set_cons_zero, List.set_cons_succ]), (by simp only [Act.put, List.setIfInBounds_toArray, List.set_cons_zero, List.set_cons_succ]), hb, cd0, cd1, cd2, cd3, cd4, (fun _ => rfl), cd6, cd7, cd8, cd9, cd10, (fun _ => rfl), cd12, cd13, cd14, cd15, cd16, cd17, cd18, cd19, cd20, cd21, cd22, cd23, cd24, cd25, cd26, cd27, cd28, cd29, cd30, cd31, cd32⟩
                        · rintro L a w ⟨b0, b1, b2, b3, b4, b5, b6, b7, b8, b9, b10, b11, b12, b13, b14, b15, b16, b17, b18, b19, b20, b21, b22, b23, b24, b25, b26, b27, b28, b29, b30, b31, b32, x66, x67, x68, x69, x70, x71, x72, x73, x74, x75, x76, x77, x78, x79, x80, x81, x82, x83, x84, x85, x86, x87, x88, x89, x90, x91, x92, x93, x94, x95, x96, x97, x11, rfl, rfl, hb, cd0, cd1, cd2, cd3, cd4, cd5, cd6, cd7, cd8, cd9, cd10, cd11, cd12, cd13, cd14, cd15, cd16, cd17, cd18, cd19, cd20, cd21, cd22, cd23, cd24, cd25, cd26, cd27, cd28, cd29, cd30, cd31, cd32⟩ hf hd
                          have hf' : b12 = false := hf
                          subst hf'
                          have d11 : b11 = true := hd ⟨11, .data⟩ (by simp) rfl
                          subst d11
                          have d5 : b5 = true := hd ⟨5, .guard⟩ (by simp) rfl
                          subst d5
                          obtain rfl := cd11.out rfl
                          obtain rfl := cd5.out rfl
                          clear hf hd
                          try simp only [List.setIfInBounds_toArray, List.set_cons_zero, List.set_cons_succ]
                          intro K hK
                          rw [if_neg (Bool.eq_false_iff.1 (by rfl))]
                          exact hK.out _ _ ⟨b0, b1, b2, b3, b4, true, b6, b7, b8, b9, b10, true, true, b13, b14, b15, b16, b17, b18, b19, b20, b21, b22, b23, b24, b25, b26, b27, b28, b29, b30, b31, b32, x66, x67, x68, x69, x70, .bool false, x72, x73, x74, x75, x76, undef, (undef), x79, x80, x81, x82, x83, x84, x85, x86, x87, x88, x89, x90, x91, x92, x93, x94, x95, x96, x97, x11, (by simp only [Act.put, List.setIfInBounds_toArray, List.set_cons_zero, List.set_cons_succ]), (by simp only [Act.put, List.setIfInBounds_toArray, List.set_cons_zero, List.set_cons_succ]), hb, cd0, cd1, cd2, cd3, cd4, (fun _ => rfl), cd6, cd7, cd8, cd9, cd10, (fun _ => rfl), (fun _ => rfl), cd13, cd14, cd15, cd16, cd17, cd18, cd19, cd20, cd21, cd22, cd23, cd24, cd25, cd26, cd27, cd28, cd29, cd30, cd31, cd32⟩
                        · rintro L a w ⟨b0, b1, b2, b3, b4, b5, b6, b7, b8, b9, b10, b11, b12, b13, b14, b15, b16, b17, b18, b19, b20, b21, b22, b23, b24, b25, b26, b27, b28, b29, b30, b31, b32, x66, x67, x68, x69, x70, x71, x72, x73, x74, x75, x76, x77, x78, x79, x80, x81, x82, x83, x84, x85, x86, x87, x88, x89, x90, x91, x92, x93, x94, x95, x96, x97, x11, rfl, rfl, hb, cd0, cd1, cd2, cd3, cd4, cd5, cd6, cd7, cd8, cd9, cd10, cd11, cd12, cd13, cd14, cd15, cd16, cd17, cd18, cd19, cd20, cd21, cd22, cd23, cd24, cd25, cd26, cd27, cd28, cd29, cd30, cd31, cd32⟩ hf hd
                          have hf' : b13 = false := hf
                          subst hf'
                          have d10 : b10 = true := hd ⟨10, .data⟩ (by simp) rfl
                          subst d10
                          have d12 : b12 = true := hd ⟨12, .data⟩ (by simp) rfl
                          subst d12
                          have d5 : b5 = true := hd ⟨5, .guard⟩ (by simp) rfl
                          subst d5
                          obtain rfl := cd10.out rfl
                          obtain rfl := cd12.out rfl
                          obtain rfl := cd5.out rfl
                          clear hf hd
                          try simp only [List.setIfInBounds_toArray, List.set_cons_zero, List.set_cons_succ]
                          intro K hK
                          rw [if_neg (Bool.eq_false_iff.1 (by rfl))]
                          exact hK.out _ _ ⟨b0, b1, b2, b3, b4, true, b6, b7, b8, b9, true, b11, true, true, b14, b15, b16, b17, b18, b19, b20, b21, b22, b23, b24, b25, b26, b27, b28, b29, b30, b31, b32, x66, x67, x68, x69, x70, .bool false, x72, x73, x74, x75, undef, x77, undef, (undef), x80, x81, x82, x83, x84, x85, x86, x87, x88, x89, x90, x91, x92, x93, x94, x95, x96, x97, x11, (by simp only [Act.put, List.setIfInBounds_toArray, List.set_cons_zero, List.set_cons_succ]), (by simp only [Act.put, List.setIfInBounds_toArray, List.set_cons_zero, List.set_cons_succ]), hb, cd0, cd1, cd2, cd3, cd4, (fun _ => rfl), cd6, cd7, cd8, cd9, (fun _ => rfl), cd11, (fun _ => rfl), (fun _ => rfl), cd14, cd15, cd16, cd17, cd18, cd19, cd20, cd21, cd22, cd23, cd24, cd25, cd26, cd27, cd28, cd29, cd30, cd31, cd32⟩
                        · rintro L a w ⟨b0, b1, b2, b3, b4, b5, b6, b7, b8, b9, b10, b11, b12, b13, b14, b15, b16, b17, b18, b19, b20, b21, b22, b23, b24, b25, b26, b27, b28, b29, b30, b31, b32, x66, x67, x68, x69, x70, x71, x72, x73, x74, x75, x76, x77, x78, x79, x80, x81, x82, x83, x84, x85, x86, x87, x88, x89, x90, x91, x92, x93, x94, x95, x96, x97, x11, rfl, rfl, hb, cd0, cd1, cd2, cd3, cd4, cd5, cd6, cd7, cd8, cd9, cd10, cd11, cd12, cd13, cd14, cd15, cd16, cd17, cd18, cd19, cd20, cd21, cd22, cd23, cd24, cd25, cd26, cd27, cd28, cd29, cd30, cd31, cd32⟩ hf hd
                          have hf' : b14 = false := hf
                          subst hf'
                          have d5 : b5 = true := hd ⟨5, .data⟩ (by simp) rfl
                          subst d5
                          have d13 : b13 = true := hd ⟨13, .data⟩ (by simp) rfl
                          subst d13
                          obtain rfl := cd5.out rfl
                          obtain rfl := cd13.out rfl
                          clear hf hd
                          try simp only [List.setIfInBounds_toArray, List.set_cons_zero, List.set_cons_succ]
                          intro K hK
                          rw [if_pos (by rfl)]
                          go_simp
                          exact hK.out _ _ ⟨b0, b1, b2, b3, b4, true, b6, b7, b8, b9, b10, b11, b12, true, true, b15, b16, b17, b18, b19, b20, b21, b22, b23, b24, b25, b26, b27, b28, b29, b30, b31, b32, x66, x67, x68, x69, x70, .bool false, x72, x73, x74, x75, x76, x77, x78, undef, (.bool false), x81, x82, x83, x84, x85, x86, x87, x88, x89, x90, x91, x92, x93, x94, x95, x96, x97, x11, (by simp only [Act.put, List.setIfInBounds_toArray, List.set_cons_zero, List.set_cons_succ]), (by simp only [Act.put, List.setIfInBounds_toArray, List.set_cons_zero, List.set_cons_succ]), hb, cd0, cd1, cd2, cd3, cd4, (fun _ => rfl), cd6, cd7, cd8, cd9, cd10, cd11, cd12, (fun _ => rfl), (fun _ => rfl), cd15, cd16, cd17, cd18, cd19, cd20, cd21, cd22, cd23, cd24, cd25, cd26, cd27, cd28, cd29, cd30, cd31, cd32⟩
                        · rintro L a w ⟨b0, b1, b2, b3, b4, b5, b6, b7, b8, b9, b10, b11, b12, b13, b14, b15, b16, b17, b18, b19, b20, b21, b22, b23, b24, b25, b26, b27, b28, b29, b30, b31, b32, x66, x67, x68, x69, x70, x71, x72, x73, x74, x75, x76, x77, x78, x79, x80, x81, x82, x83, x84, x85, x86, x87, x88, x89, x90, x91, x92, x93, x94, x95, x96, x97, x11, rfl, rfl, hb, cd0, cd1, cd2, cd3, cd4, cd5, cd6, cd7, cd8, cd9, cd10, cd11, cd12, cd13, cd14, cd15, cd16, cd17, cd18, cd19, cd20, cd21, cd22, cd23, cd24, cd25, cd26, cd27, cd28, cd29, cd30, cd31, cd32⟩ hf hd
                          have hf' : b15 = false := hf
                          subst hf'
                          have d14 : b14 = true := hd ⟨14, .data⟩ (by simp) rfl
                          subst d14
                          have d5 : b5 = true := hd ⟨5, .chain⟩ (by simp) rfl
                          subst d5
                          obtain rfl := cd14.out rfl
                          obtain rfl := cd5.out rfl
                          clear hf hd
                          try simp only [List.setIfInBounds_toArray, List.set_cons_zero, List.set_cons_succ]
                          intro K hK
                          rw [if_pos (by rfl)]
                          go_simp
                          exact hK.out _ _ ⟨b0, b1, b2, b3, b4, true, b6, b7, b8, b9, b10, b11, b12, b13, true, true, b16, b17, b18, b19, b20, b21, b22, b23, b24, b25, b26, b27, b28, b29, b30, b31, b32, x66, x67, x68, x69, x70, .bool false, x72, x73, x74, x75, x76, x77, x78, x79, .bool false, (.bool false), x82, x83, x84, x85, x86, x87, x88, x89, x90, x91, x92, x93, x94, x95, x96, x97, x11, (by simp only [Act.put, List.setIfInBounds_toArray, List.set_cons_zero, List.set_cons_succ]), (by simp only [Act.put, List.setIfInBounds_toArray, List.set_cons_zero, List.set_cons_succ]), hb, cd0, cd1, cd2, cd3, cd4, (fun _ => rfl), cd6, cd7, cd8, cd9, cd10, cd11, cd12, cd13, (fun _ => rfl), (fun _ => rfl), cd16, cd17, cd18, cd19, cd20, cd21, cd22, cd23, cd24, cd25, cd26, cd27, cd28, cd29, cd30, cd31, cd32⟩
                        · rintro L a w ⟨b0, b1, b2, b3, b4, b5, b6, b7, b8, b9, b10, b11, b12, b13, b14, b15, b16, b17, b18, b19, b20, b21, b22, b23, b24, b25, b26, b27, b28, b29, b30, b31, b32, x66, x67, x68, x69, x70, x71, x72, x73, x74, x75, x76, x77, x78, x79, x80, x81, x82, x83, x84, x85, x86, x87, x88, x89, x90, x91, x92, x93, x94, x95, x96, x97, x11, rfl, rfl, hb, cd0, cd1, cd2, cd3, cd4, cd5, cd6, cd7, cd8, cd9, cd10, cd11, cd12, cd13, cd14, cd15, cd16, cd17, cd18, cd19, cd20, cd21, cd22, cd23, cd24, cd25, cd26, cd27, cd28, cd29, cd30, cd31, cd32⟩ hf hd
                          have hf' : b16 = false := hf
                          subst hf'
                          have d15 : b15 = true := hd ⟨15, .guard⟩ (by simp) rfl
                          subst d15
                          obtain rfl := cd15.out rfl
                          clear hf hd
                          try simp only [List.setIfInBounds_toArray, List.set_cons_zero, List.set_cons_succ]
                          intro K hK
                          rw [if_pos (by rfl)]
                          go_simp
                          exact hK.out _ _ ⟨b0, b1, b2, b3, b4, b5, b6, b7, b8, b9, b10, b11, b12, b13, b14, true, true, b17, b18, b19, b20, b21, b22, b23, b24, b25, b26, b27, b28, b29, b30, b31, b32, x66, x67, x68, x69, x70, x71, x72, x73, x74, x75, x76, x77, x78, x79, x80, .bool false, (.slice (some ⟨gy, 0, none⟩) lY lY), x83, x84, x85, x86, x87, x88, x89, x90, x91, x92, x93, x94, x95, x96, x97, x11, (by simp only [Act.put, List.setIfInBounds_toArray, List.set_cons_zero, List.set_cons_succ]), (by simp only [Act.put, List.setIfInBounds_toArray, List.set_cons_zero, List.set_cons_succ]), hb, cd0, cd1, cd2, cd3, cd4, cd5, cd6, cd7, cd8, cd9, cd10, cd11, cd12, cd13, cd14, (fun _ => rfl), (fun _ => rfl), cd17, cd18, cd19, cd20, cd21, cd22, cd23, cd24, cd25, cd26, cd27, cd28, cd29, cd30, cd31, cd32⟩
                        · rintro L a w ⟨b0, b1, b2, b3, b4, b5, b6, b7, b8, b9, b10, b11, b12, b13, b14, b15, b16, b17, b18, b19, b20, b21, b22, b23, b24, b25, b26, b27, b28, b29, b30, b31, b32, x66, x67, x68, x69, x70, x71, x72, x73, x74, x75, x76, x77, x78, x79, x80, x81, x82, x83, x84, x85, x86, x87, x88, x89, x90, x91, x92, x93, x94, x95, x96, x97, x11, rfl, rfl, hb, cd0, cd1, cd2, cd3, cd4, cd5, cd6, cd7, cd8, cd9, cd10, cd11, cd12, cd13, cd14, cd15, cd16, cd17, cd18, cd19, cd20, cd21, cd22, cd23, cd24, cd25, cd26, cd27, cd28, cd29, cd30, cd31, cd32⟩ hf hd
                          have hf' : b17 = false := hf
                          subst hf'
                          have d16 : b16 = true := hd ⟨16, .data⟩ (by simp) rfl
                          subst d16
                          have d15 : b15 = true := hd ⟨15, .guard⟩ (by simp) rfl
                          subst d15
                          obtain rfl := cd16.out rfl
                          obtain rfl := cd15.out rfl
                          clear hf hd
                          try simp only [List.setIfInBounds_toArray, List.set_cons_zero, List.set_cons_succ]
                          intro K hK
                          rw [if_pos (by rfl)]
                          go_simp
                          exact hK.out _ _ ⟨b0, b1, b2, b3, b4, b5, b6, b7, b8, b9, b10, b11, b12, b13, b14, true, true, true, b18, b19, b20, b21, b22, b23, b24, b25, b26, b27, b28, b29, b30, b31, b32, x66, x67, x68, x69, x70, x71, x72, x73, x74, x75, x76, x77, x78, x79, x80, .bool false, .slice (some ⟨gy, 0, none⟩) lY lY, (.int .i64 (lY : Nat)), x84, x85, x86, x87, x88, x89, x90, x91, x92, x93, x94, x95, x96, x97, x11, (by simp only [Act.put, List.setIfInBounds_toArray, List.set_cons_zero, List.set_cons_succ]), (by simp only [Act.put, List.setIfInBounds_toArray, List.set_cons_zero, List.set_cons_succ]), hb, cd0, cd1, cd2, cd3, cd4, cd5, cd6, cd7, cd8, cd9, cd10, cd11, cd12, cd13, cd14, (fun _ => rfl), (fun _ => rfl), (fun _ => rfl), cd18, cd19, cd20, cd21, cd22, cd23, cd24, cd25, cd26, cd27, cd28, cd29, cd30, cd31, cd32⟩
                        · rintro L a w ⟨b0, b1, b2, b3, b4, b5, b6, b7, b8, b9, b10, b11, b12, b13, b14, b15, b16, b17, b18, b19, b20, b21, b22, b23, b24, b25, b26, b27, b28, b29, b30, b31, b32, x66, x67, x68, x69, x70, x71, x72, x73, x74, x75, x76, x77, x78, x79, x80, x81, x82, x83, x84, x85, x86, x87, x88, x89, x90, x91, x92, x93, x94, x95, x96, x97, x11, rfl, rfl, hb, cd0, cd1, cd2, cd3, cd4, cd5, cd6, cd7, cd8, cd9, cd10, cd11, cd12, cd13, cd14, cd15, cd16, cd17, cd18, cd19, cd20, cd21, cd22, cd23, cd24, cd25, cd26, cd27, cd28, cd29, cd30, cd31, cd32⟩ hf hd
                          have hf' : b18 = false := hf
                          subst hf'
                          have d15 : b15 = true := hd ⟨15, .guard⟩ (by simp) rfl
                          subst d15
                          obtain rfl := cd15.out rfl
                          clear hf hd
                          try simp only [List.setIfInBounds_toArray, List.set_cons_zero, List.set_cons_succ]
                          intro K hK
                          rw [if_pos (by rfl)]
                          go_simp
                          exact hK.out _ _ ⟨b0, b1, b2, b3, b4, b5, b6, b7, b8, b9, b10, b11, b12, b13, b14, true, b16, b17, true, b19, b20, b21, b22, b23, b24, b25, b26, b27, b28, b29, b30, b31, b32, x66, x67, x68, x69, x70, x71, x72, x73, x74, x75, x76, x77, x78, x79, x80, .bool false, x82, x83, (.slice (some ⟨gx, 0, none⟩) lX lX), x85, x86, x87, x88, x89, x90, x91, x92, x93, x94, x95, x96, x97, x11, (by simp only [Act.put, List.setIfInBounds_toArray, List.set_cons_zero, List.set_cons_succ]), (by simp only [Act.put, List.setIfInBounds_toArray, List.set_cons_zero, List.set_cons_succ]), hb, cd0, cd1, cd2, cd3, cd4, cd5, cd6, cd7, cd8, cd9, cd10, cd11, cd12, cd13, cd14, (fun _ => rfl), cd16, cd17, (fun _ => rfl), cd19, cd20, cd21, cd22, cd23, cd24, cd25, cd26, cd27, cd28, cd29, cd30, cd31, cd32⟩
                        · rintro L a w ⟨b0, b1, b2, b3, b4, b5, b6, b7, b8, b9, b10, b11, b12, b13, b14, b15, b16, b17, b18, b19, b20, b21, b22, b23, b24, b25, b26, b27, b28, b29, b30, b31, b32, x66, x67, x68, x69, x70, x71, x72, x73, x74, x75, x76, x77, x78, x79, x80, x81, x82, x83, x84, x85, x86, x87, x88, x89, x90, x91, x92, x93, x94, x95, x96, x97, x11, rfl, rfl, hb, cd0, cd1, cd2, cd3, cd4, cd5, cd6, cd7, cd8, cd9, cd10, cd11, cd12, cd13, cd14, cd15, cd16, cd17, cd18, cd19, cd20, cd21, cd22, cd23, cd24, cd25, cd26, cd27, cd28, cd29, cd30, cd31, cd32⟩ hf hd
                          have hf' : b19 = false := hf
                          subst hf'
                          have d18 : b18 = true := hd ⟨18, .data⟩ (by simp) rfl
                          subst d18
                          have d15 : b15 = true := hd ⟨15, .guard⟩ (by simp) rfl
                          subst d15
                          obtain rfl := cd18.out rfl
                          obtain rfl := cd15.out rfl
                          clear hf hd
                          try simp only [List.setIfInBounds_toArray, List.set_cons_zero, List.set_cons_succ]
                          intro K hK
                          rw [if_pos (by rfl)]
                          go_simp
                          exact hK.out _ _ ⟨b0, b1, b2, b3, b4, b5, b6, b7, b8, b9, b10, b11, b12, b13, b14, true, b16, b17, true, true, b20, b21, b22, b23, b24, b25, b26, b27, b28, b29, b30, b31, b32, x66, x67, x68, x69, x70, x71, x72, x73, x74, x75, x76, x77, x78, x79, x80, .bool false, x82, x83, .slice (some ⟨gx, 0, none⟩) lX lX, (.int .i64 (lX : Nat)), x86, x87, x88, x89, x90, x91, x92, x93, x94, x95, x96, x97, x11, (by simp only [Act.put, List.setIfInBounds_toArray, List.set_cons_zero, List.set_cons_succ]), (by simp only [Act.put, List.setIfInBounds_toArray, List.set_cons_zero, List.set_cons_succ]), hb, cd0, cd1, cd2, cd3, cd4, cd5, cd6, cd7, cd8, cd9, cd10, cd11, cd12, cd13, cd14, (fun _ => rfl), cd16, cd17, (fun _ => rfl), (fun _ => rfl), cd20, cd21, cd22, cd23, cd24, cd25, cd26, cd27, cd28, cd29, cd30, cd31, cd32⟩
                        · rintro L a w ⟨b0, b1, b2, b3, b4, b5, b6, b7, b8, b9, b10, b11, b12, b13, b14, b15, b16, b17, b18, b19, b20, b21, b22, b23, b24, b25, b26, b27, b28, b29, b30, b31, b32, x66, x67, x68, x69, x70, x71, x72, x73, x74, x75, x76, x77, x78, x79, x80, x81, x82, x83, x84, x85, x86, x87, x88, x89, x90, x91, x92, x93, x94, x95, x96, x97, x11, rfl, rfl, hb, cd0, cd1, cd2, cd3, cd4, cd5, cd6, cd7, cd8, cd9, cd10, cd11, cd12, cd13, cd14, cd15, cd16, cd17, cd18, cd19, cd20, cd21, cd22, cd23, cd24, cd25, cd26, cd27, cd28, cd29, cd30, cd31, cd32⟩ hf hd
                          have hf' : b20 = false := hf
                          subst hf'
                          have d17 : b17 = true := hd ⟨17, .data⟩ (by simp) rfl
                          subst d17
                          have d19 : b19 = true := hd ⟨19, .data⟩ (by simp) rfl
                          subst d19
                          have d15 : b15 = true := hd ⟨15, .guard⟩ (by simp) rfl
                          subst d15
                          obtain rfl := cd17.out rfl
                          obtain rfl := cd19.out rfl
                          obtain rfl := cd15.out rfl
                          clear hf hd
                          try simp only [List.setIfInBounds_toArray, List.set_cons_zero, List.set_cons_succ]
                          intro K hK
                          rw [if_pos (by rfl)]
                          go_simp
                          exact hK.out _ _ ⟨b0, b1, b2, b3, b4, b5, b6, b7, b8, b9, b10, b11, b12, b13, b14, true, b16, true, b18, true, true, b21, b22, b23, b24, b25, b26, b27, b28, b29, b30, b31, b32, x66, x67, x68, x69, x70, x71, x72, x73, x74, x75, x76, x77, x78, x79, x80, .bool false, x82, .int .i64 (lY : Nat), x84, .int .i64 (lX : Nat), (.bool true), x87, x88, x89, x90, x91, x92, x93, x94, x95, x96, x97, x11, (by simp only [Act.put, List.setIfInBounds_toArray, List.set_cons_zero, List.set_cons_succ]), (by simp only [Act.put, List.setIfInBounds_toArray, List.set_cons_zero, List.set_cons_succ]), hb, cd0, cd1, cd2, cd3, cd4, cd5, cd6, cd7, cd8, cd9, cd10, cd11, cd12, cd13, cd14, (fun _ => rfl), cd16, (fun _ => rfl), cd18, (fun _ => rfl), (fun _ => rfl), cd21, cd22, cd23, cd24, cd25, cd26, cd27, cd28, cd29, cd30, cd31, cd32⟩
                        · rintro L a w ⟨b0, b1, b2, b3, b4, b5, b6, b7, b8, b9, b10, b11, b12, b13, b14, b15, b16, b17, b18, b19, b20, b21, b22, b23, b24, b25, b26, b27, b28, b29, b30, b31, b32, x66, x67, x68, x69, x70, x71, x72, x73, x74, x75, x76, x77, x78, x79, x80, x81, x82, x83, x84, x85, x86, x87, x88, x89, x90, x91, x92, x93, x94, x95, x96, x97, x11, rfl, rfl, hb, cd0, cd1, cd2, cd3, cd4, cd5, cd6, cd7, cd8, cd9, cd10, cd11, cd12, cd13, cd14, cd15, cd16, cd17, cd18, cd19, cd20, cd21, cd22, cd23, cd24, cd25, cd26, cd27, cd28, cd29, cd30, cd31, cd32⟩ hf hd
                          have hf' : b21 = false := hf
                          subst hf'
                          have d20 : b20 = true := hd ⟨20, .data⟩ (by simp) rfl
                          subst d20
                          have d15 : b15 = true := hd ⟨15, .chain⟩ (by simp) rfl
                          subst d15
                          obtain rfl := cd20.out rfl
                          obtain rfl := cd15.out rfl
                          clear hf hd
                          try simp only [List.setIfInBounds_toArray, List.set_cons_zero, List.set_cons_succ]
                          intro K hK
                          rw [if_pos (by rfl)]
                          go_simp
                          exact hK.out _ _ ⟨b0, b1, b2, b3, b4, b5, b6, b7, b8, b9, b10, b11, b12, b13, b14, true, b16, b17, b18, b19, true, true, b22, b23, b24, b25, b26, b27, b28, b29, b30, b31, b32, x66, x67, x68, x69, x70, x71, x72, x73, x74, x75, x76, x77, x78, x79, x80, .bool false, x82, x83, x84, x85, .bool true, (.bool true), x88, x89, x90, x91, x92, x93, x94, x95, x96, x97, x11, (by simp only [Act.put, List.setIfInBounds_toArray, List.set_cons_zero, List.set_cons_succ]), (by simp only [Act.put, List.setIfInBounds_toArray, List.set_cons_zero, List.set_cons_succ]), hb, cd0, cd1, cd2, cd3, cd4, cd5, cd6, cd7, cd8, cd9, cd10, cd11, cd12, cd13, cd14, (fun _ => rfl), cd16, cd17, cd18, cd19, (fun _ => rfl), (fun _ => rfl), cd22, cd23, cd24, cd25, cd26, cd27, cd28, cd29, cd30, cd31, cd32⟩
                        · rintro L a w ⟨b0, b1, b2, b3, b4, b5, b6, b7, b8, b9, b10, b11, b12, b13, b14, b15, b16, b17, b18, b19, b20, b21, b22, b23, b24, b25, b26, b27, b28, b29, b30, b31, b32, x66, x67, x68, x69, x70, x71, x72, x73, x74, x75, x76, x77, x78, x79, x80, x81, x82, x83, x84, x85, x86, x87, x88, x89, x90, x91, x92, x93, x94, x95, x96, x97, x11, rfl, rfl, hb, cd0, cd1, cd2, cd3, cd4, cd5, cd6, cd7, cd8, cd9, cd10, cd11, cd12, cd13, cd14, cd15, cd16, cd17, cd18, cd19, cd20, cd21, cd22, cd23, cd24, cd25, cd26, cd27, cd28, cd29, cd30, cd31, cd32⟩ hf hd
                          have hf' : b22 = false := hf
                          subst hf'
                          have d21 : b21 = true := hd ⟨21, .guard⟩ (by simp) rfl
                          subst d21
                          obtain rfl := cd21.out rfl
                          clear hf hd
                          try simp only [List.setIfInBounds_toArray, List.set_cons_zero, List.set_cons_succ]
                          intro K hK
                          rw [if_pos (by rfl)]
                          go_simp
                          exact hK.out _ _ ⟨b0, b1, b2, b3, b4, b5, b6, b7, b8, b9, b10, b11, b12, b13, b14, b15, b16, b17, b18, b19, b20, true, true, b23, b24, b25, b26, b27, b28, b29, b30, b31, b32, x66, x67, x68, x69, x70, x71, x72, x73, x74, x75, x76, x77, x78, x79, x80, x81, x82, x83, x84, x85, x86, .bool true, (.slice (some ⟨gx, 0, none⟩) lX lX), x89, x90, x91, x92, x93, x94, x95, x96, x97, x11, (by simp only [Act.put, List.setIfInBounds_toArray, List.set_cons_zero, List.set_cons_succ]), (by simp only [Act.put, List.setIfInBounds_toArray, List.set_cons_zero, List.set_cons_succ]), hb, cd0, cd1, cd2, cd3, cd4, cd5, cd6, cd7, cd8, cd9, cd10, cd11, cd12, cd13, cd14, cd15, cd16, cd17, cd18, cd19, cd20, (fun _ => rfl), (fun _ => rfl), cd23, cd24, cd25, cd26, cd27, cd28, cd29, cd30, cd31, cd32⟩
                        · rintro L a w ⟨b0, b1, b2, b3, b4, b5, b6, b7, b8, b9, b10, b11, b12, b13, b14, b15, b16, b17, b18, b19, b20, b21, b22, b23, b24, b25, b26, b27, b28, b29, b30, b31, b32, x66, x67, x68, x69, x70, x71, x72, x73, x74, x75, x76, x77, x78, x79, x80, x81, x82, x83, x84, x85, x86, x87, x88, x89, x90, x91, x92, x93, x94, x95, x96, x97, x11, rfl, rfl, hb, cd0, cd1, cd2, cd3, cd4, cd5, cd6, cd7, cd8, cd9, cd10, cd11, cd12, cd13, cd14, cd15, cd16, cd17, cd18, cd19, cd20, cd21, cd22, cd23, cd24, cd25, cd26, cd27, cd28, cd29, cd30, cd31, cd32⟩ hf hd
                          have hf' : b23 = false := hf
                          subst hf'
                          have d21 : b21 = true := hd ⟨21, .guard⟩ (by simp) rfl
                          subst d21
                          obtain rfl := cd21.out rfl
                          clear hf hd
                          try simp only [List.setIfInBounds_toArray, List.set_cons_zero, List.set_cons_succ]
                          intro K hK
                          rw [if_pos (by rfl)]
                          go_simp
                          exact hK.out _ _ ⟨b0, b1, b2, b3, b4, b5, b6, b7, b8, b9, b10, b11, b12, b13, b14, b15, b16, b17, b18, b19, b20, true, b22, true, b24, b25, b26, b27, b28, b29, b30, b31, b32, x66, x67, x68, x69, x70, x71, x72, x73, x74, x75, x76, x77, x78, x79, x80, x81, x82, x83, x84, x85, x86, .bool true, x88, (.slice (some ⟨gy, 0, none⟩) lY lY), x90, x91, x92, x93, x94, x95, x96, x97, x11, (by simp only [Act.put, List.setIfInBounds_toArray, List.set_cons_zero, List.set_cons_succ]), (by simp only [Act.put, List.setIfInBounds_toArray, List.set_cons_zero, List.set_cons_succ]), hb, cd0, cd1, cd2, cd3, cd4, cd5, cd6, cd7, cd8, cd9, cd10, cd11, cd12, cd13, cd14, cd15, cd16, cd17, cd18, cd19, cd20, (fun _ => rfl), cd22, (fun _ => rfl), cd24, cd25, cd26, cd27, cd28, cd29, cd30, cd31, cd32⟩
                        · rintro L a w ⟨b0, b1, b2, b3, b4, b5, b6, b7, b8, b9, b10, b11, b12, b13, b14, b15, b16, b17, b18, b19, b20, b21, b22, b23, b24, b25, b26, b27, b28, b29, b30, b31, b32, x66, x67, x68, x69, x70, x71, x72, x73, x74, x75, x76, x77, x78, x79, x80, x81, x82, x83, x84, x85, x86, x87, x88, x89, x90, x91, x92, x93, x94, x95, x96, x97, x11, rfl, rfl, hb, cd0, cd1, cd2, cd3, cd4, cd5, cd6, cd7, cd8, cd9, cd10, cd11, cd12, cd13, cd14, cd15, cd16, cd17, cd18, cd19, cd20, cd21, cd22, cd23, cd24, cd25, cd26, cd27, cd28, cd29, cd30, cd31, cd32⟩ hf hd
                          have hf' : b24 = false := hf
                          subst hf'
                          have d23 : b23 = true := hd ⟨23, .data⟩ (by simp) rfl
                          subst d23
                          have d21 : b21 = true := hd ⟨21, .guard⟩ (by simp) rfl
                          subst d21
                          obtain rfl := cd23.out rfl
                          obtain rfl := cd21.out rfl
                          clear hf hd
                          try simp only [List.setIfInBounds_toArray, List.set_cons_zero, List.set_cons_succ]
                          intro K hK
                          rw [if_pos (by rfl)]
                          go_simp
                          exact hK.out _ _ ⟨b0, b1, b2, b3, b4, b5, b6, b7, b8, b9, b10, b11, b12, b13, b14, b15, b16, b17, b18, b19, b20, true, b22, true, true, b25, b26, b27, b28, b29, b30, b31, b32, x66, x67, x68, x69, x70, x71, x72, x73, x74, x75, x76, x77, x78, x79, x80, x81, x82, x83, x84, x85, x86, .bool true, x88, .slice (some ⟨gy, 0, none⟩) lY lY, (.int .i64 (lY : Nat)), x91, x92, x93, x94, x95, x96, x97, x11, (by simp only [Act.put, List.setIfInBounds_toArray, List.set_cons_zero, List.set_cons_succ]), (by simp only [Act.put, List.setIfInBounds_toArray, List.set_cons_zero, List.set_cons_succ]), hb, cd0, cd1, cd2, cd3, cd4, cd5, cd6, cd7, cd8, cd9, cd10, cd11, cd12, cd13, cd14, cd15, cd16, cd17, cd18, cd19, cd20, (fun _ => rfl), cd22, (fun _ => rfl), (fun _ => rfl), cd25, cd26, cd27, cd28, cd29, cd30, cd31, cd32⟩
                        · rintro L a w ⟨b0, b1, b2, b3, b4, b5, b6, b7, b8, b9, b10, b11, b12, b13, b14, b15, b16, b17, b18, b19, b20, b21, b22, b23, b24, b25, b26, b27, b28, b29, b30, b31, b32, x66, x67, x68, x69, x70, x71, x72, x73, x74, x75, x76, x77, x78, x79, x80, x81, x82, x83, x84, x85, x86, x87, x88, x89, x90, x91, x92, x93, x94, x95, x96, x97, x11, rfl, rfl, hb, cd0, cd1, cd2, cd3, cd4, cd5, cd6, cd7, cd8, cd9, cd10, cd11, cd12, cd13, cd14, cd15, cd16, cd17, cd18, cd19, cd20, cd21, cd22, cd23, cd24, cd25, cd26, cd27, cd28, cd29, cd30, cd31, cd32⟩ hf hd
                          have hf' : b25 = false := hf
                          subst hf'
                          have d22 : b22 = true := hd ⟨22, .data⟩ (by simp) rfl
                          subst d22
                          have d24 : b24 = true := hd ⟨24, .data⟩ (by simp) rfl
                          subst d24
                          have d21 : b21 = true := hd ⟨21, .guard⟩ (by simp) rfl
                          subst d21
                          obtain rfl := cd22.out rfl
                          obtain rfl := cd24.out rfl
                          obtain rfl := cd21.out rfl
                          clear hf hd
                          try simp only [List.setIfInBounds_toArray, List.set_cons_zero, List.set_cons_succ]
                          intro K hK
                          rw [if_pos (by rfl)]
                          go_simp
                          exact hK.out _ _ ⟨b0, b1, b2, b3, b4, b5, b6, b7, b8, b9, b10, b11, b12, b13, b14, b15, b16, b17, b18, b19, b20, true, true, b23, true, true, b26, b27, b28, b29, b30, b31, b32, x66, x67, x68, x69, x70, x71, x72, x73, x74, x75, x76, x77, x78, x79, x80, x81, x82, x83, x84, x85, x86, .bool true, .slice (some ⟨gx, 0, none⟩) lX lX, x89, .int .i64 (lY : Nat), (.slice (some ⟨gx, 0, none⟩) lY lX), x92, x93, x94, x95, x96, x97, x11, (by simp only [Act.put, List.setIfInBounds_toArray, List.set_cons_zero, List.set_cons_succ]), (by simp only [Act.put, List.setIfInBounds_toArray, List.set_cons_zero, List.set_cons_succ]), hb, cd0, cd1, cd2, cd3, cd4, cd5, cd6, cd7, cd8, cd9, cd10, cd11, cd12, cd13, cd14, cd15, cd16, cd17, cd18, cd19, cd20, (fun _ => rfl), (fun _ => rfl), cd23, (fun _ => rfl), (fun _ => rfl), cd26, cd27, cd28, cd29, cd30, cd31, cd32⟩
                        · rintro L a w ⟨b0, b1, b2, b3, b4, b5, b6, b7, b8, b9, b10, b11, b12, b13, b14, b15, b16, b17, b18, b19, b20, b21, b22, b23, b24, b25, b26, b27, b28, b29, b30, b31, b32, x66, x67, x68, x69, x70, x71, x72, x73, x74, x75, x76, x77, x78, x79, x80, x81, x82, x83, x84, x85, x86, x87, x88, x89, x90, x91, x92, x93, x94, x95, x96, x97, x11, rfl, rfl, hb, cd0, cd1, cd2, cd3, cd4, cd5, cd6, cd7, cd8, cd9, cd10, cd11, cd12, cd13, cd14, cd15, cd16, cd17, cd18, cd19, cd20, cd21, cd22, cd23, cd24, cd25, cd26, cd27, cd28, cd29, cd30, cd31, cd32⟩ hf hd
                          have hf' : b26 = false := hf
                          subst hf'
                          have d25 : b25 = true := hd ⟨25, .data⟩ (by simp) rfl
                          subst d25
                          have d21 : b21 = true := hd ⟨21, .guard⟩ (by simp) rfl
                          subst d21
                          obtain rfl := cd25.out rfl
                          obtain rfl := cd21.out rfl
                          clear hf hd
                          try simp only [List.setIfInBounds_toArray, List.set_cons_zero, List.set_cons_succ]
                          have cv := (jT.past hb).conv byteTy Try.underlying9
                          intro K hK
                          rw [if_pos (by rfl)]
                          go_simp
                          exact hK.out _ _ ⟨b0, b1, b2, b3, b4, b5, b6, b7, b8, b9, b10, b11, b12, b13, b14, b15, b16, b17, b18, b19, b20, true, b22, b23, b24, true, true, b27, b28, b29, b30, b31, b32, x66, x67, x68, x69, x70, x71, x72, x73, x74, x75, x76, x77, x78, x79, x80, x81, x82, x83, x84, x85, x86, .bool true, x88, x89, x90, .slice (some ⟨gx, 0, none⟩) lY lX, (.string ⟨(KX.take lY).toArray⟩), x93, x94, x95, x96, x97, x11, (by simp only [Act.put, List.setIfInBounds_toArray, List.set_cons_zero, List.set_cons_succ]), (by simp only [Act.put, List.setIfInBounds_toArray, List.set_cons_zero, List.set_cons_succ]), hb, cd0, cd1, cd2, cd3, cd4, cd5, cd6, cd7, cd8, cd9, cd10, cd11, cd12, cd13, cd14, cd15, cd16, cd17, cd18, cd19, cd20, (fun _ => rfl), cd22, cd23, cd24, (fun _ => rfl), (fun _ => rfl), cd27, cd28, cd29, cd30, cd31, cd32⟩
                        · rintro L a w ⟨b0, b1, b2, b3, b4, b5, b6, b7, b8, b9, b10, b11, b12, b13, b14, b15, b16, b17, b18, b19, b20, b21, b22, b23, b24, b25, b26, b27, b28, b29, b30, b31, b32, x66, x67, x68, x69, x70, x71, x72, x73, x74, x75, x76, x77, x78, x79, x80, x81, x82, x83, x84, x85, x86, x87, x88, x89, x90, x91, x92, x93, x94, x95, x96, x97, x11, rfl, rfl, hb, cd0, cd1, cd2, cd3, cd4, cd5, cd6, cd7, cd8, cd9, cd10, cd11, cd12, cd13, cd14, cd15, cd16, cd17, cd18, cd19, cd20, cd21, cd22, cd23, cd24, cd25, cd26, cd27, cd28, cd29, cd30, cd31, cd32⟩ hf hd
                          have hf' : b27 = false := hf
                          subst hf'
                          have d21 : b21 = true := hd ⟨21, .guard⟩ (by simp) rfl
                          subst d21
                          obtain rfl := cd21.out rfl
                          clear hf hd
                          try simp only [List.setIfInBounds_toArray, List.set_cons_zero, List.set_cons_succ]
                          intro K hK
                          rw [if_pos (by rfl)]
                          go_simp
                          exact hK.out _ _ ⟨b0, b1, b2, b3, b4, b5, b6, b7, b8, b9, b10, b11, b12, b13, b14, b15, b16, b17, b18, b19, b20, true, b22, b23, b24, b25, b26, true, b28, b29, b30, b31, b32, x66, x67, x68, x69, x70, x71, x72, x73, x74, x75, x76, x77, x78, x79, x80, x81, x82, x83, x84, x85, x86, .bool true, x88, x89, x90, x91, x92, (.slice (some ⟨gy, 0, none⟩) lY lY), x94, x95, x96, x97, x11, (by simp only [Act.put, List.setIfInBounds_toArray, List.set_cons_zero, List.set_cons_succ]), (by simp only [Act.put, List.setIfInBounds_toArray, List.set_cons_zero, List.set_cons_succ]), hb, cd0, cd1, cd2, cd3, cd4, cd5, cd6, cd7, cd8, cd9, cd10, cd11, cd12, cd13, cd14, cd15, cd16, cd17, cd18, cd19, cd20, (fun _ => rfl), cd22, cd23, cd24, cd25, cd26, (fun _ => rfl), cd28, cd29, cd30, cd31, cd32⟩
                        · rintro L a w ⟨b0, b1, b2, b3, b4, b5, b6, b7, b8, b9, b10, b11, b12, b13, b14, b15, b16, b17, b18, b19, b20, b21, b22, b23, b24, b25, b26, b27, b28, b29, b30, b31, b32, x66, x67, x68, x69, x70, x71, x72, x73, x74, x75, x76, x77, x78, x79, x80, x81, x82, x83, x84, x85, x86, x87, x88, x89, x90, x91, x92, x93, x94, x95, x96, x97, x11, rfl, rfl, hb, cd0, cd1, cd2, cd3, cd4, cd5, cd6, cd7, cd8, cd9, cd10, cd11, cd12, cd13, cd14, cd15, cd16, cd17, cd18, cd19, cd20, cd21, cd22, cd23, cd24, cd25, cd26, cd27, cd28, cd29, cd30, cd31, cd32⟩ hf hd
                          have hf' : b28 = false := hf
                          subst hf'
                          have d27 : b27 = true := hd ⟨27, .data⟩ (by simp) rfl
                          subst d27
                          have d21 : b21 = true := hd ⟨21, .guard⟩ (by simp) rfl
                          subst d21
                          obtain rfl := cd27.out rfl
                          obtain rfl := cd21.out rfl
                          clear hf hd
                          try simp only [List.setIfInBounds_toArray, List.set_cons_zero, List.set_cons_succ]
                          have cv := (jY.past hb).conv byteTy Try.underlying9
                          intro K hK
                          rw [if_pos (by rfl)]
                          go_simp
                          exact hK.out _ _ ⟨b0, b1, b2, b3, b4, b5, b6, b7, b8, b9, b10, b11, b12, b13, b14, b15, b16, b17, b18, b19, b20, true, b22, b23, b24, b25, b26, true, true, b29, b30, b31, b32, x66, x67, x68, x69, x70, x71, x72, x73, x74, x75, x76, x77, x78, x79, x80, x81, x82, x83, x84, x85, x86, .bool true, x88, x89, x90, x91, x92, .slice (some ⟨gy, 0, none⟩) lY lY, (.string ⟨KY.toArray⟩), x95, x96, x97, x11, (by simp only [Act.put, List.setIfInBounds_toArray, List.set_cons_zero, List.set_cons_succ]), (by simp only [Act.put, List.setIfInBounds_toArray, List.set_cons_zero, List.set_cons_succ]), hb, cd0, cd1, cd2, cd3, cd4, cd5, cd6, cd7, cd8, cd9, cd10, cd11, cd12, cd13, cd14, cd15, cd16, cd17, cd18, cd19, cd20, (fun _ => rfl), cd22, cd23, cd24, cd25, cd26, (fun _ => rfl), (fun _ => rfl), cd29, cd30, cd31, cd32⟩
                        · rintro L a w ⟨b0, b1, b2, b3, b4, b5, b6, b7, b8, b9, b10, b11, b12, b13, b14, b15, b16, b17, b18, b19, b20, b21, b22, b23, b24, b25, b26, b27, b28, b29, b30, b31, b32, x66, x67, x68, x69, x70, x71, x72, x73, x74, x75, x76, x77, x78, x79, x80, x81, x82, x83, x84, x85, x86, x87, x88, x89, x90, x91, x92, x93, x94, x95, x96, x97, x11, rfl, rfl, hb, cd0, cd1, cd2, cd3, cd4, cd5, cd6, cd7, cd8, cd9, cd10, cd11, cd12, cd13, cd14, cd15, cd16, cd17, cd18, cd19, cd20, cd21, cd22, cd23, cd24, cd25, cd26, cd27, cd28, cd29, cd30, cd31, cd32⟩ hf hd
                          have hf' : b29 = false := hf
                          subst hf'
                          have d26 : b26 = true := hd ⟨26, .data⟩ (by simp) rfl
                          subst d26
                          have d28 : b28 = true := hd ⟨28, .data⟩ (by simp) rfl
                          subst d28
                          have d21 : b21 = true := hd ⟨21, .guard⟩ (by simp) rfl
                          subst d21
                          obtain rfl := cd26.out rfl
                          obtain rfl := cd28.out rfl
                          obtain rfl := cd21.out rfl
                          clear hf hd
                          try simp only [List.setIfInBounds_toArray, List.set_cons_zero, List.set_cons_succ]
                          intro K hK
                          rw [if_pos (by rfl)]
                          go_simp
                          exact hK.out _ _ ⟨b0, b1, b2, b3, b4, b5, b6, b7, b8, b9, b10, b11, b12, b13, b14, b15, b16, b17, b18, b19, b20, true, b22, b23, b24, b25, true, b27, true, true, b30, b31, b32, x66, x67, x68, x69, x70, x71, x72, x73, x74, x75, x76, x77, x78, x79, x80, x81, x82, x83, x84, x85, x86, .bool true, x88, x89, x90, x91, .string ⟨(KX.take lY).toArray⟩, x93, .string ⟨KY.toArray⟩, (.bool false), x96, x97, x11, (by simp only [Act.put, List.setIfInBounds_toArray, List.set_cons_zero, List.set_cons_succ]), (by simp only [Act.put, List.setIfInBounds_toArray, List.set_cons_zero, List.set_cons_succ]), hb, cd0, cd1, cd2, cd3, cd4, cd5, cd6, cd7, cd8, cd9, cd10, cd11, cd12, cd13, cd14, cd15, cd16, cd17, cd18, cd19, cd20, (fun _ => rfl), cd22, cd23, cd24, cd25, (fun _ => rfl), cd27, (fun _ => rfl), (fun _ => rfl), cd30, cd31, cd32⟩
                        · rintro L a w ⟨b0, b1, b2, b3, b4, b5, b6, b7, b8, b9, b10, b11, b12, b13, b14, b15, b16, b17, b18, b19, b20, b21, b22, b23, b24, b25, b26, b27, b28, b29, b30, b31, b32, x66, x67, x68, x69, x70, x71, x72, x73, x74, x75, x76, x77, x78, x79, x80, x81, x82, x83, x84, x85, x86, x87, x88, x89, x90, x91, x92, x93, x94, x95, x96, x97, x11, rfl, rfl, hb, cd0, cd1, cd2, cd3, cd4, cd5, cd6, cd7, cd8, cd9, cd10, cd11, cd12, cd13, cd14, cd15, cd16, cd17, cd18, cd19, cd20, cd21, cd22, cd23, cd24, cd25, cd26, cd27, cd28, cd29, cd30, cd31, cd32⟩ hf hd
                          have hf' : b30 = false := hf
                          subst hf'
                          have d21 : b21 = true := hd ⟨21, .data⟩ (by simp) rfl
                          subst d21
                          have d29 : b29 = true := hd ⟨29, .data⟩ (by simp) rfl
                          subst d29
                          have d15 : b15 = true := hd ⟨15, .guard⟩ (by simp) rfl
                          subst d15
                          obtain rfl := cd21.out rfl
                          obtain rfl := cd29.out rfl
                          obtain rfl := cd15.out rfl
                          clear hf hd
                          try simp only [List.setIfInBounds_toArray, List.set_cons_zero, List.set_cons_succ]
                          intro K hK
                          rw [if_pos (by rfl)]
                          go_simp
                          exact hK.out _ _ ⟨b0, b1, b2, b3, b4, b5, b6, b7, b8, b9, b10, b11, b12, b13, b14, true, b16, b17, b18, b19, b20, true, b22, b23, b24, b25, b26, b27, b28, true, true, b31, b32, x66, x67, x68, x69, x70, x71, x72, x73, x74, x75, x76, x77, x78, x79, x80, .bool false, x82, x83, x84, x85, x86, .bool true, x88, x89, x90, x91, x92, x93, x94, .bool false, (.bool false), x97, x11, (by simp only [Act.put, List.setIfInBounds_toArray, List.set_cons_zero, List.set_cons_succ]), (by simp only [Act.put, List.setIfInBounds_toArray, List.set_cons_zero, List.set_cons_succ]), hb, cd0, cd1, cd2, cd3, cd4, cd5, cd6, cd7, cd8, cd9, cd10, cd11, cd12, cd13, cd14, (fun _ => rfl), cd16, cd17, cd18, cd19, cd20, (fun _ => rfl), cd22, cd23, cd24, cd25, cd26, cd27, cd28, (fun _ => rfl), (fun _ => rfl), cd31, cd32⟩
                        · rintro L a w ⟨b0, b1, b2, b3, b4, b5, b6, b7, b8, b9, b10, b11, b12, b13, b14, b15, b16, b17, b18, b19, b20, b21, b22, b23, b24, b25, b26, b27, b28, b29, b30, b31, b32, x66, x67, x68, x69, x70, x71, x72, x73, x74, x75, x76, x77, x78, x79, x80, x81, x82, x83, x84, x85, x86, x87, x88, x89, x90, x91, x92, x93, x94, x95, x96, x97, x11, rfl, rfl, hb, cd0, cd1, cd2, cd3, cd4, cd5, cd6, cd7, cd8, cd9, cd10, cd11, cd12, cd13, cd14, cd15, cd16, cd17, cd18, cd19, cd20, cd21, cd22, cd23, cd24, cd25, cd26, cd27, cd28, cd29, cd30, cd31, cd32⟩ hf hd
                          have hf' : b31 = false := hf
                          subst hf'
                          have d15 : b15 = true := hd ⟨15, .data⟩ (by simp) rfl
                          subst d15
                          have d30 : b30 = true := hd ⟨30, .data⟩ (by simp) rfl
                          subst d30
                          obtain rfl := cd15.out rfl
                          obtain rfl := cd30.out rfl
                          clear hf hd
                          try simp only [List.setIfInBounds_toArray, List.set_cons_zero, List.set_cons_succ]
                          intro K hK
                          rw [if_pos (by rfl)]
                          go_simp
                          exact hK.out _ _ ⟨b0, b1, b2, b3, b4, b5, b6, b7, b8, b9, b10, b11, b12, b13, b14, true, b16, b17, b18, b19, b20, b21, b22, b23, b24, b25, b26, b27, b28, b29, true, true, b32, x66, x67, x68, x69, x70, x71, x72, x73, x74, x75, x76, x77, x78, x79, x80, .bool false, x82, x83, x84, x85, x86, x87, x88, x89, x90, x91, x92, x93, x94, x95, .bool false, (.bool false), x11, (by simp only [Act.put, List.setIfInBounds_toArray, List.set_cons_zero, List.set_cons_succ]), (by simp only [Act.put, List.setIfInBounds_toArray, List.set_cons_zero, List.set_cons_succ]), hb, cd0, cd1, cd2, cd3, cd4, cd5, cd6, cd7, cd8, cd9, cd10, cd11, cd12, cd13, cd14, (fun _ => rfl), cd16, cd17, cd18, cd19, cd20, cd21, cd22, cd23, cd24, cd25, cd26, cd27, cd28, cd29, (fun _ => rfl), (fun _ => rfl), cd32⟩
                        · rintro L a w ⟨b0, b1, b2, b3, b4, b5, b6, b7, b8, b9, b10, b11, b12, b13, b14, b15, b16, b17, b18, b19, b20, b21, b22, b23, b24, b25, b26, b27, b28, b29, b30, b31, b32, x66, x67, x68, x69, x70, x71, x72, x73, x74, x75, x76, x77, x78, x79, x80, x81, x82, x83, x84, x85, x86, x87, x88, x89, x90, x91, x92, x93, x94, x95, x96, x97, x11, rfl, rfl, hb, cd0, cd1, cd2, cd3, cd4, cd5, cd6, cd7, cd8, cd9, cd10, cd11, cd12, cd13, cd14, cd15, cd16, cd17, cd18, cd19, cd20, cd21, cd22, cd23, cd24, cd25, cd26, cd27, cd28, cd29, cd30, cd31, cd32⟩ hf hd
                          have hf' : b32 = false := hf
                          subst hf'
                          have d31 : b31 = true := hd ⟨31, .data⟩ (by simp) rfl
                          subst d31
                          have d21 : b21 = true := hd ⟨21, .chain⟩ (by simp) rfl
                          subst d21
                          have d0 : b0 = true := hd ⟨0, .phase⟩ (by simp) rfl
                          subst d0
                          have d1 : b1 = true := hd ⟨1, .phase⟩ (by simp) rfl
                          subst d1
                          have d2 : b2 = true := hd ⟨2, .phase⟩ (by simp) rfl
                          subst d2
                          have d3 : b3 = true := hd ⟨3, .phase⟩ (by simp) rfl
                          subst d3
                          have d4 : b4 = true := hd ⟨4, .phase⟩ (by simp) rfl
                          subst d4
                          have d5 : b5 = true := hd ⟨5, .phase⟩ (by simp) rfl
                          subst d5
                          have d6 : b6 = true := hd ⟨6, .phase⟩ (by simp) rfl
                          subst d6
                          have d7 : b7 = true := hd ⟨7, .phase⟩ (by simp) rfl
                          subst d7
                          have d8 : b8 = true := hd ⟨8, .phase⟩ (by simp) rfl
                          subst d8
                          have d9 : b9 = true := hd ⟨9, .phase⟩ (by simp) rfl
                          subst d9
                          have d10 : b10 = true := hd ⟨10, .phase⟩ (by simp) rfl
                          subst d10
                          have d11 : b11 = true := hd ⟨11, .phase⟩ (by simp) rfl
                          subst d11
                          have d12 : b12 = true := hd ⟨12, .phase⟩ (by simp) rfl
                          subst d12
                          have d13 : b13 = true := hd ⟨13, .phase⟩ (by simp) rfl
                          subst d13
                          have d14 : b14 = true := hd ⟨14, .phase⟩ (by simp) rfl
                          subst d14
                          have d15 : b15 = true := hd ⟨15, .phase⟩ (by simp) rfl
                          subst d15
                          have d16 : b16 = true := hd ⟨16, .phase⟩ (by simp) rfl
                          subst d16
                          have d17 : b17 = true := hd ⟨17, .phase⟩ (by simp) rfl
                          subst d17
                          have d18 : b18 = true := hd ⟨18, .phase⟩ (by simp) rfl
                          subst d18
                          have d19 : b19 = true := hd ⟨19, .phase⟩ (by simp) rfl
                          subst d19
                          have d20 : b20 = true := hd ⟨20, .phase⟩ (by simp) rfl
                          subst d20
                          have d22 : b22 = true := hd ⟨22, .phase⟩ (by simp) rfl
                          subst d22
                          have d23 : b23 = true := hd ⟨23, .phase⟩ (by simp) rfl
                          subst d23
                          have d24 : b24 = true := hd ⟨24, .phase⟩ (by simp) rfl
                          subst d24
                          have d25 : b25 = true := hd ⟨25, .phase⟩ (by simp) rfl
                          subst d25
                          have d26 : b26 = true := hd ⟨26, .phase⟩ (by simp) rfl
                          subst d26
                          have d27 : b27 = true := hd ⟨27, .phase⟩ (by simp) rfl
                          subst d27
                          have d28 : b28 = true := hd ⟨28, .phase⟩ (by simp) rfl
                          subst d28
                          have d29 : b29 = true := hd ⟨29, .phase⟩ (by simp) rfl
                          subst d29
                          have d30 : b30 = true := hd ⟨30, .phase⟩ (by simp) rfl
                          subst d30
                          obtain rfl := cd31.out rfl
                          obtain rfl := cd21.out rfl
                          obtain rfl := cd0.out rfl
                          obtain rfl := cd1.out rfl
                          obtain rfl := cd2.out rfl
                          obtain rfl := cd3.out rfl
                          obtain rfl := cd4.out rfl
                          obtain rfl := cd5.out rfl
                          obtain rfl := cd6.out rfl
                          obtain rfl := cd7.out rfl
                          obtain rfl := cd8.out rfl
                          obtain rfl := cd9.out rfl
                          obtain rfl := cd10.out rfl
                          obtain rfl := cd11.out rfl
                          obtain rfl := cd12.out rfl
                          obtain rfl := cd13.out rfl
                          obtain rfl := cd14.out rfl
                          obtain rfl := cd15.out rfl
                          obtain rfl := cd16.out rfl
                          obtain rfl := cd17.out rfl
                          obtain rfl := cd18.out rfl
                          obtain rfl := cd19.out rfl
                          obtain rfl := cd20.out rfl
                          obtain rfl := cd22.out rfl
                          obtain rfl := cd23.out rfl
                          obtain rfl := cd24.out rfl
                          obtain rfl := cd25.out rfl
                          obtain rfl := cd26.out rfl
                          obtain rfl := cd27.out rfl
                          obtain rfl := cd28.out rfl
                          obtain rfl := cd29.out rfl
                          obtain rfl := cd30.out rfl
                          clear hf hd
                          try simp only [List.setIfInBounds_toArray, List.set_cons_zero, List.set_cons_succ]
                          intro K hK
                          rw [if_pos (by rfl)]
                          go_simp
                          exact hK.out _ _ ⟨true, true, true, true, true, true, true, true, true, true, true, true, true, true, true, true, true, true, true, true, true, true, true, true, true, true, true, true, true, true, true, true, true, .slice (some ⟨gx, 0, none⟩) lX lX, .int .i64 (lX : Nat), .slice (some ⟨gy, 0, none⟩) lY lY, .int .i64 (lY : Nat), .bool false, .bool false, undef, undef, undef, undef, undef, undef, undef, undef, .bool false, .bool false, .slice (some ⟨gy, 0, none⟩) lY lY, .int .i64 (lY : Nat), .slice (some ⟨gx, 0, none⟩) lX lX, .int .i64 (lX : Nat), .bool true, .bool true, .slice (some ⟨gx, 0, none⟩) lX lX, .slice (some ⟨gy, 0, none⟩) lY lY, .int .i64 (lY : Nat), .slice (some ⟨gx, 0, none⟩) lY lX, .string ⟨(KX.take lY).toArray⟩, .slice (some ⟨gy, 0, none⟩) lY lY, .string ⟨KY.toArray⟩, .bool false, .bool false, .bool false, (.bool false), (by simp only [Act.put, List.setIfInBounds_toArray, List.set_cons_zero, List.set_cons_succ]), (by simp only [Act.put, List.setIfInBounds_toArray, List.set_cons_zero, List.set_cons_succ]), hb, (fun _ => rfl), (fun _ => rfl), (fun _ => rfl), (fun _ => rfl), (fun _ => rfl), (fun _ => rfl), (fun _ => rfl), (fun _ => rfl), (fun _ => rfl), (fun _ => rfl), (fun _ => rfl), (fun _ => rfl), (fun _ => rfl), (fun _ => rfl), (fun _ => rfl), (fun _ => rfl), (fun _ => rfl), (fun _ => rfl), (fun _ => rfl), (fun _ => rfl), (fun _ => rfl), (fun _ => rfl), (fun _ => rfl), (fun _ => rfl), (fun _ => rfl), (fun _ => rfl), (fun _ => rfl), (fun _ => rfl), (fun _ => rfl), (fun _ => rfl), (fun _ => rfl), (fun _ => rfl), (fun _ => rfl)⟩
                      · rintro a w ⟨b0, b1, b2, b3, b4, b5, b6, b7, b8, b9, b10, b11, b12, b13, b14, b15, b16, b17, b18, b19, b20, b21, b22, b23, b24, b25, b26, b27, b28, b29, b30, b31, b32, x66, x67, x68, x69, x70, x71, x72, x73, x74, x75, x76, x77, x78, x79, x80, x81, x82, x83, x84, x85, x86, x87, x88, x89, x90, x91, x92, x93, x94, x95, x96, x97, x11, hL, rfl, hb, cd0, cd1, cd2, cd3, cd4, cd5, cd6, cd7, cd8, cd9, cd10, cd11, cd12, cd13, cd14, cd15, cd16, cd17, cd18, cd19, cd20, cd21, cd22, cd23, cd24, cd25, cd26, cd27, cd28, cd29, cd30, cd31, cd32⟩
                        have hL' : [true, true, true, true, true, true, true, true, true, true, true, true, true, true, true, true, true, true, true, true, true, true, true, true, true, true, true, true, true, true, true, true, true] = [b0, b1, b2, b3, b4, b5, b6, b7, b8, b9, b10, b11, b12, b13, b14, b15, b16, b17, b18, b19, b20, b21, b22, b23, b24, b25, b26, b27, b28, b29, b30, b31, b32] := congrArg Array.toList hL
                        simp only [List.cons.injEq, and_true] at hL'
                        obtain ⟨rfl, rfl, rfl, rfl, rfl, rfl, rfl, rfl, rfl, rfl, rfl, rfl, rfl, rfl, rfl, rfl, rfl, rfl, rfl, rfl, rfl, rfl, rfl, rfl, rfl, rfl, rfl, rfl, rfl, rfl, rfl, rfl, rfl⟩ := hL'
                        obtain rfl := cd0.out rfl
                        obtain rfl := cd1.out rfl
                        obtain rfl := cd2.out rfl
                        obtain rfl := cd3.out rfl
                        obtain rfl := cd4.out rfl
                        obtain rfl := cd5.out rfl
                        obtain rfl := cd6.out rfl
                        obtain rfl := cd7.out rfl
                        obtain rfl := cd8.out rfl
                        obtain rfl := cd9.out rfl
                        obtain rfl := cd10.out rfl
                        obtain rfl := cd11.out rfl
                        obtain rfl := cd12.out rfl
                        obtain rfl := cd13.out rfl
                        obtain rfl := cd14.out rfl
                        obtain rfl := cd15.out rfl
                        obtain rfl := cd16.out rfl
                        obtain rfl := cd17.out rfl
                        obtain rfl := cd18.out rfl
                        obtain rfl := cd19.out rfl
                        obtain rfl := cd20.out rfl
                        obtain rfl := cd21.out rfl
                        obtain rfl := cd22.out rfl
                        obtain rfl := cd23.out rfl
                        obtain rfl := cd24.out rfl
                        obtain rfl := cd25.out rfl
                        obtain rfl := cd26.out rfl
                        obtain rfl := cd27.out rfl
                        obtain rfl := cd28.out rfl
                        obtain rfl := cd29.out rfl
                        obtain rfl := cd30.out rfl
                        obtain rfl := cd31.out rfl
                        obtain rfl := cd32.out rfl
                        clear hL
                        simp only [List.setIfInBounds_toArray, List.set_cons_zero, List.set_cons_succ]
                        go_wp2_with fail
                        go_meet
                        exact ⟨rfl, hb11.trans (hb.mono hb11.size)⟩
                  case rest =>
                    obtain ⟨rfl, b11⟩ := hcut
                    replace va_g7 := va_g7.past b11
                    replace va_g8 := va_g8.past b11
                    replace b1 := b1.trans (b11.mono b1.size)
                    have jX2 := W1.past b11
                    have jY2 := W3.past b11
                    clear b11 W1 W3
                    go_wp2_with fail
                    replace va_g7 := va_g7.drew
                    replace va_g8 := va_g8.drew
                    replace b1 := b1.drew
                    replace jX2 := jX2.drew
                    replace jY2 := jY2.drew
                    refine region_inv (KOrder12 g7 g8 KA NA SA KB NB SB KX KY lX lY gx gy C) (by kernel_rfl) (by kernel_rfl) ?_ ?_ ?_
                    · exact ⟨false, false, false, false, false, false, false, false, false, false, false, false, undef, undef, undef, undef, undef, undef, undef, undef, undef, undef, undef, .bool false, rfl, (by simp only [Act.put, List.setIfInBounds_toArray, List.set_cons_zero, List.set_cons_succ]), Below.refl _ _, (fun h => by cases h), (fun h => by cases h), (fun h => by cases h), (fun h => by cases h), (fun h => by cases h), (fun h => by cases h), (fun h => by cases h), (fun h => by cases h), (fun h => by cases h), (fun h => by cases h), (fun h => by cases h), (fun h => by cases h)⟩
                    · refine ⟨?_, ?_, ?_, ?_, ?_, ?_, ?_, ?_, ?_, ?_, ?_, ?_, trivial⟩
                      · rintro L a w ⟨b0, b1, b2, b3, b4, b5, b6, b7, b8, b9, b10, b11, x98, x99, x100, x101, x102, x103, x104, x105, x106, x107, x108, x6, rfl, rfl, hb, cd0, cd1, cd2, cd3, cd4, cd5, cd6, cd7, cd8, cd9, cd10, cd11⟩ hf hd
                        have hf' : b0 = false := hf
                        subst hf'
                        clear hf hd
                        try simp only [List.setIfInBounds_toArray, List.set_cons_zero, List.set_cons_succ]
                        intro K hK
                        rw [if_pos (by rfl)]
                        go_simp
                        exact hK.out _ _ ⟨true, b1, b2, b3, b4, b5, b6, b7, b8, b9, b10, b11, (.slice (some ⟨gx, 0, none⟩) lX lX), x99, x100, x101, x102, x103, x104, x105, x106, x107, x108, x6, (by simp only [Act.put, List.setIfInBounds_toArray, List.set_cons_zero, List.set_cons_succ]), (by simp only [Act.put, List.setIfInBounds_toArray, List.set_cons_zero, List.set_cons_succ]), hb, (fun _ => rfl), cd1, cd2, cd3, cd4, cd5, cd6, cd7, cd8, cd9, cd10, cd11⟩
                      · rintro L a w ⟨b0, b1, b2, b3, b4, b5, b6, b7, b8, b9, b10, b11, x98, x99, x100, x101, x102, x103, x104, x105, x106, x107, x108, x6, rfl, rfl, hb, cd0, cd1, cd2, cd3, cd4, cd5, cd6, cd7, cd8, cd9, cd10, cd11⟩ hf hd
                        have hf' : b1 = false := hf
                        subst hf'
                        clear hf hd
                        try simp only [List.setIfInBounds_toArray, List.set_cons_zero, List.set_cons_succ]
                        intro K hK
                        rw [if_pos (by rfl)]
                        go_simp
                        exact hK.out _ _ ⟨b0, true, b2, b3, b4, b5, b6, b7, b8, b9, b10, b11, x98, (.slice (some ⟨gy, 0, none⟩) lY lY), x100, x101, x102, x103, x104, x105, x106, x107, x108, x6, (by simp only [Act.put, List.setIfInBounds_toArray, List.set_cons_zero, List.set_cons_succ]), (by simp only [Act.put, List.setIfInBounds_toArray, List.set_cons_zero, List.set_cons_succ]), hb, cd0, (fun _ => rfl), cd2, cd3, cd4, cd5, cd6, cd7, cd8, cd9, cd10, cd11⟩
                      · rintro L a w ⟨b0, b1, b2, b3, b4, b5, b6, b7, b8, b9, b10, b11, x98, x99, x100, x101, x102, x103, x104, x105, x106, x107, x108, x6, rfl, rfl, hb, cd0, cd1, cd2, cd3, cd4, cd5, cd6, cd7, cd8, cd9, cd10, cd11⟩ hf hd
                        have hf' : b2 = false := hf
                        subst hf'
                        have d0 : b0 = true := hd ⟨0, .data⟩ (by simp) rfl
                        subst d0
                        have d1 : b1 = true := hd ⟨1, .data⟩ (by simp) rfl
                        subst d1
                        obtain rfl := cd0.out rfl
                        obtain rfl := cd1.out rfl
                        clear hf hd
                        try simp only [List.setIfInBounds_toArray, List.set_cons_zero, List.set_cons_succ]
                        intro K hK
                        rw [if_pos (by rfl)]
                        go_simp
                        go_at_call 22
                        refine (HBL _ _ _ (jX2.past hb) (jY2.past hb)).mono ?_
                        rintro e w2 ⟨rfl, bx⟩
                        exact hK.out _ _ ⟨true, true, true, b3, b4, b5, b6, b7, b8, b9, b10, b11, .slice (some ⟨gx, 0, none⟩) lX lX, .slice (some ⟨gy, 0, none⟩) lY lY, (.int .i64 C), x101, x102, x103, x104, x105, x106, x107, x108, x6, (by simp only [Act.put, List.setIfInBounds_toArray, List.set_cons_zero, List.set_cons_succ]), (by simp only [Act.put, List.setIfInBounds_toArray, List.set_cons_zero, List.set_cons_succ]), hb.trans (bx.mono hb.size), (fun _ => rfl), (fun _ => rfl), (fun _ => rfl), cd3, cd4, cd5, cd6, cd7, cd8, cd9, cd10, cd11⟩
                      · rintro L a w ⟨b0, b1, b2, b3, b4, b5, b6, b7, b8, b9, b10, b11, x98, x99, x100, x101, x102, x103, x104, x105, x106, x107, x108, x6, rfl, rfl, hb, cd0, cd1, cd2, cd3, cd4, cd5, cd6, cd7, cd8, cd9, cd10, cd11⟩ hf hd
                        have hf' : b3 = false := hf
                        subst hf'
                        clear hf hd
                        try simp only [List.setIfInBounds_toArray, List.set_cons_zero, List.set_cons_succ]
                        have z := va_g7.past hb
                        obtain ⟨z0, z1, z2, -, -, -, -⟩ := z
                        intro K hK
                        rw [if_pos (by rfl)]
                        go_simp
                        exact hK.out _ _ ⟨b0, b1, b2, true, b4, b5, b6, b7, b8, b9, b10, b11, x98, x99, x100, (vv KA NA SA), x102, x103, x104, x105, x106, x107, x108, x6, (by simp only [Act.put, List.setIfInBounds_toArray, List.set_cons_zero, List.set_cons_succ]), (by simp only [Act.put, List.setIfInBounds_toArray, List.set_cons_zero, List.set_cons_succ]), hb, cd0, cd1, cd2, (fun _ => rfl), cd4, cd5, cd6, cd7, cd8, cd9, cd10, cd11⟩
                      · rintro L a w ⟨b0, b1, b2, b3, b4, b5, b6, b7, b8, b9, b10, b11, x98, x99, x100, x101, x102, x103, x104, x105, x106, x107, x108, x6, rfl, rfl, hb, cd0, cd1, cd2, cd3, cd4, cd5, cd6, cd7, cd8, cd9, cd10, cd11⟩ hf hd
                        have hf' : b4 = false := hf
                        subst hf'
                        clear hf hd
                        try simp only [List.setIfInBounds_toArray, List.set_cons_zero, List.set_cons_succ]
                        have z := va_g8.past hb
                        obtain ⟨z0, z1, z2, -, -, -, -⟩ := z
                        intro K hK
                        rw [if_pos (by rfl)]
                        go_simp
                        exact hK.out _ _ ⟨b0, b1, b2, b3, true, b5, b6, b7, b8, b9, b10, b11, x98, x99, x100, x101, (vv KB NB SB), x103, x104, x105, x106, x107, x108, x6, (by simp only [Act.put, List.setIfInBounds_toArray, List.set_cons_zero, List.set_cons_succ]), (by simp only [Act.put, List.setIfInBounds_toArray, List.set_cons_zero, List.set_cons_succ]), hb, cd0, cd1, cd2, cd3, (fun _ => rfl), cd5, cd6, cd7, cd8, cd9, cd10, cd11⟩
                      · rintro L a w ⟨b0, b1, b2, b3, b4, b5, b6, b7, b8, b9, b10, b11, x98, x99, x100, x101, x102, x103, x104, x105, x106, x107, x108, x6, rfl, rfl, hb, cd0, cd1, cd2, cd3, cd4, cd5, cd6, cd7, cd8, cd9, cd10, cd11⟩ hf hd
                        have hf' : b5 = false := hf
                        subst hf'
                        have d3 : b3 = true := hd ⟨3, .data⟩ (by simp) rfl
                        subst d3
                        have d4 : b4 = true := hd ⟨4, .data⟩ (by simp) rfl
                        subst d4
                        have d2 : b2 = true := hd ⟨2, .chain⟩ (by simp) rfl
                        subst d2
                        obtain rfl := cd3.out rfl
                        obtain rfl := cd4.out rfl
                        obtain rfl := cd2.out rfl
                        clear hf hd
                        try simp only [List.setIfInBounds_toArray, List.set_cons_zero, List.set_cons_succ]
                        intro K hK
                        rw [if_pos (by rfl)]
                        go_simp
                        go_at_call 23
                        refine (HCM _).mono ?_
                        rintro e w2 ⟨rfl, bx⟩
                        exact hK.out _ _ ⟨b0, b1, true, true, true, true, b6, b7, b8, b9, b10, b11, x98, x99, .int .i64 C, vv KA NA SA, vv KB NB SB, (.int .i64 C), x104, x105, x106, x107, x108, x6, (by simp only [Act.put, List.setIfInBounds_toArray, List.set_cons_zero, List.set_cons_succ]), (by simp only [Act.put, List.setIfInBounds_toArray, List.set_cons_zero, List.set_cons_succ]), hb.trans (bx.mono hb.size), cd0, cd1, (fun _ => rfl), (fun _ => rfl), (fun _ => rfl), (fun _ => rfl), cd6, cd7, cd8, cd9, cd10, cd11⟩
                      · rintro L a w ⟨b0, b1, b2, b3, b4, b5, b6, b7, b8, b9, b10, b11, x98, x99, x100, x101, x102, x103, x104, x105, x106, x107, x108, x6, rfl, rfl, hb, cd0, cd1, cd2, cd3, cd4, cd5, cd6, cd7, cd8, cd9, cd10, cd11⟩ hf hd
                        have hf' : b6 = false := hf
                        subst hf'
                        have d2 : b2 = true := hd ⟨2, .data⟩ (by simp) rfl
                        subst d2
                        have d5 : b5 = true := hd ⟨5, .data⟩ (by simp) rfl
                        subst d5
                        obtain rfl := cd2.out rfl
                        obtain rfl := cd5.out rfl
                        clear hf hd
                        try simp only [List.setIfInBounds_toArray, List.set_cons_zero, List.set_cons_succ]
                        intro K hK
                        rw [if_pos (by rfl)]
                        go_simp
                        exact hK.out _ _ ⟨b0, b1, true, b3, b4, true, true, b7, b8, b9, b10, b11, x98, x99, .int .i64 C, x101, x102, .int .i64 C, (.bool true), x105, x106, x107, x108, x6, (by simp only [Act.put, List.setIfInBounds_toArray, List.set_cons_zero, List.set_cons_succ]), (by simp only [Act.put, List.setIfInBounds_toArray, List.set_cons_zero, List.set_cons_succ]), hb, cd0, cd1, (fun _ => rfl), cd3, cd4, (fun _ => rfl), (fun _ => rfl), cd7, cd8, cd9, cd10, cd11⟩
                      · rintro L a w ⟨b0, b1, b2, b3, b4, b5, b6, b7, b8, b9, b10, b11, x98, x99, x100, x101, x102, x103, x104, x105, x106, x107, x108, x6, rfl, rfl, hb, cd0, cd1, cd2, cd3, cd4, cd5, cd6, cd7, cd8, cd9, cd10, cd11⟩ hf hd
                        have hf' : b7 = false := hf
                        subst hf'
                        have d6 : b6 = true := hd ⟨6, .data⟩ (by simp) rfl
                        subst d6
                        have d5 : b5 = true := hd ⟨5, .chain⟩ (by simp) rfl
                        subst d5
                        obtain rfl := cd6.out rfl
                        obtain rfl := cd5.out rfl
                        clear hf hd
                        try simp only [List.setIfInBounds_toArray, List.set_cons_zero, List.set_cons_succ]
                        intro K hK
                        rw [if_pos (by rfl)]
                        go_simp
                        exact hK.out _ _ ⟨b0, b1, b2, b3, b4, true, true, true, b8, b9, b10, b11, x98, x99, x100, x101, x102, .int .i64 C, .bool true, (.bool true), x106, x107, x108, x6, (by simp only [Act.put, List.setIfInBounds_toArray, List.set_cons_zero, List.set_cons_succ]), (by simp only [Act.put, List.setIfInBounds_toArray, List.set_cons_zero, List.set_cons_succ]), hb, cd0, cd1, cd2, cd3, cd4, (fun _ => rfl), (fun _ => rfl), (fun _ => rfl), cd8, cd9, cd10, cd11⟩
                      · rintro L a w ⟨b0, b1, b2, b3, b4, b5, b6, b7, b8, b9, b10, b11, x98, x99, x100, x101, x102, x103, x104, x105, x106, x107, x108, x6, rfl, rfl, hb, cd0, cd1, cd2, cd3, cd4, cd5, cd6, cd7, cd8, cd9, cd10, cd11⟩ hf hd
                        have hf' : b8 = false := hf
                        subst hf'
                        have d7 : b7 = true := hd ⟨7, .guard⟩ (by simp) rfl
                        subst d7
                        obtain rfl := cd7.out rfl
                        clear hf hd
                        try simp only [List.setIfInBounds_toArray, List.set_cons_zero, List.set_cons_succ]
                        intro K hK
                        rw [if_pos (by rfl)]
                        go_simp
                        exact hK.out _ _ ⟨b0, b1, b2, b3, b4, b5, b6, true, true, b9, b10, b11, x98, x99, x100, x101, x102, x103, x104, .bool true, (.bool false), x107, x108, x6, (by simp only [Act.put, List.setIfInBounds_toArray, List.set_cons_zero, List.set_cons_succ]), (by simp only [Act.put, List.setIfInBounds_toArray, List.set_cons_zero, List.set_cons_succ]), hb, cd0, cd1, cd2, cd3, cd4, cd5, cd6, (fun _ => rfl), (fun _ => rfl), cd9, cd10, cd11⟩
                      · rintro L a w ⟨b0, b1, b2, b3, b4, b5, b6, b7, b8, b9, b10, b11, x98, x99, x100, x101, x102, x103, x104, x105, x106, x107, x108, x6, rfl, rfl, hb, cd0, cd1, cd2, cd3, cd4, cd5, cd6, cd7, cd8, cd9, cd10, cd11⟩ hf hd
                        have hf' : b9 = false := hf
                        subst hf'
                        have d8 : b8 = true := hd ⟨8, .data⟩ (by simp) rfl
                        subst d8
                        have d7 : b7 = true := hd ⟨7, .guard⟩ (by simp) rfl
                        subst d7
                        obtain rfl := cd8.out rfl
                        obtain rfl := cd7.out rfl
                        clear hf hd
                        try simp only [List.setIfInBounds_toArray, List.set_cons_zero, List.set_cons_succ]
                        intro K hK
                        rw [if_pos (by rfl)]
                        go_simp
                        exact hK.out _ _ ⟨b0, b1, b2, b3, b4, b5, b6, true, true, true, b10, b11, x98, x99, x100, x101, x102, x103, x104, .bool true, .bool false, (.bool true), x108, x6, (by simp only [Act.put, List.setIfInBounds_toArray, List.set_cons_zero, List.set_cons_succ]), (by simp only [Act.put, List.setIfInBounds_toArray, List.set_cons_zero, List.set_cons_succ]), hb, cd0, cd1, cd2, cd3, cd4, cd5, cd6, (fun _ => rfl), (fun _ => rfl), (fun _ => rfl), cd10, cd11⟩
                      · rintro L a w ⟨b0, b1, b2, b3, b4, b5, b6, b7, b8, b9, b10, b11, x98, x99, x100, x101, x102, x103, x104, x105, x106, x107, x108, x6, rfl, rfl, hb, cd0, cd1, cd2, cd3, cd4, cd5, cd6, cd7, cd8, cd9, cd10, cd11⟩ hf hd
                        have hf' : b10 = false := hf
                        subst hf'
                        have d7 : b7 = true := hd ⟨7, .data⟩ (by simp) rfl
                        subst d7
                        have d9 : b9 = true := hd ⟨9, .data⟩ (by simp) rfl
                        subst d9
                        obtain rfl := cd7.out rfl
                        obtain rfl := cd9.out rfl
                        clear hf hd
                        try simp only [List.setIfInBounds_toArray, List.set_cons_zero, List.set_cons_succ]
                        intro K hK
                        rw [if_pos (by rfl)]
                        go_simp
                        exact hK.out _ _ ⟨b0, b1, b2, b3, b4, b5, b6, true, b8, true, true, b11, x98, x99, x100, x101, x102, x103, x104, .bool true, x106, .bool true, (.bool true), x6, (by simp only [Act.put, List.setIfInBounds_toArray, List.set_cons_zero, List.set_cons_succ]), (by simp only [Act.put, List.setIfInBounds_toArray, List.set_cons_zero, List.set_cons_succ]), hb, cd0, cd1, cd2, cd3, cd4, cd5, cd6, (fun _ => rfl), cd8, (fun _ => rfl), (fun _ => rfl), cd11⟩
                      · rintro L a w ⟨b0, b1, b2, b3, b4, b5, b6, b7, b8, b9, b10, b11, x98, x99, x100, x101, x102, x103, x104, x105, x106, x107, x108, x6, rfl, rfl, hb, cd0, cd1, cd2, cd3, cd4, cd5, cd6, cd7, cd8, cd9, cd10, cd11⟩ hf hd
                        have hf' : b11 = false := hf
                        subst hf'
                        have d10 : b10 = true := hd ⟨10, .data⟩ (by simp) rfl
                        subst d10
                        have d7 : b7 = true := hd ⟨7, .chain⟩ (by simp) rfl
                        subst d7
                        have d0 : b0 = true := hd ⟨0, .phase⟩ (by simp) rfl
                        subst d0
                        have d1 : b1 = true := hd ⟨1, .phase⟩ (by simp) rfl
                        subst d1
                        have d2 : b2 = true := hd ⟨2, .phase⟩ (by simp) rfl
                        subst d2
                        have d3 : b3 = true := hd ⟨3, .phase⟩ (by simp) rfl
                        subst d3
                        have d4 : b4 = true := hd ⟨4, .phase⟩ (by simp) rfl
                        subst d4
                        have d5 : b5 = true := hd ⟨5, .phase⟩ (by simp) rfl
                        subst d5
                        have d6 : b6 = true := hd ⟨6, .phase⟩ (by simp) rfl
                        subst d6
                        have d8 : b8 = true := hd ⟨8, .phase⟩ (by simp) rfl
                        subst d8
                        have d9 : b9 = true := hd ⟨9, .phase⟩ (by simp) rfl
                        subst d9
                        obtain rfl := cd10.out rfl
                        obtain rfl := cd7.out rfl
                        obtain rfl := cd0.out rfl
                        obtain rfl := cd1.out rfl
                        obtain rfl := cd2.out rfl
                        obtain rfl := cd3.out rfl
                        obtain rfl := cd4.out rfl
                        obtain rfl := cd5.out rfl
                        obtain rfl := cd6.out rfl
                        obtain rfl := cd8.out rfl
                        obtain rfl := cd9.out rfl
                        clear hf hd
                        try simp only [List.setIfInBounds_toArray, List.set_cons_zero, List.set_cons_succ]
                        intro K hK
                        rw [if_pos (by rfl)]
                        go_simp
                        exact hK.out _ _ ⟨true, true, true, true, true, true, true, true, true, true, true, true, .slice (some ⟨gx, 0, none⟩) lX lX, .slice (some ⟨gy, 0, none⟩) lY lY, .int .i64 C, vv KA NA SA, vv KB NB SB, .int .i64 C, .bool true, .bool true, .bool false, .bool true, .bool true, (.bool true), (by simp only [Act.put, List.setIfInBounds_toArray, List.set_cons_zero, List.set_cons_succ]), (by simp only [Act.put, List.setIfInBounds_toArray, List.set_cons_zero, List.set_cons_succ]), hb, (fun _ => rfl), (fun _ => rfl), (fun _ => rfl), (fun _ => rfl), (fun _ => rfl), (fun _ => rfl), (fun _ => rfl), (fun _ => rfl), (fun _ => rfl), (fun _ => rfl), (fun _ => rfl), (fun _ => rfl)⟩
                    · rintro a w ⟨b0, b1, b2, b3, b4, b5, b6, b7, b8, b9, b10, b11, x98, x99, x100, x101, x102, x103, x104, x105, x106, x107, x108, x6, hL, rfl, hb, cd0, cd1, cd2, cd3, cd4, cd5, cd6, cd7, cd8, cd9, cd10, cd11⟩
                      have hL' : [true, true, true, true, true, true, true, true, true, true, true, true] = [b0, b1, b2, b3, b4, b5, b6, b7, b8, b9, b10, b11] := congrArg Array.toList hL
                      simp only [List.cons.injEq, and_true] at hL'
                      obtain ⟨rfl, rfl, rfl, rfl, rfl, rfl, rfl, rfl, rfl, rfl, rfl, rfl⟩ := hL'
                      obtain rfl := cd0.out rfl
                      obtain rfl := cd1.out rfl
                      obtain rfl := cd2.out rfl
                      obtain rfl := cd3.out rfl
                      obtain rfl := cd4.out rfl
                      obtain rfl := cd5.out rfl
                      obtain rfl := cd6.out rfl
                      obtain rfl := cd7.out rfl
                      obtain rfl := cd8.out rfl
                      obtain rfl := cd9.out rfl
                      obtain rfl := cd10.out rfl
                      obtain rfl := cd11.out rfl
                      clear hL
                      simp only [List.setIfInBounds_toArray, List.set_cons_zero, List.set_cons_succ]
                      have BE := b1.trans (hb.mono b1.size)
                      go_wp2_with fail
                      go_ret
                      exact ⟨rfl, BE⟩
end Go.Proofs.Ytpphlmbhonaglaa
