/-
  KeyZeros, walked (by gen_kzeros.py).
-/
import Derived.Test.YtpphlmbhonaglaaLaw6
import Derived.Test.YtpphlmbhonaglaaInv
import Derived.Test.YtpphlmbhonaglaaMake
namespace Go.Proofs.Ytpphlmbhonaglaa
open Go.RowKit
set_option linter.unusedSimpArgs false
theorem wp_full_ob {P : Program} {w : World} {o : Oper} {a : Act} {K : Act → World → Prop} {Q : Exit → Act → World → Prop} (_hgd : o.guard = none) (l c : Operand) (t : TypeId)
    (ho : o.op = Op.makeSlice t l c) (e : TypeId) (hB : ByteTy P t e) (kl kc : IntKind) (L C : Int) (N : Nat) (hl : a.eval l = .int kl L) (hc : a.eval c = .int kc C) (hL : L = (N : Int)) (hC : C = (N : Int)) (hN : N ≤ 70368744177664)
    (hK : ∀ w', OwnB w' e w.heap.size N N (List.replicate N 0) → Below w.heap.size w w' → K (a.put o.dst (.slice (some ⟨w.heap.size, 0, none⟩) N N)) w') : o.wp P a w K Q := by
  obtain ⟨i, hi, hz, hsize, hby⟩ := hB.info
  obtain ⟨w', hrun, r1, r2⟩ := run_make_full (P := P) w w.heap.size t e i (.int .u8 0) 1 hB.ht hi hz hsize kl kc N (by rw [hby]; omega) (by simp only [maxLen]; omega) (Nat.le_refl _)
  subst hL
  subst hC
  unfold Oper.wp
  simp [execOp, ho, hl, hc, hrun, Result.andThen]
  refine hK w' ?_ ((Below.refl _ w).grown r2 (Nat.le_refl _) (fun k h => by cases h))
  rw [Nat.mul_one] at r1
  have hz2 : (madeCells (Value.int .u8 0).cells N).toList = bcs (List.replicate N 0) := by
    rw [show (Value.int IntKind.u8 0).cells = #[Value.int .u8 0] from rfl, toList_madeCells_one]
    simp [bcs, bc]
  rw [hz2] at r1
  rcases r1.2 with ⟨h, _⟩ | ⟨g, cap, cur, hv, _, hg, hnc, hcm, hcs, htake⟩
  · cases h
  · simp only [Value.slice.injEq, Option.some.injEq, Addr.mk.injEq, and_true] at hv
    obtain ⟨rfl, _, rfl⟩ := hv
    exact ⟨by simp, Nat.le_refl _, hcm, cur, hg, by rw [hcs, Nat.mul_one], by rw [← htake, Nat.mul_one]⟩
/-- Noughts, held against noughts with one byte behind. -/
theorem zeros_cmp (u : UInt8) : ∀ m n : Nat, cmpL (List.replicate m 0) (List.replicate n 0 ++ [u]) = if u = 0 then (if m = n + 1 then 0 else if n < m then 1 else -1) else -1
  | 0, 0 => by simp [cmpL]
  | 0, n + 1 => by simp [cmpL, List.replicate_succ]
  | m + 1, 0 => by
    by_cases h : u = 0
    · subst h
      rw [if_pos rfl, List.replicate_succ]
      show cmpL (0 :: _) [0] = _
      rw [cmpL_same]
      cases m with
      | zero => simp [cmpL]
      | succ m => simp [cmpL, List.replicate_succ]
    · rw [if_neg h, List.replicate_succ]
      show cmpL (0 :: _) [u] = _
      rw [cmpL_ahead _ _ _ _ (pos_of_ne h)]
  | m + 1, n + 1 => by
    rw [List.replicate_succ, List.replicate_succ, List.cons_append, cmpL_same, zeros_cmp u m n]
    simp only [Nat.add_lt_add_iff_right, Nat.add_right_cancel_iff]
/-- What stands while the region's operations come up: which have (b), what their slots hold (x), what the world holds. -/
inductive KZeros4 (n : Nat) (u : UInt8) (a0 : Act) (w0 : World) (L : Array Bool) (a : Act) (w : World) : Prop
  | mk (b0 b1 b2 b3 b4 b5 b6 b7 b8 b9 : Bool) (x24 x25 x26 x27 x28 x29 x30 x31 x7 : Value) (gz : Nat) (g7 : Nat) (gs : Nat) (hL : L = #[b0, b1, b2, b3, b4, b5, b6, b7, b8, b9]) (ha : a = ⟨(((((((((a0.tmps.setIfInBounds 24 x24).setIfInBounds 25 x25).setIfInBounds 26 x26).setIfInBounds 27 x27).setIfInBounds 28 x28).setIfInBounds 29 x29).setIfInBounds 30 x30).setIfInBounds 31 x31).setIfInBounds 7 x7), a0.defers⟩) (hb : Below w0.heap.size w0 w) (cd0 : Hid (b0 = true → x24 = .int .i64 (n : Nat))) (cd1 : Hid (b1 = true → x25 = .slice (some ⟨gz, 0, none⟩) n n)) (cd2 : Hid (b2 = true → x26 = .string ⟨Array.replicate n (0 : UInt8)⟩)) (cd3 : Hid (b3 = true → x27 = .int .u8 (u.toNat : Int))) (cd4 : Hid (b4 = true → x28 = .slice (some ⟨gs, 0, none⟩) 1 1)) (cd5 : Hid (b5 = true → x29 = .string ⟨#[u]⟩)) (cd6 : Hid (b6 = true → x30 = .string (⟨Array.replicate n (0 : UInt8)⟩ ++ ⟨#[u]⟩))) (cd7 : Hid (b7 = true → x31 = vv 3 0 (⟨Array.replicate n (0 : UInt8)⟩ ++ ⟨#[u]⟩))) (cd8 : Hid (b8 = true → x7 = .pointer (some ⟨g7, 0, none⟩))) (v_g7 : Hid (b8 = true → w0.heap.size ≤ g7 ∧ VAt w g7 (bif b9 then 3 else 0) (bif b9 then 0 else 0) (bif b9 then (⟨Array.replicate n (0 : UInt8)⟩ ++ ⟨#[u]⟩) else ⟨#[]⟩))) (v_gs : Hid (b4 = true → w0.heap.size ≤ gs ∧ UAt w gs u)) (s_g7 : Hid (b9 = true → b8 = true)) (r_g7 : Hid (b9 = true → b7 = true)) (p_g7_gs : Hid (b8 = true → b4 = true → g7 ≠ gs)) (wf1 : Hid (b1 = true → b2 = false → IsB w (some ⟨gz, 0, none⟩) n n (List.replicate n 0))) : KZeros4 n u a0 w0 L a w
/-- What stands while the region's operations come up: which have (b), what their slots hold (x), what the world holds. -/
inductive KZeros6 (g7 : Nat) (g8 : Nat) (Sx : ByteArray) (Sy : ByteArray) (KX : List UInt8) (KY : List UInt8) (lX : Nat) (lY : Nat) (a0 : Act) (w0 : World) (L : Array Bool) (a : Act) (w : World) : Prop
  | mk (b0 b1 b2 b3 b4 b5 : Bool) (x36 x37 x38 x39 x9 x10 : Value) (gx : Nat) (gy : Nat) (hL : L = #[b0, b1, b2, b3, b4, b5]) (ha : a = ⟨((((((a0.tmps.setIfInBounds 36 x36).setIfInBounds 37 x37).setIfInBounds 38 x38).setIfInBounds 39 x39).setIfInBounds 9 x9).setIfInBounds 10 x10), a0.defers⟩) (hb : Below w0.heap.size w0 w) (cd0 : Hid (b0 = true → x36 = vv 3 0 Sx)) (cd1 : Hid (b1 = true → x37 = .slice (some ⟨gx, 0, none⟩) lX lX)) (cd2 : Hid (b2 = true → x38 = vv 3 0 Sy)) (cd3 : Hid (b3 = true → x39 = .slice (some ⟨gy, 0, none⟩) lY lY)) (cd4 : Hid (b4 = true → x9 = .slice (some ⟨gx, 0, none⟩) lX lX)) (cd5 : Hid (b5 = true → x10 = .slice (some ⟨gy, 0, none⟩) lY lY)) (w_4_1 : Hid (b4 = true → b1 = true)) (w_5_3 : Hid (b5 = true → b3 = true)) (wf1 : Hid (b1 = true → IsB w (some ⟨gx, 0, none⟩) lX lX KX)) (wf3 : Hid (b3 = true → IsB w (some ⟨gy, 0, none⟩) lY lY KY)) : KZeros6 g7 g8 Sx Sy KX KY lX lY a0 w0 L a w

set_option maxRecDepth 100000 in
set_option maxHeartbeats 4000000 in
theorem keyZeros_walk (a b c : Int) (w : World) (_ha : (Lit.int .i64 a).wf = true) (_hb : (Lit.int .i64 b).wf = true) (hc : (Lit.int .u8 c).wf = true) : Calls Try.prog 6 #[.int .i64 a, .int .i64 b, .int .u8 c] w (Told w true) := by
  clear _ha _hb
  obtain ⟨u, rfl⟩ : ∃ u : UInt8, c = (u.toNat : Int) := ⟨UInt8.ofNat c.toNat, by have := bounds_u8 hc; rw [UInt8.toNat_ofNat']; omega⟩
  clear hc
  obtain ⟨n, hn, hn2⟩ : ∃ k : Nat, wth a 30 = k ∧ k < 30 := ⟨(wth a 30).toNat, by have := wth_lo a 30 (by omega); omega, by have := wth_hi a 30 (by omega); have := wth_lo a 30 (by omega); omega⟩
  obtain ⟨m, hm, hm2⟩ : ∃ k : Nat, wth b 30 = k ∧ k < 30 := ⟨(wth b 30).toNat, by have := wth_lo b 30 (by omega); omega, by have := wth_hi b 30 (by omega); have := wth_lo b 30 (by omega); omega⟩
  have WA := fun w => within6_any a 30 w (by omega) (by omega)
  have WB := fun w => within6_any b 30 w (by omega) (by omega)
  rw [hn] at WA
  rw [hm] at WB
  clear hn hm
  have hsz : ¬ 9223372036854775807 < n + 1 := by omega
  go_enter Try.func6, Try.ntmps6
  go_wp2_with (first
    | (go_at_call 17; (with_reducible refine (known6_any _).mono ?_); rintro e w1 ⟨rfl, b1⟩)
    | (go_at_call 20; (with_reducible refine (WA _).mono ?_); rintro e w' ⟨rfl, rfl⟩)
    | (go_at_call 20; (with_reducible refine (WB _).mono ?_); rintro e w' ⟨rfl, rfl⟩))
  replace b1 := b1.drew
  refine region_inv (KZeros4 n u) (by kernel_rfl) (by kernel_rfl) ?_ ?_ ?_
  · exact ⟨false, false, false, false, false, false, false, false, false, false, undef, undef, undef, undef, undef, undef, undef, undef, undef, 0, 0, 0, rfl, (by simp only [Act.put, List.setIfInBounds_toArray, List.set_cons_zero, List.set_cons_succ]), Below.refl _ _, (fun h => by cases h), (fun h => by cases h), (fun h => by cases h), (fun h => by cases h), (fun h => by cases h), (fun h => by cases h), (fun h => by cases h), (fun h => by cases h), (fun h => by cases h), (fun h => by cases h), (fun h => by cases h), (fun h => by cases h), (fun h => by cases h), (fun h => by cases h), (fun h => by cases h)⟩
  · refine ⟨?_, ?_, ?_, ?_, ?_, ?_, ?_, ?_, ?_, ?_, trivial⟩
    · rintro L a w ⟨b0, b1, b2, b3, b4, b5, b6, b7, b8, b9, x24, x25, x26, x27, x28, x29, x30, x31, x7, gz, g7, gs, rfl, rfl, hb, cd0, cd1, cd2, cd3, cd4, cd5, cd6, cd7, cd8, v_g7, v_gs, s_g7, r_g7, p_g7_gs, wf1⟩ hf hd
      have hf' : b0 = false := hf
      subst hf'
      clear hf hd
      try simp only [List.setIfInBounds_toArray, List.set_cons_zero, List.set_cons_succ]
      intro K hK
      rw [if_pos (by rfl)]
      go_simp
      exact hK.out _ _ ⟨true, b1, b2, b3, b4, b5, b6, b7, b8, b9, (.int .i64 (n : Nat)), x25, x26, x27, x28, x29, x30, x31, x7, gz, g7, gs, (by simp only [Act.put, List.setIfInBounds_toArray, List.set_cons_zero, List.set_cons_succ]), (by simp only [Act.put, List.setIfInBounds_toArray, List.set_cons_zero, List.set_cons_succ]), hb, (fun _ => rfl), cd1, cd2, cd3, cd4, cd5, cd6, cd7, cd8, v_g7, v_gs, s_g7, r_g7, p_g7_gs, wf1⟩
    · rintro L a w ⟨b0, b1, b2, b3, b4, b5, b6, b7, b8, b9, x24, x25, x26, x27, x28, x29, x30, x31, x7, gz, g7, gs, rfl, rfl, hb, cd0, cd1, cd2, cd3, cd4, cd5, cd6, cd7, cd8, v_g7, v_gs, s_g7, r_g7, p_g7_gs, wf1⟩ hf hd
      have hf' : b1 = false := hf
      subst hf'
      have d0 : b0 = true := hd ⟨0, .data⟩ (by simp) rfl
      subst d0
      obtain rfl := cd0.out rfl
      clear hf hd
      try simp only [List.setIfInBounds_toArray, List.set_cons_zero, List.set_cons_succ]
      intro K hK
      rw [if_pos (by rfl)]
      refine wp_full_ob rfl _ _ 24 rfl 5 byteTy .i64 .i64 _ _ n rfl rfl rfl rfl (by omega) fun w2 o2 bx => ?_
      exact hK.out _ _ ⟨true, true, b2, b3, b4, b5, b6, b7, b8, b9, .int .i64 (n : Nat), (.slice (some ⟨(w.heap.size), 0, none⟩) n n), x26, x27, x28, x29, x30, x31, x7, w.heap.size, g7, gs, (by simp only [Act.put, List.setIfInBounds_toArray, List.set_cons_zero, List.set_cons_succ]), (by simp only [Act.put, List.setIfInBounds_toArray, List.set_cons_zero, List.set_cons_succ]), hb.trans (bx.mono hb.size), (fun _ => rfl), (fun _ => rfl), cd2, cd3, cd4, cd5, cd6, cd7, cd8, (fun h => ⟨(v_g7.out h).1, (v_g7.out h).2.past bx⟩), (fun h => ⟨(v_gs.out h).1, (v_gs.out h).2.past bx⟩), s_g7, r_g7, p_g7_gs, (fun _ _ => o2.isB)⟩
    · rintro L a w ⟨b0, b1, b2, b3, b4, b5, b6, b7, b8, b9, x24, x25, x26, x27, x28, x29, x30, x31, x7, gz, g7, gs, rfl, rfl, hb, cd0, cd1, cd2, cd3, cd4, cd5, cd6, cd7, cd8, v_g7, v_gs, s_g7, r_g7, p_g7_gs, wf1⟩ hf hd
      have hf' : b2 = false := hf
      subst hf'
      have d1 : b1 = true := hd ⟨1, .data⟩ (by simp) rfl
      subst d1
      obtain rfl := cd1.out rfl
      clear hf hd
      have W1 := wf1.out rfl rfl
      try simp only [List.setIfInBounds_toArray, List.set_cons_zero, List.set_cons_succ]
      have cv := W1.conv byteTy Try.underlying9
      simp only [List.toArray_replicate] at cv
      intro K hK
      rw [if_pos (by rfl)]
      go_simp
      exact hK.out _ _ ⟨b0, true, true, b3, b4, b5, b6, b7, b8, b9, x24, .slice (some ⟨gz, 0, none⟩) n n, (.string ⟨Array.replicate n (0 : UInt8)⟩), x27, x28, x29, x30, x31, x7, gz, g7, gs, (by simp only [Act.put, List.setIfInBounds_toArray, List.set_cons_zero, List.set_cons_succ]), (by simp only [Act.put, List.setIfInBounds_toArray, List.set_cons_zero, List.set_cons_succ]), hb, cd0, (fun _ => rfl), (fun _ => rfl), cd3, cd4, cd5, cd6, cd7, cd8, v_g7, v_gs, s_g7, r_g7, p_g7_gs, (fun _ h => by cases h)⟩
    · rintro L a w ⟨b0, b1, b2, b3, b4, b5, b6, b7, b8, b9, x24, x25, x26, x27, x28, x29, x30, x31, x7, gz, g7, gs, rfl, rfl, hb, cd0, cd1, cd2, cd3, cd4, cd5, cd6, cd7, cd8, v_g7, v_gs, s_g7, r_g7, p_g7_gs, wf1⟩ hf hd
      have hf' : b3 = false := hf
      subst hf'
      clear hf hd
      try simp only [List.setIfInBounds_toArray, List.set_cons_zero, List.set_cons_succ]
      intro K hK
      rw [if_pos (by rfl)]
      go_simp
      exact hK.out _ _ ⟨b0, b1, b2, true, b4, b5, b6, b7, b8, b9, x24, x25, x26, (.int .u8 (u.toNat : Int)), x28, x29, x30, x31, x7, gz, g7, gs, (by simp only [Act.put, List.setIfInBounds_toArray, List.set_cons_zero, List.set_cons_succ]), (by simp only [Act.put, List.setIfInBounds_toArray, List.set_cons_zero, List.set_cons_succ]), hb, cd0, cd1, cd2, (fun _ => rfl), cd4, cd5, cd6, cd7, cd8, v_g7, v_gs, s_g7, r_g7, p_g7_gs, wf1⟩
    · rintro L a w ⟨b0, b1, b2, b3, b4, b5, b6, b7, b8, b9, x24, x25, x26, x27, x28, x29, x30, x31, x7, gz, g7, gs, rfl, rfl, hb, cd0, cd1, cd2, cd3, cd4, cd5, cd6, cd7, cd8, v_g7, v_gs, s_g7, r_g7, p_g7_gs, wf1⟩ hf hd
      have hf' : b4 = false := hf
      subst hf'
      have d3 : b3 = true := hd ⟨3, .data⟩ (by simp) rfl
      subst d3
      obtain rfl := cd3.out rfl
      clear hf hd
      try simp only [List.setIfInBounds_toArray, List.set_cons_zero, List.set_cons_succ]
      intro K hK
      rw [if_pos (by rfl)]
      go_simp
      have bx : Below w.heap.size w (w.alloc (.cells #[.int .u8 (u.toNat : Int)] 5)) := (Below.refl _ _).alloc (Nat.le_refl _) _
      exact hK.out _ _ ⟨b0, b1, b2, true, true, b5, b6, b7, b8, b9, x24, x25, x26, .int .u8 (u.toNat : Int), (.slice (some ⟨(w.heap.size), 0, none⟩) 1 1), x29, x30, x31, x7, gz, g7, w.heap.size, (by simp only [Act.put, List.setIfInBounds_toArray, List.set_cons_zero, List.set_cons_succ]), (by simp only [Act.put, List.setIfInBounds_toArray, List.set_cons_zero, List.set_cons_succ]), hb.trans (bx.mono hb.size), cd0, cd1, cd2, (fun _ => rfl), (fun _ => rfl), cd5, cd6, cd7, cd8, (fun h => ⟨(v_g7.out h).1, (v_g7.out h).2.past bx⟩), (fun _ => ⟨hb.size, UAt.new w u⟩), s_g7, r_g7, (fun h _ => Nat.ne_of_lt (v_g7.out h).2.lt), (fun h h2 => (wf1.out h h2).past bx)⟩
    · rintro L a w ⟨b0, b1, b2, b3, b4, b5, b6, b7, b8, b9, x24, x25, x26, x27, x28, x29, x30, x31, x7, gz, g7, gs, rfl, rfl, hb, cd0, cd1, cd2, cd3, cd4, cd5, cd6, cd7, cd8, v_g7, v_gs, s_g7, r_g7, p_g7_gs, wf1⟩ hf hd
      have hf' : b5 = false := hf
      subst hf'
      have d4 : b4 = true := hd ⟨4, .data⟩ (by simp) rfl
      subst d4
      obtain rfl := cd4.out rfl
      clear hf hd
      try simp only [List.setIfInBounds_toArray, List.set_cons_zero, List.set_cons_succ]
      have z := (v_gs.out rfl).2
      have cv := one_conv w gs u z.c0
      intro K hK
      rw [if_pos (by rfl)]
      go_simp
      exact hK.out _ _ ⟨b0, b1, b2, b3, true, true, b6, b7, b8, b9, x24, x25, x26, x27, .slice (some ⟨gs, 0, none⟩) 1 1, (.string ⟨#[u]⟩), x30, x31, x7, gz, g7, gs, (by simp only [Act.put, List.setIfInBounds_toArray, List.set_cons_zero, List.set_cons_succ]), (by simp only [Act.put, List.setIfInBounds_toArray, List.set_cons_zero, List.set_cons_succ]), hb, cd0, cd1, cd2, cd3, (fun _ => rfl), (fun _ => rfl), cd6, cd7, cd8, v_g7, v_gs, s_g7, r_g7, p_g7_gs, wf1⟩
    · rintro L a w ⟨b0, b1, b2, b3, b4, b5, b6, b7, b8, b9, x24, x25, x26, x27, x28, x29, x30, x31, x7, gz, g7, gs, rfl, rfl, hb, cd0, cd1, cd2, cd3, cd4, cd5, cd6, cd7, cd8, v_g7, v_gs, s_g7, r_g7, p_g7_gs, wf1⟩ hf hd
      have hf' : b6 = false := hf
      subst hf'
      have d2 : b2 = true := hd ⟨2, .data⟩ (by simp) rfl
      subst d2
      have d5 : b5 = true := hd ⟨5, .data⟩ (by simp) rfl
      subst d5
      obtain rfl := cd2.out rfl
      obtain rfl := cd5.out rfl
      clear hf hd
      try simp only [List.setIfInBounds_toArray, List.set_cons_zero, List.set_cons_succ]
      intro K hK
      rw [if_pos (by rfl)]
      go_simp
      exact hK.out _ _ ⟨b0, b1, true, b3, b4, true, true, b7, b8, b9, x24, x25, .string ⟨Array.replicate n (0 : UInt8)⟩, x27, x28, .string ⟨#[u]⟩, (.string (⟨Array.replicate n (0 : UInt8)⟩ ++ ⟨#[u]⟩)), x31, x7, gz, g7, gs, (by simp only [Act.put, List.setIfInBounds_toArray, List.set_cons_zero, List.set_cons_succ]), (by simp only [Act.put, List.setIfInBounds_toArray, List.set_cons_zero, List.set_cons_succ]), hb, cd0, cd1, (fun _ => rfl), cd3, cd4, (fun _ => rfl), (fun _ => rfl), cd7, cd8, v_g7, v_gs, s_g7, r_g7, p_g7_gs, (fun _ h => by cases h)⟩
    · rintro L a w ⟨b0, b1, b2, b3, b4, b5, b6, b7, b8, b9, x24, x25, x26, x27, x28, x29, x30, x31, x7, gz, g7, gs, rfl, rfl, hb, cd0, cd1, cd2, cd3, cd4, cd5, cd6, cd7, cd8, v_g7, v_gs, s_g7, r_g7, p_g7_gs, wf1⟩ hf hd
      have hf' : b7 = false := hf
      subst hf'
      have d6 : b6 = true := hd ⟨6, .data⟩ (by simp) rfl
      subst d6
      obtain rfl := cd6.out rfl
      clear hf hd
      try simp only [List.setIfInBounds_toArray, List.set_cons_zero, List.set_cons_succ]
      intro K hK
      rw [if_pos (by rfl)]
      go_simp
      exact hK.out _ _ ⟨b0, b1, b2, b3, b4, b5, true, true, b8, b9, x24, x25, x26, x27, x28, x29, .string (⟨Array.replicate n (0 : UInt8)⟩ ++ ⟨#[u]⟩), (vv 3 0 (⟨Array.replicate n (0 : UInt8)⟩ ++ ⟨#[u]⟩)), x7, gz, g7, gs, (by simp only [Act.put, List.setIfInBounds_toArray, List.set_cons_zero, List.set_cons_succ]), (by simp only [Act.put, List.setIfInBounds_toArray, List.set_cons_zero, List.set_cons_succ]), hb, cd0, cd1, cd2, cd3, cd4, cd5, (fun _ => rfl), (fun _ => rfl), cd8, v_g7, v_gs, s_g7, (fun _ => rfl), p_g7_gs, wf1⟩
    · rintro L a w ⟨b0, b1, b2, b3, b4, b5, b6, b7, b8, b9, x24, x25, x26, x27, x28, x29, x30, x31, x7, gz, g7, gs, rfl, rfl, hb, cd0, cd1, cd2, cd3, cd4, cd5, cd6, cd7, cd8, v_g7, v_gs, s_g7, r_g7, p_g7_gs, wf1⟩ hf hd
      have hf' : b8 = false := hf
      subst hf'
      clear hf hd
      try simp only [List.setIfInBounds_toArray, List.set_cons_zero, List.set_cons_succ]
      intro K hK
      rw [if_pos (by rfl)]
      go_simp
      have bx : Below w.heap.size w (w.alloc (.cells #[.int .i64 0, .int .i64 0, .string ⟨#[]⟩] 39)) := (Below.refl _ _).alloc (Nat.le_refl _) _
      exact hK.out _ _ ⟨b0, b1, b2, b3, b4, b5, b6, b7, true, b9, x24, x25, x26, x27, x28, x29, x30, x31, (.pointer (some ⟨(w.heap.size), 0, none⟩)), gz, w.heap.size, gs, (by simp only [Act.put, List.setIfInBounds_toArray, List.set_cons_zero, List.set_cons_succ]), (by simp only [Act.put, List.setIfInBounds_toArray, List.set_cons_zero, List.set_cons_succ]), hb.trans (bx.mono hb.size), cd0, cd1, cd2, cd3, cd4, cd5, cd6, cd7, (fun _ => rfl), (fun _ => ⟨hb.size, by cases hq : b9 with | false => exact VAt.new w 0 0 ⟨#[]⟩ | true => exact absurd (s_g7.out hq) (by simp)⟩), (fun h => ⟨(v_gs.out h).1, (v_gs.out h).2.past bx⟩), (fun _ => rfl), r_g7, (fun _ h => Nat.ne_of_gt (v_gs.out h).2.lt), (fun h h2 => (wf1.out h h2).past bx)⟩
    · rintro L a w ⟨b0, b1, b2, b3, b4, b5, b6, b7, b8, b9, x24, x25, x26, x27, x28, x29, x30, x31, x7, gz, g7, gs, rfl, rfl, hb, cd0, cd1, cd2, cd3, cd4, cd5, cd6, cd7, cd8, v_g7, v_gs, s_g7, r_g7, p_g7_gs, wf1⟩ hf hd
      have hf' : b9 = false := hf
      subst hf'
      have d8 : b8 = true := hd ⟨8, .data⟩ (by simp) rfl
      subst d8
      have d7 : b7 = true := hd ⟨7, .data⟩ (by simp) rfl
      subst d7
      have d0 : b0 = true := hd ⟨0, .phase⟩ (by simp) rfl
      subst d0
      have d1 : b1 = true := hd ⟨1, .phase⟩ (by simp) rfl
      subst d1
      have d2 : b2 = true := hd ⟨2, .phase⟩ (by simp) rfl
      subst d2
      have d3 : b3 = true := hd ⟨3, .phase⟩ (by simp) rfl
      subst d3
      have d4 : b4 = true := hd ⟨4, .phase⟩ (by simp) rfl
      subst d4
      have d5 : b5 = true := hd ⟨5, .phase⟩ (by simp) rfl
      subst d5
      have d6 : b6 = true := hd ⟨6, .phase⟩ (by simp) rfl
      subst d6
      obtain rfl := cd8.out rfl
      obtain rfl := cd7.out rfl
      obtain rfl := cd0.out rfl
      obtain rfl := cd1.out rfl
      obtain rfl := cd2.out rfl
      obtain rfl := cd3.out rfl
      obtain rfl := cd4.out rfl
      obtain rfl := cd5.out rfl
      obtain rfl := cd6.out rfl
      clear hf hd
      try simp only [List.setIfInBounds_toArray, List.set_cons_zero, List.set_cons_succ]
      obtain ⟨vg, va⟩ := v_g7.out rfl
      simp only [cond_false] at va
      obtain ⟨z0, z1, z2, y0, y1, y2, vl⟩ := id va
      intro K hK
      rw [if_pos (by rfl)]
      go_simp
      have NE_g7_gs : true = true → g7 ≠ gs := fun h => p_g7_gs.out rfl h
      exact hK.out _ _ ⟨true, true, true, true, true, true, true, true, true, true, .int .i64 (n : Nat), .slice (some ⟨gz, 0, none⟩) n n, .string ⟨Array.replicate n (0 : UInt8)⟩, .int .u8 (u.toNat : Int), .slice (some ⟨gs, 0, none⟩) 1 1, .string ⟨#[u]⟩, .string (⟨Array.replicate n (0 : UInt8)⟩ ++ ⟨#[u]⟩), vv 3 0 (⟨Array.replicate n (0 : UInt8)⟩ ++ ⟨#[u]⟩), .pointer (some ⟨g7, 0, none⟩), gz, g7, gs, (by simp only [Act.put, List.setIfInBounds_toArray, List.set_cons_zero, List.set_cons_succ]), (by simp only [Act.put, List.setIfInBounds_toArray, List.set_cons_zero, List.set_cons_succ]), ((hb.setCell (p := ⟨g7, 0, none⟩) vg _).setCell (p := ⟨g7, 1, none⟩) vg _).setCell (p := ⟨g7, 2, none⟩) vg _, (fun _ => rfl), (fun _ => rfl), (fun _ => rfl), (fun _ => rfl), (fun _ => rfl), (fun _ => rfl), (fun _ => rfl), (fun _ => rfl), (fun _ => rfl), (fun _ => ⟨vg, va.set _ _ _⟩), (fun h => ⟨(v_gs.out h).1, (((v_gs.out h).2.far (NE_g7_gs h) 0 _).far (NE_g7_gs h) 1 _).far (NE_g7_gs h) 2 _⟩), (fun _ => rfl), (fun _ => rfl), p_g7_gs, (fun _ h => by cases h)⟩
  · rintro a w ⟨b0, b1, b2, b3, b4, b5, b6, b7, b8, b9, x24, x25, x26, x27, x28, x29, x30, x31, x7, gz, g7, gs, hL, rfl, hb, cd0, cd1, cd2, cd3, cd4, cd5, cd6, cd7, cd8, v_g7, v_gs, s_g7, r_g7, p_g7_gs, wf1⟩
    have hL' : [true, true, true, true, true, true, true, true, true, true] = [b0, b1, b2, b3, b4, b5, b6, b7, b8, b9] := congrArg Array.toList hL
    simp only [List.cons.injEq, and_true] at hL'
    obtain ⟨rfl, rfl, rfl, rfl, rfl, rfl, rfl, rfl, rfl, rfl⟩ := hL'
    obtain rfl := cd0.out rfl
    obtain rfl := cd1.out rfl
    obtain rfl := cd2.out rfl
    obtain rfl := cd3.out rfl
    obtain rfl := cd4.out rfl
    obtain rfl := cd5.out rfl
    obtain rfl := cd6.out rfl
    obtain rfl := cd7.out rfl
    obtain rfl := cd8.out rfl
    obtain ⟨vg_g7, va_g7⟩ := v_g7.out rfl
    simp only [cond_true] at va_g7
    obtain ⟨vg_gs, va_gs⟩ := v_gs.out rfl
    replace p_g7_gs := p_g7_gs.out rfl rfl
    clear hL
    simp only [List.setIfInBounds_toArray, List.set_cons_zero, List.set_cons_succ]
    replace b1 := b1.trans (hb.mono b1.size)
    clear va_gs vg_gs hb p_g7_gs v_gs v_g7 wf1 r_g7 s_g7 cd0 cd1 cd2 cd3 cd4 cd5 cd6 cd7 cd8 vg_g7
    generalize hSx : (⟨Array.replicate n (0 : UInt8)⟩ ++ ⟨#[u]⟩ : ByteArray) = Sx at *
    have lx : Hid (Sx.toList = List.replicate n 0 ++ [u]) := by unfold Hid; rw [← hSx, ByteArray.toList_eq]; simp
    have okx : Hid (Vok ⟨3, 0, Sx⟩) := Vok.text _ (by rw [← toList_len, lx.out]; simp; omega)
    clear hSx
    have us := Try.underlying9
    go_wp2_with (at_make; refine wpList_full_ob rfl _ _ 24 rfl 5 byteTy .i64 .i64 _ _ m rfl rfl rfl rfl (by omega) ?_; intro w3 o3 b3; have cvy := o3.isB.conv byteTy us; simp only [List.toArray_replicate] at cvy; replace va_g7 := va_g7.past b3; replace b1 := b1.trans (b3.mono b1.size))
    have va_g8 := VAt.new w3 3 0 ⟨Array.replicate m 0⟩
    have n7 := Nat.ne_of_lt va_g7.lt
    replace va_g7 := va_g7.alloc (.cells #[.int .i64 3, .int .i64 0, .string ⟨Array.replicate m 0⟩] 39)
    replace b1 := b1.alloc b1.size (.cells #[.int .i64 3, .int .i64 0, .string ⟨Array.replicate m 0⟩] 39)
    generalize hSy : (⟨Array.replicate m 0⟩ : ByteArray) = Sy at *
    have ly : Hid (Sy.toList = List.replicate m 0) := by unfold Hid; rw [← hSy, ByteArray.toList_eq]; simp
    have oky : Hid (Vok ⟨3, 0, Sy⟩) := Vok.text _ (by rw [← toList_len, ly.out]; simp; omega)
    clear hSy cvy o3
    generalize w3.alloc (.cells #[.int .i64 3, .int .i64 0, .string Sy] 39) = w4 at va_g7 va_g8 b1 ⊢
    generalize w3.heap.size = g8 at va_g8 n7 ⊢
    replace va_g7 := va_g7.drew
    replace va_g8 := va_g8.drew
    replace b1 := b1.drew
    have HX : ∀ w, Calls Try.prog 21 #[vv 3 0 Sx] w (FreshI w (keyB ⟨3, 0, Sx⟩)) := fun w => keyBytes_any _ okx.out w
    have HY : ∀ w, Calls Try.prog 21 #[vv 3 0 Sy] w (FreshI w (keyB ⟨3, 0, Sy⟩)) := fun w => keyBytes_any _ oky.out w
    have PX := fun ao c w h => keyParse_any ⟨3, 0, Sx⟩ okx.out ao (keyB ⟨3, 0, Sx⟩).length c [] w h (by have := key_len _ okx.out; omega)
    have PY := fun ao c w h => keyParse_any ⟨3, 0, Sy⟩ oky.out ao (keyB ⟨3, 0, Sy⟩).length c [] w h (by have := key_len _ oky.out; omega)
    have CM := key_cmp ⟨3, 0, Sy⟩ ⟨3, 0, Sx⟩ oky.out okx.out [] []
    rw [List.append_nil, List.append_nil, cmp_text, ly.out, lx.out, zeros_cmp u m n] at CM
    have LX := (key_len _ okx.out).2
    have LY := (key_len _ oky.out).2
    rw [List.append_nil] at PX PY
    have eX : (keyB ⟨3, 0, Sx⟩).length = (keyB ⟨3, 0, Sx⟩).length := rfl
    unfold FreshI at HX HY
    generalize keyB ⟨3, 0, Sx⟩ = KX at *
    generalize keyB ⟨3, 0, Sy⟩ = KY at *
    generalize KX.length = lX at *
    generalize KY.length = lY at *
    clear eX
    refine region_inv (KZeros6 g7 g8 Sx Sy KX KY lX lY) (by kernel_rfl) (by kernel_rfl) ?_ ?_ ?_
    · exact ⟨false, false, false, false, false, false, undef, undef, undef, undef, undef, undef, 0, 0, rfl, (by simp only [Act.put, List.setIfInBounds_toArray, List.set_cons_zero, List.set_cons_succ]), Below.refl _ _, (fun h => by cases h), (fun h => by cases h), (fun h => by cases h), (fun h => by cases h), (fun h => by cases h), (fun h => by cases h), (fun h => by cases h), (fun h => by cases h), (fun h => by cases h), (fun h => by cases h)⟩
    · refine ⟨?_, ?_, ?_, ?_, ?_, ?_, trivial⟩
      · rintro L a w ⟨b0, b1, b2, b3, b4, b5, x36, x37, x38, x39, x9, x10, gx, gy, rfl, rfl, hb, cd0, cd1, cd2, cd3, cd4, cd5, w_4_1, w_5_3, wf1, wf3⟩ hf hd
        have hf' : b0 = false := hf
        subst hf'
        clear hf hd
        try simp only [List.setIfInBounds_toArray, List.set_cons_zero, List.set_cons_succ]
        have z := va_g7.past hb
        obtain ⟨z0, z1, z2, -, -, -, -⟩ := z
        intro K hK
        rw [if_pos (by rfl)]
        go_simp
        exact hK.out _ _ ⟨true, b1, b2, b3, b4, b5, (vv 3 0 Sx), x37, x38, x39, x9, x10, gx, gy, (by simp only [Act.put, List.setIfInBounds_toArray, List.set_cons_zero, List.set_cons_succ]), (by simp only [Act.put, List.setIfInBounds_toArray, List.set_cons_zero, List.set_cons_succ]), hb, (fun _ => rfl), cd1, cd2, cd3, cd4, cd5, w_4_1, w_5_3, wf1, wf3⟩
      · rintro L a w ⟨b0, b1, b2, b3, b4, b5, x36, x37, x38, x39, x9, x10, gx, gy, rfl, rfl, hb, cd0, cd1, cd2, cd3, cd4, cd5, w_4_1, w_5_3, wf1, wf3⟩ hf hd
        have hf' : b1 = false := hf
        subst hf'
        have d0 : b0 = true := hd ⟨0, .data⟩ (by simp) rfl
        subst d0
        obtain rfl := cd0.out rfl
        clear hf hd
        try simp only [List.setIfInBounds_toArray, List.set_cons_zero, List.set_cons_succ]
        intro K hK
        rw [if_pos (by rfl)]
        go_simp
        go_at_call 21
        refine (HX _).mono ?_
        rintro e w2 ⟨g', rfl, i2, bx, q2⟩
        have e_4 : b4 = false := by cases hq : b4 with | false => rfl | true => exact absurd (w_4_1.out hq) (by simp)
        subst e_4
        exact hK.out _ _ ⟨true, true, b2, b3, false, b5, vv 3 0 Sx, (.slice (some ⟨(g'), 0, none⟩) lX lX), x38, x39, x9, x10, g', gy, (by simp only [Act.put, List.setIfInBounds_toArray, List.set_cons_zero, List.set_cons_succ]), (by simp only [Act.put, List.setIfInBounds_toArray, List.set_cons_zero, List.set_cons_succ]), hb.trans (bx.mono hb.size), (fun _ => rfl), (fun _ => rfl), cd2, cd3, (fun h => by cases h), cd5, (fun _ => rfl), w_5_3, (fun _ => i2), (fun h => (wf3.out h).past bx)⟩
      · rintro L a w ⟨b0, b1, b2, b3, b4, b5, x36, x37, x38, x39, x9, x10, gx, gy, rfl, rfl, hb, cd0, cd1, cd2, cd3, cd4, cd5, w_4_1, w_5_3, wf1, wf3⟩ hf hd
        have hf' : b2 = false := hf
        subst hf'
        clear hf hd
        try simp only [List.setIfInBounds_toArray, List.set_cons_zero, List.set_cons_succ]
        have z := va_g8.past hb
        obtain ⟨z0, z1, z2, -, -, -, -⟩ := z
        intro K hK
        rw [if_pos (by rfl)]
        go_simp
        exact hK.out _ _ ⟨b0, b1, true, b3, b4, b5, x36, x37, (vv 3 0 Sy), x39, x9, x10, gx, gy, (by simp only [Act.put, List.setIfInBounds_toArray, List.set_cons_zero, List.set_cons_succ]), (by simp only [Act.put, List.setIfInBounds_toArray, List.set_cons_zero, List.set_cons_succ]), hb, cd0, cd1, (fun _ => rfl), cd3, cd4, cd5, w_4_1, w_5_3, wf1, wf3⟩
      · rintro L a w ⟨b0, b1, b2, b3, b4, b5, x36, x37, x38, x39, x9, x10, gx, gy, rfl, rfl, hb, cd0, cd1, cd2, cd3, cd4, cd5, w_4_1, w_5_3, wf1, wf3⟩ hf hd
        have hf' : b3 = false := hf
        subst hf'
        have d2 : b2 = true := hd ⟨2, .data⟩ (by simp) rfl
        subst d2
        have d1 : b1 = true := hd ⟨1, .chain⟩ (by simp) rfl
        subst d1
        obtain rfl := cd2.out rfl
        obtain rfl := cd1.out rfl
        clear hf hd
        have W1 := wf1.out rfl
        try simp only [List.setIfInBounds_toArray, List.set_cons_zero, List.set_cons_succ]
        intro K hK
        rw [if_pos (by rfl)]
        go_simp
        go_at_call 21
        refine (HY _).mono ?_
        rintro e w2 ⟨g', rfl, i2, bx, q2⟩
        have e_5 : b5 = false := by cases hq : b5 with | false => rfl | true => exact absurd (w_5_3.out hq) (by simp)
        subst e_5
        exact hK.out _ _ ⟨b0, true, true, true, b4, false, x36, .slice (some ⟨gx, 0, none⟩) lX lX, vv 3 0 Sy, (.slice (some ⟨(g'), 0, none⟩) lY lY), x9, x10, gx, g', (by simp only [Act.put, List.setIfInBounds_toArray, List.set_cons_zero, List.set_cons_succ]), (by simp only [Act.put, List.setIfInBounds_toArray, List.set_cons_zero, List.set_cons_succ]), hb.trans (bx.mono hb.size), cd0, (fun _ => rfl), (fun _ => rfl), (fun _ => rfl), cd4, (fun h => by cases h), (fun _ => rfl), (fun _ => rfl), (fun h => (wf1.out h).past bx), (fun _ => i2)⟩
      · rintro L a w ⟨b0, b1, b2, b3, b4, b5, x36, x37, x38, x39, x9, x10, gx, gy, rfl, rfl, hb, cd0, cd1, cd2, cd3, cd4, cd5, w_4_1, w_5_3, wf1, wf3⟩ hf hd
        have hf' : b4 = false := hf
        subst hf'
        have d1 : b1 = true := hd ⟨1, .data⟩ (by simp) rfl
        subst d1
        have d3 : b3 = true := hd ⟨3, .chain⟩ (by simp) rfl
        subst d3
        have d0 : b0 = true := hd ⟨0, .phase⟩ (by simp) rfl
        subst d0
        obtain rfl := cd1.out rfl
        obtain rfl := cd3.out rfl
        obtain rfl := cd0.out rfl
        clear hf hd
        have W1 := wf1.out rfl
        have W3 := wf3.out rfl
        try simp only [List.setIfInBounds_toArray, List.set_cons_zero, List.set_cons_succ]
        intro K hK
        rw [if_pos (by rfl)]
        go_simp
        exact hK.out _ _ ⟨true, true, b2, true, true, b5, vv 3 0 Sx, .slice (some ⟨gx, 0, none⟩) lX lX, x38, .slice (some ⟨gy, 0, none⟩) lY lY, (.slice (some ⟨gx, 0, none⟩) lX lX), x10, gx, gy, (by simp only [Act.put, List.setIfInBounds_toArray, List.set_cons_zero, List.set_cons_succ]), (by simp only [Act.put, List.setIfInBounds_toArray, List.set_cons_zero, List.set_cons_succ]), hb, (fun _ => rfl), (fun _ => rfl), cd2, (fun _ => rfl), (fun _ => rfl), cd5, (fun _ => rfl), (fun _ => rfl), wf1, wf3⟩
      · rintro L a w ⟨b0, b1, b2, b3, b4, b5, x36, x37, x38, x39, x9, x10, gx, gy, rfl, rfl, hb, cd0, cd1, cd2, cd3, cd4, cd5, w_4_1, w_5_3, wf1, wf3⟩ hf hd
        have hf' : b5 = false := hf
        subst hf'
        have d3 : b3 = true := hd ⟨3, .data⟩ (by simp) rfl
        subst d3
        have d4 : b4 = true := hd ⟨4, .chain⟩ (by simp) rfl
        subst d4
        have d0 : b0 = true := hd ⟨0, .phase⟩ (by simp) rfl
        subst d0
        have d1 : b1 = true := hd ⟨1, .phase⟩ (by simp) rfl
        subst d1
        have d2 : b2 = true := hd ⟨2, .phase⟩ (by simp) rfl
        subst d2
        obtain rfl := cd3.out rfl
        obtain rfl := cd4.out rfl
        obtain rfl := cd0.out rfl
        obtain rfl := cd1.out rfl
        obtain rfl := cd2.out rfl
        clear hf hd
        have W1 := wf1.out rfl
        have W3 := wf3.out rfl
        try simp only [List.setIfInBounds_toArray, List.set_cons_zero, List.set_cons_succ]
        intro K hK
        rw [if_pos (by rfl)]
        go_simp
        exact hK.out _ _ ⟨true, true, true, true, true, true, vv 3 0 Sx, .slice (some ⟨gx, 0, none⟩) lX lX, vv 3 0 Sy, .slice (some ⟨gy, 0, none⟩) lY lY, .slice (some ⟨gx, 0, none⟩) lX lX, (.slice (some ⟨gy, 0, none⟩) lY lY), gx, gy, (by simp only [Act.put, List.setIfInBounds_toArray, List.set_cons_zero, List.set_cons_succ]), (by simp only [Act.put, List.setIfInBounds_toArray, List.set_cons_zero, List.set_cons_succ]), hb, (fun _ => rfl), (fun _ => rfl), (fun _ => rfl), (fun _ => rfl), (fun _ => rfl), (fun _ => rfl), (fun _ => rfl), (fun _ => rfl), wf1, wf3⟩
    · rintro a w ⟨b0, b1, b2, b3, b4, b5, x36, x37, x38, x39, x9, x10, gx, gy, hL, rfl, hb, cd0, cd1, cd2, cd3, cd4, cd5, w_4_1, w_5_3, wf1, wf3⟩
      have hL' : [true, true, true, true, true, true] = [b0, b1, b2, b3, b4, b5] := congrArg Array.toList hL
      simp only [List.cons.injEq, and_true] at hL'
      obtain ⟨rfl, rfl, rfl, rfl, rfl, rfl⟩ := hL'
      obtain rfl := cd0.out rfl
      obtain rfl := cd1.out rfl
      obtain rfl := cd2.out rfl
      obtain rfl := cd3.out rfl
      obtain rfl := cd4.out rfl
      obtain rfl := cd5.out rfl
      have W1 := wf1.out rfl
      have W3 := wf3.out rfl
      clear hL
      simp only [List.setIfInBounds_toArray, List.set_cons_zero, List.set_cons_succ]
      replace va_g7 := va_g7.past hb
      replace va_g8 := va_g8.past hb
      replace b1 := b1.trans (hb.mono b1.size)
      clear hb
      simp only [V.val] at PX PY
      have EX : ∀ w, _ := fun w => run_eql_val 3 0 Sx 3 0 Sx w
      have EY : ∀ w, _ := fun w => run_eql_val 3 0 Sy 3 0 Sy w
      rw [show eqV 3 0 Sx 3 0 Sx = true by simp [eqV]] at EX
      rw [show eqV 3 0 Sy 3 0 Sy = true by simp [eqV]] at EY
      have hcase : (u = 0 ∧ m = n + 1) ∨ (u = 0 ∧ n + 1 < m) ∨ (u = 0 ∧ m ≤ n) ∨ (u ≠ 0 ∧ m ≤ n) ∨ (u ≠ 0 ∧ m = n + 1) ∨ (u ≠ 0 ∧ n + 1 < m) := by
        by_cases h : u = 0 <;> simp [h] <;> omega
      have EZ : Sy.toList = Sx.toList ↔ (u = 0 ∧ m = n + 1) := by
        rw [ly.out, lx.out, ← cmpL_zero, zeros_cmp]
        by_cases h : u = 0
        · by_cases h2 : m = n + 1
          · simp [h, h2]
          · simp only [h, h2, if_true, if_false, and_false, iff_false]
            split <;> decide
        · simp [h]
      have UZ : ((u.toNat : Int) == 0) = decide (u = 0) := by
        by_cases h : u = 0
        · subst h; rfl
        · have : ¬ (u.toNat : Int) = 0 := fun e => h (UInt8.toNat_inj.1 (by simpa using e))
          rw [decide_eq_false h]
          exact beq_eq_false_iff_ne.2 this
      clear lx ly okx oky
      rcases hcase with ⟨hu, hm⟩ | ⟨hu, hm⟩ | ⟨hu, hm⟩ | ⟨hu, hm⟩ | ⟨hu, hm⟩ | ⟨hu, hm⟩
      · replace CM : cmpL KY KX = 0 := by rw [CM]; simp [hu, hm, or2, cmpL]
        rw [decide_eq_true hu] at UZ
        have es := EZ.2 ⟨hu, hm⟩
        have es2 : (Sy.toList == Sx.toList) = true := by simpa using es
        clear EZ
        go_wp2_with (first
          | (go_at_call 24; (with_reducible refine (PX _ _ _ W1).mono ?_); rintro e w5 ⟨rfl, b5⟩; have t7 := va_g7.past b5; have t8 := va_g8.past b5; have i1 := W1.past b5; have i3 := W3.past b5; have B5 := b1.trans (b5.mono b1.size))
          | (go_at_call 24; (with_reducible refine (PY _ _ _ (i3.alloc _)).mono ?_); rintro e w6 ⟨rfl, b6⟩; have C := (Below.refl w5.heap.size w5).alloc (Nat.le_refl _) (.cells #[.int .i64 3, .int .i64 0, .string Sx] 39); have C6 := C.trans (b6.mono C.size); have B6 := B5.trans (C6.mono B5.size); have D := (Below.refl w6.heap.size w6).alloc (Nat.le_refl _) (.cells #[.int .i64 3, .int .i64 0, .string Sy] 39); have C7 := C6.trans (D.mono C6.size); have B7 := B6.trans (D.mono B6.size); obtain ⟨z0, z1, z2, -, -, -, -⟩ := t7.past C7; obtain ⟨y0, y1, y2, -, -, -, -⟩ := t8.past C7; obtain ⟨x0, x1, x2, -, -, -, -⟩ := ((VAt.new w5 3 0 Sx).past b6).past D; obtain ⟨v0, v1, v2, -, -, -, -⟩ := VAt.new w6 3 0 Sy; have j1 := i1.past C7; have j3 := i3.past C7)
          | (go_at_call 22; (with_reducible refine (below_any _ _ _ _ _ _ _ _ _ j3 j1 (by omega) (by omega)).mono ?_); rw [CM]; rintro e w7 ⟨rfl, b7⟩; have B8 := B7.trans (b7.mono B7.size)))
        go_ret
        exact ⟨rfl, B8⟩
      · replace CM : cmpL KY KX = 1 := by rw [CM]; simp [hu, show ¬ (m = n + 1) by omega, show n < m by omega, or2, cmpL]
        rw [decide_eq_true hu] at UZ
        have ne : ¬ (Sy.toList = Sx.toList) := fun e => absurd (EZ.1 e).2 (by omega)
        have ne2 : (Sy.toList == Sx.toList) = false := by simpa using ne
        have g1 : (n : Int) < m := by omega
        have g2 : (n : Int) + 1 < m := by omega
        clear EZ
        go_wp2_with (first
          | (go_at_call 24; (with_reducible refine (PX _ _ _ W1).mono ?_); rintro e w5 ⟨rfl, b5⟩; have t7 := va_g7.past b5; have t8 := va_g8.past b5; have i1 := W1.past b5; have i3 := W3.past b5; have B5 := b1.trans (b5.mono b1.size))
          | (go_at_call 24; (with_reducible refine (PY _ _ _ (i3.alloc _)).mono ?_); rintro e w6 ⟨rfl, b6⟩; have C := (Below.refl w5.heap.size w5).alloc (Nat.le_refl _) (.cells #[.int .i64 3, .int .i64 0, .string Sx] 39); have C6 := C.trans (b6.mono C.size); have B6 := B5.trans (C6.mono B5.size); have D := (Below.refl w6.heap.size w6).alloc (Nat.le_refl _) (.cells #[.int .i64 3, .int .i64 0, .string Sy] 39); have C7 := C6.trans (D.mono C6.size); have B7 := B6.trans (D.mono B6.size); obtain ⟨z0, z1, z2, -, -, -, -⟩ := t7.past C7; obtain ⟨y0, y1, y2, -, -, -, -⟩ := t8.past C7; obtain ⟨x0, x1, x2, -, -, -, -⟩ := ((VAt.new w5 3 0 Sx).past b6).past D; obtain ⟨v0, v1, v2, -, -, -, -⟩ := VAt.new w6 3 0 Sy; have j1 := i1.past C7; have j3 := i3.past C7)
          | (go_at_call 22; (with_reducible refine (below_any _ _ _ _ _ _ _ _ _ j3 j1 (by omega) (by omega)).mono ?_); rw [CM]; rintro e w7 ⟨rfl, b7⟩; have B8 := B7.trans (b7.mono B7.size)))
        go_ret
        exact ⟨rfl, B8⟩
      · replace CM : cmpL KY KX = -1 := by rw [CM]; simp [hu, show ¬ (m = n + 1) by omega, show ¬ (n < m) by omega, or2, cmpL]
        rw [decide_eq_true hu] at UZ
        have ne : ¬ (Sy.toList = Sx.toList) := fun e => absurd (EZ.1 e).2 (by omega)
        have ne2 : (Sy.toList == Sx.toList) = false := by simpa using ne
        have g1 : ¬ ((n : Int) < m) := by omega
        have g2 : ¬ ((n : Int) + 1 < m) := by omega
        clear EZ
        go_wp2_with (first
          | (go_at_call 24; (with_reducible refine (PX _ _ _ W1).mono ?_); rintro e w5 ⟨rfl, b5⟩; have t7 := va_g7.past b5; have t8 := va_g8.past b5; have i1 := W1.past b5; have i3 := W3.past b5; have B5 := b1.trans (b5.mono b1.size))
          | (go_at_call 24; (with_reducible refine (PY _ _ _ (i3.alloc _)).mono ?_); rintro e w6 ⟨rfl, b6⟩; have C := (Below.refl w5.heap.size w5).alloc (Nat.le_refl _) (.cells #[.int .i64 3, .int .i64 0, .string Sx] 39); have C6 := C.trans (b6.mono C.size); have B6 := B5.trans (C6.mono B5.size); have D := (Below.refl w6.heap.size w6).alloc (Nat.le_refl _) (.cells #[.int .i64 3, .int .i64 0, .string Sy] 39); have C7 := C6.trans (D.mono C6.size); have B7 := B6.trans (D.mono B6.size); obtain ⟨z0, z1, z2, -, -, -, -⟩ := t7.past C7; obtain ⟨y0, y1, y2, -, -, -, -⟩ := t8.past C7; obtain ⟨x0, x1, x2, -, -, -, -⟩ := ((VAt.new w5 3 0 Sx).past b6).past D; obtain ⟨v0, v1, v2, -, -, -, -⟩ := VAt.new w6 3 0 Sy; have j1 := i1.past C7; have j3 := i3.past C7)
          | (go_at_call 22; (with_reducible refine (below_any _ _ _ _ _ _ _ _ _ j3 j1 (by omega) (by omega)).mono ?_); rw [CM]; rintro e w7 ⟨rfl, b7⟩; have B8 := B7.trans (b7.mono B7.size)))
        go_ret
        exact ⟨rfl, B8⟩
      · replace CM : cmpL KY KX = -1 := by rw [CM]; simp [hu, or2, cmpL]
        have hu' := hu
        rw [decide_eq_false hu] at UZ
        have hu2 : ¬ ((u.toNat : Int) = 0) := by simpa using UZ
        have ne : ¬ (Sy.toList = Sx.toList) := fun e => absurd (EZ.1 e).1 hu
        have ne2 : (Sy.toList == Sx.toList) = false := by simpa using ne
        have g1 : ¬ ((n : Int) < m) := by omega
        have g2 : ¬ ((n : Int) + 1 < m) := by omega
        clear EZ
        go_wp2_with (first
          | (go_at_call 24; (with_reducible refine (PX _ _ _ W1).mono ?_); rintro e w5 ⟨rfl, b5⟩; have t7 := va_g7.past b5; have t8 := va_g8.past b5; have i1 := W1.past b5; have i3 := W3.past b5; have B5 := b1.trans (b5.mono b1.size))
          | (go_at_call 24; (with_reducible refine (PY _ _ _ (i3.alloc _)).mono ?_); rintro e w6 ⟨rfl, b6⟩; have C := (Below.refl w5.heap.size w5).alloc (Nat.le_refl _) (.cells #[.int .i64 3, .int .i64 0, .string Sx] 39); have C6 := C.trans (b6.mono C.size); have B6 := B5.trans (C6.mono B5.size); have D := (Below.refl w6.heap.size w6).alloc (Nat.le_refl _) (.cells #[.int .i64 3, .int .i64 0, .string Sy] 39); have C7 := C6.trans (D.mono C6.size); have B7 := B6.trans (D.mono B6.size); obtain ⟨z0, z1, z2, -, -, -, -⟩ := t7.past C7; obtain ⟨y0, y1, y2, -, -, -, -⟩ := t8.past C7; obtain ⟨x0, x1, x2, -, -, -, -⟩ := ((VAt.new w5 3 0 Sx).past b6).past D; obtain ⟨v0, v1, v2, -, -, -, -⟩ := VAt.new w6 3 0 Sy; have j1 := i1.past C7; have j3 := i3.past C7)
          | (go_at_call 22; (with_reducible refine (below_any _ _ _ _ _ _ _ _ _ j3 j1 (by omega) (by omega)).mono ?_); rw [CM]; rintro e w7 ⟨rfl, b7⟩; have B8 := B7.trans (b7.mono B7.size)))
        go_ret
        exact ⟨rfl, B8⟩
      · replace CM : cmpL KY KX = -1 := by rw [CM]; simp [hu, or2, cmpL]
        have hu' := hu
        rw [decide_eq_false hu] at UZ
        have hu2 : ¬ ((u.toNat : Int) = 0) := by simpa using UZ
        have ne : ¬ (Sy.toList = Sx.toList) := fun e => absurd (EZ.1 e).1 hu
        have ne2 : (Sy.toList == Sx.toList) = false := by simpa using ne
        have g1 : (n : Int) < m := by omega
        have g2 : ¬ ((n : Int) + 1 < m) := by omega
        clear EZ
        go_wp2_with (first
          | (go_at_call 24; (with_reducible refine (PX _ _ _ W1).mono ?_); rintro e w5 ⟨rfl, b5⟩; have t7 := va_g7.past b5; have t8 := va_g8.past b5; have i1 := W1.past b5; have i3 := W3.past b5; have B5 := b1.trans (b5.mono b1.size))
          | (go_at_call 24; (with_reducible refine (PY _ _ _ (i3.alloc _)).mono ?_); rintro e w6 ⟨rfl, b6⟩; have C := (Below.refl w5.heap.size w5).alloc (Nat.le_refl _) (.cells #[.int .i64 3, .int .i64 0, .string Sx] 39); have C6 := C.trans (b6.mono C.size); have B6 := B5.trans (C6.mono B5.size); have D := (Below.refl w6.heap.size w6).alloc (Nat.le_refl _) (.cells #[.int .i64 3, .int .i64 0, .string Sy] 39); have C7 := C6.trans (D.mono C6.size); have B7 := B6.trans (D.mono B6.size); obtain ⟨z0, z1, z2, -, -, -, -⟩ := t7.past C7; obtain ⟨y0, y1, y2, -, -, -, -⟩ := t8.past C7; obtain ⟨x0, x1, x2, -, -, -, -⟩ := ((VAt.new w5 3 0 Sx).past b6).past D; obtain ⟨v0, v1, v2, -, -, -, -⟩ := VAt.new w6 3 0 Sy; have j1 := i1.past C7; have j3 := i3.past C7)
          | (go_at_call 22; (with_reducible refine (below_any _ _ _ _ _ _ _ _ _ j3 j1 (by omega) (by omega)).mono ?_); rw [CM]; rintro e w7 ⟨rfl, b7⟩; have B8 := B7.trans (b7.mono B7.size)))
        go_ret
        exact ⟨rfl, B8⟩
      · replace CM : cmpL KY KX = -1 := by rw [CM]; simp [hu, or2, cmpL]
        have hu' := hu
        rw [decide_eq_false hu] at UZ
        have hu2 : ¬ ((u.toNat : Int) = 0) := by simpa using UZ
        have ne : ¬ (Sy.toList = Sx.toList) := fun e => absurd (EZ.1 e).1 hu
        have ne2 : (Sy.toList == Sx.toList) = false := by simpa using ne
        have g1 : (n : Int) < m := by omega
        have g2 : (n : Int) + 1 < m := by omega
        clear EZ
        go_wp2_with (first
          | (go_at_call 24; (with_reducible refine (PX _ _ _ W1).mono ?_); rintro e w5 ⟨rfl, b5⟩; have t7 := va_g7.past b5; have t8 := va_g8.past b5; have i1 := W1.past b5; have i3 := W3.past b5; have B5 := b1.trans (b5.mono b1.size))
          | (go_at_call 24; (with_reducible refine (PY _ _ _ (i3.alloc _)).mono ?_); rintro e w6 ⟨rfl, b6⟩; have C := (Below.refl w5.heap.size w5).alloc (Nat.le_refl _) (.cells #[.int .i64 3, .int .i64 0, .string Sx] 39); have C6 := C.trans (b6.mono C.size); have B6 := B5.trans (C6.mono B5.size); have D := (Below.refl w6.heap.size w6).alloc (Nat.le_refl _) (.cells #[.int .i64 3, .int .i64 0, .string Sy] 39); have C7 := C6.trans (D.mono C6.size); have B7 := B6.trans (D.mono B6.size); obtain ⟨z0, z1, z2, -, -, -, -⟩ := t7.past C7; obtain ⟨y0, y1, y2, -, -, -, -⟩ := t8.past C7; obtain ⟨x0, x1, x2, -, -, -, -⟩ := ((VAt.new w5 3 0 Sx).past b6).past D; obtain ⟨v0, v1, v2, -, -, -, -⟩ := VAt.new w6 3 0 Sy; have j1 := i1.past C7; have j3 := i3.past C7)
          | (go_at_call 22; (with_reducible refine (below_any _ _ _ _ _ _ _ _ _ j3 j1 (by omega) (by omega)).mono ?_); rw [CM]; rintro e w7 ⟨rfl, b7⟩; have B8 := B7.trans (b7.mono B7.size)))
        go_ret
        exact ⟨rfl, B8⟩
end Go.Proofs.Ytpphlmbhonaglaa
