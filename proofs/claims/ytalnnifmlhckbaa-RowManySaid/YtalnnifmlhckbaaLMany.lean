/-
  RowMany, walked.
-/
import Derived.Test.YtalnnifmlhckbaaLaw5
import Derived.Deep.RegionHeld3
namespace Go.Proofs.Ytalnnifmlhckbaa
open Go.RowKit

theorem zeroCells_rep (n : Nat) : (Builtin.zeroCells (Value.int .u8 0).cells n).toList = bcs (List.replicate n 0) := by
  apply List.ext_getElem
  · simp [Builtin.zeroCells, bcs_length, Value.cells]
  · intro i h1 h2
    simp [Builtin.zeroCells, Value.cells, bcs, bc, Nat.mod_one]
/-- append(b, make([]byte, k)...), TO A FULL ROW OF THE CALL's OWN. -/
theorem run_append_zeros_ob {P : Program} (w : World) (t tn ty e : TypeId) (hB : ByteTy P t e) (kn kq : IntKind) (htn : P.underlying tn = some (.int kn)) (g n k : Nat) (l : List UInt8) (h : OwnB w e g n n l) (hk : k ≤ 1000000) (hn : n ≤ 1000000) :
    ∃ g' cap' w', (Builtin.append_ #[t, tn] ty #[.slice (some ⟨g, 0, none⟩) n n, .int kq k]).run P w = .ok (.slice (some ⟨g', 0, none⟩) (n + k) cap') w' ∧
      OwnB w' e g' (n + k) cap' (l ++ List.replicate k 0) ∧ Below w.heap.size w w' ∧ (g' = g ∨ w.heap.size ≤ g') := by
  obtain ⟨i, hi, hz, hsize, hby⟩ := hB.info
  have hln := h.len
  by_cases hk0 : k = 0
  · subst hk0
    refine ⟨g, n, w, ?_, by simpa using h, Below.refl _ _, .inl rfl⟩
    have hw : IntKind.i64.wrap (0 : Int) = 0 := rfl
    simp [Builtin.append_, run_underlying hB.ht, run_underlying htn, sizeOf, typeInfo, hi, asInt, asIntOf, hw, storeCells]
  · have hold : (Builtin.firstCells i.size n (.slice (some ⟨g, 0, none⟩) n n)).run P w.drew = .ok (bcs l).toArray w.drew :=
      run_firstCells_some w.drew i.size n ⟨g, 0, none⟩ n n (bcs l) (by rw [bcs_length, hln, hsize, Nat.mul_one]) (fun j u hu => by
        rw [bcs_get] at hu
        obtain ⟨y, hy, rfl⟩ := Option.map_eq_some_iff.1 hu
        rw [Addr.add_lit, Nat.zero_add]
        exact h.drew.cell j y hy)
    have hr := Lib.run_append_grow_zeros (P := P) w t tn ty e i (.int .u8 0) kq kn hB.ht htn hi hz (some ⟨g, 0, none⟩) n n (bcs l) hold k (by omega) (by omega) (by omega) (by omega) (by rw [hby]; omega) (growslice_fits (by omega) (by rw [hby]; omega))
    have hge := grownCap_ge w (n + k) n e
    have hcm : grownCap w (n + k) n e ≤ maxLen := grownCap_le_maxLen w (n + k) n e (by simp only [maxLen]; omega)
    refine ⟨w.heap.size, _, _, hr, ⟨by simp [hln], hge, hcm, _, heap_alloc_new w.drew _, ?_, ?_⟩, (Below.refl _ _).drew.alloc (Nat.le_refl _) _, .inr (Nat.le_refl _)⟩
    · simp only [Array.size_append, List.size_toArray, size_zeroCells, bcs_length, Value.cells]
      simp
      omega
    · simp only [Array.toList_append, zeroCells_rep]
      rw [← bcs_append, ← bcs_append, bcs_take, List.take_left' (by simp [hln])]
theorem wpList_append_zeros_ob {P : Program} {w : World} {ops : Array Oper} {rest : List Oper} {o : Oper} {a : Act} {Q : Exit → Act → World → Prop} (hgd : o.guard = none) (s x : Operand) (t tn : TypeId)
    (ho : o.op = .call { callee := .builtin .append, args := #[s, x], argTypes := #[t, tn] }) (e : TypeId) (hB : ByteTy P t e) (kn kq : IntKind) (htn : P.underlying tn = some (.int kn)) (g n k : Nat) (l : List UInt8) (hsv : a.eval s = .slice (some ⟨g, 0, none⟩) n n) (h : OwnB w e g n n l)
    (K : Int) (hx : a.eval x = .int kq K) (hKk : K = (k : Int)) (N : Nat) (hN : n + k = N) (hk : k ≤ 1000000) (hn : n ≤ 1000000)
    (hK : ∀ g' cap' w', OwnB w' e g' N cap' (l ++ List.replicate k 0) → Below w.heap.size w w' → (g' = g ∨ w.heap.size ≤ g') → wpList P ops Q rest (a.put o.dst (.slice (some ⟨g', 0, none⟩) N cap')) w') :
    wpList P ops Q (o :: rest) a w := by
  subst hN
  subst hKk
  refine wpList_plain hgd fun K hK' => ?_
  obtain ⟨g', cap', w', hr, h1, h2, h3⟩ := run_append_zeros_ob (P := P) w t tn o.type e hB kn kq htn g n k l h hk hn
  unfold Oper.wp execOp
  simp only [ho, resolve, invoke, builtin, Sem.run_bind, Sem.run_pure, Result.andThen_ok, List.map_toArray, List.map_cons, List.map_nil, hsv, hx, hr]
  exact hK' _ _ (hK g' cap' w' h1 h2 h3)

theorem parV_err {b : List UInt8} (h : parE b ≠ 0) : parV b = [] := by unfold parV; rw [if_neg h]
/-- So many values of no kind. -/
theorem many_all : ∀ n : Fin 256, parE (UInt8.ofNat n :: List.replicate n 0) = (if n.val ≤ 6 then 0 else 4) ∧ (n.val ≤ 6 → (pV (UInt8.ofNat n :: List.replicate n 0)).length = n.val) := by decide +kernel
theorem many_n (n : Nat) (hn : n < 256) : parE (UInt8.ofNat n :: List.replicate n 0) = (if n ≤ 6 then 0 else 4) ∧ (parV (UInt8.ofNat n :: List.replicate n 0)).length = if n ≤ 6 then n else 0 := by
  obtain ⟨h1, h2⟩ := many_all ⟨n, hn⟩
  simp only at h1 h2
  refine ⟨h1, ?_⟩
  split
  · rename_i h
    rw [if_pos h] at h1
    rw [parV, if_pos h1, h2 h]
  · rename_i h
    rw [if_neg h] at h1
    rw [parV_err (by rw [h1]; decide)]
    rfl
/-- One value of each kind. -/
theorem kind_all : ∀ k : Fin 256, parE [1, UInt8.ofNat k, 0] = (if k.val = 0 then 9 else if k.val = 1 then 0 else if k.val ≤ 3 then 8 else 3) := by decide +kernel
theorem kind_n (k : Nat) (h : k < 256) : parE [1, UInt8.ofNat k, 0] = (if k = 0 then 9 else if k = 1 then 0 else if k ≤ 3 then 8 else 3) := kind_all ⟨k, h⟩
theorem kind_one : parV [1, 1, 0] = [⟨1, 0, ⟨#[]⟩⟩] := by
  have e : parE [1, 1, 0] = 0 := by decide +kernel
  have h1 : upV 3 (dN 1 [1, 1, 0] 0) (upE 6 4 [1, 1, 0] 0) = 1 := by decide +kernel
  have h2 : vN 1 (dN 1 (dN 1 [1, 1, 0] 0) (upE 6 4 [1, 1, 0] 0)) (upE 3 3 (dN 1 [1, 1, 0] 0) (upE 6 4 [1, 1, 0] 0)) = 0 := by decide +kernel
  unfold parV
  rw [if_pos e, pV, show pN [1, 1, 0] = 1 by decide +kernel]
  show [rV _ _] = _
  unfold rV
  rw [if_pos h1, h2]
theorem many_own (w : World) (N : Int) (n : Nat) (h : Value.int .u8 N = bc (UInt8.ofNat n)) : OwnB (w.alloc (.cells #[.int .u8 N] 5)) 5 w.heap.size 1 1 [UInt8.ofNat n] :=
  own_blk (heap_alloc_new w _) (by rw [h]; rfl) rfl (by omega)
theorem kind_own (w : World) (K : Int) (k : Nat) (h : Value.int .u8 K = bc (UInt8.ofNat k)) : OwnB (w.alloc (.cells #[.int .u8 1, .int .u8 K, .int .u8 0] 5)) 5 w.heap.size 3 3 [1, UInt8.ofNat k, 0] :=
  own_blk (heap_alloc_new w _) (by rw [h]; rfl) rfl (by omega)
set_option maxHeartbeats 1000000 in
theorem many_0 (a b : Int) (w : World) (N K : Int) (n k : Nat) (l1 : 0 ≤ N) (l2 : N < 256) (l3 : 0 ≤ K) (l4 : K < 256) (HN : Hid (N = n)) (HK : Hid (K = k)) (n256 : n < 256) (k256 : k < 256)
    (W1 : ∀ w, Calls Try.prog 12 #[.int .i64 a, .int .i64 256] w fun e w' => e = .returned (.int .i64 N) ∧ w = w')
    (W2 : ∀ w, Calls Try.prog 12 #[.int .i64 b, .int .i64 256] w fun e w' => e = .returned (.int .i64 K) ∧ w = w') (hk0 : k = 0) :
    Calls Try.prog 6 #[.int .i64 a, .int .i64 b] w (Told w true) := by
  have O1 : Hid (∀ w : World, OwnB (w.alloc (.cells #[.int .u8 N] 5)) 5 w.heap.size 1 1 [UInt8.ofNat n]) := fun w => many_own w N n (by unfold bc; rw [HN.out, UInt8.toNat_ofNat', Nat.mod_eq_of_lt (by omega)])
  have HP1 := fun (g c : Nat) (w : World) (o : OwnB w 5 g (1 + n) c ([UInt8.ofNat n] ++ List.replicate n 0)) => parse_any (some ⟨g, 0, none⟩) (1 + n) c _ w o.isB (by omega)
  have HP2 := fun (w : World) => parse_any (some ⟨w.heap.size, 0, none⟩) 3 3 _ _ (kind_own w K k (by unfold bc; rw [HK.out, UInt8.toNat_ofNat', Nat.mod_eq_of_lt (by omega)])).isB (by omega)
  obtain ⟨m1, m2⟩ := many_n n n256
  replace m1 : parE ([UInt8.ofNat n] ++ List.replicate n 0) = _ := m1
  replace m2 : (parV ([UInt8.ofNat n] ++ List.replicate n 0)).length = _ := m2
  have k1 := kind_n k k256
  generalize parE ([UInt8.ofNat n] ++ List.replicate n 0) = E1 at HP1 m1
  generalize parV ([UInt8.ofNat n] ++ List.replicate n 0) = V1 at HP1 m2
  rw [if_pos hk0] at k1
  rw [k1] at HP2
  have kb0 : (K == 0) = true := by have := HK.out; simp; omega
  have kb1 : (K == 1) = false := by have := HK.out; simp; omega
  have kb2 : (K == 2) = false := by have := HK.out; simp; omega
  have kb3 : (K == 3) = false := by have := HK.out; simp; omega
  clear k1 hk0
  have un : N % 256 = N := by omega
  have uk : K % 256 = K := by omega
  by_cases hn6 : n ≤ 6
  · rw [if_pos hn6] at m1 m2
    have hN6 : N ≤ 6 := by rw [HN.out]; omega
    have M2 := Lib.hid m2
    subst m1
    clear m2 hn6
    go_enter Try.func6, Try.ntmps6
    go_wp2_with (first
    | (go_at_call 7; (with_reducible refine (known5 _).mono ?_); rintro e w1 ⟨rfl, b1⟩)
    | (go_at_call 12; (with_reducible refine (W1 _).mono ?_); rintro e w' ⟨rfl, rfl⟩)
    | (go_at_call 12; (with_reducible refine (W2 _).mono ?_); rintro e w' ⟨rfl, rfl⟩)
    | (at_builtin; refine wpList_append_zeros_ob rfl _ _ 24 3 rfl 5 byteTy .i64 .i64 Try.underlying3 w1.heap.size 1 n [UInt8.ofNat n] rfl (O1.out w1) _ rfl HN.out (1 + n) rfl (by omega) (by omega) ?_; intro g2 c2 w2 o2 b2 q2)
    | (go_at_call 13; (with_reducible refine (HP1 g2 c2 w2 o2).mono ?_); rintro e w3 ⟨ao1, n1, cap1, rfl, i1, b3, q3⟩; have X1 := Below.alloc b1 b1.size (.cells #[.int .u8 N] 5); have X2 := X1.trans (b2.mono X1.size); have X3 := X2.trans (b3.mono X2.size))
    | (go_at_call 13; (with_reducible refine (HP2 w3).mono ?_); rintro e w4 ⟨ao2, n2, cap2, rfl, i2, b4, q4⟩; have X4 := Below.alloc X3 X3.size (.cells #[.int .u8 1, .int .u8 K, .int .u8 0] 5); have X5 := X4.trans (b4.mono X4.size); obtain rfl : n1 = n := i1.len.symm.trans M2.out; have HN2 := HN.out; skip))
    go_ret
    exact ⟨rfl, X5⟩
  · rw [if_neg hn6] at m1 m2
    have hN6 : ¬ N ≤ 6 := by rw [HN.out]; omega
    have hN0 : ¬ (0 : Int) = N := by omega
    have M2 := Lib.hid m2
    subst m1
    clear m2 hn6
    go_enter Try.func6, Try.ntmps6
    go_wp2_with (first
    | (go_at_call 7; (with_reducible refine (known5 _).mono ?_); rintro e w1 ⟨rfl, b1⟩)
    | (go_at_call 12; (with_reducible refine (W1 _).mono ?_); rintro e w' ⟨rfl, rfl⟩)
    | (go_at_call 12; (with_reducible refine (W2 _).mono ?_); rintro e w' ⟨rfl, rfl⟩)
    | (at_builtin; refine wpList_append_zeros_ob rfl _ _ 24 3 rfl 5 byteTy .i64 .i64 Try.underlying3 w1.heap.size 1 n [UInt8.ofNat n] rfl (O1.out w1) _ rfl HN.out (1 + n) rfl (by omega) (by omega) ?_; intro g2 c2 w2 o2 b2 q2)
    | (go_at_call 13; (with_reducible refine (HP1 g2 c2 w2 o2).mono ?_); rintro e w3 ⟨ao1, n1, cap1, rfl, i1, b3, q3⟩; have X1 := Below.alloc b1 b1.size (.cells #[.int .u8 N] 5); have X2 := X1.trans (b2.mono X1.size); have X3 := X2.trans (b3.mono X2.size))
    | (go_at_call 13; (with_reducible refine (HP2 w3).mono ?_); rintro e w4 ⟨ao2, n2, cap2, rfl, i2, b4, q4⟩; have X4 := Below.alloc X3 X3.size (.cells #[.int .u8 1, .int .u8 K, .int .u8 0] 5); have X5 := X4.trans (b4.mono X4.size); obtain rfl : n1 = 0 := i1.len.symm.trans M2.out; skip))
    go_ret
    exact ⟨rfl, X5⟩
set_option maxHeartbeats 1000000 in
theorem many_1 (a b : Int) (w : World) (N K : Int) (n k : Nat) (l1 : 0 ≤ N) (l2 : N < 256) (l3 : 0 ≤ K) (l4 : K < 256) (HN : Hid (N = n)) (HK : Hid (K = k)) (n256 : n < 256) (k256 : k < 256)
    (W1 : ∀ w, Calls Try.prog 12 #[.int .i64 a, .int .i64 256] w fun e w' => e = .returned (.int .i64 N) ∧ w = w')
    (W2 : ∀ w, Calls Try.prog 12 #[.int .i64 b, .int .i64 256] w fun e w' => e = .returned (.int .i64 K) ∧ w = w') (hk1 : k = 1) :
    Calls Try.prog 6 #[.int .i64 a, .int .i64 b] w (Told w true) := by
  have O1 : Hid (∀ w : World, OwnB (w.alloc (.cells #[.int .u8 N] 5)) 5 w.heap.size 1 1 [UInt8.ofNat n]) := fun w => many_own w N n (by unfold bc; rw [HN.out, UInt8.toNat_ofNat', Nat.mod_eq_of_lt (by omega)])
  have HP1 := fun (g c : Nat) (w : World) (o : OwnB w 5 g (1 + n) c ([UInt8.ofNat n] ++ List.replicate n 0)) => parse_any (some ⟨g, 0, none⟩) (1 + n) c _ w o.isB (by omega)
  have HP2 := fun (w : World) => parse_any (some ⟨w.heap.size, 0, none⟩) 3 3 _ _ (kind_own w K k (by unfold bc; rw [HK.out, UInt8.toNat_ofNat', Nat.mod_eq_of_lt (by omega)])).isB (by omega)
  obtain ⟨m1, m2⟩ := many_n n n256
  replace m1 : parE ([UInt8.ofNat n] ++ List.replicate n 0) = _ := m1
  replace m2 : (parV ([UInt8.ofNat n] ++ List.replicate n 0)).length = _ := m2
  have k1 := kind_n k k256
  generalize parE ([UInt8.ofNat n] ++ List.replicate n 0) = E1 at HP1 m1
  generalize parV ([UInt8.ofNat n] ++ List.replicate n 0) = V1 at HP1 m2
  subst hk1
  rw [if_neg (by omega), if_pos rfl] at k1
  replace HP2 : ∀ w : World, Calls _ _ _ _ (Parsed _ (parV [1, 1, 0]) (parE [1, UInt8.ofNat 1, 0])) := HP2
  rw [kind_one, k1] at HP2
  have heq := run_eql_val 1 0 ⟨#[]⟩ 1 0 ⟨#[]⟩
  rw [show eqV 1 0 ⟨#[]⟩ 1 0 ⟨#[]⟩ = true by decide +kernel] at heq
  have kb0 : (K == 0) = false := by have := HK.out; simp; omega
  have kb1 : (K == 1) = true := by have := HK.out; simp; omega
  have kb2 : (K == 2) = false := by have := HK.out; simp; omega
  have kb3 : (K == 3) = false := by have := HK.out; simp; omega
  clear k1
  have un : N % 256 = N := by omega
  have uk : K % 256 = K := by omega
  by_cases hn6 : n ≤ 6
  · rw [if_pos hn6] at m1 m2
    have hN6 : N ≤ 6 := by rw [HN.out]; omega
    have M2 := Lib.hid m2
    subst m1
    clear m2 hn6
    go_enter Try.func6, Try.ntmps6
    go_wp2_with (first
    | (go_at_call 7; (with_reducible refine (known5 _).mono ?_); rintro e w1 ⟨rfl, b1⟩)
    | (go_at_call 12; (with_reducible refine (W1 _).mono ?_); rintro e w' ⟨rfl, rfl⟩)
    | (go_at_call 12; (with_reducible refine (W2 _).mono ?_); rintro e w' ⟨rfl, rfl⟩)
    | (at_builtin; refine wpList_append_zeros_ob rfl _ _ 24 3 rfl 5 byteTy .i64 .i64 Try.underlying3 w1.heap.size 1 n [UInt8.ofNat n] rfl (O1.out w1) _ rfl HN.out (1 + n) rfl (by omega) (by omega) ?_; intro g2 c2 w2 o2 b2 q2)
    | (go_at_call 13; (with_reducible refine (HP1 g2 c2 w2 o2).mono ?_); rintro e w3 ⟨ao1, n1, cap1, rfl, i1, b3, q3⟩; have X1 := Below.alloc b1 b1.size (.cells #[.int .u8 N] 5); have X2 := X1.trans (b2.mono X1.size); have X3 := X2.trans (b3.mono X2.size))
    | (go_at_call 13; (with_reducible refine (HP2 w3).mono ?_); rintro e w4 ⟨ao2, n2, cap2, rfl, i2, b4, q4⟩; have X4 := Below.alloc X3 X3.size (.cells #[.int .u8 1, .int .u8 K, .int .u8 0] 5); have X5 := X4.trans (b4.mono X4.size); obtain rfl : n1 = n := i1.len.symm.trans M2.out; have HN2 := HN.out; obtain rfl : n2 = 1 := i2.len.symm; obtain ⟨bb, off, rfl, hb, hc⟩ := i2.open (by omega) (by decide); obtain ⟨y0, y1, y2⟩ := cells_v hc 0 _ rfl; simp only [Nat.zero_mul, Nat.add_zero] at y0 y1 y2; clear hc))
    go_ret
    exact ⟨rfl, X5⟩
  · rw [if_neg hn6] at m1 m2
    have hN6 : ¬ N ≤ 6 := by rw [HN.out]; omega
    have hN0 : ¬ (0 : Int) = N := by omega
    have M2 := Lib.hid m2
    subst m1
    clear m2 hn6
    go_enter Try.func6, Try.ntmps6
    go_wp2_with (first
    | (go_at_call 7; (with_reducible refine (known5 _).mono ?_); rintro e w1 ⟨rfl, b1⟩)
    | (go_at_call 12; (with_reducible refine (W1 _).mono ?_); rintro e w' ⟨rfl, rfl⟩)
    | (go_at_call 12; (with_reducible refine (W2 _).mono ?_); rintro e w' ⟨rfl, rfl⟩)
    | (at_builtin; refine wpList_append_zeros_ob rfl _ _ 24 3 rfl 5 byteTy .i64 .i64 Try.underlying3 w1.heap.size 1 n [UInt8.ofNat n] rfl (O1.out w1) _ rfl HN.out (1 + n) rfl (by omega) (by omega) ?_; intro g2 c2 w2 o2 b2 q2)
    | (go_at_call 13; (with_reducible refine (HP1 g2 c2 w2 o2).mono ?_); rintro e w3 ⟨ao1, n1, cap1, rfl, i1, b3, q3⟩; have X1 := Below.alloc b1 b1.size (.cells #[.int .u8 N] 5); have X2 := X1.trans (b2.mono X1.size); have X3 := X2.trans (b3.mono X2.size))
    | (go_at_call 13; (with_reducible refine (HP2 w3).mono ?_); rintro e w4 ⟨ao2, n2, cap2, rfl, i2, b4, q4⟩; have X4 := Below.alloc X3 X3.size (.cells #[.int .u8 1, .int .u8 K, .int .u8 0] 5); have X5 := X4.trans (b4.mono X4.size); obtain rfl : n1 = 0 := i1.len.symm.trans M2.out; obtain rfl : n2 = 1 := i2.len.symm; obtain ⟨bb, off, rfl, hb, hc⟩ := i2.open (by omega) (by decide); obtain ⟨y0, y1, y2⟩ := cells_v hc 0 _ rfl; simp only [Nat.zero_mul, Nat.add_zero] at y0 y1 y2; clear hc))
    go_ret
    exact ⟨rfl, X5⟩
set_option maxHeartbeats 1000000 in
theorem many_2 (a b : Int) (w : World) (N K : Int) (n k : Nat) (l1 : 0 ≤ N) (l2 : N < 256) (l3 : 0 ≤ K) (l4 : K < 256) (HN : Hid (N = n)) (HK : Hid (K = k)) (n256 : n < 256) (k256 : k < 256)
    (W1 : ∀ w, Calls Try.prog 12 #[.int .i64 a, .int .i64 256] w fun e w' => e = .returned (.int .i64 N) ∧ w = w')
    (W2 : ∀ w, Calls Try.prog 12 #[.int .i64 b, .int .i64 256] w fun e w' => e = .returned (.int .i64 K) ∧ w = w') (hk2 : k = 2) :
    Calls Try.prog 6 #[.int .i64 a, .int .i64 b] w (Told w true) := by
  have O1 : Hid (∀ w : World, OwnB (w.alloc (.cells #[.int .u8 N] 5)) 5 w.heap.size 1 1 [UInt8.ofNat n]) := fun w => many_own w N n (by unfold bc; rw [HN.out, UInt8.toNat_ofNat', Nat.mod_eq_of_lt (by omega)])
  have HP1 := fun (g c : Nat) (w : World) (o : OwnB w 5 g (1 + n) c ([UInt8.ofNat n] ++ List.replicate n 0)) => parse_any (some ⟨g, 0, none⟩) (1 + n) c _ w o.isB (by omega)
  have HP2 := fun (w : World) => parse_any (some ⟨w.heap.size, 0, none⟩) 3 3 _ _ (kind_own w K k (by unfold bc; rw [HK.out, UInt8.toNat_ofNat', Nat.mod_eq_of_lt (by omega)])).isB (by omega)
  obtain ⟨m1, m2⟩ := many_n n n256
  replace m1 : parE ([UInt8.ofNat n] ++ List.replicate n 0) = _ := m1
  replace m2 : (parV ([UInt8.ofNat n] ++ List.replicate n 0)).length = _ := m2
  have k1 := kind_n k k256
  generalize parE ([UInt8.ofNat n] ++ List.replicate n 0) = E1 at HP1 m1
  generalize parV ([UInt8.ofNat n] ++ List.replicate n 0) = V1 at HP1 m2
  rw [if_neg (by omega), if_neg (by omega), if_pos (by omega)] at k1
  rw [k1] at HP2
  have kb0 : (K == 0) = false := by have := HK.out; simp; omega
  have kb1 : (K == 1) = false := by have := HK.out; simp; omega
  have kb2 : (K == 2) = true := by have := HK.out; simp; omega
  have kb3 : (K == 3) = false := by have := HK.out; simp; omega
  clear k1 hk2
  have un : N % 256 = N := by omega
  have uk : K % 256 = K := by omega
  by_cases hn6 : n ≤ 6
  · rw [if_pos hn6] at m1 m2
    have hN6 : N ≤ 6 := by rw [HN.out]; omega
    have M2 := Lib.hid m2
    subst m1
    clear m2 hn6
    go_enter Try.func6, Try.ntmps6
    go_wp2_with (first
    | (go_at_call 7; (with_reducible refine (known5 _).mono ?_); rintro e w1 ⟨rfl, b1⟩)
    | (go_at_call 12; (with_reducible refine (W1 _).mono ?_); rintro e w' ⟨rfl, rfl⟩)
    | (go_at_call 12; (with_reducible refine (W2 _).mono ?_); rintro e w' ⟨rfl, rfl⟩)
    | (at_builtin; refine wpList_append_zeros_ob rfl _ _ 24 3 rfl 5 byteTy .i64 .i64 Try.underlying3 w1.heap.size 1 n [UInt8.ofNat n] rfl (O1.out w1) _ rfl HN.out (1 + n) rfl (by omega) (by omega) ?_; intro g2 c2 w2 o2 b2 q2)
    | (go_at_call 13; (with_reducible refine (HP1 g2 c2 w2 o2).mono ?_); rintro e w3 ⟨ao1, n1, cap1, rfl, i1, b3, q3⟩; have X1 := Below.alloc b1 b1.size (.cells #[.int .u8 N] 5); have X2 := X1.trans (b2.mono X1.size); have X3 := X2.trans (b3.mono X2.size))
    | (go_at_call 13; (with_reducible refine (HP2 w3).mono ?_); rintro e w4 ⟨ao2, n2, cap2, rfl, i2, b4, q4⟩; have X4 := Below.alloc X3 X3.size (.cells #[.int .u8 1, .int .u8 K, .int .u8 0] 5); have X5 := X4.trans (b4.mono X4.size); obtain rfl : n1 = n := i1.len.symm.trans M2.out; have HN2 := HN.out; skip))
    go_ret
    exact ⟨rfl, X5⟩
  · rw [if_neg hn6] at m1 m2
    have hN6 : ¬ N ≤ 6 := by rw [HN.out]; omega
    have hN0 : ¬ (0 : Int) = N := by omega
    have M2 := Lib.hid m2
    subst m1
    clear m2 hn6
    go_enter Try.func6, Try.ntmps6
    go_wp2_with (first
    | (go_at_call 7; (with_reducible refine (known5 _).mono ?_); rintro e w1 ⟨rfl, b1⟩)
    | (go_at_call 12; (with_reducible refine (W1 _).mono ?_); rintro e w' ⟨rfl, rfl⟩)
    | (go_at_call 12; (with_reducible refine (W2 _).mono ?_); rintro e w' ⟨rfl, rfl⟩)
    | (at_builtin; refine wpList_append_zeros_ob rfl _ _ 24 3 rfl 5 byteTy .i64 .i64 Try.underlying3 w1.heap.size 1 n [UInt8.ofNat n] rfl (O1.out w1) _ rfl HN.out (1 + n) rfl (by omega) (by omega) ?_; intro g2 c2 w2 o2 b2 q2)
    | (go_at_call 13; (with_reducible refine (HP1 g2 c2 w2 o2).mono ?_); rintro e w3 ⟨ao1, n1, cap1, rfl, i1, b3, q3⟩; have X1 := Below.alloc b1 b1.size (.cells #[.int .u8 N] 5); have X2 := X1.trans (b2.mono X1.size); have X3 := X2.trans (b3.mono X2.size))
    | (go_at_call 13; (with_reducible refine (HP2 w3).mono ?_); rintro e w4 ⟨ao2, n2, cap2, rfl, i2, b4, q4⟩; have X4 := Below.alloc X3 X3.size (.cells #[.int .u8 1, .int .u8 K, .int .u8 0] 5); have X5 := X4.trans (b4.mono X4.size); obtain rfl : n1 = 0 := i1.len.symm.trans M2.out; skip))
    go_ret
    exact ⟨rfl, X5⟩
set_option maxHeartbeats 1000000 in
theorem many_3 (a b : Int) (w : World) (N K : Int) (n k : Nat) (l1 : 0 ≤ N) (l2 : N < 256) (l3 : 0 ≤ K) (l4 : K < 256) (HN : Hid (N = n)) (HK : Hid (K = k)) (n256 : n < 256) (k256 : k < 256)
    (W1 : ∀ w, Calls Try.prog 12 #[.int .i64 a, .int .i64 256] w fun e w' => e = .returned (.int .i64 N) ∧ w = w')
    (W2 : ∀ w, Calls Try.prog 12 #[.int .i64 b, .int .i64 256] w fun e w' => e = .returned (.int .i64 K) ∧ w = w') (hk3 : k = 3) :
    Calls Try.prog 6 #[.int .i64 a, .int .i64 b] w (Told w true) := by
  have O1 : Hid (∀ w : World, OwnB (w.alloc (.cells #[.int .u8 N] 5)) 5 w.heap.size 1 1 [UInt8.ofNat n]) := fun w => many_own w N n (by unfold bc; rw [HN.out, UInt8.toNat_ofNat', Nat.mod_eq_of_lt (by omega)])
  have HP1 := fun (g c : Nat) (w : World) (o : OwnB w 5 g (1 + n) c ([UInt8.ofNat n] ++ List.replicate n 0)) => parse_any (some ⟨g, 0, none⟩) (1 + n) c _ w o.isB (by omega)
  have HP2 := fun (w : World) => parse_any (some ⟨w.heap.size, 0, none⟩) 3 3 _ _ (kind_own w K k (by unfold bc; rw [HK.out, UInt8.toNat_ofNat', Nat.mod_eq_of_lt (by omega)])).isB (by omega)
  obtain ⟨m1, m2⟩ := many_n n n256
  replace m1 : parE ([UInt8.ofNat n] ++ List.replicate n 0) = _ := m1
  replace m2 : (parV ([UInt8.ofNat n] ++ List.replicate n 0)).length = _ := m2
  have k1 := kind_n k k256
  generalize parE ([UInt8.ofNat n] ++ List.replicate n 0) = E1 at HP1 m1
  generalize parV ([UInt8.ofNat n] ++ List.replicate n 0) = V1 at HP1 m2
  rw [if_neg (by omega), if_neg (by omega), if_pos (by omega)] at k1
  rw [k1] at HP2
  have kb0 : (K == 0) = false := by have := HK.out; simp; omega
  have kb1 : (K == 1) = false := by have := HK.out; simp; omega
  have kb2 : (K == 2) = false := by have := HK.out; simp; omega
  have kb3 : (K == 3) = true := by have := HK.out; simp; omega
  clear k1 hk3
  have un : N % 256 = N := by omega
  have uk : K % 256 = K := by omega
  by_cases hn6 : n ≤ 6
  · rw [if_pos hn6] at m1 m2
    have hN6 : N ≤ 6 := by rw [HN.out]; omega
    have M2 := Lib.hid m2
    subst m1
    clear m2 hn6
    go_enter Try.func6, Try.ntmps6
    go_wp2_with (first
    | (go_at_call 7; (with_reducible refine (known5 _).mono ?_); rintro e w1 ⟨rfl, b1⟩)
    | (go_at_call 12; (with_reducible refine (W1 _).mono ?_); rintro e w' ⟨rfl, rfl⟩)
    | (go_at_call 12; (with_reducible refine (W2 _).mono ?_); rintro e w' ⟨rfl, rfl⟩)
    | (at_builtin; refine wpList_append_zeros_ob rfl _ _ 24 3 rfl 5 byteTy .i64 .i64 Try.underlying3 w1.heap.size 1 n [UInt8.ofNat n] rfl (O1.out w1) _ rfl HN.out (1 + n) rfl (by omega) (by omega) ?_; intro g2 c2 w2 o2 b2 q2)
    | (go_at_call 13; (with_reducible refine (HP1 g2 c2 w2 o2).mono ?_); rintro e w3 ⟨ao1, n1, cap1, rfl, i1, b3, q3⟩; have X1 := Below.alloc b1 b1.size (.cells #[.int .u8 N] 5); have X2 := X1.trans (b2.mono X1.size); have X3 := X2.trans (b3.mono X2.size))
    | (go_at_call 13; (with_reducible refine (HP2 w3).mono ?_); rintro e w4 ⟨ao2, n2, cap2, rfl, i2, b4, q4⟩; have X4 := Below.alloc X3 X3.size (.cells #[.int .u8 1, .int .u8 K, .int .u8 0] 5); have X5 := X4.trans (b4.mono X4.size); obtain rfl : n1 = n := i1.len.symm.trans M2.out; have HN2 := HN.out; skip))
    go_ret
    exact ⟨rfl, X5⟩
  · rw [if_neg hn6] at m1 m2
    have hN6 : ¬ N ≤ 6 := by rw [HN.out]; omega
    have hN0 : ¬ (0 : Int) = N := by omega
    have M2 := Lib.hid m2
    subst m1
    clear m2 hn6
    go_enter Try.func6, Try.ntmps6
    go_wp2_with (first
    | (go_at_call 7; (with_reducible refine (known5 _).mono ?_); rintro e w1 ⟨rfl, b1⟩)
    | (go_at_call 12; (with_reducible refine (W1 _).mono ?_); rintro e w' ⟨rfl, rfl⟩)
    | (go_at_call 12; (with_reducible refine (W2 _).mono ?_); rintro e w' ⟨rfl, rfl⟩)
    | (at_builtin; refine wpList_append_zeros_ob rfl _ _ 24 3 rfl 5 byteTy .i64 .i64 Try.underlying3 w1.heap.size 1 n [UInt8.ofNat n] rfl (O1.out w1) _ rfl HN.out (1 + n) rfl (by omega) (by omega) ?_; intro g2 c2 w2 o2 b2 q2)
    | (go_at_call 13; (with_reducible refine (HP1 g2 c2 w2 o2).mono ?_); rintro e w3 ⟨ao1, n1, cap1, rfl, i1, b3, q3⟩; have X1 := Below.alloc b1 b1.size (.cells #[.int .u8 N] 5); have X2 := X1.trans (b2.mono X1.size); have X3 := X2.trans (b3.mono X2.size))
    | (go_at_call 13; (with_reducible refine (HP2 w3).mono ?_); rintro e w4 ⟨ao2, n2, cap2, rfl, i2, b4, q4⟩; have X4 := Below.alloc X3 X3.size (.cells #[.int .u8 1, .int .u8 K, .int .u8 0] 5); have X5 := X4.trans (b4.mono X4.size); obtain rfl : n1 = 0 := i1.len.symm.trans M2.out; skip))
    go_ret
    exact ⟨rfl, X5⟩
set_option maxHeartbeats 1000000 in
theorem many_4 (a b : Int) (w : World) (N K : Int) (n k : Nat) (l1 : 0 ≤ N) (l2 : N < 256) (l3 : 0 ≤ K) (l4 : K < 256) (HN : Hid (N = n)) (HK : Hid (K = k)) (n256 : n < 256) (k256 : k < 256)
    (W1 : ∀ w, Calls Try.prog 12 #[.int .i64 a, .int .i64 256] w fun e w' => e = .returned (.int .i64 N) ∧ w = w')
    (W2 : ∀ w, Calls Try.prog 12 #[.int .i64 b, .int .i64 256] w fun e w' => e = .returned (.int .i64 K) ∧ w = w') (hk4 : 3 < k) :
    Calls Try.prog 6 #[.int .i64 a, .int .i64 b] w (Told w true) := by
  have O1 : Hid (∀ w : World, OwnB (w.alloc (.cells #[.int .u8 N] 5)) 5 w.heap.size 1 1 [UInt8.ofNat n]) := fun w => many_own w N n (by unfold bc; rw [HN.out, UInt8.toNat_ofNat', Nat.mod_eq_of_lt (by omega)])
  have HP1 := fun (g c : Nat) (w : World) (o : OwnB w 5 g (1 + n) c ([UInt8.ofNat n] ++ List.replicate n 0)) => parse_any (some ⟨g, 0, none⟩) (1 + n) c _ w o.isB (by omega)
  have HP2 := fun (w : World) => parse_any (some ⟨w.heap.size, 0, none⟩) 3 3 _ _ (kind_own w K k (by unfold bc; rw [HK.out, UInt8.toNat_ofNat', Nat.mod_eq_of_lt (by omega)])).isB (by omega)
  obtain ⟨m1, m2⟩ := many_n n n256
  replace m1 : parE ([UInt8.ofNat n] ++ List.replicate n 0) = _ := m1
  replace m2 : (parV ([UInt8.ofNat n] ++ List.replicate n 0)).length = _ := m2
  have k1 := kind_n k k256
  generalize parE ([UInt8.ofNat n] ++ List.replicate n 0) = E1 at HP1 m1
  generalize parV ([UInt8.ofNat n] ++ List.replicate n 0) = V1 at HP1 m2
  rw [if_neg (by omega), if_neg (by omega), if_neg (by omega)] at k1
  have k2 := parV_err (b := [1, UInt8.ofNat k, 0]) (by rw [k1]; decide)
  rw [k1, k2] at HP2
  have kb0 : (K == 0) = false := by have := HK.out; simp; omega
  have kb1 : (K == 1) = false := by have := HK.out; simp; omega
  have kb2 : (K == 2) = false := by have := HK.out; simp; omega
  have kb3 : (K == 3) = false := by have := HK.out; simp; omega
  clear k1 k2 hk4
  have un : N % 256 = N := by omega
  have uk : K % 256 = K := by omega
  by_cases hn6 : n ≤ 6
  · rw [if_pos hn6] at m1 m2
    have hN6 : N ≤ 6 := by rw [HN.out]; omega
    have M2 := Lib.hid m2
    subst m1
    clear m2 hn6
    go_enter Try.func6, Try.ntmps6
    go_wp2_with (first
    | (go_at_call 7; (with_reducible refine (known5 _).mono ?_); rintro e w1 ⟨rfl, b1⟩)
    | (go_at_call 12; (with_reducible refine (W1 _).mono ?_); rintro e w' ⟨rfl, rfl⟩)
    | (go_at_call 12; (with_reducible refine (W2 _).mono ?_); rintro e w' ⟨rfl, rfl⟩)
    | (at_builtin; refine wpList_append_zeros_ob rfl _ _ 24 3 rfl 5 byteTy .i64 .i64 Try.underlying3 w1.heap.size 1 n [UInt8.ofNat n] rfl (O1.out w1) _ rfl HN.out (1 + n) rfl (by omega) (by omega) ?_; intro g2 c2 w2 o2 b2 q2)
    | (go_at_call 13; (with_reducible refine (HP1 g2 c2 w2 o2).mono ?_); rintro e w3 ⟨ao1, n1, cap1, rfl, i1, b3, q3⟩; have X1 := Below.alloc b1 b1.size (.cells #[.int .u8 N] 5); have X2 := X1.trans (b2.mono X1.size); have X3 := X2.trans (b3.mono X2.size))
    | (go_at_call 13; (with_reducible refine (HP2 w3).mono ?_); rintro e w4 ⟨ao2, n2, cap2, rfl, i2, b4, q4⟩; have X4 := Below.alloc X3 X3.size (.cells #[.int .u8 1, .int .u8 K, .int .u8 0] 5); have X5 := X4.trans (b4.mono X4.size); obtain rfl : n1 = n := i1.len.symm.trans M2.out; have HN2 := HN.out; obtain rfl : n2 = 0 := i2.len.symm))
    go_ret
    exact ⟨rfl, X5⟩
  · rw [if_neg hn6] at m1 m2
    have hN6 : ¬ N ≤ 6 := by rw [HN.out]; omega
    have hN0 : ¬ (0 : Int) = N := by omega
    have M2 := Lib.hid m2
    subst m1
    clear m2 hn6
    go_enter Try.func6, Try.ntmps6
    go_wp2_with (first
    | (go_at_call 7; (with_reducible refine (known5 _).mono ?_); rintro e w1 ⟨rfl, b1⟩)
    | (go_at_call 12; (with_reducible refine (W1 _).mono ?_); rintro e w' ⟨rfl, rfl⟩)
    | (go_at_call 12; (with_reducible refine (W2 _).mono ?_); rintro e w' ⟨rfl, rfl⟩)
    | (at_builtin; refine wpList_append_zeros_ob rfl _ _ 24 3 rfl 5 byteTy .i64 .i64 Try.underlying3 w1.heap.size 1 n [UInt8.ofNat n] rfl (O1.out w1) _ rfl HN.out (1 + n) rfl (by omega) (by omega) ?_; intro g2 c2 w2 o2 b2 q2)
    | (go_at_call 13; (with_reducible refine (HP1 g2 c2 w2 o2).mono ?_); rintro e w3 ⟨ao1, n1, cap1, rfl, i1, b3, q3⟩; have X1 := Below.alloc b1 b1.size (.cells #[.int .u8 N] 5); have X2 := X1.trans (b2.mono X1.size); have X3 := X2.trans (b3.mono X2.size))
    | (go_at_call 13; (with_reducible refine (HP2 w3).mono ?_); rintro e w4 ⟨ao2, n2, cap2, rfl, i2, b4, q4⟩; have X4 := Below.alloc X3 X3.size (.cells #[.int .u8 1, .int .u8 K, .int .u8 0] 5); have X5 := X4.trans (b4.mono X4.size); obtain rfl : n1 = 0 := i1.len.symm.trans M2.out; obtain rfl : n2 = 0 := i2.len.symm))
    go_ret
    exact ⟨rfl, X5⟩
theorem rowMany_walk (a b : Int) (w : World) (_ : (Lit.int .i64 a).wf = true) (_ : (Lit.int .i64 b).wf = true) :
    Calls Try.prog 6 #[.int .i64 a, .int .i64 b] w (Told w true) := by
  have l1 := wth_lo a 256 (by omega)
  have l2 := wth_hi a 256 (by omega)
  have l3 := wth_lo b 256 (by omega)
  have l4 := wth_hi b 256 (by omega)
  have W1 := fun w => within5_any a 256 w (by omega) (by omega)
  have W2 := fun w => within5_any b 256 w (by omega) (by omega)
  have hn : wth a 256 = ((wth a 256).toNat : Nat) := by omega
  have hk : wth b 256 = ((wth b 256).toNat : Nat) := by omega
  generalize hN : (wth a 256).toNat = n at hn
  generalize hK : (wth b 256).toNat = k at hk
  have h5 : k = 0 ∨ k = 1 ∨ k = 2 ∨ k = 3 ∨ 3 < k := by omega
  rcases h5 with h | h | h | h | h
  · exact many_0 a b w _ _ n k l1 l2 l3 l4 hn hk (by omega) (by omega) W1 W2 h
  · exact many_1 a b w _ _ n k l1 l2 l3 l4 hn hk (by omega) (by omega) W1 W2 h
  · exact many_2 a b w _ _ n k l1 l2 l3 l4 hn hk (by omega) (by omega) W1 W2 h
  · exact many_3 a b w _ _ n k l1 l2 l3 l4 hn hk (by omega) (by omega) W1 W2 h
  · exact many_4 a b w _ _ n k l1 l2 l3 l4 hn hk (by omega) (by omega) W1 W2 h
end Go.Proofs.Ytalnnifmlhckbaa
