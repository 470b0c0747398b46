/-
  LockRings, walked (by gen_lrings.py).
-/
import Derived.Test.YtckfkgmlifnfkaaRdB
import Derived.Test.YtckfkgmlifnfkaaLLShared
namespace Go.Proofs.Ytckfkgmlifnfkaa
open Go.RowKit
set_option linter.unusedSimpArgs false
theorem wf_sm {x : Int} (h : 0 ≤ x ∧ x < 1000) : (Lit.int .i64 x).wf = true := WalkArith.wf_i64 (by omega)
theorem Hr_wf (N : Nat) (hN : N ≤ 7) : ∀ y ∈ Hr N, (Lit.int .i64 y.s).wf = true := fun y hy => by
  obtain ⟨i, hi, rfl⟩ := mem_Hr.1 hy
  exact wf_sm (by show (0 : Int) ≤ (i : Int) ∧ (i : Int) < 1000; omega)
theorem Wr_wf (N T : Nat) (x : Bool) (k : Nat) (h0 : 0 < N) (hN : N ≤ 7) : ∀ y ∈ Wr N T x k, (Lit.int .i64 y.s).wf = true := fun y hy => by
  obtain ⟨j, hj, rfl⟩ := mem_Wr.1 hy
  have := Nat.mod_lt (j + T) h0
  exact wf_sm (by show (0 : Int) ≤ (((j + T) % N : Nat) : Int) ∧ (((j + T) % N : Nat) : Int) < 1000; omega)
theorem Hr_len (N : Nat) : (Hr N).length = N := by simp [Hr]
theorem Wr_len (N T : Nat) (x : Bool) (k : Nat) : (Wr N T x k).length = k := by simp [Wr]
theorem wo_wf {l : List Hd} (h : ∀ y ∈ l, (Lit.int .i64 y.s).wf = true) (s : Int) : ∀ y ∈ wo l s, (Lit.int .i64 y.s).wf = true := fun y hy => h y (mem_wo.1 hy).1
theorem tmod_nat (a n : Nat) : ((a : Int)).tmod (n : Int) = ((a % n : Nat) : Int) := by
  rw [Int.tmod_eq_emod_of_nonneg (by omega)]
  rfl
/-- What stands while the region's operations come up. -/
inductive Rings9 (B : Nat) (p : Nat) (ho : Option Addr) (hn : Nat) (hc : Nat) (wq : Option Addr) (wn : Nat) (wc : Nat) (ab : Bool) (H0 : List Hd) (W0 : List Hd) (H1 : List Hd) (W1 : List Hd) (gN : Nat) (k : Nat) (a0 : Act) (w0 : World) (L : Array Bool) (a : Act) (w : World) : Prop
  | mk (b0 b1 b2 b3 b4 b5 b6 b7 b8 b9 b10 b11 : Bool) (x35 x36 x37 x38 x39 x40 x41 x42 x34 x43 x44 : Value) (qo : Option Addr) (qn : Nat) (qc : Nat) (ro : Option Addr) (rn : Nat) (rc : Nat) (hL : L = #[b0, b1, b2, b3, b4, b5, b6, b7, b8, b9, b10, b11]) (ha : a = ⟨(((((((((((a0.tmps.setIfInBounds 35 x35).setIfInBounds 36 x36).setIfInBounds 37 x37).setIfInBounds 38 x38).setIfInBounds 39 x39).setIfInBounds 40 x40).setIfInBounds 41 x41).setIfInBounds 42 x42).setIfInBounds 34 x34).setIfInBounds 43 x43).setIfInBounds 44 x44), a0.defers⟩) (hb : Below B w0 w) (cd0 : Hid (b0 = true → x35 = .agg #[.slice ho hn hc, .slice wq wn wc])) (cd1 : Hid (b1 = true → x36 = .int .i64 (k : Nat))) (cd2 : Hid (b2 = true → x37 = .slice (some ⟨gN, 0, none⟩) 7 7)) (cd3 : Hid (b3 = true → x38 = .int .i64 (k : Nat))) (cd4 : Hid (b4 = true → x39 = .pointer (some ⟨gN, k, none⟩))) (cd5 : Hid (b5 = true → x40 = .string (bsOf (nm k)))) (cd6 : Hid (b6 = true → x41 = .agg #[.int .i64 (k : Nat), .string (bsOf (nm k)), .bool true])) (cd7 : Hid (b7 = true → x42 = .tuple #[.agg #[.slice qo qn qc, .slice ro rn rc], .bool ab])) (cd8 : Hid (b8 = true → x34 = .tuple #[.agg #[.slice qo qn qc, .slice ro rn rc], .bool ab])) (cd9 : Hid (b9 = true → x43 = .agg #[.slice qo qn qc, .slice ro rn rc])) (cd10 : Hid (b10 = true → x44 = .bool ab)) (f_v : Hid (b11 = false → LkB w p ho hn hc wq wn wc 96)) (f_ih : Hid (b11 = false → RdB w 0 ho hn hc wq wn wc H0 W0)) (f_r : Hid (b7 = true → RdB w (p + 1) qo qn qc ro rn rc H1 W1)) (f_o : Hid (b11 = true → LkB w p qo qn qc ro rn rc 96)) (f_qC : Hid (b11 = true → b7 = true)) (f_q0 : Hid (b11 = true → b0 = true)) (f_nm : Hid (NmsB w gN)) (w_8_7 : Hid (b8 = true → b7 = true)) (w_9_7 : Hid (b9 = true → b7 = true)) : Rings9 B p ho hn hc wq wn wc ab H0 W0 H1 W1 gN k a0 w0 L a w

/-- What stands while the region's operations come up. -/
inductive Rings17 (B : Nat) (p : Nat) (ho : Option Addr) (hn : Nat) (hc : Nat) (wq : Option Addr) (wn : Nat) (wc : Nat) (ab : Bool) (H0 : List Hd) (W0 : List Hd) (H1 : List Hd) (W1 : List Hd) (gN : Nat) (s : Nat) (s1 : Nat) (k : Nat) (sh : Bool) (a0 : Act) (w0 : World) (L : Array Bool) (a : Act) (w : World) : Prop
  | mk (b0 b1 b2 b3 b4 b5 b6 b7 b8 b9 b10 b11 b12 b13 b14 b15 b16 b17 b18 : Bool) (x65 x66 x67 x68 x69 x70 x71 x72 x73 x74 x75 x76 x77 x64 x78 x79 x14 x15 : Value) (qo : Option Addr) (qn : Nat) (qc : Nat) (ro : Option Addr) (rn : Nat) (rc : Nat) (gu : Nat) (hL : L = #[b0, b1, b2, b3, b4, b5, b6, b7, b8, b9, b10, b11, b12, b13, b14, b15, b16, b17, b18]) (ha : a = ⟨((((((((((((((((((a0.tmps.setIfInBounds 65 x65).setIfInBounds 66 x66).setIfInBounds 67 x67).setIfInBounds 68 x68).setIfInBounds 69 x69).setIfInBounds 70 x70).setIfInBounds 71 x71).setIfInBounds 72 x72).setIfInBounds 73 x73).setIfInBounds 74 x74).setIfInBounds 75 x75).setIfInBounds 76 x76).setIfInBounds 77 x77).setIfInBounds 64 x64).setIfInBounds 78 x78).setIfInBounds 79 x79).setIfInBounds 14 x14).setIfInBounds 15 x15), a0.defers⟩) (hb : Below B w0 w) (cd0 : Hid (b0 = true → x65 = .agg #[.slice ho hn hc, .slice wq wn wc])) (cd1 : Hid (b1 = true → x66 = .int .i64 (s : Nat))) (cd2 : Hid (b2 = true → x67 = .slice (some ⟨gN, 0, none⟩) 7 7)) (cd3 : Hid (b3 = true → x68 = .int .i64 (s : Nat))) (cd4 : Hid (b4 = true → x69 = .int .i64 ((s : Int) + 1))) (cd5 : Hid (b5 = true → x70 = .int .i64 (k : Nat))) (cd6 : Hid (b6 = true → x71 = .int .i64 (s1 : Nat))) (cd7 : Hid (b7 = true → x72 = .pointer (some ⟨gN, s1, none⟩))) (cd8 : Hid (b8 = true → x73 = .string (bsOf (nm s1)))) (cd9 : Hid (b9 = true → x74 = .bool sh)) (cd10 : Hid (b10 = true → x75 = .bool (!sh))) (cd11 : Hid (b11 = true → x76 = .agg #[.int .i64 (s : Nat), .string (bsOf (nm s1)), .bool (!sh)])) (cd12 : Hid (b12 = true → x77 = .tuple #[.agg #[.slice qo qn qc, .slice ro rn rc], .bool ab])) (cd13 : Hid (b13 = true → x64 = .tuple #[.agg #[.slice qo qn qc, .slice ro rn rc], .bool ab])) (cd14 : Hid (b14 = true → x78 = .agg #[.slice qo qn qc, .slice ro rn rc])) (cd15 : Hid (b15 = true → x79 = .bool ab)) (cd16 : Hid (b16 = true → x14 = .pointer (some ⟨gu, 0, none⟩))) (cd18 : Hid (b18 = true → x15 = .bool ab)) (f_r : Hid (b12 = true → RdB w B qo qn qc ro rn rc H1 W1)) (f_z : Hid (b16 = true → b17 = false → LkB w gu none 0 0 none 0 0 96)) (f_lg : Hid (b16 = true → B ≤ gu)) (f_lt : Hid (b16 = true → gu < w.heap.size)) (f_ap : Hid (b12 = true → (b16 = true → ApR gu qo qn ro rn))) (f_o : Hid (b17 = true → LkB w gu qo qn qc ro rn rc 96)) (f_qC : Hid (b17 = true → b12 = true)) (f_qA : Hid (b17 = true → b16 = true)) (w_13_12 : Hid (b13 = true → b12 = true)) (w_14_12 : Hid (b14 = true → b12 = true)) : Rings17 B p ho hn hc wq wn wc ab H0 W0 H1 W1 gN s s1 k sh a0 w0 L a w
set_option maxRecDepth 100000 in
set_option maxHeartbeats 4000000 in
theorem lockRings_walk (n turn : Int) (sh : Bool) (w : World) (_h1 : (Lit.int .i64 n).wf = true) (_h2 : (Lit.int .i64 turn).wf = true) :
    Calls Try.prog 9 #[.int .i64 n, .int .i64 turn, .bool sh] w fun e w' => e = .returned (.bool true) ∧ Below w.heap.size w w' := by
  obtain ⟨K, hK, hK6⟩ := wth_nat n 6 (by decide)
  obtain ⟨N, hN⟩ : ∃ N : Nat, N = K + 2 := ⟨_, rfl⟩
  have hNI : (2 : Int) + (K : Int) = (N : Int) := by omega
  have hN2 : 2 ≤ N := by omega
  have hN7 : N ≤ 7 := by omega
  obtain ⟨TT, hX, hXN⟩ := wth_nat turn N (by omega)
  have HW1 := fun w => within12_any n 6 w (by decide) (by decide)
  have HW2 := fun w => within12_any turn (N : Nat) w (by omega) (by omega)
  have hK' : wth n 6 = (K : Int) := hK
  simp only [hK'] at HW1
  simp only [hX] at HW2
  clear hK hK' hX hN hK6
  go_enter Try.func9, Try.ntmps9
  go_upto_region 3 with (go_at_call 55; refine (known12 _).mono ?_; rintro e w1 ⟨rfl, b1⟩)
  go_upto_region 4 with (go_at_call 58; refine (HW1 _).mono ?_; rintro e w2 ⟨rfl, rfl⟩)
  try simp only [hNI]
  clear hNI HW1
  obtain ⟨p0, hp⟩ : ∃ p0, w.heap.size = p0 := ⟨_, rfl⟩
  have HP := Lib.hid hp
  have hp0 : p0 ≤ w.heap.size := by omega
  have N0 : (w1.alloc (.cells nms7 9)).heap[w1.heap.size]? = some (.cells nms7 9 (0, 0)) := heap_alloc_new w1 _
  have bN : Below w1.heap.size w1 (w1.alloc (.cells nms7 9)) := (Below.refl _ _).alloc (Nat.le_refl _) _
  go_upto_region 5 with fail
  change Code.wp _ _ _ _ (w1.alloc (.cells nms7 9))
  generalize w1.alloc (.cells nms7 9) = W1 at N0 bN ⊢
  obtain ⟨gN, hgN⟩ : ∃ gN, w1.heap.size = gN := ⟨_, rfl⟩
  have bW1 : Below p0 w W1 := by rw [← hp]; exact b1.trans (bN.mono b1.size)
  rw [hgN] at N0
  simp only [hgN]
  clear hgN bN b1
  have A := LkAt.new W1
  have bZ : Below W1.heap.size W1 (W1.alloc (.cells #[.slice none 0 0, .slice none 0 0] 96)) := (Below.refl _ _).alloc (Nat.le_refl _) _
  have hpp : p0 ≤ W1.heap.size := by rw [← hp]; exact bW1.size
  have hpn : p0 ≤ W1.heap.size := hpp
  have B : Below p0 w (W1.alloc (.cells #[.slice none 0 0, .slice none 0 0] 96)) := bW1.trans (bZ.mono hpn)
  have N1 : NmsB _ gN := (bZ.block gN (Array.getElem?_eq_some_iff.1 N0).1).trans N0
  go_upto_region 6 with fail
  generalize W1.alloc (.cells #[.slice none 0 0, .slice none 0 0] 96) = u0 at A B N1 ⊢
  obtain ⟨p, hpv⟩ : ∃ p, W1.heap.size = p := ⟨_, rfl⟩
  rw [hpv] at A hpp
  simp only [hpv]
  clear hp hpv bZ N0 bW1 hpn
  go_wp2_with fail
  go_loopw [9] (fun zs wr => ∃ k : Nat, k ≤ N ∧ zs = .int .i64 (k : Nat) ∧ LkAt wr p (Hr k) [] ∧ NmsB wr gN ∧ Below p0 w wr) (fun zs _ => N - (intOf zs).toNat)
  case atStart => exact ⟨0, by omega, rfl, A, N1, B⟩
  case round =>
    clear A B N1
    obtain ⟨k, hk, rfl, A, hNm, B⟩ := hrel
    by_cases hlt : k < N
    · have hlti : (k : Int) < (N : Int) := by omega
      have hk7 : k < 7 := by omega
      have hk7i : (k : Int) < 7 := by omega
      obtain ⟨ho, hn, hc, wq, wn, wc, X, RD⟩ := A.rd
      have hl := Hr_len k
      obtain ⟨H0, hH0⟩ : ∃ H, H = Hr k := ⟨_, rfl⟩
      obtain ⟨W0, hW0⟩ : ∃ W, W = ([] : List Hd) := ⟨_, rfl⟩
      obtain ⟨H1, hH1⟩ : ∃ H, H = Hr (k + 1) := ⟨_, rfl⟩
      obtain ⟨W1, hW1⟩ : ∃ W, W = ([] : List Hd) := ⟨_, rfl⟩
      obtain ⟨ab, hab⟩ : ∃ ab, ab = true := ⟨_, rfl⟩
      have HK := fun (w' : World) (hi : RdB w' 0 ho hn hc wq wn wc H0 W0) => ask_rd w' ho hn hc wq wn wc H0 W0 H1 W1 ab ⟨(k : Nat), nm k, true⟩ hi (by rw [hH0, hH1]; exact (Hr_ask hk7).1) (by rw [hH0, hW0, hW1]; exact (Hr_ask hk7).2.2) (by rw [hH0, hab]; exact (Hr_ask hk7).2.1) (by rw [hH0]; omega) (by rw [hW0]; decide)
      simp only at HK
      rw [← hH0, ← hW0] at RD
      have hH1h := Lib.hid hH1
      have hW1h := Lib.hid hW1
      have hpw0 := X.lt
      have hBp := hpp
      have hB0 : p0 ≤ wr.heap.size := Nat.le_trans hpp (Nat.le_of_lt hpw0)
      clear hH0 hW0 hH1 hW1 hab hl
      go_upto_region 9 with fail
      refine region_inv (Rings9 p0 p ho hn hc wq wn wc ab H0 W0 H1 W1 gN k) (by kernel_rfl) (by kernel_rfl) ?_ ?_ ?_
      · exact ⟨false, false, false, false, false, false, false, false, false, false, false, false, u35, u36, u37, u38, u39, u40, u41, u42, u34, u43, u44, none, 0, 0, none, 0, 0, rfl, (by simp only [Act.put, List.setIfInBounds_toArray, List.set_cons_zero, List.set_cons_succ]), Below.refl _ _, (fun h => by cases h), (fun h => by cases h), (fun h => by cases h), (fun h => by cases h), (fun h => by cases h), (fun h => by cases h), (fun h => by cases h), (fun h => by cases h), (fun h => by cases h), (fun h => by cases h), (fun h => by cases h), (fun h1 => X.past (Below.refl _ _).drew), (fun h1 => RD.past (Below.refl _ _).drew), (fun h => by cases h), (fun h => by cases h), (fun h => by cases h), (fun h => by cases h), (hNm.past (Below.refl _ _).drew), (fun h => by cases h), (fun h => by cases h)⟩
      · refine ⟨?_, ?_, ?_, ?_, ?_, ?_, ?_, ?_, ?_, ?_, ?_, ?_, trivial⟩
        · rintro L a w ⟨b0, b1, b2, b3, b4, b5, b6, b7, b8, b9, b10, b11, x35, x36, x37, x38, x39, x40, x41, x42, x34, x43, x44, qo, qn, qc, ro, rn, rc, rfl, rfl, hb, cd0, cd1, cd2, cd3, cd4, cd5, cd6, cd7, cd8, cd9, cd10, f_v, f_ih, f_r, f_o, f_qC, f_q0, f_nm, w_8_7, w_9_7⟩ hf hd
          have hf' : b0 = false := hf
          subst hf'
          clear hf hd
          have W_nm := f_nm.out
          try simp only [List.setIfInBounds_toArray, List.set_cons_zero, List.set_cons_succ]
          have e_v : b11 = false := by cases hq : b11 with | false => rfl | true => exact absurd (f_q0.out hq) (by simp)
          have W_v := f_v.out e_v
          obtain ⟨z0, z1⟩ := W_v.c
          intro K hK
          rw [if_pos (by rfl)]
          go_simp
          exact hK.out _ _ ⟨true, b1, b2, b3, b4, b5, b6, b7, b8, b9, b10, b11, (.agg #[.slice ho hn hc, .slice wq wn wc]), x36, x37, x38, x39, x40, x41, x42, x34, x43, x44, qo, qn, qc, ro, rn, rc, (by simp only [Act.put, List.setIfInBounds_toArray, List.set_cons_zero, List.set_cons_succ]), (by simp only [Act.put, List.setIfInBounds_toArray, List.set_cons_zero, List.set_cons_succ]), hb, (fun _ => rfl), cd1, cd2, cd3, cd4, cd5, cd6, cd7, cd8, cd9, cd10, f_v, f_ih, f_r, f_o, f_qC, (fun _ => rfl), f_nm, w_8_7, w_9_7⟩
        · rintro L a w ⟨b0, b1, b2, b3, b4, b5, b6, b7, b8, b9, b10, b11, x35, x36, x37, x38, x39, x40, x41, x42, x34, x43, x44, qo, qn, qc, ro, rn, rc, rfl, rfl, hb, cd0, cd1, cd2, cd3, cd4, cd5, cd6, cd7, cd8, cd9, cd10, f_v, f_ih, f_r, f_o, f_qC, f_q0, f_nm, w_8_7, w_9_7⟩ hf hd
          have hf' : b1 = false := hf
          subst hf'
          clear hf hd
          have W_nm := f_nm.out
          try simp only [List.setIfInBounds_toArray, List.set_cons_zero, List.set_cons_succ]
          intro K hK
          rw [if_pos (by rfl)]
          go_simp
          exact hK.out _ _ ⟨b0, true, b2, b3, b4, b5, b6, b7, b8, b9, b10, b11, x35, (.int .i64 (k : Nat)), x37, x38, x39, x40, x41, x42, x34, x43, x44, qo, qn, qc, ro, rn, rc, (by simp only [Act.put, List.setIfInBounds_toArray, List.set_cons_zero, List.set_cons_succ]), (by simp only [Act.put, List.setIfInBounds_toArray, List.set_cons_zero, List.set_cons_succ]), hb, cd0, (fun _ => rfl), cd2, cd3, cd4, cd5, cd6, cd7, cd8, cd9, cd10, f_v, f_ih, f_r, f_o, f_qC, f_q0, f_nm, w_8_7, w_9_7⟩
        · rintro L a w ⟨b0, b1, b2, b3, b4, b5, b6, b7, b8, b9, b10, b11, x35, x36, x37, x38, x39, x40, x41, x42, x34, x43, x44, qo, qn, qc, ro, rn, rc, rfl, rfl, hb, cd0, cd1, cd2, cd3, cd4, cd5, cd6, cd7, cd8, cd9, cd10, f_v, f_ih, f_r, f_o, f_qC, f_q0, f_nm, w_8_7, w_9_7⟩ hf hd
          have hf' : b2 = false := hf
          subst hf'
          clear hf hd
          have W_nm := f_nm.out
          try simp only [List.setIfInBounds_toArray, List.set_cons_zero, List.set_cons_succ]
          intro K hK
          rw [if_pos (by rfl)]
          go_simp
          exact hK.out _ _ ⟨b0, b1, true, b3, b4, b5, b6, b7, b8, b9, b10, b11, x35, x36, (.slice (some ⟨gN, 0, none⟩) 7 7), x38, x39, x40, x41, x42, x34, x43, x44, qo, qn, qc, ro, rn, rc, (by simp only [Act.put, List.setIfInBounds_toArray, List.set_cons_zero, List.set_cons_succ]), (by simp only [Act.put, List.setIfInBounds_toArray, List.set_cons_zero, List.set_cons_succ]), hb, cd0, cd1, (fun _ => rfl), cd3, cd4, cd5, cd6, cd7, cd8, cd9, cd10, f_v, f_ih, f_r, f_o, f_qC, f_q0, f_nm, w_8_7, w_9_7⟩
        · rintro L a w ⟨b0, b1, b2, b3, b4, b5, b6, b7, b8, b9, b10, b11, x35, x36, x37, x38, x39, x40, x41, x42, x34, x43, x44, qo, qn, qc, ro, rn, rc, rfl, rfl, hb, cd0, cd1, cd2, cd3, cd4, cd5, cd6, cd7, cd8, cd9, cd10, f_v, f_ih, f_r, f_o, f_qC, f_q0, f_nm, w_8_7, w_9_7⟩ hf hd
          have hf' : b3 = false := hf
          subst hf'
          clear hf hd
          have W_nm := f_nm.out
          try simp only [List.setIfInBounds_toArray, List.set_cons_zero, List.set_cons_succ]
          intro K hK
          rw [if_pos (by rfl)]
          go_simp
          exact hK.out _ _ ⟨b0, b1, b2, true, b4, b5, b6, b7, b8, b9, b10, b11, x35, x36, x37, (.int .i64 (k : Nat)), x39, x40, x41, x42, x34, x43, x44, qo, qn, qc, ro, rn, rc, (by simp only [Act.put, List.setIfInBounds_toArray, List.set_cons_zero, List.set_cons_succ]), (by simp only [Act.put, List.setIfInBounds_toArray, List.set_cons_zero, List.set_cons_succ]), hb, cd0, cd1, cd2, (fun _ => rfl), cd4, cd5, cd6, cd7, cd8, cd9, cd10, f_v, f_ih, f_r, f_o, f_qC, f_q0, f_nm, w_8_7, w_9_7⟩
        · rintro L a w ⟨b0, b1, b2, b3, b4, b5, b6, b7, b8, b9, b10, b11, x35, x36, x37, x38, x39, x40, x41, x42, x34, x43, x44, qo, qn, qc, ro, rn, rc, rfl, rfl, hb, cd0, cd1, cd2, cd3, cd4, cd5, cd6, cd7, cd8, cd9, cd10, f_v, f_ih, f_r, f_o, f_qC, f_q0, f_nm, w_8_7, w_9_7⟩ hf hd
          have hf' : b4 = false := hf
          subst hf'
          have d2 : b2 = true := hd ⟨2, .data⟩ (by simp) rfl
          subst d2
          have d3 : b3 = true := hd ⟨3, .data⟩ (by simp) rfl
          subst d3
          obtain rfl := cd2.out rfl
          obtain rfl := cd3.out rfl
          clear hf hd
          have W_nm := f_nm.out
          try simp only [List.setIfInBounds_toArray, List.set_cons_zero, List.set_cons_succ]
          intro K hK
          rw [if_pos (by rfl)]
          go_simp
          exact hK.out _ _ ⟨b0, b1, true, true, true, b5, b6, b7, b8, b9, b10, b11, x35, x36, .slice (some ⟨gN, 0, none⟩) 7 7, .int .i64 (k : Nat), (.pointer (some ⟨gN, k, none⟩)), x40, x41, x42, x34, x43, x44, qo, qn, qc, ro, rn, rc, (by simp only [Act.put, List.setIfInBounds_toArray, List.set_cons_zero, List.set_cons_succ]), (by simp only [Act.put, List.setIfInBounds_toArray, List.set_cons_zero, List.set_cons_succ]), hb, cd0, cd1, (fun _ => rfl), (fun _ => rfl), (fun _ => rfl), cd5, cd6, cd7, cd8, cd9, cd10, f_v, f_ih, f_r, f_o, f_qC, f_q0, f_nm, w_8_7, w_9_7⟩
        · rintro L a w ⟨b0, b1, b2, b3, b4, b5, b6, b7, b8, b9, b10, b11, x35, x36, x37, x38, x39, x40, x41, x42, x34, x43, x44, qo, qn, qc, ro, rn, rc, rfl, rfl, hb, cd0, cd1, cd2, cd3, cd4, cd5, cd6, cd7, cd8, cd9, cd10, f_v, f_ih, f_r, f_o, f_qC, f_q0, f_nm, w_8_7, w_9_7⟩ hf hd
          have hf' : b5 = false := hf
          subst hf'
          have d4 : b4 = true := hd ⟨4, .data⟩ (by simp) rfl
          subst d4
          obtain rfl := cd4.out rfl
          clear hf hd
          have W_nm := f_nm.out
          try simp only [List.setIfInBounds_toArray, List.set_cons_zero, List.set_cons_succ]
          have z0 := cell_blk W_nm (nms7_get k hk7)
          intro K hK
          rw [if_pos (by rfl)]
          go_simp
          exact hK.out _ _ ⟨b0, b1, b2, b3, true, true, b6, b7, b8, b9, b10, b11, x35, x36, x37, x38, .pointer (some ⟨gN, k, none⟩), (.string (bsOf (nm k))), x41, x42, x34, x43, x44, qo, qn, qc, ro, rn, rc, (by simp only [Act.put, List.setIfInBounds_toArray, List.set_cons_zero, List.set_cons_succ]), (by simp only [Act.put, List.setIfInBounds_toArray, List.set_cons_zero, List.set_cons_succ]), hb, cd0, cd1, cd2, cd3, (fun _ => rfl), (fun _ => rfl), cd6, cd7, cd8, cd9, cd10, f_v, f_ih, f_r, f_o, f_qC, f_q0, f_nm, w_8_7, w_9_7⟩
        · rintro L a w ⟨b0, b1, b2, b3, b4, b5, b6, b7, b8, b9, b10, b11, x35, x36, x37, x38, x39, x40, x41, x42, x34, x43, x44, qo, qn, qc, ro, rn, rc, rfl, rfl, hb, cd0, cd1, cd2, cd3, cd4, cd5, cd6, cd7, cd8, cd9, cd10, f_v, f_ih, f_r, f_o, f_qC, f_q0, f_nm, w_8_7, w_9_7⟩ hf hd
          have hf' : b6 = false := hf
          subst hf'
          have d1 : b1 = true := hd ⟨1, .data⟩ (by simp) rfl
          subst d1
          have d5 : b5 = true := hd ⟨5, .data⟩ (by simp) rfl
          subst d5
          obtain rfl := cd1.out rfl
          obtain rfl := cd5.out rfl
          clear hf hd
          have W_nm := f_nm.out
          try simp only [List.setIfInBounds_toArray, List.set_cons_zero, List.set_cons_succ]
          intro K hK
          rw [if_pos (by rfl)]
          go_simp
          exact hK.out _ _ ⟨b0, true, b2, b3, b4, true, true, b7, b8, b9, b10, b11, x35, .int .i64 (k : Nat), x37, x38, x39, .string (bsOf (nm k)), (.agg #[.int .i64 (k : Nat), .string (bsOf (nm k)), .bool true]), x42, x34, x43, x44, qo, qn, qc, ro, rn, rc, (by simp only [Act.put, List.setIfInBounds_toArray, List.set_cons_zero, List.set_cons_succ]), (by simp only [Act.put, List.setIfInBounds_toArray, List.set_cons_zero, List.set_cons_succ]), hb, cd0, (fun _ => rfl), cd2, cd3, cd4, (fun _ => rfl), (fun _ => rfl), cd7, cd8, cd9, cd10, f_v, f_ih, f_r, f_o, f_qC, f_q0, f_nm, w_8_7, w_9_7⟩
        · rintro L a w ⟨b0, b1, b2, b3, b4, b5, b6, b7, b8, b9, b10, b11, x35, x36, x37, x38, x39, x40, x41, x42, x34, x43, x44, qo, qn, qc, ro, rn, rc, rfl, rfl, hb, cd0, cd1, cd2, cd3, cd4, cd5, cd6, cd7, cd8, cd9, cd10, f_v, f_ih, f_r, f_o, f_qC, f_q0, f_nm, w_8_7, w_9_7⟩ hf hd
          have hf' : b7 = false := hf
          subst hf'
          have d0 : b0 = true := hd ⟨0, .data⟩ (by simp) rfl
          subst d0
          have d6 : b6 = true := hd ⟨6, .data⟩ (by simp) rfl
          subst d6
          obtain rfl := cd0.out rfl
          obtain rfl := cd6.out rfl
          clear hf hd
          have W_nm := f_nm.out
          try simp only [List.setIfInBounds_toArray, List.set_cons_zero, List.set_cons_succ]
          have e_ih : b11 = false := by cases hq : b11 with | false => rfl | true => exact absurd (f_qC.out hq) (by simp)
          have W_ih := f_ih.out e_ih
          intro K hK
          rw [if_pos (by rfl)]
          go_simp
          go_at_call 61
          refine (HK _ W_ih).mono ?_
          rintro e w' ⟨_, rfl, ⟨qo3, qn3, qc3, ro3, rn3, rc3, rfl, j1, j2, g1, g2⟩, bx⟩
          unfold lkV
          have r9 : RdB w' w.heap.size qo3 qn3 qc3 ro3 rn3 rc3 H1 W1 := ⟨j1, j2, g1, g2⟩
          have e_8 : b8 = false := by cases hq : b8 with | false => rfl | true => exact absurd (w_8_7.out hq) (by simp)
          subst e_8
          have e_9 : b9 = false := by cases hq : b9 with | false => rfl | true => exact absurd (w_9_7.out hq) (by simp)
          subst e_9
          exact hK.out _ _ ⟨true, b1, b2, b3, b4, b5, true, true, false, false, b10, b11, .agg #[.slice ho hn hc, .slice wq wn wc], x36, x37, x38, x39, x40, .agg #[.int .i64 (k : Nat), .string (bsOf (nm k)), .bool true], (.tuple #[.agg #[.slice qo3 qn3 qc3, .slice ro3 rn3 rc3], .bool ab]), x34, x43, x44, qo3, qn3, qc3, ro3, rn3, rc3, (by simp only [Act.put, List.setIfInBounds_toArray, List.set_cons_zero, List.set_cons_succ]), (by simp only [Act.put, List.setIfInBounds_toArray, List.set_cons_zero, List.set_cons_succ]), hb.trans (bx.mono (Nat.le_trans hB0 hb.size)), (fun _ => rfl), cd1, cd2, cd3, cd4, cd5, (fun _ => rfl), (fun _ => rfl), (fun h => by cases h), (fun h => by cases h), cd10, (fun h1 => (f_v.out h1).past bx), (fun h1 => (f_ih.out h1).past bx), (fun _ => r9.mono (Nat.lt_of_lt_of_le hpw0 hb.size)), (fun h0 => absurd (f_qC.out h0) (by simp)), (fun _ => rfl), f_q0, (f_nm.out.past bx), (fun _ => rfl), (fun _ => rfl)⟩
        · rintro L a w ⟨b0, b1, b2, b3, b4, b5, b6, b7, b8, b9, b10, b11, x35, x36, x37, x38, x39, x40, x41, x42, x34, x43, x44, qo, qn, qc, ro, rn, rc, rfl, rfl, hb, cd0, cd1, cd2, cd3, cd4, cd5, cd6, cd7, cd8, cd9, cd10, f_v, f_ih, f_r, f_o, f_qC, f_q0, f_nm, w_8_7, w_9_7⟩ hf hd
          have hf' : b8 = false := hf
          subst hf'
          have d7 : b7 = true := hd ⟨7, .data⟩ (by simp) rfl
          subst d7
          obtain rfl := cd7.out rfl
          clear hf hd
          have W_r := f_r.out rfl
          have W_nm := f_nm.out
          try simp only [List.setIfInBounds_toArray, List.set_cons_zero, List.set_cons_succ]
          intro K hK
          rw [if_pos (by rfl)]
          go_simp
          exact hK.out _ _ ⟨b0, b1, b2, b3, b4, b5, b6, true, true, b9, b10, b11, x35, x36, x37, x38, x39, x40, x41, .tuple #[.agg #[.slice qo qn qc, .slice ro rn rc], .bool ab], (.tuple #[.agg #[.slice qo qn qc, .slice ro rn rc], .bool ab]), x43, x44, qo, qn, qc, ro, rn, rc, (by simp only [Act.put, List.setIfInBounds_toArray, List.set_cons_zero, List.set_cons_succ]), (by simp only [Act.put, List.setIfInBounds_toArray, List.set_cons_zero, List.set_cons_succ]), hb, cd0, cd1, cd2, cd3, cd4, cd5, cd6, (fun _ => rfl), (fun _ => rfl), cd9, cd10, f_v, f_ih, f_r, f_o, f_qC, f_q0, f_nm, (fun _ => rfl), (fun _ => rfl)⟩
        · rintro L a w ⟨b0, b1, b2, b3, b4, b5, b6, b7, b8, b9, b10, b11, x35, x36, x37, x38, x39, x40, x41, x42, x34, x43, x44, qo, qn, qc, ro, rn, rc, rfl, rfl, hb, cd0, cd1, cd2, cd3, cd4, cd5, cd6, cd7, cd8, cd9, cd10, f_v, f_ih, f_r, f_o, f_qC, f_q0, f_nm, w_8_7, w_9_7⟩ hf hd
          have hf' : b9 = false := hf
          subst hf'
          have d8 : b8 = true := hd ⟨8, .data⟩ (by simp) rfl
          subst d8
          obtain rfl := cd8.out rfl
          clear hf hd
          have W_nm := f_nm.out
          try simp only [List.setIfInBounds_toArray, List.set_cons_zero, List.set_cons_succ]
          intro K hK
          rw [if_pos (by rfl)]
          go_simp
          exact hK.out _ _ ⟨b0, b1, b2, b3, b4, b5, b6, b7, true, true, b10, b11, x35, x36, x37, x38, x39, x40, x41, x42, .tuple #[.agg #[.slice qo qn qc, .slice ro rn rc], .bool ab], (.agg #[.slice qo qn qc, .slice ro rn rc]), x44, qo, qn, qc, ro, rn, rc, (by simp only [Act.put, List.setIfInBounds_toArray, List.set_cons_zero, List.set_cons_succ]), (by simp only [Act.put, List.setIfInBounds_toArray, List.set_cons_zero, List.set_cons_succ]), hb, cd0, cd1, cd2, cd3, cd4, cd5, cd6, cd7, (fun _ => rfl), (fun _ => rfl), cd10, f_v, f_ih, f_r, f_o, f_qC, f_q0, f_nm, w_8_7, (fun _ => w_8_7.out rfl)⟩
        · rintro L a w ⟨b0, b1, b2, b3, b4, b5, b6, b7, b8, b9, b10, b11, x35, x36, x37, x38, x39, x40, x41, x42, x34, x43, x44, qo, qn, qc, ro, rn, rc, rfl, rfl, hb, cd0, cd1, cd2, cd3, cd4, cd5, cd6, cd7, cd8, cd9, cd10, f_v, f_ih, f_r, f_o, f_qC, f_q0, f_nm, w_8_7, w_9_7⟩ hf hd
          have hf' : b10 = false := hf
          subst hf'
          have d8 : b8 = true := hd ⟨8, .data⟩ (by simp) rfl
          subst d8
          obtain rfl := cd8.out rfl
          clear hf hd
          have W_nm := f_nm.out
          try simp only [List.setIfInBounds_toArray, List.set_cons_zero, List.set_cons_succ]
          intro K hK
          rw [if_pos (by rfl)]
          go_simp
          exact hK.out _ _ ⟨b0, b1, b2, b3, b4, b5, b6, b7, true, b9, true, b11, x35, x36, x37, x38, x39, x40, x41, x42, .tuple #[.agg #[.slice qo qn qc, .slice ro rn rc], .bool ab], x43, (.bool ab), qo, qn, qc, ro, rn, rc, (by simp only [Act.put, List.setIfInBounds_toArray, List.set_cons_zero, List.set_cons_succ]), (by simp only [Act.put, List.setIfInBounds_toArray, List.set_cons_zero, List.set_cons_succ]), hb, cd0, cd1, cd2, cd3, cd4, cd5, cd6, cd7, (fun _ => rfl), cd9, (fun _ => rfl), f_v, f_ih, f_r, f_o, f_qC, f_q0, f_nm, w_8_7, w_9_7⟩
        · rintro L a w ⟨b0, b1, b2, b3, b4, b5, b6, b7, b8, b9, b10, b11, x35, x36, x37, x38, x39, x40, x41, x42, x34, x43, x44, qo, qn, qc, ro, rn, rc, rfl, rfl, hb, cd0, cd1, cd2, cd3, cd4, cd5, cd6, cd7, cd8, cd9, cd10, f_v, f_ih, f_r, f_o, f_qC, f_q0, f_nm, w_8_7, w_9_7⟩ hf hd
          have hf' : b11 = false := hf
          subst hf'
          have d9 : b9 = true := hd ⟨9, .data⟩ (by simp) rfl
          subst d9
          have d7 : b7 = true := hd ⟨7, .chain⟩ (by simp) rfl
          subst d7
          have d0 : b0 = true := hd ⟨0, .phase⟩ (by simp) rfl
          subst d0
          have d1 : b1 = true := hd ⟨1, .phase⟩ (by simp) rfl
          subst d1
          have d2 : b2 = true := hd ⟨2, .phase⟩ (by simp) rfl
          subst d2
          have d3 : b3 = true := hd ⟨3, .phase⟩ (by simp) rfl
          subst d3
          have d4 : b4 = true := hd ⟨4, .phase⟩ (by simp) rfl
          subst d4
          have d5 : b5 = true := hd ⟨5, .phase⟩ (by simp) rfl
          subst d5
          have d6 : b6 = true := hd ⟨6, .phase⟩ (by simp) rfl
          subst d6
          have d8 : b8 = true := hd ⟨8, .phase⟩ (by simp) rfl
          subst d8
          obtain rfl := cd9.out rfl
          obtain rfl := cd7.out rfl
          obtain rfl := cd0.out rfl
          obtain rfl := cd1.out rfl
          obtain rfl := cd2.out rfl
          obtain rfl := cd3.out rfl
          obtain rfl := cd4.out rfl
          obtain rfl := cd5.out rfl
          obtain rfl := cd6.out rfl
          obtain rfl := cd8.out rfl
          clear hf hd
          have W_v := f_v.out rfl
          have W_ih := f_ih.out rfl
          have W_r := f_r.out rfl
          have W_nm := f_nm.out
          try simp only [List.setIfInBounds_toArray, List.set_cons_zero, List.set_cons_succ]
          intro K hK
          rw [if_pos (by rfl)]
          refine wp_store_lk _ _ rfl p ho hn hc wq wn wc rfl qo qn qc ro rn rc rfl (Lib.hid W_v) fun w2 h8 g8 => ?_
          have hb2 := hb.grown g8 (Nat.le_trans hB0 hb.size) (fun z hz => by cases hz; exact hBp)
          exact hK.out _ _ ⟨true, true, true, true, true, true, true, true, true, true, b10, true, .agg #[.slice ho hn hc, .slice wq wn wc], .int .i64 (k : Nat), .slice (some ⟨gN, 0, none⟩) 7 7, .int .i64 (k : Nat), .pointer (some ⟨gN, k, none⟩), .string (bsOf (nm k)), .agg #[.int .i64 (k : Nat), .string (bsOf (nm k)), .bool true], .tuple #[.agg #[.slice qo qn qc, .slice ro rn rc], .bool ab], .tuple #[.agg #[.slice qo qn qc, .slice ro rn rc], .bool ab], .agg #[.slice qo qn qc, .slice ro rn rc], x44, qo, qn, qc, ro, rn, rc, (by simp only [Act.put, List.setIfInBounds_toArray, List.set_cons_zero, List.set_cons_succ]), (by simp only [Act.put, List.setIfInBounds_toArray, List.set_cons_zero, List.set_cons_succ]), hb2, (fun _ => rfl), (fun _ => rfl), (fun _ => rfl), (fun _ => rfl), (fun _ => rfl), (fun _ => rfl), (fun _ => rfl), (fun _ => rfl), (fun _ => rfl), (fun _ => rfl), cd10, (fun h => by cases h), (fun h => by cases h), (fun h0 => ((f_r.out h0)).far g8 (((f_r.out h0)).ap (Nat.lt_succ_self p))), (fun _ => h8), (fun _ => rfl), (fun _ => rfl), ((g8.block gN (Array.getElem?_eq_some_iff.1 (f_nm.out)).1 (neLk W_v (f_nm.out))).trans (f_nm.out)), (fun _ => rfl), (fun _ => rfl)⟩
      · rintro act V ⟨b0, b1, b2, b3, b4, b5, b6, b7, b8, b9, b10, b11, x35, x36, x37, x38, x39, x40, x41, x42, x34, x43, x44, qo, qn, qc, ro, rn, rc, hL, rfl, hb, cd0, cd1, cd2, cd3, cd4, cd5, cd6, cd7, cd8, cd9, cd10, f_v, f_ih, f_r, f_o, f_qC, f_q0, f_nm, w_8_7, w_9_7⟩
        have hL' : [true, true, true, true, true, true, true, true, true, true, true, true] = [b0, b1, b2, b3, b4, b5, b6, b7, b8, b9, b10, b11] := congrArg Array.toList hL
        simp only [List.cons.injEq, and_true] at hL'
        obtain ⟨rfl, rfl, rfl, rfl, rfl, rfl, rfl, rfl, rfl, rfl, rfl, rfl⟩ := hL'
        obtain rfl := cd0.out rfl
        obtain rfl := cd1.out rfl
        obtain rfl := cd2.out rfl
        obtain rfl := cd3.out rfl
        obtain rfl := cd4.out rfl
        obtain rfl := cd5.out rfl
        obtain rfl := cd6.out rfl
        obtain rfl := cd7.out rfl
        obtain rfl := cd8.out rfl
        obtain rfl := cd9.out rfl
        obtain rfl := cd10.out rfl
        have W_r := f_r.out rfl
        have W_o := f_o.out rfl
        have W_qC := f_qC.out rfl
        have W_q0 := f_q0.out rfl
        have W_nm := f_nm.out
        clear hL f_v f_ih f_r f_o f_qC f_q0 f_nm cd0 cd1 cd2 cd3 cd4 cd5 cd6 cd7 cd8 cd9 cd10 w_8_7 w_9_7
        simp only [List.setIfInBounds_toArray, List.set_cons_zero, List.set_cons_succ]
        have A2 := W_r.at W_o (W_r.ap (Nat.lt_succ_self p))
        rw [hH1h.out, hW1h.out] at A2
        have B2 := B.trans ((Below.refl _ _).drew.trans hb)
        have N2 := W_nm
        clear hb W_r W_o W_nm W_qC W_q0
        go_wp2_with fail
        go_roundw
        case rel => exact ⟨k + 1, by omega, by go_num, A2, N2, B2⟩
        case measure => simp [intOf]; omega
    · have hlti : ¬ ((k : Int) < (N : Int)) := by omega
      obtain rfl : k = N := by omega
      have A0 : LkAt wr p (Hr k) (Wr k TT (!sh) 0) := A
      go_wp2_with fail
      go_loopw [10] (fun zs wr => ∃ j : Nat, j ≤ k ∧ zs = .int .i64 (j : Nat) ∧ LkAt wr p (Hr k) (Wr k TT (!sh) j) ∧ NmsB wr gN ∧ Below p0 w wr) (fun zs _ => k - (intOf zs).toNat)
      case atStart => exact ⟨0, by omega, rfl, A0, hNm, B⟩
      case round =>
        clear A B hNm A0
        obtain ⟨j, hj, rfl, A, hNm, B⟩ := hrel
        by_cases hlt : j < k
        · have hlti : (j : Int) < (k : Int) := by omega
          obtain ⟨s, hsd⟩ : ∃ s, (j + TT) % k = s := ⟨_, rfl⟩
          have hsk : s < k := by rw [← hsd]; exact Nat.mod_lt _ (by omega)
          have hsr : ((j : Int) + (TT : Int)).tmod (k : Int) = (s : Int) := by rw [← hsd, ← tmod_nat (j + TT) k]; rfl
          have hk0 : ¬ ((k : Int) = 0) := by omega
          have hk0n : ¬ (k = 0) := by omega
          have HSd := Lib.hid hsd
          clear hsd
          go_upto_region 14 with (go_at_call 58; refine (HW2 _).mono ?_; rintro e w2 ⟨rfl, rfl⟩)
          try simp only [hsr]
          clear hsr
          obtain ⟨ho, hn, hc, wq, wn, wc, X1, RD⟩ := A.rd
          have hl := Hr_len k
          have hl2 := Wr_len k TT (!sh) j
          have HV := victim_any wr (lkV ho hn hc wq wn wc) (Hr k) (Wr k TT (!sh) j) ⟨_, _, _, _, _, _, rfl, RD.h, RD.w⟩ (by omega) (by omega) (Hr_wf k hN7) (Wr_wf k TT (!sh) j (by omega) hN7) (s : Nat) (wf_sm (by omega))
          unfold lkV at HV
          have HVn : Vic (Hr k) (Wr k TT (!sh) j) (s : Nat) 0 false := by rw [← HSd.out]; exact Wr_before (Hr k) (by omega) hlt
          obtain ⟨c0, c1⟩ := X1.c
          go_upto_region 17 with (go_at_call 64; refine HV.mono ?_; rintro e w3 ⟨x, ok, rfl, hv, b3⟩; obtain ⟨rfl, rfl⟩ := hv.unique HVn)
          have X := X1.past b3
          have RD := RD.past b3
          have hNm := hNm.past b3
          have B := B.trans (b3.mono (Nat.le_trans hp0 B.size))
          clear HV HVn c0 c1 b3 hv X1 A
          generalize w3 = W at X RD hNm B ⊢
          obtain ⟨s1, hs1⟩ : ∃ s1, (s + 1) % k = s1 := ⟨_, rfl⟩
          have hs1k : s1 < k := by rw [← hs1]; exact Nat.mod_lt _ (by omega)
          have hs17 : s1 < 7 := by omega
          have hs17i : (s1 : Int) < 7 := by omega
          have hs1w : wrap64 ((s : Int) + 1) = (s : Int) + 1 := IntWalk.wrap64_in _ (by omega)
          have hs1r : ((s : Int) + 1).tmod (k : Int) = (s1 : Int) := by rw [← hs1, ← tmod_nat (s + 1) k]; rfl
          obtain ⟨H0, hH0⟩ : ∃ H, H = Hr k := ⟨_, rfl⟩
          obtain ⟨W0, hW0⟩ : ∃ W, W = Wr k TT (!sh) j := ⟨_, rfl⟩
          obtain ⟨H1, hH1⟩ : ∃ H, H = Hr k := ⟨_, rfl⟩
          obtain ⟨W1, hW1⟩ : ∃ W, W = Wr k TT (!sh) (j + 1) := ⟨_, rfl⟩
          obtain ⟨ab, hab⟩ : ∃ ab, ab = false := ⟨_, rfl⟩
          have hwa := Wr_ask (T := TT) (x := !sh) hN2 hN7 hlt
          rw [HSd.out, hs1] at hwa
          have HK := fun (w' : World) (hb : Below W.heap.size W.drew w') => ask_rd w' ho hn hc wq wn wc H0 W0 H1 W1 ab ⟨(s : Nat), nm s1, !sh⟩ (by rw [hH0, hW0]; exact (RD.past (Below.refl _ _).drew).past hb) (by rw [hH0, hH1]; exact hwa.1) (by rw [hH0, hW0, hW1]; exact hwa.2.2) (by rw [hH0, hab]; exact hwa.2.1) (by rw [hH0]; omega) (by rw [hW0]; omega)
          simp only at HK
          have hH1h := Lib.hid hH1
          have hW1h := Lib.hid hW1
          have habh := Lib.hid hab
          have hpB := X.lt
          have hNB := hNm.lt
          have hB0 : W.heap.size ≤ W.heap.size := Nat.le_refl _
          obtain ⟨c0, c1⟩ := X.c
          clear hH0 hW0 hH1 hW1 hab hl hl2 hwa hs1 RD HSd
          refine region_inv (Rings17 W.heap.size p ho hn hc wq wn wc ab H0 W0 H1 W1 gN s s1 k sh) (by kernel_rfl) (by kernel_rfl) ?_ ?_ ?_
          · exact ⟨false, false, false, false, false, false, false, false, false, false, false, false, false, false, false, false, false, false, false, u65, u66, u67, u68, u69, u70, u71, u72, u73, u74, u75, u76, u77, u64, u78, u79, u14, u15, none, 0, 0, none, 0, 0, 0, rfl, (by simp only [Act.put, List.setIfInBounds_toArray, List.set_cons_zero, List.set_cons_succ]), Below.refl _ _, (fun h => by cases h), (fun h => by cases h), (fun h => by cases h), (fun h => by cases h), (fun h => by cases h), (fun h => by cases h), (fun h => by cases h), (fun h => by cases h), (fun h => by cases h), (fun h => by cases h), (fun h => by cases h), (fun h => by cases h), (fun h => by cases h), (fun h => by cases h), (fun h => by cases h), (fun h => by cases h), (fun h => by cases h), (fun h => by cases h), (fun h => by cases h), (fun h => by cases h), (fun h => by cases h), (fun h => by cases h), (fun h => by cases h), (fun h => by cases h), (fun h => by cases h), (fun h => by cases h), (fun h => by cases h), (fun h => by cases h)⟩
          · refine ⟨?_, ?_, ?_, ?_, ?_, ?_, ?_, ?_, ?_, ?_, ?_, ?_, ?_, ?_, ?_, ?_, ?_, ?_, ?_, trivial⟩
            · rintro L a w ⟨b0, b1, b2, b3, b4, b5, b6, b7, b8, b9, b10, b11, b12, b13, b14, b15, b16, b17, b18, x65, x66, x67, x68, x69, x70, x71, x72, x73, x74, x75, x76, x77, x64, x78, x79, x14, x15, qo, qn, qc, ro, rn, rc, gu, rfl, rfl, hb, cd0, cd1, cd2, cd3, cd4, cd5, cd6, cd7, cd8, cd9, cd10, cd11, cd12, cd13, cd14, cd15, cd16, cd18, f_r, f_z, f_lg, f_lt, f_ap, f_o, f_qC, f_qA, w_13_12, w_14_12⟩ hf hd
              have hf' : b0 = false := hf
              subst hf'
              clear hf hd
              try simp only [List.setIfInBounds_toArray, List.set_cons_zero, List.set_cons_succ]
              have z0 := (hb.cell hpB).trans c0
              have z1 := (hb.cell hpB).trans c1
              intro K hK
              rw [if_pos (by rfl)]
              go_simp
              exact hK.out _ _ ⟨true, b1, b2, b3, b4, b5, b6, b7, b8, b9, b10, b11, b12, b13, b14, b15, b16, b17, b18, (.agg #[.slice ho hn hc, .slice wq wn wc]), x66, x67, x68, x69, x70, x71, x72, x73, x74, x75, x76, x77, x64, x78, x79, x14, x15, qo, qn, qc, ro, rn, rc, gu, (by simp only [Act.put, List.setIfInBounds_toArray, List.set_cons_zero, List.set_cons_succ]), (by simp only [Act.put, List.setIfInBounds_toArray, List.set_cons_zero, List.set_cons_succ]), hb, (fun _ => rfl), cd1, cd2, cd3, cd4, cd5, cd6, cd7, cd8, cd9, cd10, cd11, cd12, cd13, cd14, cd15, cd16, cd18, f_r, f_z, f_lg, f_lt, f_ap, f_o, f_qC, f_qA, w_13_12, w_14_12⟩
            · rintro L a w ⟨b0, b1, b2, b3, b4, b5, b6, b7, b8, b9, b10, b11, b12, b13, b14, b15, b16, b17, b18, x65, x66, x67, x68, x69, x70, x71, x72, x73, x74, x75, x76, x77, x64, x78, x79, x14, x15, qo, qn, qc, ro, rn, rc, gu, rfl, rfl, hb, cd0, cd1, cd2, cd3, cd4, cd5, cd6, cd7, cd8, cd9, cd10, cd11, cd12, cd13, cd14, cd15, cd16, cd18, f_r, f_z, f_lg, f_lt, f_ap, f_o, f_qC, f_qA, w_13_12, w_14_12⟩ hf hd
              have hf' : b1 = false := hf
              subst hf'
              clear hf hd
              try simp only [List.setIfInBounds_toArray, List.set_cons_zero, List.set_cons_succ]
              intro K hK
              rw [if_pos (by rfl)]
              go_simp
              exact hK.out _ _ ⟨b0, true, b2, b3, b4, b5, b6, b7, b8, b9, b10, b11, b12, b13, b14, b15, b16, b17, b18, x65, (.int .i64 (s : Nat)), x67, x68, x69, x70, x71, x72, x73, x74, x75, x76, x77, x64, x78, x79, x14, x15, qo, qn, qc, ro, rn, rc, gu, (by simp only [Act.put, List.setIfInBounds_toArray, List.set_cons_zero, List.set_cons_succ]), (by simp only [Act.put, List.setIfInBounds_toArray, List.set_cons_zero, List.set_cons_succ]), hb, cd0, (fun _ => rfl), cd2, cd3, cd4, cd5, cd6, cd7, cd8, cd9, cd10, cd11, cd12, cd13, cd14, cd15, cd16, cd18, f_r, f_z, f_lg, f_lt, f_ap, f_o, f_qC, f_qA, w_13_12, w_14_12⟩
            · rintro L a w ⟨b0, b1, b2, b3, b4, b5, b6, b7, b8, b9, b10, b11, b12, b13, b14, b15, b16, b17, b18, x65, x66, x67, x68, x69, x70, x71, x72, x73, x74, x75, x76, x77, x64, x78, x79, x14, x15, qo, qn, qc, ro, rn, rc, gu, rfl, rfl, hb, cd0, cd1, cd2, cd3, cd4, cd5, cd6, cd7, cd8, cd9, cd10, cd11, cd12, cd13, cd14, cd15, cd16, cd18, f_r, f_z, f_lg, f_lt, f_ap, f_o, f_qC, f_qA, w_13_12, w_14_12⟩ hf hd
              have hf' : b2 = false := hf
              subst hf'
              clear hf hd
              try simp only [List.setIfInBounds_toArray, List.set_cons_zero, List.set_cons_succ]
              intro K hK
              rw [if_pos (by rfl)]
              go_simp
              exact hK.out _ _ ⟨b0, b1, true, b3, b4, b5, b6, b7, b8, b9, b10, b11, b12, b13, b14, b15, b16, b17, b18, x65, x66, (.slice (some ⟨gN, 0, none⟩) 7 7), x68, x69, x70, x71, x72, x73, x74, x75, x76, x77, x64, x78, x79, x14, x15, qo, qn, qc, ro, rn, rc, gu, (by simp only [Act.put, List.setIfInBounds_toArray, List.set_cons_zero, List.set_cons_succ]), (by simp only [Act.put, List.setIfInBounds_toArray, List.set_cons_zero, List.set_cons_succ]), hb, cd0, cd1, (fun _ => rfl), cd3, cd4, cd5, cd6, cd7, cd8, cd9, cd10, cd11, cd12, cd13, cd14, cd15, cd16, cd18, f_r, f_z, f_lg, f_lt, f_ap, f_o, f_qC, f_qA, w_13_12, w_14_12⟩
            · rintro L a w ⟨b0, b1, b2, b3, b4, b5, b6, b7, b8, b9, b10, b11, b12, b13, b14, b15, b16, b17, b18, x65, x66, x67, x68, x69, x70, x71, x72, x73, x74, x75, x76, x77, x64, x78, x79, x14, x15, qo, qn, qc, ro, rn, rc, gu, rfl, rfl, hb, cd0, cd1, cd2, cd3, cd4, cd5, cd6, cd7, cd8, cd9, cd10, cd11, cd12, cd13, cd14, cd15, cd16, cd18, f_r, f_z, f_lg, f_lt, f_ap, f_o, f_qC, f_qA, w_13_12, w_14_12⟩ hf hd
              have hf' : b3 = false := hf
              subst hf'
              clear hf hd
              try simp only [List.setIfInBounds_toArray, List.set_cons_zero, List.set_cons_succ]
              intro K hK
              rw [if_pos (by rfl)]
              go_simp
              exact hK.out _ _ ⟨b0, b1, b2, true, b4, b5, b6, b7, b8, b9, b10, b11, b12, b13, b14, b15, b16, b17, b18, x65, x66, x67, (.int .i64 (s : Nat)), x69, x70, x71, x72, x73, x74, x75, x76, x77, x64, x78, x79, x14, x15, qo, qn, qc, ro, rn, rc, gu, (by simp only [Act.put, List.setIfInBounds_toArray, List.set_cons_zero, List.set_cons_succ]), (by simp only [Act.put, List.setIfInBounds_toArray, List.set_cons_zero, List.set_cons_succ]), hb, cd0, cd1, cd2, (fun _ => rfl), cd4, cd5, cd6, cd7, cd8, cd9, cd10, cd11, cd12, cd13, cd14, cd15, cd16, cd18, f_r, f_z, f_lg, f_lt, f_ap, f_o, f_qC, f_qA, w_13_12, w_14_12⟩
            · rintro L a w ⟨b0, b1, b2, b3, b4, b5, b6, b7, b8, b9, b10, b11, b12, b13, b14, b15, b16, b17, b18, x65, x66, x67, x68, x69, x70, x71, x72, x73, x74, x75, x76, x77, x64, x78, x79, x14, x15, qo, qn, qc, ro, rn, rc, gu, rfl, rfl, hb, cd0, cd1, cd2, cd3, cd4, cd5, cd6, cd7, cd8, cd9, cd10, cd11, cd12, cd13, cd14, cd15, cd16, cd18, f_r, f_z, f_lg, f_lt, f_ap, f_o, f_qC, f_qA, w_13_12, w_14_12⟩ hf hd
              have hf' : b4 = false := hf
              subst hf'
              have d3 : b3 = true := hd ⟨3, .data⟩ (by simp) rfl
              subst d3
              obtain rfl := cd3.out rfl
              clear hf hd
              try simp only [List.setIfInBounds_toArray, List.set_cons_zero, List.set_cons_succ]
              intro K hK
              rw [if_pos (by rfl)]
              go_simp
              try rw [IntWalk.i64_in _ (by omega)]
              exact hK.out _ _ ⟨b0, b1, b2, true, true, b5, b6, b7, b8, b9, b10, b11, b12, b13, b14, b15, b16, b17, b18, x65, x66, x67, .int .i64 (s : Nat), (.int .i64 ((s : Int) + 1)), x70, x71, x72, x73, x74, x75, x76, x77, x64, x78, x79, x14, x15, qo, qn, qc, ro, rn, rc, gu, (by simp only [Act.put, List.setIfInBounds_toArray, List.set_cons_zero, List.set_cons_succ]), (by simp only [Act.put, List.setIfInBounds_toArray, List.set_cons_zero, List.set_cons_succ]), hb, cd0, cd1, cd2, (fun _ => rfl), (fun _ => rfl), cd5, cd6, cd7, cd8, cd9, cd10, cd11, cd12, cd13, cd14, cd15, cd16, cd18, f_r, f_z, f_lg, f_lt, f_ap, f_o, f_qC, f_qA, w_13_12, w_14_12⟩
            · rintro L a w ⟨b0, b1, b2, b3, b4, b5, b6, b7, b8, b9, b10, b11, b12, b13, b14, b15, b16, b17, b18, x65, x66, x67, x68, x69, x70, x71, x72, x73, x74, x75, x76, x77, x64, x78, x79, x14, x15, qo, qn, qc, ro, rn, rc, gu, rfl, rfl, hb, cd0, cd1, cd2, cd3, cd4, cd5, cd6, cd7, cd8, cd9, cd10, cd11, cd12, cd13, cd14, cd15, cd16, cd18, f_r, f_z, f_lg, f_lt, f_ap, f_o, f_qC, f_qA, w_13_12, w_14_12⟩ hf hd
              have hf' : b5 = false := hf
              subst hf'
              clear hf hd
              try simp only [List.setIfInBounds_toArray, List.set_cons_zero, List.set_cons_succ]
              intro K hK
              rw [if_pos (by rfl)]
              go_simp
              exact hK.out _ _ ⟨b0, b1, b2, b3, b4, true, b6, b7, b8, b9, b10, b11, b12, b13, b14, b15, b16, b17, b18, x65, x66, x67, x68, x69, (.int .i64 (k : Nat)), x71, x72, x73, x74, x75, x76, x77, x64, x78, x79, x14, x15, qo, qn, qc, ro, rn, rc, gu, (by simp only [Act.put, List.setIfInBounds_toArray, List.set_cons_zero, List.set_cons_succ]), (by simp only [Act.put, List.setIfInBounds_toArray, List.set_cons_zero, List.set_cons_succ]), hb, cd0, cd1, cd2, cd3, cd4, (fun _ => rfl), cd6, cd7, cd8, cd9, cd10, cd11, cd12, cd13, cd14, cd15, cd16, cd18, f_r, f_z, f_lg, f_lt, f_ap, f_o, f_qC, f_qA, w_13_12, w_14_12⟩
            · rintro L a w ⟨b0, b1, b2, b3, b4, b5, b6, b7, b8, b9, b10, b11, b12, b13, b14, b15, b16, b17, b18, x65, x66, x67, x68, x69, x70, x71, x72, x73, x74, x75, x76, x77, x64, x78, x79, x14, x15, qo, qn, qc, ro, rn, rc, gu, rfl, rfl, hb, cd0, cd1, cd2, cd3, cd4, cd5, cd6, cd7, cd8, cd9, cd10, cd11, cd12, cd13, cd14, cd15, cd16, cd18, f_r, f_z, f_lg, f_lt, f_ap, f_o, f_qC, f_qA, w_13_12, w_14_12⟩ hf hd
              have hf' : b6 = false := hf
              subst hf'
              have d4 : b4 = true := hd ⟨4, .data⟩ (by simp) rfl
              subst d4
              have d5 : b5 = true := hd ⟨5, .data⟩ (by simp) rfl
              subst d5
              obtain rfl := cd4.out rfl
              obtain rfl := cd5.out rfl
              clear hf hd
              try simp only [List.setIfInBounds_toArray, List.set_cons_zero, List.set_cons_succ]
              intro K hK
              rw [if_pos (by rfl)]
              go_simp
              try rw [hs1r]
              try rw [IntWalk.i64_in _ (by omega)]
              try rw [hs1r]
              exact hK.out _ _ ⟨b0, b1, b2, b3, true, true, true, b7, b8, b9, b10, b11, b12, b13, b14, b15, b16, b17, b18, x65, x66, x67, x68, .int .i64 ((s : Int) + 1), .int .i64 (k : Nat), (.int .i64 (s1 : Nat)), x72, x73, x74, x75, x76, x77, x64, x78, x79, x14, x15, qo, qn, qc, ro, rn, rc, gu, (by simp only [Act.put, List.setIfInBounds_toArray, List.set_cons_zero, List.set_cons_succ]), (by simp only [Act.put, List.setIfInBounds_toArray, List.set_cons_zero, List.set_cons_succ]), hb, cd0, cd1, cd2, cd3, (fun _ => rfl), (fun _ => rfl), (fun _ => rfl), cd7, cd8, cd9, cd10, cd11, cd12, cd13, cd14, cd15, cd16, cd18, f_r, f_z, f_lg, f_lt, f_ap, f_o, f_qC, f_qA, w_13_12, w_14_12⟩
            · rintro L a w ⟨b0, b1, b2, b3, b4, b5, b6, b7, b8, b9, b10, b11, b12, b13, b14, b15, b16, b17, b18, x65, x66, x67, x68, x69, x70, x71, x72, x73, x74, x75, x76, x77, x64, x78, x79, x14, x15, qo, qn, qc, ro, rn, rc, gu, rfl, rfl, hb, cd0, cd1, cd2, cd3, cd4, cd5, cd6, cd7, cd8, cd9, cd10, cd11, cd12, cd13, cd14, cd15, cd16, cd18, f_r, f_z, f_lg, f_lt, f_ap, f_o, f_qC, f_qA, w_13_12, w_14_12⟩ hf hd
              have hf' : b7 = false := hf
              subst hf'
              have d2 : b2 = true := hd ⟨2, .data⟩ (by simp) rfl
              subst d2
              have d6 : b6 = true := hd ⟨6, .data⟩ (by simp) rfl
              subst d6
              obtain rfl := cd2.out rfl
              obtain rfl := cd6.out rfl
              clear hf hd
              try simp only [List.setIfInBounds_toArray, List.set_cons_zero, List.set_cons_succ]
              intro K hK
              rw [if_pos (by rfl)]
              go_simp
              exact hK.out _ _ ⟨b0, b1, true, b3, b4, b5, true, true, b8, b9, b10, b11, b12, b13, b14, b15, b16, b17, b18, x65, x66, .slice (some ⟨gN, 0, none⟩) 7 7, x68, x69, x70, .int .i64 (s1 : Nat), (.pointer (some ⟨gN, s1, none⟩)), x73, x74, x75, x76, x77, x64, x78, x79, x14, x15, qo, qn, qc, ro, rn, rc, gu, (by simp only [Act.put, List.setIfInBounds_toArray, List.set_cons_zero, List.set_cons_succ]), (by simp only [Act.put, List.setIfInBounds_toArray, List.set_cons_zero, List.set_cons_succ]), hb, cd0, cd1, (fun _ => rfl), cd3, cd4, cd5, (fun _ => rfl), (fun _ => rfl), cd8, cd9, cd10, cd11, cd12, cd13, cd14, cd15, cd16, cd18, f_r, f_z, f_lg, f_lt, f_ap, f_o, f_qC, f_qA, w_13_12, w_14_12⟩
            · rintro L a w ⟨b0, b1, b2, b3, b4, b5, b6, b7, b8, b9, b10, b11, b12, b13, b14, b15, b16, b17, b18, x65, x66, x67, x68, x69, x70, x71, x72, x73, x74, x75, x76, x77, x64, x78, x79, x14, x15, qo, qn, qc, ro, rn, rc, gu, rfl, rfl, hb, cd0, cd1, cd2, cd3, cd4, cd5, cd6, cd7, cd8, cd9, cd10, cd11, cd12, cd13, cd14, cd15, cd16, cd18, f_r, f_z, f_lg, f_lt, f_ap, f_o, f_qC, f_qA, w_13_12, w_14_12⟩ hf hd
              have hf' : b8 = false := hf
              subst hf'
              have d7 : b7 = true := hd ⟨7, .data⟩ (by simp) rfl
              subst d7
              obtain rfl := cd7.out rfl
              clear hf hd
              try simp only [List.setIfInBounds_toArray, List.set_cons_zero, List.set_cons_succ]
              have z0 := (hb.cell (show (⟨gN, s1, none⟩ : Addr).block < _ from hNB)).trans (cell_blk hNm (nms7_get s1 hs17))
              intro K hK
              rw [if_pos (by rfl)]
              go_simp
              exact hK.out _ _ ⟨b0, b1, b2, b3, b4, b5, b6, true, true, b9, b10, b11, b12, b13, b14, b15, b16, b17, b18, x65, x66, x67, x68, x69, x70, x71, .pointer (some ⟨gN, s1, none⟩), (.string (bsOf (nm s1))), x74, x75, x76, x77, x64, x78, x79, x14, x15, qo, qn, qc, ro, rn, rc, gu, (by simp only [Act.put, List.setIfInBounds_toArray, List.set_cons_zero, List.set_cons_succ]), (by simp only [Act.put, List.setIfInBounds_toArray, List.set_cons_zero, List.set_cons_succ]), hb, cd0, cd1, cd2, cd3, cd4, cd5, cd6, (fun _ => rfl), (fun _ => rfl), cd9, cd10, cd11, cd12, cd13, cd14, cd15, cd16, cd18, f_r, f_z, f_lg, f_lt, f_ap, f_o, f_qC, f_qA, w_13_12, w_14_12⟩
            · rintro L a w ⟨b0, b1, b2, b3, b4, b5, b6, b7, b8, b9, b10, b11, b12, b13, b14, b15, b16, b17, b18, x65, x66, x67, x68, x69, x70, x71, x72, x73, x74, x75, x76, x77, x64, x78, x79, x14, x15, qo, qn, qc, ro, rn, rc, gu, rfl, rfl, hb, cd0, cd1, cd2, cd3, cd4, cd5, cd6, cd7, cd8, cd9, cd10, cd11, cd12, cd13, cd14, cd15, cd16, cd18, f_r, f_z, f_lg, f_lt, f_ap, f_o, f_qC, f_qA, w_13_12, w_14_12⟩ hf hd
              have hf' : b9 = false := hf
              subst hf'
              clear hf hd
              try simp only [List.setIfInBounds_toArray, List.set_cons_zero, List.set_cons_succ]
              intro K hK
              rw [if_pos (by rfl)]
              go_simp
              exact hK.out _ _ ⟨b0, b1, b2, b3, b4, b5, b6, b7, b8, true, b10, b11, b12, b13, b14, b15, b16, b17, b18, x65, x66, x67, x68, x69, x70, x71, x72, x73, (.bool sh), x75, x76, x77, x64, x78, x79, x14, x15, qo, qn, qc, ro, rn, rc, gu, (by simp only [Act.put, List.setIfInBounds_toArray, List.set_cons_zero, List.set_cons_succ]), (by simp only [Act.put, List.setIfInBounds_toArray, List.set_cons_zero, List.set_cons_succ]), hb, cd0, cd1, cd2, cd3, cd4, cd5, cd6, cd7, cd8, (fun _ => rfl), cd10, cd11, cd12, cd13, cd14, cd15, cd16, cd18, f_r, f_z, f_lg, f_lt, f_ap, f_o, f_qC, f_qA, w_13_12, w_14_12⟩
            · rintro L a w ⟨b0, b1, b2, b3, b4, b5, b6, b7, b8, b9, b10, b11, b12, b13, b14, b15, b16, b17, b18, x65, x66, x67, x68, x69, x70, x71, x72, x73, x74, x75, x76, x77, x64, x78, x79, x14, x15, qo, qn, qc, ro, rn, rc, gu, rfl, rfl, hb, cd0, cd1, cd2, cd3, cd4, cd5, cd6, cd7, cd8, cd9, cd10, cd11, cd12, cd13, cd14, cd15, cd16, cd18, f_r, f_z, f_lg, f_lt, f_ap, f_o, f_qC, f_qA, w_13_12, w_14_12⟩ hf hd
              have hf' : b10 = false := hf
              subst hf'
              have d9 : b9 = true := hd ⟨9, .data⟩ (by simp) rfl
              subst d9
              obtain rfl := cd9.out rfl
              clear hf hd
              try simp only [List.setIfInBounds_toArray, List.set_cons_zero, List.set_cons_succ]
              intro K hK
              rw [if_pos (by rfl)]
              go_simp
              exact hK.out _ _ ⟨b0, b1, b2, b3, b4, b5, b6, b7, b8, true, true, b11, b12, b13, b14, b15, b16, b17, b18, x65, x66, x67, x68, x69, x70, x71, x72, x73, .bool sh, (.bool (!sh)), x76, x77, x64, x78, x79, x14, x15, qo, qn, qc, ro, rn, rc, gu, (by simp only [Act.put, List.setIfInBounds_toArray, List.set_cons_zero, List.set_cons_succ]), (by simp only [Act.put, List.setIfInBounds_toArray, List.set_cons_zero, List.set_cons_succ]), hb, cd0, cd1, cd2, cd3, cd4, cd5, cd6, cd7, cd8, (fun _ => rfl), (fun _ => rfl), cd11, cd12, cd13, cd14, cd15, cd16, cd18, f_r, f_z, f_lg, f_lt, f_ap, f_o, f_qC, f_qA, w_13_12, w_14_12⟩
            · rintro L a w ⟨b0, b1, b2, b3, b4, b5, b6, b7, b8, b9, b10, b11, b12, b13, b14, b15, b16, b17, b18, x65, x66, x67, x68, x69, x70, x71, x72, x73, x74, x75, x76, x77, x64, x78, x79, x14, x15, qo, qn, qc, ro, rn, rc, gu, rfl, rfl, hb, cd0, cd1, cd2, cd3, cd4, cd5, cd6, cd7, cd8, cd9, cd10, cd11, cd12, cd13, cd14, cd15, cd16, cd18, f_r, f_z, f_lg, f_lt, f_ap, f_o, f_qC, f_qA, w_13_12, w_14_12⟩ hf hd
              have hf' : b11 = false := hf
              subst hf'
              have d1 : b1 = true := hd ⟨1, .data⟩ (by simp) rfl
              subst d1
              have d8 : b8 = true := hd ⟨8, .data⟩ (by simp) rfl
              subst d8
              have d10 : b10 = true := hd ⟨10, .data⟩ (by simp) rfl
              subst d10
              obtain rfl := cd1.out rfl
              obtain rfl := cd8.out rfl
              obtain rfl := cd10.out rfl
              clear hf hd
              try simp only [List.setIfInBounds_toArray, List.set_cons_zero, List.set_cons_succ]
              intro K hK
              rw [if_pos (by rfl)]
              go_simp
              exact hK.out _ _ ⟨b0, true, b2, b3, b4, b5, b6, b7, true, b9, true, true, b12, b13, b14, b15, b16, b17, b18, x65, .int .i64 (s : Nat), x67, x68, x69, x70, x71, x72, .string (bsOf (nm s1)), x74, .bool (!sh), (.agg #[.int .i64 (s : Nat), .string (bsOf (nm s1)), .bool (!sh)]), x77, x64, x78, x79, x14, x15, qo, qn, qc, ro, rn, rc, gu, (by simp only [Act.put, List.setIfInBounds_toArray, List.set_cons_zero, List.set_cons_succ]), (by simp only [Act.put, List.setIfInBounds_toArray, List.set_cons_zero, List.set_cons_succ]), hb, cd0, (fun _ => rfl), cd2, cd3, cd4, cd5, cd6, cd7, (fun _ => rfl), cd9, (fun _ => rfl), (fun _ => rfl), cd12, cd13, cd14, cd15, cd16, cd18, f_r, f_z, f_lg, f_lt, f_ap, f_o, f_qC, f_qA, w_13_12, w_14_12⟩
            · rintro L a w ⟨b0, b1, b2, b3, b4, b5, b6, b7, b8, b9, b10, b11, b12, b13, b14, b15, b16, b17, b18, x65, x66, x67, x68, x69, x70, x71, x72, x73, x74, x75, x76, x77, x64, x78, x79, x14, x15, qo, qn, qc, ro, rn, rc, gu, rfl, rfl, hb, cd0, cd1, cd2, cd3, cd4, cd5, cd6, cd7, cd8, cd9, cd10, cd11, cd12, cd13, cd14, cd15, cd16, cd18, f_r, f_z, f_lg, f_lt, f_ap, f_o, f_qC, f_qA, w_13_12, w_14_12⟩ hf hd
              have hf' : b12 = false := hf
              subst hf'
              have d0 : b0 = true := hd ⟨0, .data⟩ (by simp) rfl
              subst d0
              have d11 : b11 = true := hd ⟨11, .data⟩ (by simp) rfl
              subst d11
              obtain rfl := cd0.out rfl
              obtain rfl := cd11.out rfl
              clear hf hd
              try simp only [List.setIfInBounds_toArray, List.set_cons_zero, List.set_cons_succ]
              intro K hK
              rw [if_pos (by rfl)]
              go_simp
              go_at_call 61
              refine (HK _ hb).mono ?_
              rintro e w' ⟨_, rfl, ⟨qo3, qn3, qc3, ro3, rn3, rc3, rfl, j1, j2, g1, g2⟩, bx⟩
              unfold lkV
              have r9 : RdB w' w.heap.size qo3 qn3 qc3 ro3 rn3 rc3 H1 W1 := ⟨j1, j2, g1, g2⟩
              have e_13 : b13 = false := by cases hq : b13 with | false => rfl | true => exact absurd (w_13_12.out hq) (by simp)
              subst e_13
              have e_14 : b14 = false := by cases hq : b14 with | false => rfl | true => exact absurd (w_14_12.out hq) (by simp)
              subst e_14
              exact hK.out _ _ ⟨true, b1, b2, b3, b4, b5, b6, b7, b8, b9, b10, true, true, false, false, b15, b16, b17, b18, .agg #[.slice ho hn hc, .slice wq wn wc], x66, x67, x68, x69, x70, x71, x72, x73, x74, x75, .agg #[.int .i64 (s : Nat), .string (bsOf (nm s1)), .bool (!sh)], (.tuple #[.agg #[.slice qo3 qn3 qc3, .slice ro3 rn3 rc3], .bool ab]), x64, x78, x79, x14, x15, qo3, qn3, qc3, ro3, rn3, rc3, gu, (by simp only [Act.put, List.setIfInBounds_toArray, List.set_cons_zero, List.set_cons_succ]), (by simp only [Act.put, List.setIfInBounds_toArray, List.set_cons_zero, List.set_cons_succ]), hb.trans (bx.mono (Nat.le_trans hB0 hb.size)), (fun _ => rfl), cd1, cd2, cd3, cd4, cd5, cd6, cd7, cd8, cd9, cd10, (fun _ => rfl), (fun _ => rfl), (fun h => by cases h), (fun h => by cases h), cd15, cd16, cd18, (fun _ => r9.mono hb.size), (fun h0 h1 => (f_z.out h0 h1).past bx), f_lg, (fun h0 => Nat.lt_of_lt_of_le (f_lt.out h0) bx.size), (fun _ => fun h => r9.ap (f_lt.out h)), (fun h0 => absurd (f_qC.out h0) (by simp)), (fun _ => rfl), f_qA, (fun _ => rfl), (fun _ => rfl)⟩
            · rintro L a w ⟨b0, b1, b2, b3, b4, b5, b6, b7, b8, b9, b10, b11, b12, b13, b14, b15, b16, b17, b18, x65, x66, x67, x68, x69, x70, x71, x72, x73, x74, x75, x76, x77, x64, x78, x79, x14, x15, qo, qn, qc, ro, rn, rc, gu, rfl, rfl, hb, cd0, cd1, cd2, cd3, cd4, cd5, cd6, cd7, cd8, cd9, cd10, cd11, cd12, cd13, cd14, cd15, cd16, cd18, f_r, f_z, f_lg, f_lt, f_ap, f_o, f_qC, f_qA, w_13_12, w_14_12⟩ hf hd
              have hf' : b13 = false := hf
              subst hf'
              have d12 : b12 = true := hd ⟨12, .data⟩ (by simp) rfl
              subst d12
              obtain rfl := cd12.out rfl
              clear hf hd
              have W_r := f_r.out rfl
              have W_ap := f_ap.out rfl
              try simp only [List.setIfInBounds_toArray, List.set_cons_zero, List.set_cons_succ]
              intro K hK
              rw [if_pos (by rfl)]
              go_simp
              exact hK.out _ _ ⟨b0, b1, b2, b3, b4, b5, b6, b7, b8, b9, b10, b11, true, true, b14, b15, b16, b17, b18, x65, x66, x67, x68, x69, x70, x71, x72, x73, x74, x75, x76, .tuple #[.agg #[.slice qo qn qc, .slice ro rn rc], .bool ab], (.tuple #[.agg #[.slice qo qn qc, .slice ro rn rc], .bool ab]), x78, x79, x14, x15, qo, qn, qc, ro, rn, rc, gu, (by simp only [Act.put, List.setIfInBounds_toArray, List.set_cons_zero, List.set_cons_succ]), (by simp only [Act.put, List.setIfInBounds_toArray, List.set_cons_zero, List.set_cons_succ]), hb, cd0, cd1, cd2, cd3, cd4, cd5, cd6, cd7, cd8, cd9, cd10, cd11, (fun _ => rfl), (fun _ => rfl), cd14, cd15, cd16, cd18, f_r, f_z, f_lg, f_lt, f_ap, f_o, f_qC, f_qA, (fun _ => rfl), (fun _ => rfl)⟩
            · rintro L a w ⟨b0, b1, b2, b3, b4, b5, b6, b7, b8, b9, b10, b11, b12, b13, b14, b15, b16, b17, b18, x65, x66, x67, x68, x69, x70, x71, x72, x73, x74, x75, x76, x77, x64, x78, x79, x14, x15, qo, qn, qc, ro, rn, rc, gu, rfl, rfl, hb, cd0, cd1, cd2, cd3, cd4, cd5, cd6, cd7, cd8, cd9, cd10, cd11, cd12, cd13, cd14, cd15, cd16, cd18, f_r, f_z, f_lg, f_lt, f_ap, f_o, f_qC, f_qA, w_13_12, w_14_12⟩ hf hd
              have hf' : b14 = false := hf
              subst hf'
              have d13 : b13 = true := hd ⟨13, .data⟩ (by simp) rfl
              subst d13
              obtain rfl := cd13.out rfl
              clear hf hd
              try simp only [List.setIfInBounds_toArray, List.set_cons_zero, List.set_cons_succ]
              intro K hK
              rw [if_pos (by rfl)]
              go_simp
              exact hK.out _ _ ⟨b0, b1, b2, b3, b4, b5, b6, b7, b8, b9, b10, b11, b12, true, true, b15, b16, b17, b18, x65, x66, x67, x68, x69, x70, x71, x72, x73, x74, x75, x76, x77, .tuple #[.agg #[.slice qo qn qc, .slice ro rn rc], .bool ab], (.agg #[.slice qo qn qc, .slice ro rn rc]), x79, x14, x15, qo, qn, qc, ro, rn, rc, gu, (by simp only [Act.put, List.setIfInBounds_toArray, List.set_cons_zero, List.set_cons_succ]), (by simp only [Act.put, List.setIfInBounds_toArray, List.set_cons_zero, List.set_cons_succ]), hb, cd0, cd1, cd2, cd3, cd4, cd5, cd6, cd7, cd8, cd9, cd10, cd11, cd12, (fun _ => rfl), (fun _ => rfl), cd15, cd16, cd18, f_r, f_z, f_lg, f_lt, f_ap, f_o, f_qC, f_qA, w_13_12, (fun _ => w_13_12.out rfl)⟩
            · rintro L a w ⟨b0, b1, b2, b3, b4, b5, b6, b7, b8, b9, b10, b11, b12, b13, b14, b15, b16, b17, b18, x65, x66, x67, x68, x69, x70, x71, x72, x73, x74, x75, x76, x77, x64, x78, x79, x14, x15, qo, qn, qc, ro, rn, rc, gu, rfl, rfl, hb, cd0, cd1, cd2, cd3, cd4, cd5, cd6, cd7, cd8, cd9, cd10, cd11, cd12, cd13, cd14, cd15, cd16, cd18, f_r, f_z, f_lg, f_lt, f_ap, f_o, f_qC, f_qA, w_13_12, w_14_12⟩ hf hd
              have hf' : b15 = false := hf
              subst hf'
              have d13 : b13 = true := hd ⟨13, .data⟩ (by simp) rfl
              subst d13
              obtain rfl := cd13.out rfl
              clear hf hd
              try simp only [List.setIfInBounds_toArray, List.set_cons_zero, List.set_cons_succ]
              intro K hK
              rw [if_pos (by rfl)]
              go_simp
              exact hK.out _ _ ⟨b0, b1, b2, b3, b4, b5, b6, b7, b8, b9, b10, b11, b12, true, b14, true, b16, b17, b18, x65, x66, x67, x68, x69, x70, x71, x72, x73, x74, x75, x76, x77, .tuple #[.agg #[.slice qo qn qc, .slice ro rn rc], .bool ab], x78, (.bool ab), x14, x15, qo, qn, qc, ro, rn, rc, gu, (by simp only [Act.put, List.setIfInBounds_toArray, List.set_cons_zero, List.set_cons_succ]), (by simp only [Act.put, List.setIfInBounds_toArray, List.set_cons_zero, List.set_cons_succ]), hb, cd0, cd1, cd2, cd3, cd4, cd5, cd6, cd7, cd8, cd9, cd10, cd11, cd12, (fun _ => rfl), cd14, (fun _ => rfl), cd16, cd18, f_r, f_z, f_lg, f_lt, f_ap, f_o, f_qC, f_qA, w_13_12, w_14_12⟩
            · rintro L a w ⟨b0, b1, b2, b3, b4, b5, b6, b7, b8, b9, b10, b11, b12, b13, b14, b15, b16, b17, b18, x65, x66, x67, x68, x69, x70, x71, x72, x73, x74, x75, x76, x77, x64, x78, x79, x14, x15, qo, qn, qc, ro, rn, rc, gu, rfl, rfl, hb, cd0, cd1, cd2, cd3, cd4, cd5, cd6, cd7, cd8, cd9, cd10, cd11, cd12, cd13, cd14, cd15, cd16, cd18, f_r, f_z, f_lg, f_lt, f_ap, f_o, f_qC, f_qA, w_13_12, w_14_12⟩ hf hd
              have hf' : b16 = false := hf
              subst hf'
              clear hf hd
              try simp only [List.setIfInBounds_toArray, List.set_cons_zero, List.set_cons_succ]
              have KL : ∀ h : b12 = true, RdB w W.heap.size qo qn qc ro rn rc H1 W1 := fun h => f_r.out h
              intro K hK
              rw [if_pos (by rfl)]
              go_simp
              have bx : Below w.heap.size w (w.alloc (.cells #[.slice none 0 0, .slice none 0 0] 96)) := (Below.refl _ _).alloc (Nat.le_refl _) _
              exact hK.out _ _ ⟨b0, b1, b2, b3, b4, b5, b6, b7, b8, b9, b10, b11, b12, b13, b14, b15, true, b17, b18, x65, x66, x67, x68, x69, x70, x71, x72, x73, x74, x75, x76, x77, x64, x78, x79, (.pointer (some ⟨(w.heap.size), 0, none⟩)), x15, qo, qn, qc, ro, rn, rc, w.heap.size, (by simp only [Act.put, List.setIfInBounds_toArray, List.set_cons_zero, List.set_cons_succ]), (by simp only [Act.put, List.setIfInBounds_toArray, List.set_cons_zero, List.set_cons_succ]), hb.trans (bx.mono (Nat.le_trans hB0 hb.size)), cd0, cd1, cd2, cd3, cd4, cd5, cd6, cd7, cd8, cd9, cd10, cd11, cd12, cd13, cd14, cd15, (fun _ => rfl), cd18, (fun h0 => (f_r.out h0).past bx), (fun _ _ => LkB.new w none 0 0 none 0 0 _), (fun _ => hb.size), (fun _ => by rw [World.size_alloc]; omega), (fun h0 _ => (f_r.out h0).apNew (Nat.le_refl _)), (fun h0 => absurd (f_qA.out h0) (by simp)), f_qC, (fun _ => rfl), w_13_12, w_14_12⟩
            · rintro L a w ⟨b0, b1, b2, b3, b4, b5, b6, b7, b8, b9, b10, b11, b12, b13, b14, b15, b16, b17, b18, x65, x66, x67, x68, x69, x70, x71, x72, x73, x74, x75, x76, x77, x64, x78, x79, x14, x15, qo, qn, qc, ro, rn, rc, gu, rfl, rfl, hb, cd0, cd1, cd2, cd3, cd4, cd5, cd6, cd7, cd8, cd9, cd10, cd11, cd12, cd13, cd14, cd15, cd16, cd18, f_r, f_z, f_lg, f_lt, f_ap, f_o, f_qC, f_qA, w_13_12, w_14_12⟩ hf hd
              have hf' : b17 = false := hf
              subst hf'
              have d16 : b16 = true := hd ⟨16, .data⟩ (by simp) rfl
              subst d16
              have d14 : b14 = true := hd ⟨14, .data⟩ (by simp) rfl
              subst d14
              have d12 : b12 = true := hd ⟨12, .chain⟩ (by simp) rfl
              subst d12
              have d0 : b0 = true := hd ⟨0, .phase⟩ (by simp) rfl
              subst d0
              have d1 : b1 = true := hd ⟨1, .phase⟩ (by simp) rfl
              subst d1
              have d2 : b2 = true := hd ⟨2, .phase⟩ (by simp) rfl
              subst d2
              have d3 : b3 = true := hd ⟨3, .phase⟩ (by simp) rfl
              subst d3
              have d4 : b4 = true := hd ⟨4, .phase⟩ (by simp) rfl
              subst d4
              have d5 : b5 = true := hd ⟨5, .phase⟩ (by simp) rfl
              subst d5
              have d6 : b6 = true := hd ⟨6, .phase⟩ (by simp) rfl
              subst d6
              have d7 : b7 = true := hd ⟨7, .phase⟩ (by simp) rfl
              subst d7
              have d8 : b8 = true := hd ⟨8, .phase⟩ (by simp) rfl
              subst d8
              have d9 : b9 = true := hd ⟨9, .phase⟩ (by simp) rfl
              subst d9
              have d10 : b10 = true := hd ⟨10, .phase⟩ (by simp) rfl
              subst d10
              have d11 : b11 = true := hd ⟨11, .phase⟩ (by simp) rfl
              subst d11
              have d13 : b13 = true := hd ⟨13, .phase⟩ (by simp) rfl
              subst d13
              obtain rfl := cd16.out rfl
              obtain rfl := cd14.out rfl
              obtain rfl := cd12.out rfl
              obtain rfl := cd0.out rfl
              obtain rfl := cd1.out rfl
              obtain rfl := cd2.out rfl
              obtain rfl := cd3.out rfl
              obtain rfl := cd4.out rfl
              obtain rfl := cd5.out rfl
              obtain rfl := cd6.out rfl
              obtain rfl := cd7.out rfl
              obtain rfl := cd8.out rfl
              obtain rfl := cd9.out rfl
              obtain rfl := cd10.out rfl
              obtain rfl := cd11.out rfl
              obtain rfl := cd13.out rfl
              clear hf hd
              have W_r := f_r.out rfl
              have W_z := f_z.out rfl rfl
              have W_lg := f_lg.out rfl
              have W_lt := f_lt.out rfl
              have W_ap := f_ap.out rfl
              try simp only [List.setIfInBounds_toArray, List.set_cons_zero, List.set_cons_succ]
              intro K hK
              rw [if_pos (by rfl)]
              refine wp_store_lk _ _ rfl gu none 0 0 none 0 0 rfl qo qn qc ro rn rc rfl (Lib.hid W_z) fun w2 h8 g8 => ?_
              have hb2 := hb.grown g8 (Nat.le_trans hB0 hb.size) (fun z hz => by cases hz; exact W_lg)
              exact hK.out _ _ ⟨true, true, true, true, true, true, true, true, true, true, true, true, true, true, true, b15, true, true, b18, .agg #[.slice ho hn hc, .slice wq wn wc], .int .i64 (s : Nat), .slice (some ⟨gN, 0, none⟩) 7 7, .int .i64 (s : Nat), .int .i64 ((s : Int) + 1), .int .i64 (k : Nat), .int .i64 (s1 : Nat), .pointer (some ⟨gN, s1, none⟩), .string (bsOf (nm s1)), .bool sh, .bool (!sh), .agg #[.int .i64 (s : Nat), .string (bsOf (nm s1)), .bool (!sh)], .tuple #[.agg #[.slice qo qn qc, .slice ro rn rc], .bool ab], .tuple #[.agg #[.slice qo qn qc, .slice ro rn rc], .bool ab], .agg #[.slice qo qn qc, .slice ro rn rc], x79, .pointer (some ⟨gu, 0, none⟩), x15, qo, qn, qc, ro, rn, rc, gu, (by simp only [Act.put, List.setIfInBounds_toArray, List.set_cons_zero, List.set_cons_succ]), (by simp only [Act.put, List.setIfInBounds_toArray, List.set_cons_zero, List.set_cons_succ]), hb2, (fun _ => rfl), (fun _ => rfl), (fun _ => rfl), (fun _ => rfl), (fun _ => rfl), (fun _ => rfl), (fun _ => rfl), (fun _ => rfl), (fun _ => rfl), (fun _ => rfl), (fun _ => rfl), (fun _ => rfl), (fun _ => rfl), (fun _ => rfl), (fun _ => rfl), cd15, (fun _ => rfl), cd18, (fun h0 => ((f_r.out h0)).far g8 (f_ap.out h0 rfl)), (fun _ h => by cases h), f_lg, (fun h0 => Nat.lt_of_lt_of_le ((f_lt.out h0)) g8.size), f_ap, (fun _ => h8), (fun _ => rfl), (fun _ => rfl), (fun _ => rfl), (fun _ => rfl)⟩
            · rintro L a w ⟨b0, b1, b2, b3, b4, b5, b6, b7, b8, b9, b10, b11, b12, b13, b14, b15, b16, b17, b18, x65, x66, x67, x68, x69, x70, x71, x72, x73, x74, x75, x76, x77, x64, x78, x79, x14, x15, qo, qn, qc, ro, rn, rc, gu, rfl, rfl, hb, cd0, cd1, cd2, cd3, cd4, cd5, cd6, cd7, cd8, cd9, cd10, cd11, cd12, cd13, cd14, cd15, cd16, cd18, f_r, f_z, f_lg, f_lt, f_ap, f_o, f_qC, f_qA, w_13_12, w_14_12⟩ hf hd
              have hf' : b18 = false := hf
              subst hf'
              have d15 : b15 = true := hd ⟨15, .data⟩ (by simp) rfl
              subst d15
              have d17 : b17 = true := hd ⟨17, .chain⟩ (by simp) rfl
              subst d17
              have d0 : b0 = true := hd ⟨0, .phase⟩ (by simp) rfl
              subst d0
              have d1 : b1 = true := hd ⟨1, .phase⟩ (by simp) rfl
              subst d1
              have d2 : b2 = true := hd ⟨2, .phase⟩ (by simp) rfl
              subst d2
              have d3 : b3 = true := hd ⟨3, .phase⟩ (by simp) rfl
              subst d3
              have d4 : b4 = true := hd ⟨4, .phase⟩ (by simp) rfl
              subst d4
              have d5 : b5 = true := hd ⟨5, .phase⟩ (by simp) rfl
              subst d5
              have d6 : b6 = true := hd ⟨6, .phase⟩ (by simp) rfl
              subst d6
              have d7 : b7 = true := hd ⟨7, .phase⟩ (by simp) rfl
              subst d7
              have d8 : b8 = true := hd ⟨8, .phase⟩ (by simp) rfl
              subst d8
              have d9 : b9 = true := hd ⟨9, .phase⟩ (by simp) rfl
              subst d9
              have d10 : b10 = true := hd ⟨10, .phase⟩ (by simp) rfl
              subst d10
              have d11 : b11 = true := hd ⟨11, .phase⟩ (by simp) rfl
              subst d11
              have d12 : b12 = true := hd ⟨12, .phase⟩ (by simp) rfl
              subst d12
              have d13 : b13 = true := hd ⟨13, .phase⟩ (by simp) rfl
              subst d13
              have d14 : b14 = true := hd ⟨14, .phase⟩ (by simp) rfl
              subst d14
              have d16 : b16 = true := hd ⟨16, .phase⟩ (by simp) rfl
              subst d16
              obtain rfl := cd15.out rfl
              obtain rfl := cd0.out rfl
              obtain rfl := cd1.out rfl
              obtain rfl := cd2.out rfl
              obtain rfl := cd3.out rfl
              obtain rfl := cd4.out rfl
              obtain rfl := cd5.out rfl
              obtain rfl := cd6.out rfl
              obtain rfl := cd7.out rfl
              obtain rfl := cd8.out rfl
              obtain rfl := cd9.out rfl
              obtain rfl := cd10.out rfl
              obtain rfl := cd11.out rfl
              obtain rfl := cd12.out rfl
              obtain rfl := cd13.out rfl
              obtain rfl := cd14.out rfl
              obtain rfl := cd16.out rfl
              clear hf hd
              have W_r := f_r.out rfl
              have W_lg := f_lg.out rfl
              have W_lt := f_lt.out rfl
              have W_ap := f_ap.out rfl
              have W_o := f_o.out rfl
              have W_qC := f_qC.out rfl
              have W_qA := f_qA.out rfl
              try simp only [List.setIfInBounds_toArray, List.set_cons_zero, List.set_cons_succ]
              intro K hK
              rw [if_pos (by rfl)]
              go_simp
              exact hK.out _ _ ⟨true, true, true, true, true, true, true, true, true, true, true, true, true, true, true, true, true, true, true, .agg #[.slice ho hn hc, .slice wq wn wc], .int .i64 (s : Nat), .slice (some ⟨gN, 0, none⟩) 7 7, .int .i64 (s : Nat), .int .i64 ((s : Int) + 1), .int .i64 (k : Nat), .int .i64 (s1 : Nat), .pointer (some ⟨gN, s1, none⟩), .string (bsOf (nm s1)), .bool sh, .bool (!sh), .agg #[.int .i64 (s : Nat), .string (bsOf (nm s1)), .bool (!sh)], .tuple #[.agg #[.slice qo qn qc, .slice ro rn rc], .bool ab], .tuple #[.agg #[.slice qo qn qc, .slice ro rn rc], .bool ab], .agg #[.slice qo qn qc, .slice ro rn rc], .bool ab, .pointer (some ⟨gu, 0, none⟩), (.bool ab), qo, qn, qc, ro, rn, rc, gu, (by simp only [Act.put, List.setIfInBounds_toArray, List.set_cons_zero, List.set_cons_succ]), (by simp only [Act.put, List.setIfInBounds_toArray, List.set_cons_zero, List.set_cons_succ]), hb, (fun _ => rfl), (fun _ => rfl), (fun _ => rfl), (fun _ => rfl), (fun _ => rfl), (fun _ => rfl), (fun _ => rfl), (fun _ => rfl), (fun _ => rfl), (fun _ => rfl), (fun _ => rfl), (fun _ => rfl), (fun _ => rfl), (fun _ => rfl), (fun _ => rfl), (fun _ => rfl), (fun _ => rfl), (fun _ => rfl), f_r, (fun _ h => by cases h), f_lg, f_lt, f_ap, f_o, f_qC, f_qA, (fun _ => rfl), (fun _ => rfl)⟩
          · rintro act V ⟨b0, b1, b2, b3, b4, b5, b6, b7, b8, b9, b10, b11, b12, b13, b14, b15, b16, b17, b18, x65, x66, x67, x68, x69, x70, x71, x72, x73, x74, x75, x76, x77, x64, x78, x79, x14, x15, qo, qn, qc, ro, rn, rc, gu, hL, rfl, hb, cd0, cd1, cd2, cd3, cd4, cd5, cd6, cd7, cd8, cd9, cd10, cd11, cd12, cd13, cd14, cd15, cd16, cd18, f_r, f_z, f_lg, f_lt, f_ap, f_o, f_qC, f_qA, w_13_12, w_14_12⟩
            have hL' : [true, true, true, true, true, true, true, true, true, true, true, true, true, true, true, true, true, true, true] = [b0, b1, b2, b3, b4, b5, b6, b7, b8, b9, b10, b11, b12, b13, b14, b15, b16, b17, b18] := congrArg Array.toList hL
            simp only [List.cons.injEq, and_true] at hL'
            obtain ⟨rfl, rfl, rfl, rfl, rfl, rfl, rfl, rfl, rfl, rfl, rfl, rfl, rfl, rfl, rfl, rfl, rfl, rfl, rfl⟩ := hL'
            obtain rfl := cd0.out rfl
            obtain rfl := cd1.out rfl
            obtain rfl := cd2.out rfl
            obtain rfl := cd3.out rfl
            obtain rfl := cd4.out rfl
            obtain rfl := cd5.out rfl
            obtain rfl := cd6.out rfl
            obtain rfl := cd7.out rfl
            obtain rfl := cd8.out rfl
            obtain rfl := cd9.out rfl
            obtain rfl := cd10.out rfl
            obtain rfl := cd11.out rfl
            obtain rfl := cd12.out rfl
            obtain rfl := cd13.out rfl
            obtain rfl := cd14.out rfl
            obtain rfl := cd15.out rfl
            obtain rfl := cd16.out rfl
            obtain rfl := cd18.out rfl
            have W_r := f_r.out rfl
            have W_lg := f_lg.out rfl
            have W_lt := f_lt.out rfl
            have W_ap := f_ap.out rfl
            have W_o := f_o.out rfl
            have W_qC := f_qC.out rfl
            have W_qA := f_qA.out rfl
            clear hL f_r f_z f_lg f_lt f_ap f_o f_qC f_qA cd0 cd1 cd2 cd3 cd4 cd5 cd6 cd7 cd8 cd9 cd10 cd11 cd12 cd13 cd14 cd15 cd16 cd18 w_13_12 w_14_12
            simp only [List.setIfInBounds_toArray, List.set_cons_zero, List.set_cons_succ]
            have BV : Below W.heap.size W V := (Below.refl _ _).drew.trans hb
            have XV := X.past BV
            have B3 := B.trans (BV.mono (Nat.le_trans hp0 B.size))
            have N3 := hNm.past BV
            have hpV := XV.lt
            have hpW' := X.lt
            clear hb c0 c1
            obtain ⟨c0, c1⟩ := W_o.c
            obtain ⟨d0, d1⟩ := XV.c
            obtain ⟨e0, e1⟩ := XV.free
            have A2 := LkAt.store XV W_r.h W_r.w W_r.gh W_r.gw hpW'
            rw [hH1h.out, hW1h.out] at A2
            obtain rfl : ab = false := habh.out
            have B2 := LkAt.below B3 p hpp (Nat.le_trans hp0 B3.size) (.slice qo qn qc) (.slice ro rn rc)
            have N2 : NmsB ((V.setCell ⟨p, 0, none⟩ (.slice qo qn qc)).setCell ⟨p, 1, none⟩ (.slice ro rn rc)) gN := by
              unfold NmsB
              have hne := neLk XV N3
              rw [heap_setCell_other _ _ gN _ (by exact fun e => hne (by rw [e])), heap_setCell_other _ _ gN _ (by exact fun e => hne (by rw [e])), N3]
            go_wp2_with fail
            go_roundw
            case rel => exact ⟨j + 1, by omega, by go_num, A2, N2, B2⟩
            case measure => simp [intOf]; omega
        · have hlti : ¬ ((j : Int) < (k : Int)) := by omega
          obtain rfl : j = k := by omega
          clear HW2
          go_wp2_with fail
          go_loopw [16] (fun zs wr => ∃ i : Nat, i ≤ j ∧ zs = .int .i64 (i : Nat) ∧ LkAt wr p (Hr j) (Wr j TT (!sh) j) ∧ Below p0 w wr) (fun zs _ => j - (intOf zs).toNat)
          case atStart => exact ⟨0, by omega, rfl, A, B⟩
          case round =>
            clear A B hNm
            obtain ⟨i, hi, rfl, A, B⟩ := hrel
            obtain ⟨ho, hn, hc, wq, wn, wc, X1, RD⟩ := A.rd
            obtain ⟨c0, c1⟩ := X1.c
            have hl := Hr_len j
            have hl2 := Wr_len j TT (!sh) j
            by_cases hlt : i < j
            · have hlti : (i : Int) < (j : Int) := by omega
              have HV := victim_any wr (lkV ho hn hc wq wn wc) (Hr j) (Wr j TT (!sh) j) ⟨_, _, _, _, _, _, rfl, RD.h, RD.w⟩ (by omega) (by omega) (Hr_wf j hN7) (Wr_wf j TT (!sh) j (by omega) hN7) (i : Nat) (wf_sm (by omega))
              unfold lkV at HV
              have HVn : Vic (Hr j) (Wr j TT (!sh) j) (i : Nat) ((j - 1 : Nat) : Int) true := ring_vic hN2 hXN hlt
              obtain ⟨v, hv1⟩ : ∃ v : Int, ((j - 1 : Nat) : Int) = v := ⟨_, rfl⟩
              rw [hv1] at HVn
              have hvn : (v != (j : Int) - 1) = false := by rw [← hv1]; simp; omega
              clear hv1
              go_upto_region 25 with (go_at_call 64; refine HV.mono ?_; rintro e w3 ⟨x, ok, rfl, hv, b3⟩; obtain ⟨rfl, rfl⟩ := hv.unique HVn)
              go_wp2_with fail
              go_roundw
              case rel => exact ⟨i + 1, by omega, by go_num, A.past b3, B.trans (b3.mono (Nat.le_trans hp0 B.size))⟩
              case measure => simp [intOf]; omega
            · have hlti : ¬ ((i : Int) < (j : Int)) := by omega
              obtain rfl : i = j := by omega
              have hfs : (i : Int) - 1 = ((i - 1 : Nat) : Int) := by omega
              have HA := free_any wr (lkV ho hn hc wq wn wc) (Hr i) (Wr i TT (!sh) i) ⟨_, _, _, _, _, _, rfl, RD.h, RD.w⟩ (by omega) (by omega) ((i : Int) - 1)
              have hfr : wo (Hr i) ((i : Int) - 1) = Hr (i - 1) := by rw [hfs]; exact Hr_free hN2
              obtain ⟨WW, hWW⟩ : ∃ WW, wo (Wr i TT (!sh) i) ((i : Int) - 1) = WW := ⟨_, rfl⟩
              unfold lkV at HA
              rw [hfr, hWW] at HA
              have hWWh := Lib.hid hWW
              clear hfr hWW hfs
              go_upto_region 28 with (go_at_call 59; refine HA.mono ?_; rintro e v3 ⟨_, rfl, ⟨qo3, qn3, qc3, ro3, rn3, rc3, rfl, j13, j23, g13, g23⟩, b3⟩; unfold lkV; have Y3 := X1.past b3; obtain ⟨d0, d1⟩ := Y3.c; obtain ⟨e0, e1⟩ := Y3.free)
              have hBw := Nat.le_trans hp0 B.size
              have A2 := LkAt.store Y3 j13 j23 g13 g23 X1.lt
              have B2 := LkAt.below (B.trans (b3.mono hBw)) p hpp (Nat.le_trans hBw b3.size) (.slice qo3 qn3 qc3) (.slice ro3 rn3 rc3)
              clear c0 c1 d0 d1 e0 e1 HA
              generalize (v3.setCell ⟨p, 0, none⟩ (.slice qo3 qn3 qc3)).setCell ⟨p, 1, none⟩ (.slice ro3 rn3 rc3) = u3 at A2 B2 ⊢
              clear Y3 j13 j23 g13 g23 b3 X1 RD A B
              go_wp2_with fail
              go_loopw [19] (fun zs wr => ∃ q : Nat, q ≤ i ∧ zs = .int .i64 (q : Nat) ∧ LkAt wr p (Hr (i - 1)) WW ∧ Below p0 w wr) (fun zs _ => i - (intOf zs).toNat)
              case atStart => exact ⟨0, by omega, rfl, A2, B2⟩
              case round =>
                clear A2 B2
                obtain ⟨q, hq, rfl, A, B⟩ := hrel
                obtain ⟨ho, hn, hc, wq, wn, wc, X1, RD⟩ := A.rd
                obtain ⟨c0, c1⟩ := X1.c
                have hl3 := Hr_len (i - 1)
                have hWl : WW.length ≤ 10000 := by
                  rw [← hWWh.out]
                  have := wo_length (Wr i TT (!sh) i) ((i : Int) - 1)
                  omega
                have hWw : ∀ y ∈ WW, (Lit.int .i64 y.s).wf = true := by rw [← hWWh.out]; exact wo_wf (Wr_wf i TT (!sh) i (by omega) hN7) _
                by_cases hlt : q < i
                · have hlti : (q : Int) < (i : Int) := by omega
                  have HV := victim_any wr (lkV ho hn hc wq wn wc) (Hr (i - 1)) WW ⟨_, _, _, _, _, _, rfl, RD.h, RD.w⟩ (by omega) hWl (Hr_wf _ (by omega)) hWw (q : Nat) (wf_sm (by omega))
                  unfold lkV at HV
                  have HVn : Vic (Hr (i - 1)) WW (q : Nat) 0 false := by
                    rw [← hWWh.out, show (i : Int) - 1 = ((i - 1 : Nat) : Int) by omega]
                    exact ring_freed hN2 hN7
                  go_wp2_with (go_at_call 64; refine HV.mono ?_; rintro e w3 ⟨x, ok, rfl, hv, b3⟩; obtain ⟨rfl, rfl⟩ := hv.unique HVn)
                  go_roundw
                  case rel => exact ⟨q + 1, by omega, by go_num, A.past b3, B.trans (b3.mono (Nat.le_trans hp0 B.size))⟩
                  case measure => simp [intOf]; omega
                · have hlti : ¬ ((q : Int) < (i : Int)) := by omega
                  go_wp2_with fail
                  go_ret
                  exact ⟨rfl, by rw [HP.out]; exact B⟩
end Go.Proofs.Ytckfkgmlifnfkaa
