/-
  LockNobody, walked (by gen_lnobody.py).
-/
import Derived.Test.YtckfkgmlifnfkaaRdB
import Derived.Test.YtckfkgmlifnfkaaKLq
import Derived.Test.YtckfkgmlifnfkaaLLShared
namespace Go.Proofs.Ytckfkgmlifnfkaa
open Go.RowKit
set_option linter.unusedSimpArgs false
theorem wf_sm' {x : Int} (h : 0 ≤ x ∧ x < 8) : (Lit.int .i64 x).wf = true := WalkArith.wf_i64 (by omega)
/-- What stands while the region's operations come up. -/
inductive Nobody7 (B : Nat) (p : Nat) (ho : Option Addr) (hn : Nat) (hc : Nat) (wq : Option Addr) (wn : Nat) (wc : Nat) (ab : Bool) (H0 : List Hd) (W0 : List Hd) (H1 : List Hd) (W1 : List Hd) (ag : Nat) (aoff : Nat) (n : Nat) (c : Nat) (i : Nat) (k : Int) (ks : Int) (kt : Int) (kx : Bool) (s : Int) (t : List UInt8) (x : Bool) (a0 : Act) (w0 : World) (L : Array Bool) (a : Act) (w : World) : Prop
  | mk (b0 b1 b2 b3 b4 b5 b6 b7 b8 b9 b10 b11 b12 : Bool) (x30 x31 x32 x33 x34 x35 x36 x29 x37 x38 x7 x8 : Value) (qo : Option Addr) (qn : Nat) (qc : Nat) (ro : Option Addr) (rn : Nat) (rc : Nat) (gu : Nat) (hL : L = #[b0, b1, b2, b3, b4, b5, b6, b7, b8, b9, b10, b11, b12]) (ha : a = ⟨((((((((((((a0.tmps.setIfInBounds 30 x30).setIfInBounds 31 x31).setIfInBounds 32 x32).setIfInBounds 33 x33).setIfInBounds 34 x34).setIfInBounds 35 x35).setIfInBounds 36 x36).setIfInBounds 29 x29).setIfInBounds 37 x37).setIfInBounds 38 x38).setIfInBounds 7 x7).setIfInBounds 8 x8), a0.defers⟩) (hb : Below B w0 w) (cd0 : Hid (b0 = true → x30 = .agg #[.slice ho hn hc, .slice wq wn wc])) (cd1 : Hid (b1 = true → x31 = .slice (some ⟨ag, aoff, none⟩) n c)) (cd2 : Hid (b2 = true → x32 = .int .i64 (i : Nat))) (cd3 : Hid (b3 = true → x33 = .pointer (some ⟨ag, aoff + i * 4, none⟩))) (cd4 : Hid (b4 = true → x34 = .agg #[.int .i64 k, .int .i64 ks, .int .i64 kt, .bool kx])) (cd5 : Hid (b5 = true → x35 = .agg #[.int .i64 s, .string (bsOf t), .bool x])) (cd6 : Hid (b6 = true → x36 = .tuple #[.agg #[.slice qo qn qc, .slice ro rn rc], .bool ab])) (cd7 : Hid (b7 = true → x29 = .tuple #[.agg #[.slice qo qn qc, .slice ro rn rc], .bool ab])) (cd8 : Hid (b8 = true → x37 = .agg #[.slice qo qn qc, .slice ro rn rc])) (cd9 : Hid (b9 = true → x38 = .bool ab)) (cd10 : Hid (b10 = true → x7 = .pointer (some ⟨gu, 0, none⟩))) (cd12 : Hid (b12 = true → x8 = .bool ab)) (f_r : Hid (b6 = true → RdB w B qo qn qc ro rn rc H1 W1)) (f_z : Hid (b10 = true → b11 = false → LkB w gu none 0 0 none 0 0 96)) (f_lg : Hid (b10 = true → B ≤ gu)) (f_lt : Hid (b10 = true → LtB w gu)) (f_ap : Hid (b6 = true → (b10 = true → ApR gu qo qn ro rn))) (f_o : Hid (b11 = true → LkB w gu qo qn qc ro rn rc 96)) (f_qC : Hid (b11 = true → b6 = true)) (f_qA : Hid (b11 = true → b10 = true)) (w_7_6 : Hid (b7 = true → b6 = true)) (w_8_6 : Hid (b8 = true → b6 = true)) : Nobody7 B p ho hn hc wq wn wc ab H0 W0 H1 W1 ag aoff n c i k ks kt kx s t x a0 w0 L a w
set_option maxRecDepth 100000 in
set_option maxHeartbeats 4000000 in
theorem lockNobody_walk (ao : Option Addr) (n c : Nat) (la : List Ac) (s0 : Int) (w : World) (hla : IsR EAc w ao n c la) (_h2 : (Lit.int .i64 s0).wf = true) :
    Calls Try.prog 13 #[.slice ao n c, .int .i64 s0] w fun e w' => e = .returned (.bool true) ∧ Below w.heap.size w w' := by
  go_enter Try.func13, Try.ntmps13
  go_upto_region 3 with (go_at_call 55; refine (known12 _).mono ?_; rintro e w1 ⟨rfl, b1⟩)
  obtain ⟨p0, hp⟩ : ∃ p0, w.heap.size = p0 := ⟨_, rfl⟩
  have HP := Lib.hid hp
  have hp0 : p0 ≤ w.heap.size := by omega
  have A := LkAt.new w1
  have B : Below p0 w (w1.alloc (.cells #[.slice none 0 0, .slice none 0 0] 96)) := by rw [← hp]; exact b1.alloc b1.size _
  have hpp : p0 ≤ w1.heap.size := by rw [← hp]; exact b1.size
  go_upto_region 4 with fail
  generalize w1.alloc (.cells #[.slice none 0 0, .slice none 0 0] 96) = u0 at A B ⊢
  obtain ⟨p, hpv⟩ : ∃ p, w1.heap.size = p := ⟨_, rfl⟩
  rw [hpv] at A hpp
  simp only [hpv]
  clear hp hpv b1
  have hln := hla.len
  have hmx := hla.max
  have hle := hla.le
  unfold maxLen at hmx
  go_wp2_with fail
  go_loopw [6] (fun zs wr => ∃ (i : Nat) (H : List Hd), i ≤ n ∧ i ≤ 30 ∧ zs = .int .i64 (i : Nat) ∧ LkAt wr p H [] ∧ Hid (Sm H ∧ H.length ≤ i) ∧ Below p0 w wr) (fun zs _ => 30 - (intOf zs).toNat)
  case atStart => exact ⟨0, [], by omega, by omega, rfl, A, Lib.hid ⟨Sm.nil, by simp⟩, B⟩
  case round =>
    clear A B
    obtain ⟨i, H, hin, hi30, rfl, A, hG, B⟩ := hrel
    by_cases hlt' : i < n ∧ i < 30
    · obtain ⟨hlt, hlt3⟩ := hlt'
      have hlti : (i : Int) < (n : Int) := by omega
      have hlt3i : (i : Int) < 30 := by omega
      obtain ⟨a, hai⟩ : ∃ a, la[i]? = some a := ⟨la[i]'(by have := hla.len; omega), List.getElem?_eq_getElem _⟩
      obtain ⟨ag, aoff, rfl, hag, hac⟩ := hla.open (by omega) (by decide)
      obtain ⟨a0_, a1_, a2_, a3_⟩ := cells_ac hac i a hai
      have hagp : ag < p0 := by rw [← HP.out]; exact hag
      rw [← B.cell (show (⟨ag, aoff + i * 4, none⟩ : Addr).block < p0 from hagp)] at a0_
      rw [← B.cell (show (⟨ag, aoff + i * 4 + 1, none⟩ : Addr).block < p0 from hagp)] at a1_
      rw [← B.cell (show (⟨ag, aoff + i * 4 + 2, none⟩ : Addr).block < p0 from hagp)] at a2_
      rw [← B.cell (show (⟨ag, aoff + i * 4 + 3, none⟩ : Addr).block < p0 from hagp)] at a3_
      have HD := fun w => hold_any w a
      have hsm := a.small
      obtain ⟨hd, hhd⟩ : ∃ hd, a.hd = hd := ⟨_, rfl⟩
      rw [hhd] at hsm
      simp only [hhd] at HD
      obtain ⟨k, ks, kt, kx⟩ := a
      obtain ⟨s, t, x⟩ := hd
      unfold Hd.val at HD
      simp only at HD a0_ a1_ a2_ a3_ hsm
      clear hac hai hhd
      have hGl := hG.out.2
      go_upto_region 7 with fail
      generalize wr = W at A B a0_ a1_ a2_ a3_ ⊢
      obtain ⟨ho, hn, hc, wq, wn, wc, X, RD⟩ := A.rd
      obtain ⟨H0, hH0⟩ : ∃ z_, z_ = H := ⟨_, rfl⟩
      obtain ⟨W0, hW0⟩ : ∃ z_, z_ = ([] : List Hd) := ⟨_, rfl⟩
      obtain ⟨H1, hH1⟩ : ∃ z_, z_ = askH H ⟨s, t, x⟩ := ⟨_, rfl⟩
      obtain ⟨W1, hW1⟩ : ∃ z_, z_ = askW H [] ⟨s, t, x⟩ := ⟨_, rfl⟩
      obtain ⟨ab, hab⟩ : ∃ z_, z_ = askB H ⟨s, t, x⟩ := ⟨_, rfl⟩
      have hH1h := Lib.hid hH1
      have hW1h := Lib.hid hW1
      have habh := Lib.hid hab
      have HK := fun (w' : World) (hb : Below W.heap.size W.drew w') => ask_rd w' ho hn hc wq wn wc H0 W0 H1 W1 ab ⟨s, t, x⟩ (by rw [hH0, hW0]; exact (RD.past (Below.refl _ _).drew).past hb) (by rw [hH0, hH1]) (by rw [hH0, hW0, hW1]) (by rw [hH0, hab]) (by rw [hH0]; omega) (by rw [hW0]; decide)
      simp only at HK
      have hpB := X.lt
      have hagB : ag < W.heap.size := Nat.lt_of_lt_of_le hagp (Nat.le_trans hp0 B.size)
      have hB0 : W.heap.size ≤ W.heap.size := Nat.le_refl _
      obtain ⟨c0, c1⟩ := X.c
      clear hH0 hW0 hH1 hW1 hab hGl RD
      refine region_inv (Nobody7 W.heap.size p ho hn hc wq wn wc ab H0 W0 H1 W1 ag aoff n c i k ks kt kx s t x) (by kernel_rfl) (by kernel_rfl) ?_ ?_ ?_
      · exact ⟨false, false, false, false, false, false, false, false, false, false, false, false, false, u30, u31, u32, u33, u34, u35, u36, u29, u37, u38, u7, u8, none, 0, 0, none, 0, 0, 0, rfl, (by simp only [Act.put, List.setIfInBounds_toArray, List.set_cons_zero, List.set_cons_succ]), Below.refl _ _, (fun h => by cases h), (fun h => by cases h), (fun h => by cases h), (fun h => by cases h), (fun h => by cases h), (fun h => by cases h), (fun h => by cases h), (fun h => by cases h), (fun h => by cases h), (fun h => by cases h), (fun h => by cases h), (fun h => by cases h), (fun h => by cases h), (fun h => by cases h), (fun h => by cases h), (fun h => by cases h), (fun h => by cases h), (fun h => by cases h), (fun h => by cases h), (fun h => by cases h), (fun h => by cases h), (fun h => by cases h)⟩
      · refine ⟨?_, ?_, ?_, ?_, ?_, ?_, ?_, ?_, ?_, ?_, ?_, ?_, ?_, trivial⟩
        · rintro L a w ⟨b0, b1, b2, b3, b4, b5, b6, b7, b8, b9, b10, b11, b12, x30, x31, x32, x33, x34, x35, x36, x29, x37, x38, x7, x8, qo, qn, qc, ro, rn, rc, gu, rfl, rfl, hb, cd0, cd1, cd2, cd3, cd4, cd5, cd6, cd7, cd8, cd9, cd10, cd12, f_r, f_z, f_lg, f_lt, f_ap, f_o, f_qC, f_qA, w_7_6, w_8_6⟩ hf hd
          have hf' : b0 = false := hf
          subst hf'
          clear hf hd
          try simp only [List.setIfInBounds_toArray, List.set_cons_zero, List.set_cons_succ]
          have z0 := (hb.cell hpB).trans c0
          have z1 := (hb.cell hpB).trans c1
          intro K hK
          rw [if_pos (by rfl)]
          go_simp
          exact hK.out _ _ ⟨true, b1, b2, b3, b4, b5, b6, b7, b8, b9, b10, b11, b12, (.agg #[.slice ho hn hc, .slice wq wn wc]), x31, x32, x33, x34, x35, x36, x29, x37, x38, x7, x8, qo, qn, qc, ro, rn, rc, gu, (by simp only [Act.put, List.setIfInBounds_toArray, List.set_cons_zero, List.set_cons_succ]), (by simp only [Act.put, List.setIfInBounds_toArray, List.set_cons_zero, List.set_cons_succ]), hb, (fun _ => rfl), cd1, cd2, cd3, cd4, cd5, cd6, cd7, cd8, cd9, cd10, cd12, f_r, f_z, f_lg, f_lt, f_ap, f_o, f_qC, f_qA, w_7_6, w_8_6⟩
        · rintro L a w ⟨b0, b1, b2, b3, b4, b5, b6, b7, b8, b9, b10, b11, b12, x30, x31, x32, x33, x34, x35, x36, x29, x37, x38, x7, x8, qo, qn, qc, ro, rn, rc, gu, rfl, rfl, hb, cd0, cd1, cd2, cd3, cd4, cd5, cd6, cd7, cd8, cd9, cd10, cd12, f_r, f_z, f_lg, f_lt, f_ap, f_o, f_qC, f_qA, w_7_6, w_8_6⟩ hf hd
          have hf' : b1 = false := hf
          subst hf'
          clear hf hd
          try simp only [List.setIfInBounds_toArray, List.set_cons_zero, List.set_cons_succ]
          intro K hK
          rw [if_pos (by rfl)]
          go_simp
          exact hK.out _ _ ⟨b0, true, b2, b3, b4, b5, b6, b7, b8, b9, b10, b11, b12, x30, (.slice (some ⟨ag, aoff, none⟩) n c), x32, x33, x34, x35, x36, x29, x37, x38, x7, x8, qo, qn, qc, ro, rn, rc, gu, (by simp only [Act.put, List.setIfInBounds_toArray, List.set_cons_zero, List.set_cons_succ]), (by simp only [Act.put, List.setIfInBounds_toArray, List.set_cons_zero, List.set_cons_succ]), hb, cd0, (fun _ => rfl), cd2, cd3, cd4, cd5, cd6, cd7, cd8, cd9, cd10, cd12, f_r, f_z, f_lg, f_lt, f_ap, f_o, f_qC, f_qA, w_7_6, w_8_6⟩
        · rintro L a w ⟨b0, b1, b2, b3, b4, b5, b6, b7, b8, b9, b10, b11, b12, x30, x31, x32, x33, x34, x35, x36, x29, x37, x38, x7, x8, qo, qn, qc, ro, rn, rc, gu, rfl, rfl, hb, cd0, cd1, cd2, cd3, cd4, cd5, cd6, cd7, cd8, cd9, cd10, cd12, f_r, f_z, f_lg, f_lt, f_ap, f_o, f_qC, f_qA, w_7_6, w_8_6⟩ hf hd
          have hf' : b2 = false := hf
          subst hf'
          clear hf hd
          try simp only [List.setIfInBounds_toArray, List.set_cons_zero, List.set_cons_succ]
          intro K hK
          rw [if_pos (by rfl)]
          go_simp
          exact hK.out _ _ ⟨b0, b1, true, b3, b4, b5, b6, b7, b8, b9, b10, b11, b12, x30, x31, (.int .i64 (i : Nat)), x33, x34, x35, x36, x29, x37, x38, x7, x8, qo, qn, qc, ro, rn, rc, gu, (by simp only [Act.put, List.setIfInBounds_toArray, List.set_cons_zero, List.set_cons_succ]), (by simp only [Act.put, List.setIfInBounds_toArray, List.set_cons_zero, List.set_cons_succ]), hb, cd0, cd1, (fun _ => rfl), cd3, cd4, cd5, cd6, cd7, cd8, cd9, cd10, cd12, f_r, f_z, f_lg, f_lt, f_ap, f_o, f_qC, f_qA, w_7_6, w_8_6⟩
        · rintro L a w ⟨b0, b1, b2, b3, b4, b5, b6, b7, b8, b9, b10, b11, b12, x30, x31, x32, x33, x34, x35, x36, x29, x37, x38, x7, x8, qo, qn, qc, ro, rn, rc, gu, rfl, rfl, hb, cd0, cd1, cd2, cd3, cd4, cd5, cd6, cd7, cd8, cd9, cd10, cd12, f_r, f_z, f_lg, f_lt, f_ap, f_o, f_qC, f_qA, w_7_6, w_8_6⟩ hf hd
          have hf' : b3 = false := hf
          subst hf'
          have d1 : b1 = true := hd ⟨1, .data⟩ (by simp) rfl
          subst d1
          have d2 : b2 = true := hd ⟨2, .data⟩ (by simp) rfl
          subst d2
          obtain rfl := cd1.out rfl
          obtain rfl := cd2.out rfl
          clear hf hd
          try simp only [List.setIfInBounds_toArray, List.set_cons_zero, List.set_cons_succ]
          intro K hK
          rw [if_pos (by rfl)]
          go_simp
          exact hK.out _ _ ⟨b0, true, true, true, b4, b5, b6, b7, b8, b9, b10, b11, b12, x30, .slice (some ⟨ag, aoff, none⟩) n c, .int .i64 (i : Nat), (.pointer (some ⟨ag, aoff + i * 4, none⟩)), x34, x35, x36, x29, x37, x38, x7, x8, qo, qn, qc, ro, rn, rc, gu, (by simp only [Act.put, List.setIfInBounds_toArray, List.set_cons_zero, List.set_cons_succ]), (by simp only [Act.put, List.setIfInBounds_toArray, List.set_cons_zero, List.set_cons_succ]), hb, cd0, (fun _ => rfl), (fun _ => rfl), (fun _ => rfl), cd4, cd5, cd6, cd7, cd8, cd9, cd10, cd12, f_r, f_z, f_lg, f_lt, f_ap, f_o, f_qC, f_qA, w_7_6, w_8_6⟩
        · rintro L a w ⟨b0, b1, b2, b3, b4, b5, b6, b7, b8, b9, b10, b11, b12, x30, x31, x32, x33, x34, x35, x36, x29, x37, x38, x7, x8, qo, qn, qc, ro, rn, rc, gu, rfl, rfl, hb, cd0, cd1, cd2, cd3, cd4, cd5, cd6, cd7, cd8, cd9, cd10, cd12, f_r, f_z, f_lg, f_lt, f_ap, f_o, f_qC, f_qA, w_7_6, w_8_6⟩ hf hd
          have hf' : b4 = false := hf
          subst hf'
          have d3 : b3 = true := hd ⟨3, .data⟩ (by simp) rfl
          subst d3
          obtain rfl := cd3.out rfl
          clear hf hd
          try simp only [List.setIfInBounds_toArray, List.set_cons_zero, List.set_cons_succ]
          have z0 := (hb.cell hagB).trans a0_
          have z1 := (hb.cell hagB).trans a1_
          have z2 := (hb.cell hagB).trans a2_
          have z3 := (hb.cell hagB).trans a3_
          intro K hK
          rw [if_pos (by rfl)]
          go_simp
          exact hK.out _ _ ⟨b0, b1, b2, true, true, b5, b6, b7, b8, b9, b10, b11, b12, x30, x31, x32, .pointer (some ⟨ag, aoff + i * 4, none⟩), (.agg #[.int .i64 k, .int .i64 ks, .int .i64 kt, .bool kx]), x35, x36, x29, x37, x38, x7, x8, qo, qn, qc, ro, rn, rc, gu, (by simp only [Act.put, List.setIfInBounds_toArray, List.set_cons_zero, List.set_cons_succ]), (by simp only [Act.put, List.setIfInBounds_toArray, List.set_cons_zero, List.set_cons_succ]), hb, cd0, cd1, cd2, (fun _ => rfl), (fun _ => rfl), cd5, cd6, cd7, cd8, cd9, cd10, cd12, f_r, f_z, f_lg, f_lt, f_ap, f_o, f_qC, f_qA, w_7_6, w_8_6⟩
        · rintro L a w ⟨b0, b1, b2, b3, b4, b5, b6, b7, b8, b9, b10, b11, b12, x30, x31, x32, x33, x34, x35, x36, x29, x37, x38, x7, x8, qo, qn, qc, ro, rn, rc, gu, rfl, rfl, hb, cd0, cd1, cd2, cd3, cd4, cd5, cd6, cd7, cd8, cd9, cd10, cd12, f_r, f_z, f_lg, f_lt, f_ap, f_o, f_qC, f_qA, w_7_6, w_8_6⟩ hf hd
          have hf' : b5 = false := hf
          subst hf'
          have d4 : b4 = true := hd ⟨4, .data⟩ (by simp) rfl
          subst d4
          obtain rfl := cd4.out rfl
          clear hf hd
          try simp only [List.setIfInBounds_toArray, List.set_cons_zero, List.set_cons_succ]
          intro K hK
          rw [if_pos (by rfl)]
          go_simp
          go_at_call 56
          refine (HD _).mono ?_
          rintro e w' ⟨rfl, bx⟩
          exact hK.out _ _ ⟨b0, b1, b2, b3, true, true, b6, b7, b8, b9, b10, b11, b12, x30, x31, x32, x33, .agg #[.int .i64 k, .int .i64 ks, .int .i64 kt, .bool kx], (.agg #[.int .i64 s, .string (bsOf t), .bool x]), x36, x29, x37, x38, x7, x8, qo, qn, qc, ro, rn, rc, gu, (by simp only [Act.put, List.setIfInBounds_toArray, List.set_cons_zero, List.set_cons_succ]), (by simp only [Act.put, List.setIfInBounds_toArray, List.set_cons_zero, List.set_cons_succ]), hb.trans (bx.mono (Nat.le_trans hB0 hb.size)), cd0, cd1, cd2, cd3, (fun _ => rfl), (fun _ => rfl), cd6, cd7, cd8, cd9, cd10, cd12, (fun h0 => (f_r.out h0).past bx), (fun h0 h1 => (f_z.out h0 h1).past bx), f_lg, (fun h0 => (f_lt.out h0).past bx), f_ap, (fun h0 => (f_o.out h0).past bx), f_qC, f_qA, w_7_6, w_8_6⟩
        · rintro L a w ⟨b0, b1, b2, b3, b4, b5, b6, b7, b8, b9, b10, b11, b12, x30, x31, x32, x33, x34, x35, x36, x29, x37, x38, x7, x8, qo, qn, qc, ro, rn, rc, gu, rfl, rfl, hb, cd0, cd1, cd2, cd3, cd4, cd5, cd6, cd7, cd8, cd9, cd10, cd12, f_r, f_z, f_lg, f_lt, f_ap, f_o, f_qC, f_qA, w_7_6, w_8_6⟩ hf hd
          have hf' : b6 = false := hf
          subst hf'
          have d0 : b0 = true := hd ⟨0, .data⟩ (by simp) rfl
          subst d0
          have d5 : b5 = true := hd ⟨5, .data⟩ (by simp) rfl
          subst d5
          obtain rfl := cd0.out rfl
          obtain rfl := cd5.out rfl
          clear hf hd
          try simp only [List.setIfInBounds_toArray, List.set_cons_zero, List.set_cons_succ]
          intro K hK
          rw [if_pos (by rfl)]
          go_simp
          go_at_call 61
          refine (HK _ hb).mono ?_
          rintro e w' ⟨_, rfl, ⟨qo3, qn3, qc3, ro3, rn3, rc3, rfl, j1, j2, g1, g2⟩, bx⟩
          unfold lkV
          have r9 : RdB w' w.heap.size qo3 qn3 qc3 ro3 rn3 rc3 H1 W1 := ⟨j1, j2, g1, g2⟩
          have e_7 : b7 = false := by cases hq : b7 with | false => rfl | true => exact absurd (w_7_6.out hq) (by simp)
          subst e_7
          have e_8 : b8 = false := by cases hq : b8 with | false => rfl | true => exact absurd (w_8_6.out hq) (by simp)
          subst e_8
          exact hK.out _ _ ⟨true, b1, b2, b3, b4, true, true, false, false, b9, b10, b11, b12, .agg #[.slice ho hn hc, .slice wq wn wc], x31, x32, x33, x34, .agg #[.int .i64 s, .string (bsOf t), .bool x], (.tuple #[.agg #[.slice qo3 qn3 qc3, .slice ro3 rn3 rc3], .bool ab]), x29, x37, x38, x7, x8, qo3, qn3, qc3, ro3, rn3, rc3, gu, (by simp only [Act.put, List.setIfInBounds_toArray, List.set_cons_zero, List.set_cons_succ]), (by simp only [Act.put, List.setIfInBounds_toArray, List.set_cons_zero, List.set_cons_succ]), hb.trans (bx.mono (Nat.le_trans hB0 hb.size)), (fun _ => rfl), cd1, cd2, cd3, cd4, (fun _ => rfl), (fun _ => rfl), (fun h => by cases h), (fun h => by cases h), cd9, cd10, cd12, (fun _ => r9.mono hb.size), (fun h0 h1 => (f_z.out h0 h1).past bx), f_lg, (fun h0 => (f_lt.out h0).past bx), (fun _ => fun h => r9.ap (f_lt.out h)), (fun h0 => absurd (f_qC.out h0) (by simp)), (fun _ => rfl), f_qA, (fun _ => rfl), (fun _ => rfl)⟩
        · rintro L a w ⟨b0, b1, b2, b3, b4, b5, b6, b7, b8, b9, b10, b11, b12, x30, x31, x32, x33, x34, x35, x36, x29, x37, x38, x7, x8, qo, qn, qc, ro, rn, rc, gu, rfl, rfl, hb, cd0, cd1, cd2, cd3, cd4, cd5, cd6, cd7, cd8, cd9, cd10, cd12, f_r, f_z, f_lg, f_lt, f_ap, f_o, f_qC, f_qA, w_7_6, w_8_6⟩ hf hd
          have hf' : b7 = false := hf
          subst hf'
          have d6 : b6 = true := hd ⟨6, .data⟩ (by simp) rfl
          subst d6
          obtain rfl := cd6.out rfl
          clear hf hd
          have W_r := f_r.out rfl
          have W_ap := f_ap.out rfl
          try simp only [List.setIfInBounds_toArray, List.set_cons_zero, List.set_cons_succ]
          intro K hK
          rw [if_pos (by rfl)]
          go_simp
          exact hK.out _ _ ⟨b0, b1, b2, b3, b4, b5, true, true, b8, b9, b10, b11, b12, x30, x31, x32, x33, x34, x35, .tuple #[.agg #[.slice qo qn qc, .slice ro rn rc], .bool ab], (.tuple #[.agg #[.slice qo qn qc, .slice ro rn rc], .bool ab]), x37, x38, x7, x8, qo, qn, qc, ro, rn, rc, gu, (by simp only [Act.put, List.setIfInBounds_toArray, List.set_cons_zero, List.set_cons_succ]), (by simp only [Act.put, List.setIfInBounds_toArray, List.set_cons_zero, List.set_cons_succ]), hb, cd0, cd1, cd2, cd3, cd4, cd5, (fun _ => rfl), (fun _ => rfl), cd8, cd9, cd10, cd12, f_r, f_z, f_lg, f_lt, f_ap, f_o, f_qC, f_qA, (fun _ => rfl), (fun _ => rfl)⟩
        · rintro L a w ⟨b0, b1, b2, b3, b4, b5, b6, b7, b8, b9, b10, b11, b12, x30, x31, x32, x33, x34, x35, x36, x29, x37, x38, x7, x8, qo, qn, qc, ro, rn, rc, gu, rfl, rfl, hb, cd0, cd1, cd2, cd3, cd4, cd5, cd6, cd7, cd8, cd9, cd10, cd12, f_r, f_z, f_lg, f_lt, f_ap, f_o, f_qC, f_qA, w_7_6, w_8_6⟩ hf hd
          have hf' : b8 = false := hf
          subst hf'
          have d7 : b7 = true := hd ⟨7, .data⟩ (by simp) rfl
          subst d7
          obtain rfl := cd7.out rfl
          clear hf hd
          try simp only [List.setIfInBounds_toArray, List.set_cons_zero, List.set_cons_succ]
          intro K hK
          rw [if_pos (by rfl)]
          go_simp
          exact hK.out _ _ ⟨b0, b1, b2, b3, b4, b5, b6, true, true, b9, b10, b11, b12, x30, x31, x32, x33, x34, x35, x36, .tuple #[.agg #[.slice qo qn qc, .slice ro rn rc], .bool ab], (.agg #[.slice qo qn qc, .slice ro rn rc]), x38, x7, x8, qo, qn, qc, ro, rn, rc, gu, (by simp only [Act.put, List.setIfInBounds_toArray, List.set_cons_zero, List.set_cons_succ]), (by simp only [Act.put, List.setIfInBounds_toArray, List.set_cons_zero, List.set_cons_succ]), hb, cd0, cd1, cd2, cd3, cd4, cd5, cd6, (fun _ => rfl), (fun _ => rfl), cd9, cd10, cd12, f_r, f_z, f_lg, f_lt, f_ap, f_o, f_qC, f_qA, w_7_6, (fun _ => w_7_6.out rfl)⟩
        · rintro L a w ⟨b0, b1, b2, b3, b4, b5, b6, b7, b8, b9, b10, b11, b12, x30, x31, x32, x33, x34, x35, x36, x29, x37, x38, x7, x8, qo, qn, qc, ro, rn, rc, gu, rfl, rfl, hb, cd0, cd1, cd2, cd3, cd4, cd5, cd6, cd7, cd8, cd9, cd10, cd12, f_r, f_z, f_lg, f_lt, f_ap, f_o, f_qC, f_qA, w_7_6, w_8_6⟩ hf hd
          have hf' : b9 = false := hf
          subst hf'
          have d7 : b7 = true := hd ⟨7, .data⟩ (by simp) rfl
          subst d7
          obtain rfl := cd7.out rfl
          clear hf hd
          try simp only [List.setIfInBounds_toArray, List.set_cons_zero, List.set_cons_succ]
          intro K hK
          rw [if_pos (by rfl)]
          go_simp
          exact hK.out _ _ ⟨b0, b1, b2, b3, b4, b5, b6, true, b8, true, b10, b11, b12, x30, x31, x32, x33, x34, x35, x36, .tuple #[.agg #[.slice qo qn qc, .slice ro rn rc], .bool ab], x37, (.bool ab), x7, x8, qo, qn, qc, ro, rn, rc, gu, (by simp only [Act.put, List.setIfInBounds_toArray, List.set_cons_zero, List.set_cons_succ]), (by simp only [Act.put, List.setIfInBounds_toArray, List.set_cons_zero, List.set_cons_succ]), hb, cd0, cd1, cd2, cd3, cd4, cd5, cd6, (fun _ => rfl), cd8, (fun _ => rfl), cd10, cd12, f_r, f_z, f_lg, f_lt, f_ap, f_o, f_qC, f_qA, w_7_6, w_8_6⟩
        · rintro L a w ⟨b0, b1, b2, b3, b4, b5, b6, b7, b8, b9, b10, b11, b12, x30, x31, x32, x33, x34, x35, x36, x29, x37, x38, x7, x8, qo, qn, qc, ro, rn, rc, gu, rfl, rfl, hb, cd0, cd1, cd2, cd3, cd4, cd5, cd6, cd7, cd8, cd9, cd10, cd12, f_r, f_z, f_lg, f_lt, f_ap, f_o, f_qC, f_qA, w_7_6, w_8_6⟩ hf hd
          have hf' : b10 = false := hf
          subst hf'
          clear hf hd
          try simp only [List.setIfInBounds_toArray, List.set_cons_zero, List.set_cons_succ]
          have KL : ∀ h : b6 = true, RdB w W.heap.size qo qn qc ro rn rc H1 W1 := fun h => f_r.out h
          intro K hK
          rw [if_pos (by rfl)]
          go_simp
          have bx : Below w.heap.size w (w.alloc (.cells #[.slice none 0 0, .slice none 0 0] 96)) := (Below.refl _ _).alloc (Nat.le_refl _) _
          exact hK.out _ _ ⟨b0, b1, b2, b3, b4, b5, b6, b7, b8, b9, true, b11, b12, x30, x31, x32, x33, x34, x35, x36, x29, x37, x38, (.pointer (some ⟨(w.heap.size), 0, none⟩)), x8, qo, qn, qc, ro, rn, rc, w.heap.size, (by simp only [Act.put, List.setIfInBounds_toArray, List.set_cons_zero, List.set_cons_succ]), (by simp only [Act.put, List.setIfInBounds_toArray, List.set_cons_zero, List.set_cons_succ]), hb.trans (bx.mono (Nat.le_trans hB0 hb.size)), cd0, cd1, cd2, cd3, cd4, cd5, cd6, cd7, cd8, cd9, (fun _ => rfl), cd12, (fun h0 => (f_r.out h0).past bx), (fun _ _ => LkB.new w none 0 0 none 0 0 _), (fun _ => hb.size), (fun _ => (by show _ < _; rw [World.size_alloc]; omega)), (fun h0 _ => (f_r.out h0).apNew (Nat.le_refl _)), (fun h0 => absurd (f_qA.out h0) (by simp)), f_qC, (fun _ => rfl), w_7_6, w_8_6⟩
        · rintro L a w ⟨b0, b1, b2, b3, b4, b5, b6, b7, b8, b9, b10, b11, b12, x30, x31, x32, x33, x34, x35, x36, x29, x37, x38, x7, x8, qo, qn, qc, ro, rn, rc, gu, rfl, rfl, hb, cd0, cd1, cd2, cd3, cd4, cd5, cd6, cd7, cd8, cd9, cd10, cd12, f_r, f_z, f_lg, f_lt, f_ap, f_o, f_qC, f_qA, w_7_6, w_8_6⟩ hf hd
          have hf' : b11 = false := hf
          subst hf'
          have d10 : b10 = true := hd ⟨10, .data⟩ (by simp) rfl
          subst d10
          have d8 : b8 = true := hd ⟨8, .data⟩ (by simp) rfl
          subst d8
          have d6 : b6 = true := hd ⟨6, .chain⟩ (by simp) rfl
          subst d6
          have d0 : b0 = true := hd ⟨0, .phase⟩ (by simp) rfl
          subst d0
          have d1 : b1 = true := hd ⟨1, .phase⟩ (by simp) rfl
          subst d1
          have d2 : b2 = true := hd ⟨2, .phase⟩ (by simp) rfl
          subst d2
          have d3 : b3 = true := hd ⟨3, .phase⟩ (by simp) rfl
          subst d3
          have d4 : b4 = true := hd ⟨4, .phase⟩ (by simp) rfl
          subst d4
          have d5 : b5 = true := hd ⟨5, .phase⟩ (by simp) rfl
          subst d5
          have d7 : b7 = true := hd ⟨7, .phase⟩ (by simp) rfl
          subst d7
          obtain rfl := cd10.out rfl
          obtain rfl := cd8.out rfl
          obtain rfl := cd6.out rfl
          obtain rfl := cd0.out rfl
          obtain rfl := cd1.out rfl
          obtain rfl := cd2.out rfl
          obtain rfl := cd3.out rfl
          obtain rfl := cd4.out rfl
          obtain rfl := cd5.out rfl
          obtain rfl := cd7.out rfl
          clear hf hd
          have W_r := f_r.out rfl
          have W_z := f_z.out rfl rfl
          have W_lg := f_lg.out rfl
          have W_lt := f_lt.out rfl
          have W_ap := f_ap.out rfl
          try simp only [List.setIfInBounds_toArray, List.set_cons_zero, List.set_cons_succ]
          intro K hK
          rw [if_pos (by rfl)]
          refine wp_store_lk _ _ rfl gu none 0 0 none 0 0 rfl qo qn qc ro rn rc rfl (Lib.hid W_z) fun w2 h8 g8 => ?_
          have hb2 := hb.grown g8 (Nat.le_trans hB0 hb.size) (fun z hz => by cases hz; exact W_lg)
          exact hK.out _ _ ⟨true, true, true, true, true, true, true, true, true, b9, true, true, b12, .agg #[.slice ho hn hc, .slice wq wn wc], .slice (some ⟨ag, aoff, none⟩) n c, .int .i64 (i : Nat), .pointer (some ⟨ag, aoff + i * 4, none⟩), .agg #[.int .i64 k, .int .i64 ks, .int .i64 kt, .bool kx], .agg #[.int .i64 s, .string (bsOf t), .bool x], .tuple #[.agg #[.slice qo qn qc, .slice ro rn rc], .bool ab], .tuple #[.agg #[.slice qo qn qc, .slice ro rn rc], .bool ab], .agg #[.slice qo qn qc, .slice ro rn rc], x38, .pointer (some ⟨gu, 0, none⟩), x8, qo, qn, qc, ro, rn, rc, gu, (by simp only [Act.put, List.setIfInBounds_toArray, List.set_cons_zero, List.set_cons_succ]), (by simp only [Act.put, List.setIfInBounds_toArray, List.set_cons_zero, List.set_cons_succ]), hb2, (fun _ => rfl), (fun _ => rfl), (fun _ => rfl), (fun _ => rfl), (fun _ => rfl), (fun _ => rfl), (fun _ => rfl), (fun _ => rfl), (fun _ => rfl), cd9, (fun _ => rfl), cd12, (fun h0 => ((f_r.out h0)).far g8 (f_ap.out h0 rfl)), (fun _ h => by cases h), f_lg, (fun h0 => Nat.lt_of_lt_of_le ((f_lt.out h0)) g8.size), f_ap, (fun _ => h8), (fun _ => rfl), (fun _ => rfl), (fun _ => rfl), (fun _ => rfl)⟩
        · rintro L a w ⟨b0, b1, b2, b3, b4, b5, b6, b7, b8, b9, b10, b11, b12, x30, x31, x32, x33, x34, x35, x36, x29, x37, x38, x7, x8, qo, qn, qc, ro, rn, rc, gu, rfl, rfl, hb, cd0, cd1, cd2, cd3, cd4, cd5, cd6, cd7, cd8, cd9, cd10, cd12, f_r, f_z, f_lg, f_lt, f_ap, f_o, f_qC, f_qA, w_7_6, w_8_6⟩ hf hd
          have hf' : b12 = false := hf
          subst hf'
          have d9 : b9 = true := hd ⟨9, .data⟩ (by simp) rfl
          subst d9
          have d11 : b11 = true := hd ⟨11, .chain⟩ (by simp) rfl
          subst d11
          have d0 : b0 = true := hd ⟨0, .phase⟩ (by simp) rfl
          subst d0
          have d1 : b1 = true := hd ⟨1, .phase⟩ (by simp) rfl
          subst d1
          have d2 : b2 = true := hd ⟨2, .phase⟩ (by simp) rfl
          subst d2
          have d3 : b3 = true := hd ⟨3, .phase⟩ (by simp) rfl
          subst d3
          have d4 : b4 = true := hd ⟨4, .phase⟩ (by simp) rfl
          subst d4
          have d5 : b5 = true := hd ⟨5, .phase⟩ (by simp) rfl
          subst d5
          have d6 : b6 = true := hd ⟨6, .phase⟩ (by simp) rfl
          subst d6
          have d7 : b7 = true := hd ⟨7, .phase⟩ (by simp) rfl
          subst d7
          have d8 : b8 = true := hd ⟨8, .phase⟩ (by simp) rfl
          subst d8
          have d10 : b10 = true := hd ⟨10, .phase⟩ (by simp) rfl
          subst d10
          obtain rfl := cd9.out rfl
          obtain rfl := cd0.out rfl
          obtain rfl := cd1.out rfl
          obtain rfl := cd2.out rfl
          obtain rfl := cd3.out rfl
          obtain rfl := cd4.out rfl
          obtain rfl := cd5.out rfl
          obtain rfl := cd6.out rfl
          obtain rfl := cd7.out rfl
          obtain rfl := cd8.out rfl
          obtain rfl := cd10.out rfl
          clear hf hd
          have W_r := f_r.out rfl
          have W_lg := f_lg.out rfl
          have W_lt := f_lt.out rfl
          have W_ap := f_ap.out rfl
          have W_o := f_o.out rfl
          have W_qC := f_qC.out rfl
          have W_qA := f_qA.out rfl
          try simp only [List.setIfInBounds_toArray, List.set_cons_zero, List.set_cons_succ]
          intro K hK
          rw [if_pos (by rfl)]
          go_simp
          exact hK.out _ _ ⟨true, true, true, true, true, true, true, true, true, true, true, true, true, .agg #[.slice ho hn hc, .slice wq wn wc], .slice (some ⟨ag, aoff, none⟩) n c, .int .i64 (i : Nat), .pointer (some ⟨ag, aoff + i * 4, none⟩), .agg #[.int .i64 k, .int .i64 ks, .int .i64 kt, .bool kx], .agg #[.int .i64 s, .string (bsOf t), .bool x], .tuple #[.agg #[.slice qo qn qc, .slice ro rn rc], .bool ab], .tuple #[.agg #[.slice qo qn qc, .slice ro rn rc], .bool ab], .agg #[.slice qo qn qc, .slice ro rn rc], .bool ab, .pointer (some ⟨gu, 0, none⟩), (.bool ab), qo, qn, qc, ro, rn, rc, gu, (by simp only [Act.put, List.setIfInBounds_toArray, List.set_cons_zero, List.set_cons_succ]), (by simp only [Act.put, List.setIfInBounds_toArray, List.set_cons_zero, List.set_cons_succ]), hb, (fun _ => rfl), (fun _ => rfl), (fun _ => rfl), (fun _ => rfl), (fun _ => rfl), (fun _ => rfl), (fun _ => rfl), (fun _ => rfl), (fun _ => rfl), (fun _ => rfl), (fun _ => rfl), (fun _ => rfl), f_r, (fun _ h => by cases h), f_lg, f_lt, f_ap, f_o, f_qC, f_qA, (fun _ => rfl), (fun _ => rfl)⟩
      · rintro act V ⟨b0, b1, b2, b3, b4, b5, b6, b7, b8, b9, b10, b11, b12, x30, x31, x32, x33, x34, x35, x36, x29, x37, x38, x7, x8, qo, qn, qc, ro, rn, rc, gu, hL, rfl, hb, cd0, cd1, cd2, cd3, cd4, cd5, cd6, cd7, cd8, cd9, cd10, cd12, f_r, f_z, f_lg, f_lt, f_ap, f_o, f_qC, f_qA, w_7_6, w_8_6⟩
        have hL' : [true, true, true, true, true, true, true, true, true, true, true, true, true] = [b0, b1, b2, b3, b4, b5, b6, b7, b8, b9, b10, b11, b12] := congrArg Array.toList hL
        simp only [List.cons.injEq, and_true] at hL'
        obtain ⟨rfl, rfl, rfl, rfl, rfl, rfl, rfl, rfl, rfl, rfl, rfl, rfl, rfl⟩ := hL'
        obtain rfl := cd0.out rfl
        obtain rfl := cd1.out rfl
        obtain rfl := cd2.out rfl
        obtain rfl := cd3.out rfl
        obtain rfl := cd4.out rfl
        obtain rfl := cd5.out rfl
        obtain rfl := cd6.out rfl
        obtain rfl := cd7.out rfl
        obtain rfl := cd8.out rfl
        obtain rfl := cd9.out rfl
        obtain rfl := cd10.out rfl
        obtain rfl := cd12.out rfl
        have W_r := f_r.out rfl
        have W_lg := f_lg.out rfl
        have W_lt := f_lt.out rfl
        have W_ap := f_ap.out rfl
        have W_o := f_o.out rfl
        have W_qC := f_qC.out rfl
        have W_qA := f_qA.out rfl
        clear hL f_r f_z f_lg f_lt f_ap f_o f_qC f_qA cd0 cd1 cd2 cd3 cd4 cd5 cd6 cd7 cd8 cd9 cd10 cd12 w_7_6 w_8_6
        simp only [List.setIfInBounds_toArray, List.set_cons_zero, List.set_cons_succ]
        have BV : Below W.heap.size W V := (Below.refl _ _).drew.trans hb
        have XV := X.past BV
        have AV := A.past BV
        have B3 := B.trans (BV.mono (Nat.le_trans hp0 B.size))
        have hpW' := X.lt
        clear hb c0 c1
        obtain ⟨c0, c1⟩ := W_o.c
        obtain ⟨d0, d1⟩ := XV.c
        obtain ⟨e0, e1⟩ := XV.free
        have A2 := LkAt.store XV W_r.h W_r.w W_r.gh W_r.gw hpW'
        rw [hH1h.out, hW1h.out] at A2
        have B2 := LkAt.below B3 p hpp (Nat.le_trans hp0 B3.size) (.slice qo qn qc) (.slice ro rn rc)
        cases ab
        · have G2 : Hid (Sm H ∧ H.length ≤ i + 1) := Lib.hid ⟨hG.out.1, by have := hG.out.2; omega⟩
          clear A2 B2 hG
          go_wp2_with fail
          go_roundw
          case rel => exact ⟨i + 1, H, by omega, by omega, by go_num, AV, G2, B3⟩
          case measure => simp [intOf]; omega
        · have G2 : Hid (Sm (askH H ⟨s, t, x⟩) ∧ (askH H ⟨s, t, x⟩).length ≤ i + 1) := Lib.hid ⟨hG.out.1.askH hsm, by have := hG.out.2; have := askH_length H ⟨s, t, x⟩; omega⟩
          rw [askW_true habh.out.symm] at A2
          clear hG AV
          go_wp2_with fail
          go_roundw
          case rel => exact ⟨i + 1, _, by omega, by omega, by go_num, A2, G2, B2⟩
          case measure => simp [intOf]; omega
    · by_cases hlt : i < n
      · have hlti : (i : Int) < (n : Int) := by omega
        have hlt3i : ¬ ((i : Int) < 30) := by omega
        have hGl := hG.out.2
        have HW := fun w => within12_any s0 8 w (by decide) (by decide)
        have hS := wth_range s0 8 (by decide)
        obtain ⟨S, hSd⟩ : ∃ S, wth s0 8 = S := ⟨_, rfl⟩
        rw [hSd] at hS
        simp only [hSd] at HW
        clear hSd hlt'
        have bZ : Below wr.heap.size wr (wr.alloc (.cells #[.int .i64 S, .string ⟨#[97]⟩, .bool true] 101)) := (Below.refl _ _).alloc (Nat.le_refl _) _
        have Z : HdB (wr.alloc (.cells #[.int .i64 S, .string ⟨#[97]⟩, .bool true] 101)) wr.heap.size ⟨S, [97], true⟩ 101 := heap_alloc_new wr _
        have A2 := A.past bZ
        have B2 := B.trans (bZ.mono (Nat.le_trans hp0 B.size))
        go_upto_region 11 with (go_at_call 58; refine (HW _).mono ?_; rintro e w2 ⟨rfl, rfl⟩)
        generalize wr.alloc (.cells #[.int .i64 S, .string ⟨#[97]⟩, .bool true] 101) = W at Z A2 B2 ⊢
        obtain ⟨r, hr⟩ : ∃ r, wr.heap.size = r := ⟨_, rfl⟩
        rw [hr] at Z
        simp only [hr]
        clear hr bZ A B HW
        obtain ⟨ho, hn, hc, wq, wn, wc, X, RD⟩ := A2.rd
        obtain ⟨c0, c1⟩ := X.c
        obtain ⟨z0, z1, z2⟩ := Z.c
        simp only at z0 z1 z2
        have HV := victim_any W (lkV ho hn hc wq wn wc) H [] ⟨_, _, _, _, _, _, rfl, RD.h, RD.w⟩ (by omega) (by decide) (fun y hy => wf_sm' (hG.out.1 y hy)) (fun y hy => by simp at hy) S (wf_sm' hS)
        unfold lkV at HV
        go_upto_region 14 with (go_at_call 64; refine HV.mono ?_; rintro e w3 ⟨x, ok, rfl, hv, b3⟩; obtain ⟨rfl, rfl⟩ := hv.unique (vic_none H S))
        have X3 := X.past b3
        have Z3 := Z.past b3
        have RD3 := RD.past b3
        have hBw := Nat.le_trans hp0 B2.size
        have B3 := B2.trans (b3.mono hBw)
        have hBw3 := Nat.le_trans hBw b3.size
        clear HV c0 c1 z0 z1 z2 hv X Z RD A2 B2 b3
        obtain ⟨c0, c1⟩ := X3.c
        obtain ⟨z0, z1, z2⟩ := Z3.c
        simp only at z0 z1 z2
        obtain ⟨H1, hH1⟩ : ∃ z_, z_ = askH H ⟨S, [97], true⟩ := ⟨_, rfl⟩
        obtain ⟨W1, hW1⟩ : ∃ z_, z_ = askW H [] ⟨S, [97], true⟩ := ⟨_, rfl⟩
        obtain ⟨ab, hab⟩ : ∃ z_, z_ = askB H ⟨S, [97], true⟩ := ⟨_, rfl⟩
        have HK := ask_rd w3 ho hn hc wq wn wc H [] H1 W1 ab ⟨S, [97], true⟩ RD3 hH1.symm hW1.symm hab.symm (by omega) (by decide)
        simp only at HK
        have HVn : Vic H1 W1 S 0 false := by rw [hH1, hW1]; exact vic_nobody H _ S
        have hl1 : H1.length ≤ 10000 := by
          have := askH_length H ⟨S, [97], true⟩
          rw [hH1]; omega
        have hl2 : W1.length ≤ 10000 := by
          have := askW_length H [] ⟨S, [97], true⟩
          rw [hW1]; simp at this; omega
        have hs1 : ∀ y ∈ H1, (Lit.int .i64 y.s).wf = true := by rw [hH1]; exact fun y hy => wf_sm' (hG.out.1.askH hS y hy)
        have hs2 : ∀ y ∈ W1, (Lit.int .i64 y.s).wf = true := by rw [hW1]; exact fun y hy => wf_sm' (Sm.nil.askW hS y hy)
        clear hH1 hW1 hab
        go_upto_region 15 with (go_at_call 61; refine HK.mono ?_; rintro e v4 ⟨_, rfl, ⟨qo, qn, qc, ro, rn, rc, rfl, j1, j2, g1, g2⟩, b4⟩; unfold lkV)
        have bA : Below v4.heap.size v4 (v4.alloc (.cells #[.slice qo qn qc, .slice ro rn rc] 96)) := (Below.refl _ _).alloc (Nat.le_refl _) _
        have XB : LkB (v4.alloc (.cells #[.slice qo qn qc, .slice ro rn rc] 96)) v4.heap.size qo qn qc ro rn rc 96 := heap_alloc_new v4 _
        have k1 := j1.past bA
        have k2 := j2.past bA
        have Z4 := (Z3.past b4).past bA
        have B4 := B3.trans ((b4.trans (bA.mono b4.size)).mono hBw3)
        have hBw4 := Nat.le_trans (Nat.le_trans hBw3 b4.size) bA.size
        generalize v4.alloc (.cells #[.slice qo qn qc, .slice ro rn rc] 96) = W5 at XB k1 k2 Z4 B4 hBw4 ⊢
        clear c0 c1 z0 z1 z2
        obtain ⟨c0, c1⟩ := XB.c
        obtain ⟨z0, z1, z2⟩ := Z4.c
        simp only at z0 z1 z2
        have HV := victim_any W5 (lkV qo qn qc ro rn rc) H1 W1 ⟨_, _, _, _, _, _, rfl, k1, k2⟩ hl1 hl2 hs1 hs2 S (wf_sm' hS)
        unfold lkV at HV
        go_wp2_with (go_at_call 64; refine HV.mono ?_; rintro e w6 ⟨x, ok, rfl, hv, b6⟩; obtain ⟨rfl, rfl⟩ := hv.unique HVn)
        go_ret
        exact ⟨rfl, by rw [HP.out]; exact B4.trans (b6.mono hBw4)⟩
      · have hlti : ¬ ((i : Int) < (n : Int)) := by omega
        have hGl := hG.out.2
        have HW := fun w => within12_any s0 8 w (by decide) (by decide)
        have hS := wth_range s0 8 (by decide)
        obtain ⟨S, hSd⟩ : ∃ S, wth s0 8 = S := ⟨_, rfl⟩
        rw [hSd] at hS
        simp only [hSd] at HW
        clear hSd hlt'
        have bZ : Below wr.heap.size wr (wr.alloc (.cells #[.int .i64 S, .string ⟨#[97]⟩, .bool true] 101)) := (Below.refl _ _).alloc (Nat.le_refl _) _
        have Z : HdB (wr.alloc (.cells #[.int .i64 S, .string ⟨#[97]⟩, .bool true] 101)) wr.heap.size ⟨S, [97], true⟩ 101 := heap_alloc_new wr _
        have A2 := A.past bZ
        have B2 := B.trans (bZ.mono (Nat.le_trans hp0 B.size))
        go_upto_region 11 with (go_at_call 58; refine (HW _).mono ?_; rintro e w2 ⟨rfl, rfl⟩)
        generalize wr.alloc (.cells #[.int .i64 S, .string ⟨#[97]⟩, .bool true] 101) = W at Z A2 B2 ⊢
        obtain ⟨r, hr⟩ : ∃ r, wr.heap.size = r := ⟨_, rfl⟩
        rw [hr] at Z
        simp only [hr]
        clear hr bZ A B HW
        obtain ⟨ho, hn, hc, wq, wn, wc, X, RD⟩ := A2.rd
        obtain ⟨c0, c1⟩ := X.c
        obtain ⟨z0, z1, z2⟩ := Z.c
        simp only at z0 z1 z2
        have HV := victim_any W (lkV ho hn hc wq wn wc) H [] ⟨_, _, _, _, _, _, rfl, RD.h, RD.w⟩ (by omega) (by decide) (fun y hy => wf_sm' (hG.out.1 y hy)) (fun y hy => by simp at hy) S (wf_sm' hS)
        unfold lkV at HV
        go_upto_region 14 with (go_at_call 64; refine HV.mono ?_; rintro e w3 ⟨x, ok, rfl, hv, b3⟩; obtain ⟨rfl, rfl⟩ := hv.unique (vic_none H S))
        have X3 := X.past b3
        have Z3 := Z.past b3
        have RD3 := RD.past b3
        have hBw := Nat.le_trans hp0 B2.size
        have B3 := B2.trans (b3.mono hBw)
        have hBw3 := Nat.le_trans hBw b3.size
        clear HV c0 c1 z0 z1 z2 hv X Z RD A2 B2 b3
        obtain ⟨c0, c1⟩ := X3.c
        obtain ⟨z0, z1, z2⟩ := Z3.c
        simp only at z0 z1 z2
        obtain ⟨H1, hH1⟩ : ∃ z_, z_ = askH H ⟨S, [97], true⟩ := ⟨_, rfl⟩
        obtain ⟨W1, hW1⟩ : ∃ z_, z_ = askW H [] ⟨S, [97], true⟩ := ⟨_, rfl⟩
        obtain ⟨ab, hab⟩ : ∃ z_, z_ = askB H ⟨S, [97], true⟩ := ⟨_, rfl⟩
        have HK := ask_rd w3 ho hn hc wq wn wc H [] H1 W1 ab ⟨S, [97], true⟩ RD3 hH1.symm hW1.symm hab.symm (by omega) (by decide)
        simp only at HK
        have HVn : Vic H1 W1 S 0 false := by rw [hH1, hW1]; exact vic_nobody H _ S
        have hl1 : H1.length ≤ 10000 := by
          have := askH_length H ⟨S, [97], true⟩
          rw [hH1]; omega
        have hl2 : W1.length ≤ 10000 := by
          have := askW_length H [] ⟨S, [97], true⟩
          rw [hW1]; simp at this; omega
        have hs1 : ∀ y ∈ H1, (Lit.int .i64 y.s).wf = true := by rw [hH1]; exact fun y hy => wf_sm' (hG.out.1.askH hS y hy)
        have hs2 : ∀ y ∈ W1, (Lit.int .i64 y.s).wf = true := by rw [hW1]; exact fun y hy => wf_sm' (Sm.nil.askW hS y hy)
        clear hH1 hW1 hab
        go_upto_region 15 with (go_at_call 61; refine HK.mono ?_; rintro e v4 ⟨_, rfl, ⟨qo, qn, qc, ro, rn, rc, rfl, j1, j2, g1, g2⟩, b4⟩; unfold lkV)
        have bA : Below v4.heap.size v4 (v4.alloc (.cells #[.slice qo qn qc, .slice ro rn rc] 96)) := (Below.refl _ _).alloc (Nat.le_refl _) _
        have XB : LkB (v4.alloc (.cells #[.slice qo qn qc, .slice ro rn rc] 96)) v4.heap.size qo qn qc ro rn rc 96 := heap_alloc_new v4 _
        have k1 := j1.past bA
        have k2 := j2.past bA
        have Z4 := (Z3.past b4).past bA
        have B4 := B3.trans ((b4.trans (bA.mono b4.size)).mono hBw3)
        have hBw4 := Nat.le_trans (Nat.le_trans hBw3 b4.size) bA.size
        generalize v4.alloc (.cells #[.slice qo qn qc, .slice ro rn rc] 96) = W5 at XB k1 k2 Z4 B4 hBw4 ⊢
        clear c0 c1 z0 z1 z2
        obtain ⟨c0, c1⟩ := XB.c
        obtain ⟨z0, z1, z2⟩ := Z4.c
        simp only at z0 z1 z2
        have HV := victim_any W5 (lkV qo qn qc ro rn rc) H1 W1 ⟨_, _, _, _, _, _, rfl, k1, k2⟩ hl1 hl2 hs1 hs2 S (wf_sm' hS)
        unfold lkV at HV
        go_wp2_with (go_at_call 64; refine HV.mono ?_; rintro e w6 ⟨x, ok, rfl, hv, b6⟩; obtain ⟨rfl, rfl⟩ := hv.unique HVn)
        go_ret
        exact ⟨rfl, by rw [HP.out]; exact B4.trans (b6.mono hBw4)⟩
end Go.Proofs.Ytckfkgmlifnfkaa
