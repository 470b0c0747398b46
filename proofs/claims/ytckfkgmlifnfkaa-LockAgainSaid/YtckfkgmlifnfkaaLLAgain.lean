/-
  LockAgain, walked (by gen_lagain.py).
-/
import Derived.Test.YtckfkgmlifnfkaaRlK
import Derived.Test.YtckfkgmlifnfkaaKLq
namespace Go.Proofs.Ytckfkgmlifnfkaa
open Go.RowKit
set_option linter.unusedSimpArgs false
/-- Who asks for what it has gets it, and no hold is changed. -/
theorem ask_has {H W : List Hd} {h : Hd} (hc : covers H h = true) : askH H h = H ∧ askW H W h = wo W h.s ∧ askB H h = true := by
  unfold askH askW askB
  rw [hc]
  exact ⟨rfl, rfl, rfl⟩
theorem covers_mem {H : List Hd} {h : Hd} (hm : h ∈ H) : covers H h = true := by simp [covers, hm]
theorem covers_less {H : List Hd} {s : Int} {t : List UInt8} {x : Bool} (hm : (⟨s, t, x⟩ : Hd) ∈ H) : covers H ⟨s, t, false⟩ = true := by
  cases x
  · exact covers_mem hm
  · simp [covers, Hd.as, hm]
/-- What stands while the region's operations come up. -/
inductive Again7 (B : Nat) (p : Nat) (ho : Option Addr) (hn : Nat) (hc : Nat) (wq : Option Addr) (wn : Nat) (wc : Nat) (ab : Bool) (H0 : List Hd) (W0 : List Hd) (H1 : List Hd) (W1 : List Hd) (ag : Nat) (aoff : Nat) (n : Nat) (c : Nat) (i : Nat) (k : Int) (ks : Int) (kt : Int) (kx : Bool) (s : Int) (t : List UInt8) (x : Bool) (a0 : Act) (w0 : World) (L : Array Bool) (a : Act) (w : World) : Prop
  | mk (b0 b1 b2 b3 b4 b5 b6 b7 b8 b9 b10 : Bool) (x27 x28 x29 x30 x31 x32 x33 x26 x34 x35 : Value) (qo : Option Addr) (qn : Nat) (qc : Nat) (ro : Option Addr) (rn : Nat) (rc : Nat) (hL : L = #[b0, b1, b2, b3, b4, b5, b6, b7, b8, b9, b10]) (ha : a = ⟨((((((((((a0.tmps.setIfInBounds 27 x27).setIfInBounds 28 x28).setIfInBounds 29 x29).setIfInBounds 30 x30).setIfInBounds 31 x31).setIfInBounds 32 x32).setIfInBounds 33 x33).setIfInBounds 26 x26).setIfInBounds 34 x34).setIfInBounds 35 x35), a0.defers⟩) (hb : Below B w0 w) (cd0 : Hid (b0 = true → x27 = .agg #[.slice ho hn hc, .slice wq wn wc])) (cd1 : Hid (b1 = true → x28 = .slice (some ⟨ag, aoff, none⟩) n c)) (cd2 : Hid (b2 = true → x29 = .int .i64 (i : Nat))) (cd3 : Hid (b3 = true → x30 = .pointer (some ⟨ag, aoff + i * 4, none⟩))) (cd4 : Hid (b4 = true → x31 = .agg #[.int .i64 k, .int .i64 ks, .int .i64 kt, .bool kx])) (cd5 : Hid (b5 = true → x32 = .agg #[.int .i64 s, .string (bsOf t), .bool x])) (cd6 : Hid (b6 = true → x33 = .tuple #[.agg #[.slice qo qn qc, .slice ro rn rc], .bool ab])) (cd7 : Hid (b7 = true → x26 = .tuple #[.agg #[.slice qo qn qc, .slice ro rn rc], .bool ab])) (cd8 : Hid (b8 = true → x34 = .agg #[.slice qo qn qc, .slice ro rn rc])) (cd9 : Hid (b9 = true → x35 = .bool ab)) (f_v : Hid (b10 = false → LkB w p ho hn hc wq wn wc 96)) (f_ih : Hid (b10 = false → RdB w 0 ho hn hc wq wn wc H0 W0)) (f_r : Hid (b6 = true → RdB w (p + 1) qo qn qc ro rn rc H1 W1)) (f_o : Hid (b10 = true → LkB w p qo qn qc ro rn rc 96)) (f_qC : Hid (b10 = true → b6 = true)) (f_q0 : Hid (b10 = true → b0 = true)) (w_7_6 : Hid (b7 = true → b6 = true)) (w_8_6 : Hid (b8 = true → b6 = true)) : Again7 B p ho hn hc wq wn wc ab H0 W0 H1 W1 ag aoff n c i k ks kt kx s t x a0 w0 L a w

/-- What stands while the region's operations come up. -/
inductive Again21 (B : Nat) (p : Nat) (r : Nat) (g1 : Nat) (ho : Option Addr) (hn : Nat) (hc : Nat) (wq : Option Addr) (wn : Nat) (wc : Nat) (bo : Option Addr) (bc : Nat) (co : Option Addr) (cn : Nat) (cc : Nat) (s : Int) (H0 : List Hd) (W0 : List Hd) (H1 : List Hd) (W1 : List Hd) (a0 : Act) (w0 : World) (L : Array Bool) (a : Act) (w : World) : Prop
  | mk (b0 b1 b2 b3 b4 b5 b6 b7 b8 b9 b10 b11 : Bool) (x101 x102 x103 x104 x105 x106 x107 x108 x109 x110 x111 x4 : Value) (qo : Option Addr) (qn : Nat) (qc : Nat) (ro : Option Addr) (rn : Nat) (rc : Nat) (eo : Option Addr) (en : Nat) (ec : Nat) (uo : Option Addr) (un : Nat) (uc : Nat) (fo : Option Addr) (fn : Nat) (fc : Nat) (vo : Option Addr) (vn : Nat) (vc : Nat) (ko : Option Addr) (kn : Nat) (kc : Nat) (lo : Option Addr) (ln : Nat) (lc : Nat) (hL : L = #[b0, b1, b2, b3, b4, b5, b6, b7, b8, b9, b10, b11]) (ha : a = ⟨((((((((((((a0.tmps.setIfInBounds 101 x101).setIfInBounds 102 x102).setIfInBounds 103 x103).setIfInBounds 104 x104).setIfInBounds 105 x105).setIfInBounds 106 x106).setIfInBounds 107 x107).setIfInBounds 108 x108).setIfInBounds 109 x109).setIfInBounds 110 x110).setIfInBounds 111 x111).setIfInBounds 4 x4), a0.defers⟩) (hb : Below B w0 w) (cd0 : Hid (b0 = true → x101 = .agg #[.slice bo hn bc, .slice co cn cc])) (cd1 : Hid (b1 = true → x102 = .pointer (some ⟨g1, 0, none⟩))) (cd2 : Hid (b2 = true → x103 = .int .i64 s)) (cd3 : Hid (b3 = true → x104 = .agg #[.slice qo qn qc, .slice ro rn rc])) (cd4 : Hid (b4 = true → x105 = .agg #[.slice eo en ec, .slice uo un uc])) (cd5 : Hid (b5 = true → x106 = .agg #[.slice ho hn hc, .slice wq wn wc])) (cd6 : Hid (b6 = true → x107 = .agg #[.slice fo fn fc, .slice vo vn vc])) (cd7 : Hid (b7 = true → x108 = .pointer (some ⟨g1, 0, none⟩))) (cd8 : Hid (b8 = true → x109 = .int .i64 s)) (cd9 : Hid (b9 = true → x110 = .agg #[.slice ko kn kc, .slice lo ln lc])) (cd10 : Hid (b10 = true → x111 = .bool true)) (cd11 : Hid (b11 = true → x4 = .bool true)) (f_r3 : Hid (b3 = true → RdB w 0 qo qn qc ro rn rc H1 W1)) (f_r4 : Hid (b4 = true → RdB w 0 eo en ec uo un uc H1 W1)) (f_r6 : Hid (b6 = true → RdB w 0 fo fn fc vo vn vc H0 W0)) (f_r9 : Hid (b9 = true → RdB w 0 ko kn kc lo ln lc H1 W1)) : Again21 B p r g1 ho hn hc wq wn wc bo bc co cn cc s H0 W0 H1 W1 a0 w0 L a w

/-- What stands while the region's operations come up. -/
inductive Again10 (B : Nat) (p : Nat) (rb : Nat) (roff : Nat) (hn : Nat) (hc : Nat) (m : Nat) (k0 : Int) (s : Int) (t : List UInt8) (x : Bool) (a0 : Act) (w0 : World) (L : Array Bool) (a : Act) (w : World) : Prop
  | mk (b0 b1 b2 b3 b4 b5 b6 b7 b8 b9 b10 : Bool) (x40 x41 x42 x43 x44 x45 x46 x47 x48 x7 : Value) (g1 : Nat) (hL : L = #[b0, b1, b2, b3, b4, b5, b6, b7, b8, b9, b10]) (ha : a = ⟨((((((((((a0.tmps.setIfInBounds 40 x40).setIfInBounds 41 x41).setIfInBounds 42 x42).setIfInBounds 43 x43).setIfInBounds 44 x44).setIfInBounds 45 x45).setIfInBounds 46 x46).setIfInBounds 47 x47).setIfInBounds 48 x48).setIfInBounds 7 x7), a0.defers⟩) (hb : Below B w0 w) (cd0 : Hid (b0 = true → x40 = .pointer (some ⟨p, 0, none⟩))) (cd1 : Hid (b1 = true → x41 = .slice (some ⟨rb, roff, none⟩) hn hc)) (cd2 : Hid (b2 = true → x42 = .int .i64 k0)) (cd3 : Hid (b3 = true → x43 = .pointer (some ⟨p, 0, none⟩))) (cd4 : Hid (b4 = true → x44 = .slice (some ⟨rb, roff, none⟩) hn hc)) (cd5 : Hid (b5 = true → x45 = .int .i64 (hn : Nat))) (cd6 : Hid (b6 = true → x46 = .int .i64 (m : Nat))) (cd7 : Hid (b7 = true → x47 = .pointer (some ⟨rb, roff + m * 3, none⟩))) (cd8 : Hid (b8 = true → x48 = .agg #[.int .i64 s, .string (bsOf t), .bool x])) (cd9 : Hid (b9 = true → x7 = .pointer (some ⟨g1, 0, none⟩))) (f_z1 : Hid (b9 = true → b10 = false → HdB w g1 (⟨0, [], false⟩ : Hd) 101)) (f_l1 : Hid (b9 = true → B ≤ g1)) (f_s1 : Hid (b10 = true → HdB w g1 (⟨s, t, x⟩ : Hd) 101)) (f_q9 : Hid (b10 = true → b9 = true)) : Again10 B p rb roff hn hc m k0 s t x a0 w0 L a w
set_option maxRecDepth 100000 in
set_option maxHeartbeats 8000000 in
theorem lockAgain_walk (ao : Option Addr) (n c : Nat) (la : List Ac) (k0 : Int) (w : World) (hla : IsR EAc w ao n c la) (_h2 : (Lit.int .i64 k0).wf = true) :
    Calls Try.prog 12 #[.slice ao n c, .int .i64 k0] w fun e w' => e = .returned (.bool true) ∧ Below w.heap.size w w' := by
  go_enter Try.func12, Try.ntmps12
  go_upto_region 3 with (go_at_call 55; refine (known12 _).mono ?_; rintro e w1 ⟨rfl, b1⟩)
  obtain ⟨p0, hp⟩ : ∃ p0, w.heap.size = p0 := ⟨_, rfl⟩
  have HP := Lib.hid hp
  have hp0 : p0 ≤ w.heap.size := by omega
  have A := LkAt.new w1
  have B : Below p0 w (w1.alloc (.cells #[.slice none 0 0, .slice none 0 0] 96)) := by rw [← hp]; exact b1.alloc b1.size _
  have hpp : p0 ≤ w1.heap.size := by rw [← hp]; exact b1.size
  go_upto_region 4 with fail
  generalize w1.alloc (.cells #[.slice none 0 0, .slice none 0 0] 96) = u0 at A B ⊢
  obtain ⟨p, hpv⟩ : ∃ p, w1.heap.size = p := ⟨_, rfl⟩
  rw [hpv] at A hpp
  simp only [hpv]
  clear hp hpv b1
  have hln := hla.len
  have hmx := hla.max
  have hle := hla.le
  unfold maxLen at hmx
  go_wp2_with fail
  go_loopw [6] (fun zs wr => ∃ (i : Nat) (H W : List Hd), i ≤ n ∧ i ≤ 40 ∧ zs = .int .i64 (i : Nat) ∧ LkAt wr p H W ∧ Hid (Good i H W) ∧ Below p0 w wr) (fun zs _ => 40 - (intOf zs).toNat)
  case atStart => exact ⟨0, [], [], by omega, by omega, rfl, A, Lib.hid Good.start, B⟩
  case round =>
    clear A B
    obtain ⟨i, H, W, hin, hi40, rfl, A, hG, B⟩ := hrel
    by_cases hlt' : i < n ∧ i < 40
    · obtain ⟨hlt, hlt3⟩ := hlt'
      have hlti : (i : Int) < (n : Int) := by omega
      have hlt3i : (i : Int) < 40 := by omega
      obtain ⟨a, hai⟩ : ∃ a, la[i]? = some a := ⟨la[i]'(by have := hla.len; omega), List.getElem?_eq_getElem _⟩
      obtain ⟨ag, aoff, rfl, hag, hac⟩ := hla.open (by omega) (by decide)
      obtain ⟨a0_, a1_, a2_, a3_⟩ := cells_ac hac i a hai
      have hagp : ag < p0 := by rw [← HP.out]; exact hag
      rw [← B.cell (show (⟨ag, aoff + i * 4, none⟩ : Addr).block < p0 from hagp)] at a0_
      rw [← B.cell (show (⟨ag, aoff + i * 4 + 1, none⟩ : Addr).block < p0 from hagp)] at a1_
      rw [← B.cell (show (⟨ag, aoff + i * 4 + 2, none⟩ : Addr).block < p0 from hagp)] at a2_
      rw [← B.cell (show (⟨ag, aoff + i * 4 + 3, none⟩ : Addr).block < p0 from hagp)] at a3_
      have HD := fun w => hold_any w a
      have hsm := a.small
      obtain ⟨hd, hhd⟩ : ∃ hd, a.hd = hd := ⟨_, rfl⟩
      rw [hhd] at hsm
      simp only [hhd] at HD
      obtain ⟨k, ks, kt, kx⟩ := a
      obtain ⟨s, t, x⟩ := hd
      unfold Hd.val at HD
      simp only at HD a0_ a1_ a2_ a3_ hsm
      clear hac hai hhd
      have hGh := hG.out.lenH
      have hGw := hG.out.lenW
      go_upto_region 7 with fail
      obtain ⟨ho, hn, hc, wq, wn, wc, X, RD⟩ := A.rd
      obtain ⟨H0, hH0⟩ : ∃ z_, z_ = H := ⟨_, rfl⟩
      obtain ⟨W0, hW0⟩ : ∃ z_, z_ = W := ⟨_, rfl⟩
      obtain ⟨H1, hH1⟩ : ∃ z_, z_ = askH H ⟨s, t, x⟩ := ⟨_, rfl⟩
      obtain ⟨W1, hW1⟩ : ∃ z_, z_ = askW H W ⟨s, t, x⟩ := ⟨_, rfl⟩
      obtain ⟨ab, hab⟩ : ∃ z_, z_ = askB H ⟨s, t, x⟩ := ⟨_, rfl⟩
      have hH1h := Lib.hid hH1
      have hW1h := Lib.hid hW1
      have habh := Lib.hid hab
      rw [← hH0, ← hW0] at RD
      have HK := fun (w' : World) (hi : RdB w' 0 ho hn hc wq wn wc H0 W0) => ask_rd w' ho hn hc wq wn wc H0 W0 H1 W1 ab ⟨s, t, x⟩ hi (by rw [hH0, hH1]) (by rw [hH0, hW0, hW1]) (by rw [hH0, hab]) (by rw [hH0]; omega) (by rw [hW0]; omega)
      simp only at HK
      have hpw0 := X.lt
      have hBp := hpp
      have hagB := hagp
      have hB0 : p0 ≤ wr.heap.size := Nat.le_trans hpp (Nat.le_of_lt hpw0)
      clear hH0 hW0 hH1 hW1 hab hGh hGw
      refine region_inv (Again7 p0 p ho hn hc wq wn wc ab H0 W0 H1 W1 ag aoff n c i k ks kt kx s t x) (by kernel_rfl) (by kernel_rfl) ?_ ?_ ?_
      · exact ⟨false, false, false, false, false, false, false, false, false, false, false, u27, u28, u29, u30, u31, u32, u33, u26, u34, u35, none, 0, 0, none, 0, 0, rfl, (by simp only [Act.put, List.setIfInBounds_toArray, List.set_cons_zero, List.set_cons_succ]), Below.refl _ _, (fun h => by cases h), (fun h => by cases h), (fun h => by cases h), (fun h => by cases h), (fun h => by cases h), (fun h => by cases h), (fun h => by cases h), (fun h => by cases h), (fun h => by cases h), (fun h => by cases h), (fun h1 => X.past (Below.refl _ _).drew), (fun h1 => RD.past (Below.refl _ _).drew), (fun h => by cases h), (fun h => by cases h), (fun h => by cases h), (fun h => by cases h), (fun h => by cases h), (fun h => by cases h)⟩
      · refine ⟨?_, ?_, ?_, ?_, ?_, ?_, ?_, ?_, ?_, ?_, ?_, trivial⟩
        · rintro L a w ⟨b0, b1, b2, b3, b4, b5, b6, b7, b8, b9, b10, x27, x28, x29, x30, x31, x32, x33, x26, x34, x35, qo, qn, qc, ro, rn, rc, rfl, rfl, hb, cd0, cd1, cd2, cd3, cd4, cd5, cd6, cd7, cd8, cd9, f_v, f_ih, f_r, f_o, f_qC, f_q0, w_7_6, w_8_6⟩ hf hd
          have hf' : b0 = false := hf
          subst hf'
          clear hf hd
          try simp only [List.setIfInBounds_toArray, List.set_cons_zero, List.set_cons_succ]
          have e_v : b10 = false := by cases hq : b10 with | false => rfl | true => exact absurd (f_q0.out hq) (by simp)
          have W_v := f_v.out e_v
          obtain ⟨z0, z1⟩ := W_v.c
          intro K hK
          rw [if_pos (by rfl)]
          go_simp
          exact hK.out _ _ ⟨true, b1, b2, b3, b4, b5, b6, b7, b8, b9, b10, (.agg #[.slice ho hn hc, .slice wq wn wc]), x28, x29, x30, x31, x32, x33, x26, x34, x35, qo, qn, qc, ro, rn, rc, (by simp only [Act.put, List.setIfInBounds_toArray, List.set_cons_zero, List.set_cons_succ]), (by simp only [Act.put, List.setIfInBounds_toArray, List.set_cons_zero, List.set_cons_succ]), hb, (fun _ => rfl), cd1, cd2, cd3, cd4, cd5, cd6, cd7, cd8, cd9, f_v, f_ih, f_r, f_o, f_qC, (fun _ => rfl), w_7_6, w_8_6⟩
        · rintro L a w ⟨b0, b1, b2, b3, b4, b5, b6, b7, b8, b9, b10, x27, x28, x29, x30, x31, x32, x33, x26, x34, x35, qo, qn, qc, ro, rn, rc, rfl, rfl, hb, cd0, cd1, cd2, cd3, cd4, cd5, cd6, cd7, cd8, cd9, f_v, f_ih, f_r, f_o, f_qC, f_q0, w_7_6, w_8_6⟩ hf hd
          have hf' : b1 = false := hf
          subst hf'
          clear hf hd
          try simp only [List.setIfInBounds_toArray, List.set_cons_zero, List.set_cons_succ]
          intro K hK
          rw [if_pos (by rfl)]
          go_simp
          exact hK.out _ _ ⟨b0, true, b2, b3, b4, b5, b6, b7, b8, b9, b10, x27, (.slice (some ⟨ag, aoff, none⟩) n c), x29, x30, x31, x32, x33, x26, x34, x35, qo, qn, qc, ro, rn, rc, (by simp only [Act.put, List.setIfInBounds_toArray, List.set_cons_zero, List.set_cons_succ]), (by simp only [Act.put, List.setIfInBounds_toArray, List.set_cons_zero, List.set_cons_succ]), hb, cd0, (fun _ => rfl), cd2, cd3, cd4, cd5, cd6, cd7, cd8, cd9, f_v, f_ih, f_r, f_o, f_qC, f_q0, w_7_6, w_8_6⟩
        · rintro L a w ⟨b0, b1, b2, b3, b4, b5, b6, b7, b8, b9, b10, x27, x28, x29, x30, x31, x32, x33, x26, x34, x35, qo, qn, qc, ro, rn, rc, rfl, rfl, hb, cd0, cd1, cd2, cd3, cd4, cd5, cd6, cd7, cd8, cd9, f_v, f_ih, f_r, f_o, f_qC, f_q0, w_7_6, w_8_6⟩ hf hd
          have hf' : b2 = false := hf
          subst hf'
          clear hf hd
          try simp only [List.setIfInBounds_toArray, List.set_cons_zero, List.set_cons_succ]
          intro K hK
          rw [if_pos (by rfl)]
          go_simp
          exact hK.out _ _ ⟨b0, b1, true, b3, b4, b5, b6, b7, b8, b9, b10, x27, x28, (.int .i64 (i : Nat)), x30, x31, x32, x33, x26, x34, x35, qo, qn, qc, ro, rn, rc, (by simp only [Act.put, List.setIfInBounds_toArray, List.set_cons_zero, List.set_cons_succ]), (by simp only [Act.put, List.setIfInBounds_toArray, List.set_cons_zero, List.set_cons_succ]), hb, cd0, cd1, (fun _ => rfl), cd3, cd4, cd5, cd6, cd7, cd8, cd9, f_v, f_ih, f_r, f_o, f_qC, f_q0, w_7_6, w_8_6⟩
        · rintro L a w ⟨b0, b1, b2, b3, b4, b5, b6, b7, b8, b9, b10, x27, x28, x29, x30, x31, x32, x33, x26, x34, x35, qo, qn, qc, ro, rn, rc, rfl, rfl, hb, cd0, cd1, cd2, cd3, cd4, cd5, cd6, cd7, cd8, cd9, f_v, f_ih, f_r, f_o, f_qC, f_q0, w_7_6, w_8_6⟩ hf hd
          have hf' : b3 = false := hf
          subst hf'
          have d1 : b1 = true := hd ⟨1, .data⟩ (by simp) rfl
          subst d1
          have d2 : b2 = true := hd ⟨2, .data⟩ (by simp) rfl
          subst d2
          obtain rfl := cd1.out rfl
          obtain rfl := cd2.out rfl
          clear hf hd
          try simp only [List.setIfInBounds_toArray, List.set_cons_zero, List.set_cons_succ]
          intro K hK
          rw [if_pos (by rfl)]
          go_simp
          exact hK.out _ _ ⟨b0, true, true, true, b4, b5, b6, b7, b8, b9, b10, x27, .slice (some ⟨ag, aoff, none⟩) n c, .int .i64 (i : Nat), (.pointer (some ⟨ag, aoff + i * 4, none⟩)), x31, x32, x33, x26, x34, x35, qo, qn, qc, ro, rn, rc, (by simp only [Act.put, List.setIfInBounds_toArray, List.set_cons_zero, List.set_cons_succ]), (by simp only [Act.put, List.setIfInBounds_toArray, List.set_cons_zero, List.set_cons_succ]), hb, cd0, (fun _ => rfl), (fun _ => rfl), (fun _ => rfl), cd4, cd5, cd6, cd7, cd8, cd9, f_v, f_ih, f_r, f_o, f_qC, f_q0, w_7_6, w_8_6⟩
        · rintro L a w ⟨b0, b1, b2, b3, b4, b5, b6, b7, b8, b9, b10, x27, x28, x29, x30, x31, x32, x33, x26, x34, x35, qo, qn, qc, ro, rn, rc, rfl, rfl, hb, cd0, cd1, cd2, cd3, cd4, cd5, cd6, cd7, cd8, cd9, f_v, f_ih, f_r, f_o, f_qC, f_q0, w_7_6, w_8_6⟩ hf hd
          have hf' : b4 = false := hf
          subst hf'
          have d3 : b3 = true := hd ⟨3, .data⟩ (by simp) rfl
          subst d3
          obtain rfl := cd3.out rfl
          clear hf hd
          try simp only [List.setIfInBounds_toArray, List.set_cons_zero, List.set_cons_succ]
          have z0 := (hb.cell hagB).trans a0_
          have z1 := (hb.cell hagB).trans a1_
          have z2 := (hb.cell hagB).trans a2_
          have z3 := (hb.cell hagB).trans a3_
          intro K hK
          rw [if_pos (by rfl)]
          go_simp
          exact hK.out _ _ ⟨b0, b1, b2, true, true, b5, b6, b7, b8, b9, b10, x27, x28, x29, .pointer (some ⟨ag, aoff + i * 4, none⟩), (.agg #[.int .i64 k, .int .i64 ks, .int .i64 kt, .bool kx]), x32, x33, x26, x34, x35, qo, qn, qc, ro, rn, rc, (by simp only [Act.put, List.setIfInBounds_toArray, List.set_cons_zero, List.set_cons_succ]), (by simp only [Act.put, List.setIfInBounds_toArray, List.set_cons_zero, List.set_cons_succ]), hb, cd0, cd1, cd2, (fun _ => rfl), (fun _ => rfl), cd5, cd6, cd7, cd8, cd9, f_v, f_ih, f_r, f_o, f_qC, f_q0, w_7_6, w_8_6⟩
        · rintro L a w ⟨b0, b1, b2, b3, b4, b5, b6, b7, b8, b9, b10, x27, x28, x29, x30, x31, x32, x33, x26, x34, x35, qo, qn, qc, ro, rn, rc, rfl, rfl, hb, cd0, cd1, cd2, cd3, cd4, cd5, cd6, cd7, cd8, cd9, f_v, f_ih, f_r, f_o, f_qC, f_q0, w_7_6, w_8_6⟩ hf hd
          have hf' : b5 = false := hf
          subst hf'
          have d4 : b4 = true := hd ⟨4, .data⟩ (by simp) rfl
          subst d4
          obtain rfl := cd4.out rfl
          clear hf hd
          try simp only [List.setIfInBounds_toArray, List.set_cons_zero, List.set_cons_succ]
          intro K hK
          rw [if_pos (by rfl)]
          go_simp
          go_at_call 56
          refine (HD _).mono ?_
          rintro e w' ⟨rfl, bx⟩
          exact hK.out _ _ ⟨b0, b1, b2, b3, true, true, b6, b7, b8, b9, b10, x27, x28, x29, x30, .agg #[.int .i64 k, .int .i64 ks, .int .i64 kt, .bool kx], (.agg #[.int .i64 s, .string (bsOf t), .bool x]), x33, x26, x34, x35, qo, qn, qc, ro, rn, rc, (by simp only [Act.put, List.setIfInBounds_toArray, List.set_cons_zero, List.set_cons_succ]), (by simp only [Act.put, List.setIfInBounds_toArray, List.set_cons_zero, List.set_cons_succ]), hb.trans (bx.mono (Nat.le_trans hB0 hb.size)), cd0, cd1, cd2, cd3, (fun _ => rfl), (fun _ => rfl), cd6, cd7, cd8, cd9, (fun h1 => (f_v.out h1).past bx), (fun h1 => (f_ih.out h1).past bx), (fun h0 => (f_r.out h0).past bx), (fun h0 => (f_o.out h0).past bx), f_qC, f_q0, w_7_6, w_8_6⟩
        · rintro L a w ⟨b0, b1, b2, b3, b4, b5, b6, b7, b8, b9, b10, x27, x28, x29, x30, x31, x32, x33, x26, x34, x35, qo, qn, qc, ro, rn, rc, rfl, rfl, hb, cd0, cd1, cd2, cd3, cd4, cd5, cd6, cd7, cd8, cd9, f_v, f_ih, f_r, f_o, f_qC, f_q0, w_7_6, w_8_6⟩ hf hd
          have hf' : b6 = false := hf
          subst hf'
          have d0 : b0 = true := hd ⟨0, .data⟩ (by simp) rfl
          subst d0
          have d5 : b5 = true := hd ⟨5, .data⟩ (by simp) rfl
          subst d5
          obtain rfl := cd0.out rfl
          obtain rfl := cd5.out rfl
          clear hf hd
          try simp only [List.setIfInBounds_toArray, List.set_cons_zero, List.set_cons_succ]
          have e_ih : b10 = false := by cases hq : b10 with | false => rfl | true => exact absurd (f_qC.out hq) (by simp)
          have W_ih := f_ih.out e_ih
          intro K hK
          rw [if_pos (by rfl)]
          go_simp
          go_at_call 61
          refine (HK _ W_ih).mono ?_
          rintro e w' ⟨_, rfl, ⟨qo3, qn3, qc3, ro3, rn3, rc3, rfl, j1, j2, g1, g2⟩, bx⟩
          unfold lkV
          have r9 : RdB w' w.heap.size qo3 qn3 qc3 ro3 rn3 rc3 H1 W1 := ⟨j1, j2, g1, g2⟩
          have e_7 : b7 = false := by cases hq : b7 with | false => rfl | true => exact absurd (w_7_6.out hq) (by simp)
          subst e_7
          have e_8 : b8 = false := by cases hq : b8 with | false => rfl | true => exact absurd (w_8_6.out hq) (by simp)
          subst e_8
          exact hK.out _ _ ⟨true, b1, b2, b3, b4, true, true, false, false, b9, b10, .agg #[.slice ho hn hc, .slice wq wn wc], x28, x29, x30, x31, .agg #[.int .i64 s, .string (bsOf t), .bool x], (.tuple #[.agg #[.slice qo3 qn3 qc3, .slice ro3 rn3 rc3], .bool ab]), x26, x34, x35, qo3, qn3, qc3, ro3, rn3, rc3, (by simp only [Act.put, List.setIfInBounds_toArray, List.set_cons_zero, List.set_cons_succ]), (by simp only [Act.put, List.setIfInBounds_toArray, List.set_cons_zero, List.set_cons_succ]), hb.trans (bx.mono (Nat.le_trans hB0 hb.size)), (fun _ => rfl), cd1, cd2, cd3, cd4, (fun _ => rfl), (fun _ => rfl), (fun h => by cases h), (fun h => by cases h), cd9, (fun h1 => (f_v.out h1).past bx), (fun h1 => (f_ih.out h1).past bx), (fun _ => r9.mono (Nat.lt_of_lt_of_le hpw0 hb.size)), (fun h0 => absurd (f_qC.out h0) (by simp)), (fun _ => rfl), f_q0, (fun _ => rfl), (fun _ => rfl)⟩
        · rintro L a w ⟨b0, b1, b2, b3, b4, b5, b6, b7, b8, b9, b10, x27, x28, x29, x30, x31, x32, x33, x26, x34, x35, qo, qn, qc, ro, rn, rc, rfl, rfl, hb, cd0, cd1, cd2, cd3, cd4, cd5, cd6, cd7, cd8, cd9, f_v, f_ih, f_r, f_o, f_qC, f_q0, w_7_6, w_8_6⟩ hf hd
          have hf' : b7 = false := hf
          subst hf'
          have d6 : b6 = true := hd ⟨6, .data⟩ (by simp) rfl
          subst d6
          obtain rfl := cd6.out rfl
          clear hf hd
          have W_r := f_r.out rfl
          try simp only [List.setIfInBounds_toArray, List.set_cons_zero, List.set_cons_succ]
          intro K hK
          rw [if_pos (by rfl)]
          go_simp
          exact hK.out _ _ ⟨b0, b1, b2, b3, b4, b5, true, true, b8, b9, b10, x27, x28, x29, x30, x31, x32, .tuple #[.agg #[.slice qo qn qc, .slice ro rn rc], .bool ab], (.tuple #[.agg #[.slice qo qn qc, .slice ro rn rc], .bool ab]), x34, x35, qo, qn, qc, ro, rn, rc, (by simp only [Act.put, List.setIfInBounds_toArray, List.set_cons_zero, List.set_cons_succ]), (by simp only [Act.put, List.setIfInBounds_toArray, List.set_cons_zero, List.set_cons_succ]), hb, cd0, cd1, cd2, cd3, cd4, cd5, (fun _ => rfl), (fun _ => rfl), cd8, cd9, f_v, f_ih, f_r, f_o, f_qC, f_q0, (fun _ => rfl), (fun _ => rfl)⟩
        · rintro L a w ⟨b0, b1, b2, b3, b4, b5, b6, b7, b8, b9, b10, x27, x28, x29, x30, x31, x32, x33, x26, x34, x35, qo, qn, qc, ro, rn, rc, rfl, rfl, hb, cd0, cd1, cd2, cd3, cd4, cd5, cd6, cd7, cd8, cd9, f_v, f_ih, f_r, f_o, f_qC, f_q0, w_7_6, w_8_6⟩ hf hd
          have hf' : b8 = false := hf
          subst hf'
          have d7 : b7 = true := hd ⟨7, .data⟩ (by simp) rfl
          subst d7
          obtain rfl := cd7.out rfl
          clear hf hd
          try simp only [List.setIfInBounds_toArray, List.set_cons_zero, List.set_cons_succ]
          intro K hK
          rw [if_pos (by rfl)]
          go_simp
          exact hK.out _ _ ⟨b0, b1, b2, b3, b4, b5, b6, true, true, b9, b10, x27, x28, x29, x30, x31, x32, x33, .tuple #[.agg #[.slice qo qn qc, .slice ro rn rc], .bool ab], (.agg #[.slice qo qn qc, .slice ro rn rc]), x35, qo, qn, qc, ro, rn, rc, (by simp only [Act.put, List.setIfInBounds_toArray, List.set_cons_zero, List.set_cons_succ]), (by simp only [Act.put, List.setIfInBounds_toArray, List.set_cons_zero, List.set_cons_succ]), hb, cd0, cd1, cd2, cd3, cd4, cd5, cd6, (fun _ => rfl), (fun _ => rfl), cd9, f_v, f_ih, f_r, f_o, f_qC, f_q0, w_7_6, (fun _ => w_7_6.out rfl)⟩
        · rintro L a w ⟨b0, b1, b2, b3, b4, b5, b6, b7, b8, b9, b10, x27, x28, x29, x30, x31, x32, x33, x26, x34, x35, qo, qn, qc, ro, rn, rc, rfl, rfl, hb, cd0, cd1, cd2, cd3, cd4, cd5, cd6, cd7, cd8, cd9, f_v, f_ih, f_r, f_o, f_qC, f_q0, w_7_6, w_8_6⟩ hf hd
          have hf' : b9 = false := hf
          subst hf'
          have d7 : b7 = true := hd ⟨7, .data⟩ (by simp) rfl
          subst d7
          obtain rfl := cd7.out rfl
          clear hf hd
          try simp only [List.setIfInBounds_toArray, List.set_cons_zero, List.set_cons_succ]
          intro K hK
          rw [if_pos (by rfl)]
          go_simp
          exact hK.out _ _ ⟨b0, b1, b2, b3, b4, b5, b6, true, b8, true, b10, x27, x28, x29, x30, x31, x32, x33, .tuple #[.agg #[.slice qo qn qc, .slice ro rn rc], .bool ab], x34, (.bool ab), qo, qn, qc, ro, rn, rc, (by simp only [Act.put, List.setIfInBounds_toArray, List.set_cons_zero, List.set_cons_succ]), (by simp only [Act.put, List.setIfInBounds_toArray, List.set_cons_zero, List.set_cons_succ]), hb, cd0, cd1, cd2, cd3, cd4, cd5, cd6, (fun _ => rfl), cd8, (fun _ => rfl), f_v, f_ih, f_r, f_o, f_qC, f_q0, w_7_6, w_8_6⟩
        · rintro L a w ⟨b0, b1, b2, b3, b4, b5, b6, b7, b8, b9, b10, x27, x28, x29, x30, x31, x32, x33, x26, x34, x35, qo, qn, qc, ro, rn, rc, rfl, rfl, hb, cd0, cd1, cd2, cd3, cd4, cd5, cd6, cd7, cd8, cd9, f_v, f_ih, f_r, f_o, f_qC, f_q0, w_7_6, w_8_6⟩ hf hd
          have hf' : b10 = false := hf
          subst hf'
          have d8 : b8 = true := hd ⟨8, .data⟩ (by simp) rfl
          subst d8
          have d6 : b6 = true := hd ⟨6, .chain⟩ (by simp) rfl
          subst d6
          have d0 : b0 = true := hd ⟨0, .phase⟩ (by simp) rfl
          subst d0
          have d1 : b1 = true := hd ⟨1, .phase⟩ (by simp) rfl
          subst d1
          have d2 : b2 = true := hd ⟨2, .phase⟩ (by simp) rfl
          subst d2
          have d3 : b3 = true := hd ⟨3, .phase⟩ (by simp) rfl
          subst d3
          have d4 : b4 = true := hd ⟨4, .phase⟩ (by simp) rfl
          subst d4
          have d5 : b5 = true := hd ⟨5, .phase⟩ (by simp) rfl
          subst d5
          have d7 : b7 = true := hd ⟨7, .phase⟩ (by simp) rfl
          subst d7
          obtain rfl := cd8.out rfl
          obtain rfl := cd6.out rfl
          obtain rfl := cd0.out rfl
          obtain rfl := cd1.out rfl
          obtain rfl := cd2.out rfl
          obtain rfl := cd3.out rfl
          obtain rfl := cd4.out rfl
          obtain rfl := cd5.out rfl
          obtain rfl := cd7.out rfl
          clear hf hd
          have W_v := f_v.out rfl
          have W_ih := f_ih.out rfl
          have W_r := f_r.out rfl
          try simp only [List.setIfInBounds_toArray, List.set_cons_zero, List.set_cons_succ]
          intro K hK
          rw [if_pos (by rfl)]
          refine wp_store_lk _ _ rfl p ho hn hc wq wn wc rfl qo qn qc ro rn rc rfl (Lib.hid W_v) fun w2 h8 g8 => ?_
          have hb2 := hb.grown g8 (Nat.le_trans hB0 hb.size) (fun z hz => by cases hz; exact hBp)
          exact hK.out _ _ ⟨true, true, true, true, true, true, true, true, true, b9, true, .agg #[.slice ho hn hc, .slice wq wn wc], .slice (some ⟨ag, aoff, none⟩) n c, .int .i64 (i : Nat), .pointer (some ⟨ag, aoff + i * 4, none⟩), .agg #[.int .i64 k, .int .i64 ks, .int .i64 kt, .bool kx], .agg #[.int .i64 s, .string (bsOf t), .bool x], .tuple #[.agg #[.slice qo qn qc, .slice ro rn rc], .bool ab], .tuple #[.agg #[.slice qo qn qc, .slice ro rn rc], .bool ab], .agg #[.slice qo qn qc, .slice ro rn rc], x35, qo, qn, qc, ro, rn, rc, (by simp only [Act.put, List.setIfInBounds_toArray, List.set_cons_zero, List.set_cons_succ]), (by simp only [Act.put, List.setIfInBounds_toArray, List.set_cons_zero, List.set_cons_succ]), hb2, (fun _ => rfl), (fun _ => rfl), (fun _ => rfl), (fun _ => rfl), (fun _ => rfl), (fun _ => rfl), (fun _ => rfl), (fun _ => rfl), (fun _ => rfl), cd9, (fun h => by cases h), (fun h => by cases h), (fun h0 => ((f_r.out h0)).far g8 (((f_r.out h0)).ap (Nat.lt_succ_self p))), (fun _ => h8), (fun _ => rfl), (fun _ => rfl), (fun _ => rfl), (fun _ => rfl)⟩
      · rintro act V ⟨b0, b1, b2, b3, b4, b5, b6, b7, b8, b9, b10, x27, x28, x29, x30, x31, x32, x33, x26, x34, x35, qo, qn, qc, ro, rn, rc, hL, rfl, hb, cd0, cd1, cd2, cd3, cd4, cd5, cd6, cd7, cd8, cd9, f_v, f_ih, f_r, f_o, f_qC, f_q0, w_7_6, w_8_6⟩
        have hL' : [true, true, true, true, true, true, true, true, true, true, true] = [b0, b1, b2, b3, b4, b5, b6, b7, b8, b9, b10] := congrArg Array.toList hL
        simp only [List.cons.injEq, and_true] at hL'
        obtain ⟨rfl, rfl, rfl, rfl, rfl, rfl, rfl, rfl, rfl, rfl, rfl⟩ := hL'
        obtain rfl := cd0.out rfl
        obtain rfl := cd1.out rfl
        obtain rfl := cd2.out rfl
        obtain rfl := cd3.out rfl
        obtain rfl := cd4.out rfl
        obtain rfl := cd5.out rfl
        obtain rfl := cd6.out rfl
        obtain rfl := cd7.out rfl
        obtain rfl := cd8.out rfl
        obtain rfl := cd9.out rfl
        have W_r := f_r.out rfl
        have W_o := f_o.out rfl
        have W_qC := f_qC.out rfl
        have W_q0 := f_q0.out rfl
        clear hL f_v f_ih f_r f_o f_qC f_q0 cd0 cd1 cd2 cd3 cd4 cd5 cd6 cd7 cd8 cd9 w_7_6 w_8_6
        simp only [List.setIfInBounds_toArray, List.set_cons_zero, List.set_cons_succ]
        have A2 := W_r.at W_o (W_r.ap (Nat.lt_succ_self p))
        rw [hH1h.out, hW1h.out] at A2
        have B2 := B.trans ((Below.refl _ _).drew.trans hb)
        have G2 : Hid (Good (i + 1) (askH H ⟨s, t, x⟩) (askW H W ⟨s, t, x⟩)) := Lib.hid (hG.out.ask hsm)
        clear hb W_r W_o W_qC W_q0 hG
        go_wp2_with fail
        go_roundw
        case rel => exact ⟨i + 1, _, _, by omega, by omega, by go_num, A2, G2, B2⟩
        case measure => simp [intOf]; omega
    · by_cases hlt : i < n
      · have hlti : (i : Int) < (n : Int) := by omega
        have hlt3i : ¬ ((i : Int) < 40) := by omega
        obtain ⟨ho, hn, hc, wq, wn, wc, X, RD⟩ := A.rd
        obtain ⟨c0_, c1_⟩ := X.c
        have hHl := hG.out.lenH
        have hWl := hG.out.lenW
        have hhl := RD.h.len
        have hwl := RD.w.len
        have hBw := Nat.le_trans hp0 B.size
        clear A hlt'
        by_cases hz : hn = 0
        · have hzb : ((hn : Int) == 0) = true := by simp [hz]
          go_wp2_with fail
          go_ret
          exact ⟨rfl, by rw [HP.out]; exact B⟩
        · have hzb : ((hn : Int) == 0) = false := by simp [hz]
          have hwr := wth_range k0 (hn : Int) (by omega)
          obtain ⟨m, hm⟩ : ∃ m : Nat, wth k0 (hn : Int) = (m : Int) := ⟨(wth k0 (hn : Int)).toNat, by omega⟩
          have HWm := fun w => within12_any k0 (hn : Int) w (by omega) (by omega)
          rw [hm] at hwr
          simp only [hm] at HWm
          obtain ⟨y, hy⟩ : ∃ v, H[m]? = some v := ⟨H[m]'(by omega), List.getElem?_eq_getElem _⟩
          have hmi : (m : Int) < (hn : Int) := hwr.2
          have hmn : m < hn := by omega
          clear hm hwr hG
          obtain ⟨rb, roff, rfl, hrb, hrc⟩ := RD.h.open (by omega) (by decide)
          obtain ⟨y0_, y1_, y2_⟩ := cells_hd hrc m y hy
          have hym := List.mem_of_getElem? hy
          clear hrc hy
          obtain ⟨s, t, x⟩ := y
          simp only at y0_ y1_ y2_
          have hq1 : Hid (askH H ⟨s, t, x⟩ = H ∧ askW H W ⟨s, t, x⟩ = wo W s ∧ askB H ⟨s, t, x⟩ = true) := Lib.hid (ask_has (covers_mem hym))
          have hq2 : Hid (askH H ⟨s, t, false⟩ = H ∧ askW H (wo W s) ⟨s, t, false⟩ = wo W s ∧ askB H ⟨s, t, false⟩ = true) := Lib.hid (by
            obtain ⟨e1, e2, e3⟩ := ask_has (W := wo W s) (covers_less hym)
            rw [wo_wo] at e2
            exact ⟨e1, e2, e3⟩)
          clear hym
          go_upto_region 10 with fail
          generalize wr = W7 at X RD B c0_ c1_ y0_ y1_ y2_ hrb hBw ⊢
          have hpB := X.lt
          have hrB := hrb
          have hB0 : W7.heap.size ≤ W7.heap.size := Nat.le_refl _
          refine region_inv (Again10 W7.heap.size p rb roff hn hc m k0 s t x) (by kernel_rfl) (by kernel_rfl) ?_ ?_ ?_
          · exact ⟨false, false, false, false, false, false, false, false, false, false, false, undef, undef, undef, undef, undef, undef, undef, undef, undef, undef, 0, rfl, (by simp only [Act.put, List.setIfInBounds_toArray, List.set_cons_zero, List.set_cons_succ]), Below.refl _ _, (fun h => by cases h), (fun h => by cases h), (fun h => by cases h), (fun h => by cases h), (fun h => by cases h), (fun h => by cases h), (fun h => by cases h), (fun h => by cases h), (fun h => by cases h), (fun h => by cases h), (fun h => by cases h), (fun h => by cases h), (fun h => by cases h), (fun h => by cases h)⟩
          · refine ⟨?_, ?_, ?_, ?_, ?_, ?_, ?_, ?_, ?_, ?_, ?_, trivial⟩
            · rintro L a w ⟨b0, b1, b2, b3, b4, b5, b6, b7, b8, b9, b10, x40, x41, x42, x43, x44, x45, x46, x47, x48, x7, g1, rfl, rfl, hb, cd0, cd1, cd2, cd3, cd4, cd5, cd6, cd7, cd8, cd9, f_z1, f_l1, f_s1, f_q9⟩ hf hd
              have hf' : b0 = false := hf
              subst hf'
              clear hf hd
              try simp only [List.setIfInBounds_toArray, List.set_cons_zero, List.set_cons_succ]
              intro K hK
              rw [if_pos (by rfl)]
              go_simp
              exact hK.out _ _ ⟨true, b1, b2, b3, b4, b5, b6, b7, b8, b9, b10, (.pointer (some ⟨p, 0, none⟩)), x41, x42, x43, x44, x45, x46, x47, x48, x7, g1, (by simp only [Act.put, List.setIfInBounds_toArray, List.set_cons_zero, List.set_cons_succ]), (by simp only [Act.put, List.setIfInBounds_toArray, List.set_cons_zero, List.set_cons_succ]), hb, (fun _ => rfl), cd1, cd2, cd3, cd4, cd5, cd6, cd7, cd8, cd9, f_z1, f_l1, f_s1, f_q9⟩
            · rintro L a w ⟨b0, b1, b2, b3, b4, b5, b6, b7, b8, b9, b10, x40, x41, x42, x43, x44, x45, x46, x47, x48, x7, g1, rfl, rfl, hb, cd0, cd1, cd2, cd3, cd4, cd5, cd6, cd7, cd8, cd9, f_z1, f_l1, f_s1, f_q9⟩ hf hd
              have hf' : b1 = false := hf
              subst hf'
              have d0 : b0 = true := hd ⟨0, .data⟩ (by simp) rfl
              subst d0
              obtain rfl := cd0.out rfl
              clear hf hd
              try simp only [List.setIfInBounds_toArray, List.set_cons_zero, List.set_cons_succ]
              have z0 := (hb.cell hpB).trans c0_
              intro K hK
              rw [if_pos (by rfl)]
              go_simp
              exact hK.out _ _ ⟨true, true, b2, b3, b4, b5, b6, b7, b8, b9, b10, .pointer (some ⟨p, 0, none⟩), (.slice (some ⟨rb, roff, none⟩) hn hc), x42, x43, x44, x45, x46, x47, x48, x7, g1, (by simp only [Act.put, List.setIfInBounds_toArray, List.set_cons_zero, List.set_cons_succ]), (by simp only [Act.put, List.setIfInBounds_toArray, List.set_cons_zero, List.set_cons_succ]), hb, (fun _ => rfl), (fun _ => rfl), cd2, cd3, cd4, cd5, cd6, cd7, cd8, cd9, f_z1, f_l1, f_s1, f_q9⟩
            · rintro L a w ⟨b0, b1, b2, b3, b4, b5, b6, b7, b8, b9, b10, x40, x41, x42, x43, x44, x45, x46, x47, x48, x7, g1, rfl, rfl, hb, cd0, cd1, cd2, cd3, cd4, cd5, cd6, cd7, cd8, cd9, f_z1, f_l1, f_s1, f_q9⟩ hf hd
              have hf' : b2 = false := hf
              subst hf'
              clear hf hd
              try simp only [List.setIfInBounds_toArray, List.set_cons_zero, List.set_cons_succ]
              intro K hK
              rw [if_pos (by rfl)]
              go_simp
              exact hK.out _ _ ⟨b0, b1, true, b3, b4, b5, b6, b7, b8, b9, b10, x40, x41, (.int .i64 k0), x43, x44, x45, x46, x47, x48, x7, g1, (by simp only [Act.put, List.setIfInBounds_toArray, List.set_cons_zero, List.set_cons_succ]), (by simp only [Act.put, List.setIfInBounds_toArray, List.set_cons_zero, List.set_cons_succ]), hb, cd0, cd1, (fun _ => rfl), cd3, cd4, cd5, cd6, cd7, cd8, cd9, f_z1, f_l1, f_s1, f_q9⟩
            · rintro L a w ⟨b0, b1, b2, b3, b4, b5, b6, b7, b8, b9, b10, x40, x41, x42, x43, x44, x45, x46, x47, x48, x7, g1, rfl, rfl, hb, cd0, cd1, cd2, cd3, cd4, cd5, cd6, cd7, cd8, cd9, f_z1, f_l1, f_s1, f_q9⟩ hf hd
              have hf' : b3 = false := hf
              subst hf'
              clear hf hd
              try simp only [List.setIfInBounds_toArray, List.set_cons_zero, List.set_cons_succ]
              intro K hK
              rw [if_pos (by rfl)]
              go_simp
              exact hK.out _ _ ⟨b0, b1, b2, true, b4, b5, b6, b7, b8, b9, b10, x40, x41, x42, (.pointer (some ⟨p, 0, none⟩)), x44, x45, x46, x47, x48, x7, g1, (by simp only [Act.put, List.setIfInBounds_toArray, List.set_cons_zero, List.set_cons_succ]), (by simp only [Act.put, List.setIfInBounds_toArray, List.set_cons_zero, List.set_cons_succ]), hb, cd0, cd1, cd2, (fun _ => rfl), cd4, cd5, cd6, cd7, cd8, cd9, f_z1, f_l1, f_s1, f_q9⟩
            · rintro L a w ⟨b0, b1, b2, b3, b4, b5, b6, b7, b8, b9, b10, x40, x41, x42, x43, x44, x45, x46, x47, x48, x7, g1, rfl, rfl, hb, cd0, cd1, cd2, cd3, cd4, cd5, cd6, cd7, cd8, cd9, f_z1, f_l1, f_s1, f_q9⟩ hf hd
              have hf' : b4 = false := hf
              subst hf'
              have d3 : b3 = true := hd ⟨3, .data⟩ (by simp) rfl
              subst d3
              obtain rfl := cd3.out rfl
              clear hf hd
              try simp only [List.setIfInBounds_toArray, List.set_cons_zero, List.set_cons_succ]
              have z0 := (hb.cell hpB).trans c0_
              intro K hK
              rw [if_pos (by rfl)]
              go_simp
              exact hK.out _ _ ⟨b0, b1, b2, true, true, b5, b6, b7, b8, b9, b10, x40, x41, x42, .pointer (some ⟨p, 0, none⟩), (.slice (some ⟨rb, roff, none⟩) hn hc), x45, x46, x47, x48, x7, g1, (by simp only [Act.put, List.setIfInBounds_toArray, List.set_cons_zero, List.set_cons_succ]), (by simp only [Act.put, List.setIfInBounds_toArray, List.set_cons_zero, List.set_cons_succ]), hb, cd0, cd1, cd2, (fun _ => rfl), (fun _ => rfl), cd5, cd6, cd7, cd8, cd9, f_z1, f_l1, f_s1, f_q9⟩
            · rintro L a w ⟨b0, b1, b2, b3, b4, b5, b6, b7, b8, b9, b10, x40, x41, x42, x43, x44, x45, x46, x47, x48, x7, g1, rfl, rfl, hb, cd0, cd1, cd2, cd3, cd4, cd5, cd6, cd7, cd8, cd9, f_z1, f_l1, f_s1, f_q9⟩ hf hd
              have hf' : b5 = false := hf
              subst hf'
              have d4 : b4 = true := hd ⟨4, .data⟩ (by simp) rfl
              subst d4
              obtain rfl := cd4.out rfl
              clear hf hd
              try simp only [List.setIfInBounds_toArray, List.set_cons_zero, List.set_cons_succ]
              intro K hK
              rw [if_pos (by rfl)]
              go_simp
              exact hK.out _ _ ⟨b0, b1, b2, b3, true, true, b6, b7, b8, b9, b10, x40, x41, x42, x43, .slice (some ⟨rb, roff, none⟩) hn hc, (.int .i64 (hn : Nat)), x46, x47, x48, x7, g1, (by simp only [Act.put, List.setIfInBounds_toArray, List.set_cons_zero, List.set_cons_succ]), (by simp only [Act.put, List.setIfInBounds_toArray, List.set_cons_zero, List.set_cons_succ]), hb, cd0, cd1, cd2, cd3, (fun _ => rfl), (fun _ => rfl), cd6, cd7, cd8, cd9, f_z1, f_l1, f_s1, f_q9⟩
            · rintro L a w ⟨b0, b1, b2, b3, b4, b5, b6, b7, b8, b9, b10, x40, x41, x42, x43, x44, x45, x46, x47, x48, x7, g1, rfl, rfl, hb, cd0, cd1, cd2, cd3, cd4, cd5, cd6, cd7, cd8, cd9, f_z1, f_l1, f_s1, f_q9⟩ hf hd
              have hf' : b6 = false := hf
              subst hf'
              have d2 : b2 = true := hd ⟨2, .data⟩ (by simp) rfl
              subst d2
              have d5 : b5 = true := hd ⟨5, .data⟩ (by simp) rfl
              subst d5
              obtain rfl := cd2.out rfl
              obtain rfl := cd5.out rfl
              clear hf hd
              try simp only [List.setIfInBounds_toArray, List.set_cons_zero, List.set_cons_succ]
              intro K hK
              rw [if_pos (by rfl)]
              go_simp
              go_at_call 58
              refine (HWm _).mono ?_
              rintro e w' ⟨rfl, rfl⟩
              exact hK.out _ _ ⟨b0, b1, true, b3, b4, true, true, b7, b8, b9, b10, x40, x41, .int .i64 k0, x43, x44, .int .i64 (hn : Nat), (.int .i64 (m : Nat)), x47, x48, x7, g1, (by simp only [Act.put, List.setIfInBounds_toArray, List.set_cons_zero, List.set_cons_succ]), (by simp only [Act.put, List.setIfInBounds_toArray, List.set_cons_zero, List.set_cons_succ]), hb, cd0, cd1, (fun _ => rfl), cd3, cd4, (fun _ => rfl), (fun _ => rfl), cd7, cd8, cd9, f_z1, f_l1, f_s1, f_q9⟩
            · rintro L a w ⟨b0, b1, b2, b3, b4, b5, b6, b7, b8, b9, b10, x40, x41, x42, x43, x44, x45, x46, x47, x48, x7, g1, rfl, rfl, hb, cd0, cd1, cd2, cd3, cd4, cd5, cd6, cd7, cd8, cd9, f_z1, f_l1, f_s1, f_q9⟩ hf hd
              have hf' : b7 = false := hf
              subst hf'
              have d1 : b1 = true := hd ⟨1, .data⟩ (by simp) rfl
              subst d1
              have d6 : b6 = true := hd ⟨6, .data⟩ (by simp) rfl
              subst d6
              obtain rfl := cd1.out rfl
              obtain rfl := cd6.out rfl
              clear hf hd
              try simp only [List.setIfInBounds_toArray, List.set_cons_zero, List.set_cons_succ]
              intro K hK
              rw [if_pos (by rfl)]
              go_simp
              exact hK.out _ _ ⟨b0, true, b2, b3, b4, b5, true, true, b8, b9, b10, x40, .slice (some ⟨rb, roff, none⟩) hn hc, x42, x43, x44, x45, .int .i64 (m : Nat), (.pointer (some ⟨rb, roff + m * 3, none⟩)), x48, x7, g1, (by simp only [Act.put, List.setIfInBounds_toArray, List.set_cons_zero, List.set_cons_succ]), (by simp only [Act.put, List.setIfInBounds_toArray, List.set_cons_zero, List.set_cons_succ]), hb, cd0, (fun _ => rfl), cd2, cd3, cd4, cd5, (fun _ => rfl), (fun _ => rfl), cd8, cd9, f_z1, f_l1, f_s1, f_q9⟩
            · rintro L a w ⟨b0, b1, b2, b3, b4, b5, b6, b7, b8, b9, b10, x40, x41, x42, x43, x44, x45, x46, x47, x48, x7, g1, rfl, rfl, hb, cd0, cd1, cd2, cd3, cd4, cd5, cd6, cd7, cd8, cd9, f_z1, f_l1, f_s1, f_q9⟩ hf hd
              have hf' : b8 = false := hf
              subst hf'
              have d7 : b7 = true := hd ⟨7, .data⟩ (by simp) rfl
              subst d7
              obtain rfl := cd7.out rfl
              clear hf hd
              try simp only [List.setIfInBounds_toArray, List.set_cons_zero, List.set_cons_succ]
              have z0 := (hb.cell hrB).trans y0_
              have z1 := (hb.cell hrB).trans y1_
              have z2 := (hb.cell hrB).trans y2_
              intro K hK
              rw [if_pos (by rfl)]
              go_simp
              exact hK.out _ _ ⟨b0, b1, b2, b3, b4, b5, b6, true, true, b9, b10, x40, x41, x42, x43, x44, x45, x46, .pointer (some ⟨rb, roff + m * 3, none⟩), (.agg #[.int .i64 s, .string (bsOf t), .bool x]), x7, g1, (by simp only [Act.put, List.setIfInBounds_toArray, List.set_cons_zero, List.set_cons_succ]), (by simp only [Act.put, List.setIfInBounds_toArray, List.set_cons_zero, List.set_cons_succ]), hb, cd0, cd1, cd2, cd3, cd4, cd5, cd6, (fun _ => rfl), (fun _ => rfl), cd9, f_z1, f_l1, f_s1, f_q9⟩
            · rintro L a w ⟨b0, b1, b2, b3, b4, b5, b6, b7, b8, b9, b10, x40, x41, x42, x43, x44, x45, x46, x47, x48, x7, g1, rfl, rfl, hb, cd0, cd1, cd2, cd3, cd4, cd5, cd6, cd7, cd8, cd9, f_z1, f_l1, f_s1, f_q9⟩ hf hd
              have hf' : b9 = false := hf
              subst hf'
              clear hf hd
              try simp only [List.setIfInBounds_toArray, List.set_cons_zero, List.set_cons_succ]
              intro K hK
              rw [if_pos (by rfl)]
              go_simp
              have bx : Below w.heap.size w (w.alloc (.cells #[.int .i64 0, .string ⟨#[]⟩, .bool false] 101)) := (Below.refl _ _).alloc (Nat.le_refl _) _
              exact hK.out _ _ ⟨b0, b1, b2, b3, b4, b5, b6, b7, b8, true, b10, x40, x41, x42, x43, x44, x45, x46, x47, x48, (.pointer (some ⟨(w.heap.size), 0, none⟩)), w.heap.size, (by simp only [Act.put, List.setIfInBounds_toArray, List.set_cons_zero, List.set_cons_succ]), (by simp only [Act.put, List.setIfInBounds_toArray, List.set_cons_zero, List.set_cons_succ]), hb.trans (bx.mono (Nat.le_trans hB0 hb.size)), cd0, cd1, cd2, cd3, cd4, cd5, cd6, cd7, cd8, (fun _ => rfl), (fun _ _ => heap_alloc_new w _), (fun _ => hb.size), (fun h0 => absurd (f_q9.out h0) (by simp)), (fun _ => rfl)⟩
            · rintro L a w ⟨b0, b1, b2, b3, b4, b5, b6, b7, b8, b9, b10, x40, x41, x42, x43, x44, x45, x46, x47, x48, x7, g1, rfl, rfl, hb, cd0, cd1, cd2, cd3, cd4, cd5, cd6, cd7, cd8, cd9, f_z1, f_l1, f_s1, f_q9⟩ hf hd
              have hf' : b10 = false := hf
              subst hf'
              have d9 : b9 = true := hd ⟨9, .data⟩ (by simp) rfl
              subst d9
              have d8 : b8 = true := hd ⟨8, .data⟩ (by simp) rfl
              subst d8
              have d6 : b6 = true := hd ⟨6, .chain⟩ (by simp) rfl
              subst d6
              have d0 : b0 = true := hd ⟨0, .phase⟩ (by simp) rfl
              subst d0
              have d1 : b1 = true := hd ⟨1, .phase⟩ (by simp) rfl
              subst d1
              have d2 : b2 = true := hd ⟨2, .phase⟩ (by simp) rfl
              subst d2
              have d3 : b3 = true := hd ⟨3, .phase⟩ (by simp) rfl
              subst d3
              have d4 : b4 = true := hd ⟨4, .phase⟩ (by simp) rfl
              subst d4
              have d5 : b5 = true := hd ⟨5, .phase⟩ (by simp) rfl
              subst d5
              have d7 : b7 = true := hd ⟨7, .phase⟩ (by simp) rfl
              subst d7
              obtain rfl := cd9.out rfl
              obtain rfl := cd8.out rfl
              obtain rfl := cd6.out rfl
              obtain rfl := cd0.out rfl
              obtain rfl := cd1.out rfl
              obtain rfl := cd2.out rfl
              obtain rfl := cd3.out rfl
              obtain rfl := cd4.out rfl
              obtain rfl := cd5.out rfl
              obtain rfl := cd7.out rfl
              clear hf hd
              have W_z1 := f_z1.out rfl rfl
              have W_l1 := f_l1.out rfl
              try simp only [List.setIfInBounds_toArray, List.set_cons_zero, List.set_cons_succ]
              intro K hK
              rw [if_pos (by rfl)]
              refine wp_store_hd _ _ rfl g1 (⟨0, [], false⟩ : Hd) (⟨s, t, x⟩ : Hd) rfl rfl (Lib.hid W_z1) fun w2 h8 g8 => ?_
              have hb2 := hb.grown g8 (Nat.le_trans hB0 hb.size) (fun z hz => by cases hz; exact W_l1)
              exact hK.out _ _ ⟨true, true, true, true, true, true, true, true, true, true, true, .pointer (some ⟨p, 0, none⟩), .slice (some ⟨rb, roff, none⟩) hn hc, .int .i64 k0, .pointer (some ⟨p, 0, none⟩), .slice (some ⟨rb, roff, none⟩) hn hc, .int .i64 (hn : Nat), .int .i64 (m : Nat), .pointer (some ⟨rb, roff + m * 3, none⟩), .agg #[.int .i64 s, .string (bsOf t), .bool x], .pointer (some ⟨g1, 0, none⟩), g1, (by simp only [Act.put, List.setIfInBounds_toArray, List.set_cons_zero, List.set_cons_succ]), (by simp only [Act.put, List.setIfInBounds_toArray, List.set_cons_zero, List.set_cons_succ]), hb2, (fun _ => rfl), (fun _ => rfl), (fun _ => rfl), (fun _ => rfl), (fun _ => rfl), (fun _ => rfl), (fun _ => rfl), (fun _ => rfl), (fun _ => rfl), (fun _ => rfl), (fun _ h => by cases h), f_l1, (fun _ => h8), (fun _ => rfl)⟩
          · rintro act V ⟨b0, b1, b2, b3, b4, b5, b6, b7, b8, b9, b10, x40, x41, x42, x43, x44, x45, x46, x47, x48, x7, g1, hL, rfl, hb, cd0, cd1, cd2, cd3, cd4, cd5, cd6, cd7, cd8, cd9, f_z1, f_l1, f_s1, f_q9⟩
            have hL' : [true, true, true, true, true, true, true, true, true, true, true] = [b0, b1, b2, b3, b4, b5, b6, b7, b8, b9, b10] := congrArg Array.toList hL
            simp only [List.cons.injEq, and_true] at hL'
            obtain ⟨rfl, rfl, rfl, rfl, rfl, rfl, rfl, rfl, rfl, rfl, rfl⟩ := hL'
            obtain rfl := cd0.out rfl
            obtain rfl := cd1.out rfl
            obtain rfl := cd2.out rfl
            obtain rfl := cd3.out rfl
            obtain rfl := cd4.out rfl
            obtain rfl := cd5.out rfl
            obtain rfl := cd6.out rfl
            obtain rfl := cd7.out rfl
            obtain rfl := cd8.out rfl
            obtain rfl := cd9.out rfl
            have W_l1 := f_l1.out rfl
            have W_s1 := f_s1.out rfl
            have W_q9 := f_q9.out rfl
            clear hL f_z1 f_l1 f_s1 f_q9 cd0 cd1 cd2 cd3 cd4 cd5 cd6 cd7 cd8 cd9
            simp only [List.setIfInBounds_toArray, List.set_cons_zero, List.set_cons_succ]
            have BV := (Below.refl _ _).drew.trans hb
            have ap1 := RD.apNew W_l1
            have pg1 : p ≠ g1 := by omega
            have X := X.past BV
            have RD := RD.past BV
            have hBv := Nat.le_trans hBw BV.size
            have B := B.trans (BV.mono hBw)
            have hg0 : p0 ≤ g1 := Nat.le_trans hBw W_l1
            have Z := W_s1
            clear hb BV W_s1 W_l1 W_q9 c0_ c1_ y0_ y1_ y2_ hB0 hBw hpB hrB hrb
            generalize V = U3 at X RD B Z hBv ⊢
            obtain ⟨c0_, c1_⟩ := X.c
            obtain ⟨z0_, z1_, z2_⟩ := Z.c
            simp only at z0_ z1_ z2_
            have HK := ask_rd U3 _ hn hc wq wn wc H W H (wo W s) true ⟨s, t, x⟩ RD hq1.out.1 hq1.out.2.1 hq1.out.2.2 (by omega) (by omega)
            simp only at HK
            have hgV := Z.lt
            go_upto_region 12 with (go_at_call 61; refine HK.mono ?_; rintro e v4 ⟨_, rfl, ⟨bo, bn, bc, co, cn, cc, rfl, j1, j2, gq1, gq2⟩, b4⟩; unfold lkV)
            have bA : Below v4.heap.size v4 (v4.alloc (.cells #[.slice bo bn bc, .slice co cn cc] 96)) := (Below.refl _ _).alloc (Nat.le_refl _) _
            have XB : LkB (v4.alloc (.cells #[.slice bo bn bc, .slice co cn cc] 96)) v4.heap.size bo bn bc co cn cc 96 := heap_alloc_new v4 _
            have RB : RdB v4 U3.heap.size bo bn bc co cn cc H (wo W s) := ⟨j1, j2, gq1, gq2⟩
            have ap2 := RB.ap hgV
            have RB := (RB.past bA).mono (Nat.zero_le _)
            have Z := (Z.past b4).past bA
            have X := (X.past b4).past bA
            have RD := (RD.past b4).past bA
            have B := B.trans ((b4.trans (bA.mono b4.size)).mono hBv)
            have hBv := Nat.le_trans (Nat.le_trans hBv b4.size) bA.size
            have rg1 : v4.heap.size ≠ g1 := by have := b4.size; omega
            have hbn : hn = bn := by have := RB.h.len; omega
            subst hbn
            generalize v4.alloc (.cells #[.slice bo hn bc, .slice co cn cc] 96) = U5 at XB RB Z X RD B hBv ⊢
            obtain ⟨r, hr⟩ : ∃ r, v4.heap.size = r := ⟨_, rfl⟩
            rw [hr] at XB rg1
            simp only [hr]
            clear hr bA j1 j2 gq1 gq2 b4 HK c0_ c1_ z0_ z1_ z2_ hgV
            have zf := free_blk (i := 2) Z
            have zc := Z.c.2.2
            go_upto_region 13 with fail
            have g8 := set1_grown U5 g1 2 (.bool false)
            have Z6 : HdB (U5.setCell ⟨g1, 2, none⟩ (.bool false)) g1 ⟨s, t, false⟩ 101 := by
              have := heap_setCell_same (i := 2) (v := .bool false) Z
              simpa [HdB] using this
            have X := X.far g8 pg1
            have XB := XB.far g8 rg1
            have RD := RD.far g8 ap1
            have RB := RB.far g8 ap2
            have B := B.grown g8 hBv (fun z hz => by cases hz; exact hg0)
            have hBv := Nat.le_trans hBv g8.size
            clear zf zc Z g8
            have Z := Z6
            clear Z6
            generalize U5.setCell ⟨g1, 2, none⟩ (.bool false) = U6 at X XB RD RB B hBv Z ⊢
            obtain ⟨b0_, b1_⟩ := XB.c
            obtain ⟨z0_, z1_, z2_⟩ := Z.c
            simp only at z0_ z1_ z2_
            have HK := ask_rd U6 bo hn bc co cn cc H (wo W s) H (wo W s) true ⟨s, t, false⟩ RB hq2.out.1 hq2.out.2.1 hq2.out.2.2 (by omega) (by have := wo_length W s; omega)
            simp only at HK
            go_upto_region 14 with (go_at_call 61; refine HK.mono ?_; rintro e v4 ⟨_, rfl, ⟨eo, en, ec, uo, un, uc, rfl, j1, j2, gq1, gq2⟩, b4⟩; unfold lkV)
            have bA : Below v4.heap.size v4 (v4.alloc (.cells #[.slice eo en ec, .slice uo un uc] 96)) := (Below.refl _ _).alloc (Nat.le_refl _) _
            have XC : LkB (v4.alloc (.cells #[.slice eo en ec, .slice uo un uc] 96)) v4.heap.size eo en ec uo un uc 96 := heap_alloc_new v4 _
            have k5 : RdB v4 0 eo en ec uo un uc H (wo W s) := ⟨j1, j2, fun _ _ _ => Nat.zero_le _, fun _ _ _ => Nat.zero_le _⟩
            have k5 := k5.past bA
            have Z := (Z.past b4).past bA
            have X := (X.past b4).past bA
            have XB := (XB.past b4).past bA
            have RD := (RD.past b4).past bA
            have RB := (RB.past b4).past bA
            have B := B.trans ((b4.trans (bA.mono b4.size)).mono hBv)
            generalize v4.alloc (.cells #[.slice eo en ec, .slice uo un uc] 96) = W8 at XB XC RB k5 Z X RD B ⊢
            obtain ⟨rr, hr⟩ : ∃ r, v4.heap.size = r := ⟨_, rfl⟩
            rw [hr] at XC
            simp only [hr]
            clear hr bA j1 j2 gq1 gq2 b4 HK b0_ b1_ z0_ z1_ z2_ hBv ap1 ap2 pg1 rg1 hg0
            obtain ⟨ho, hho⟩ : ∃ z_, z_ = (some ⟨rb, roff, none⟩ : Option Addr) := ⟨_, rfl⟩
            rw [← hho] at X RD
            clear hho
            have HS := same_lk1 W8 bo hn bc co cn cc eo en ec uo un uc H (wo W s) RB.h RB.w k5.h k5.w
            obtain ⟨c0_, c1_⟩ := X.c
            obtain ⟨b0_, b1_⟩ := XB.c
            obtain ⟨e0_, e1_⟩ := XC.c
            have hpB := X.lt
            have hrB := XB.lt
            have hqB := XC.lt
            have hBw := Nat.le_trans hpp (Nat.le_of_lt hpB)
            have nn : ((hn : Int) != (hn : Int)) = false := by simp
            go_upto_region 16 with (go_at_call 66; refine HS.mono ?_; rintro e v9 ⟨rfl, b9⟩; have q0_ := (b9.cell hrB).trans b0_; have q1_ := (b9.cell hpB).trans c0_)
            have BV := b9
            have X := X.past BV
            have XB := XB.past BV
            have Z := Z.past BV
            have RD := RD.past BV
            have RB := RB.past BV
            have B := B.trans (BV.mono hBw)
            clear BV b9 c0_ c1_ b0_ b1_ e0_ e1_ q0_ q1_ HS XC k5 hpB hrB hqB hBw nn
            generalize v9 = U at X XB Z RD RB B ⊢
            obtain ⟨c0, c1⟩ := X.c
            obtain ⟨b0_, b1_⟩ := XB.c
            have BU0 : Below U.heap.size U U := Below.refl _ _
            have hBw := Nat.le_trans hpp (Nat.le_of_lt X.lt)
            go_wp2_with fail
            go_loopw [12] (fun zs wr => ∃ j : Nat, j ≤ hn ∧ zs = .int .i64 (j : Nat) ∧ Below U.heap.size U wr) (fun zs _ => hn - (intOf zs).toNat)
            case atStart => exact ⟨0, by omega, rfl, BU0⟩
            case round =>
              clear BU0
              obtain ⟨j, hj, rfl, BU⟩ := hrel
              obtain ⟨c0, c1⟩ := (X.past BU).c
              obtain ⟨b0_, b1_⟩ := (XB.past BU).c
              by_cases hlt : j < hn
              · have hlti : (j : Int) < (hn : Int) := by omega
                obtain ⟨y, hy⟩ : ∃ v, H[j]? = some v := ⟨H[j]'(by omega), List.getElem?_eq_getElem _⟩
                obtain ⟨rb, roff, rfl, hrb, hrc⟩ := (RD.past BU).h.open (by omega) (by decide)
                obtain ⟨y0_, y1_, y2_⟩ := cells_hd hrc j y hy
                obtain ⟨sb, soff, rfl, hsb, hsc⟩ := (RB.past BU).h.open (by omega) (by decide)
                obtain ⟨x0_, x1_, x2_⟩ := cells_hd hsc j y hy
                clear hrc hsc hy
                obtain ⟨ys, yt, yb⟩ := y
                simp only at y0_ y1_ y2_ x0_ x1_ x2_
                have f1 : ((bsOf yt).toList == (bsOf yt).toList) = true := by simp
                go_wp2_with fail
                go_region
                all_goals
                  go_wp2_with fail
                  go_roundw
                  case rel => exact ⟨j + 1, by omega, by go_num, BU.drew⟩
                  case measure => simp [intOf]; omega
              · have hlti : ¬ ((j : Int) < (hn : Int)) := by omega
                have X := X.past BU
                have XB := XB.past BU
                have Z := Z.past BU
                have RD := RD.past BU
                have RB := RB.past BU
                have BZ := B.trans (BU.mono hBw)
                go_upto_region 21 with fail
                generalize wr = W9 at X XB Z RD RB BZ ⊢
                clear c0 c1 b0_ b1_
                obtain ⟨c0_, c1_⟩ := X.c
                obtain ⟨b0_, b1_⟩ := XB.c
                obtain ⟨z0_, z1_, z2_⟩ := Z.c
                simp only at z0_ z1_ z2_
                have hpB := X.lt
                have hrB := XB.lt
                have hgB := Z.lt
                have hB0 : W9.heap.size ≤ W9.heap.size := Nat.le_refl _
                have hZ0 : p0 ≤ W9.heap.size := Nat.le_trans hpp (Nat.le_of_lt hpB)
                obtain ⟨H1, hH1⟩ : ∃ z_, z_ = wo H s := ⟨_, rfl⟩
                obtain ⟨W1, hW1⟩ : ∃ z_, z_ = wo W s := ⟨_, rfl⟩
                have e1 : wo W1 s = W1 := by rw [hW1, wo_wo]
                have hl1 : H1.length ≤ 100000 := by rw [hH1]; have := wo_length H s; omega
                have hl2 : W1.length ≤ 100000 := by rw [hW1]; have := wo_length W s; omega
                rw [← hW1] at RB
                have HF := fun (w' : World) (hb : Below W9.heap.size W9.drew w') => free_any w' (lkV bo hn bc co cn cc) H W1 ⟨_, _, _, _, _, _, rfl, (RB.past (Below.refl _ _).drew).h.past hb, (RB.past (Below.refl _ _).drew).w.past hb⟩ (by omega) hl2 s
                unfold lkV at HF
                simp only [e1, ← hH1] at HF
                have HT := fun (w' : World) (qo : Option Addr) (qn qc : Nat) (ro : Option Addr) (rn rc : Nat) (HL WL : List Hd) (h1 : IsR EHd w' qo qn qc HL) (h2 : IsR EHd w' ro rn rc WL) => toRef_any w' qo qn qc ro rn rc HL WL h1 h2
                have HTA := fun (w' : World) (hb : Below W9.heap.size W9.drew w') => toRef_any w' ho hn hc wq wn wc H W ((RD.past (Below.refl _ _).drew).h.past hb) ((RD.past (Below.refl _ _).drew).w.past hb) (by omega) (by omega)
                have HRF := fun (w' : World) (qo : Option Addr) (qn qc : Nat) (ro : Option Addr) (rn rc : Nat) (hr : RdB w' 0 qo qn qc ro rn rc H W) => rfree_any w' (lkV qo qn qc ro rn rc) H W ⟨_, _, _, _, _, _, rfl, hr.h, hr.w⟩ (by omega) (by omega) s
                unfold lkV at HRF
                simp only [← hH1, ← hW1] at HRF
                have HS := fun (w' : World) (qo : Option Addr) (qn qc : Nat) (ro : Option Addr) (rn rc : Nat) (eo : Option Addr) (en ec : Nat) (uo : Option Addr) (un uc : Nat) (ha : RdB w' 0 qo qn qc ro rn rc H1 W1) (hb : RdB w' 0 eo en ec uo un uc H1 W1) => rsame_lk1 w' qo qn qc ro rn rc eo en ec uo un uc H1 W1 ha.h ha.w hb.h hb.w
                clear e1 hH1 hW1 RD RB X XB Z
                generalize H = H0 at HTA HRF ⊢
                generalize W = W0 at HTA HRF ⊢
                refine region_inv (Again21 W9.heap.size p r g1 ho hn hc wq wn wc bo bc co cn cc s H0 W0 H1 W1) (by kernel_rfl) (by kernel_rfl) ?_ ?_ ?_
                · exact ⟨false, false, false, false, false, false, false, false, false, false, false, false, undef, undef, undef, undef, undef, undef, undef, undef, undef, undef, undef, u4, none, 0, 0, none, 0, 0, none, 0, 0, none, 0, 0, none, 0, 0, none, 0, 0, none, 0, 0, none, 0, 0, rfl, (by simp only [Act.put, List.setIfInBounds_toArray, List.set_cons_zero, List.set_cons_succ]), Below.refl _ _, (fun h => by cases h), (fun h => by cases h), (fun h => by cases h), (fun h => by cases h), (fun h => by cases h), (fun h => by cases h), (fun h => by cases h), (fun h => by cases h), (fun h => by cases h), (fun h => by cases h), (fun h => by cases h), (fun h => by cases h), (fun h => by cases h), (fun h => by cases h), (fun h => by cases h), (fun h => by cases h)⟩
                · refine ⟨?_, ?_, ?_, ?_, ?_, ?_, ?_, ?_, ?_, ?_, ?_, ?_, trivial⟩
                  · rintro L a w ⟨b0, b1, b2, b3, b4, b5, b6, b7, b8, b9, b10, b11, x101, x102, x103, x104, x105, x106, x107, x108, x109, x110, x111, x4, qo, qn, qc, ro, rn, rc, eo, en, ec, uo, un, uc, fo, fn, fc, vo, vn, vc, ko, kn, kc, lo, ln, lc, rfl, rfl, hb, cd0, cd1, cd2, cd3, cd4, cd5, cd6, cd7, cd8, cd9, cd10, cd11, f_r3, f_r4, f_r6, f_r9⟩ hf hd
                    have hf' : b0 = false := hf
                    subst hf'
                    clear hf hd
                    try simp only [List.setIfInBounds_toArray, List.set_cons_zero, List.set_cons_succ]
                    have z0 := (hb.cell hrB).trans b0_
                    have z1 := (hb.cell hrB).trans b1_
                    intro K hK
                    rw [if_pos (by rfl)]
                    go_simp
                    exact hK.out _ _ ⟨true, b1, b2, b3, b4, b5, b6, b7, b8, b9, b10, b11, (.agg #[.slice bo hn bc, .slice co cn cc]), x102, x103, x104, x105, x106, x107, x108, x109, x110, x111, x4, qo, qn, qc, ro, rn, rc, eo, en, ec, uo, un, uc, fo, fn, fc, vo, vn, vc, ko, kn, kc, lo, ln, lc, (by simp only [Act.put, List.setIfInBounds_toArray, List.set_cons_zero, List.set_cons_succ]), (by simp only [Act.put, List.setIfInBounds_toArray, List.set_cons_zero, List.set_cons_succ]), hb, (fun _ => rfl), cd1, cd2, cd3, cd4, cd5, cd6, cd7, cd8, cd9, cd10, cd11, f_r3, f_r4, f_r6, f_r9⟩
                  · rintro L a w ⟨b0, b1, b2, b3, b4, b5, b6, b7, b8, b9, b10, b11, x101, x102, x103, x104, x105, x106, x107, x108, x109, x110, x111, x4, qo, qn, qc, ro, rn, rc, eo, en, ec, uo, un, uc, fo, fn, fc, vo, vn, vc, ko, kn, kc, lo, ln, lc, rfl, rfl, hb, cd0, cd1, cd2, cd3, cd4, cd5, cd6, cd7, cd8, cd9, cd10, cd11, f_r3, f_r4, f_r6, f_r9⟩ hf hd
                    have hf' : b1 = false := hf
                    subst hf'
                    clear hf hd
                    try simp only [List.setIfInBounds_toArray, List.set_cons_zero, List.set_cons_succ]
                    intro K hK
                    rw [if_pos (by rfl)]
                    go_simp
                    exact hK.out _ _ ⟨b0, true, b2, b3, b4, b5, b6, b7, b8, b9, b10, b11, x101, (.pointer (some ⟨g1, 0, none⟩)), x103, x104, x105, x106, x107, x108, x109, x110, x111, x4, qo, qn, qc, ro, rn, rc, eo, en, ec, uo, un, uc, fo, fn, fc, vo, vn, vc, ko, kn, kc, lo, ln, lc, (by simp only [Act.put, List.setIfInBounds_toArray, List.set_cons_zero, List.set_cons_succ]), (by simp only [Act.put, List.setIfInBounds_toArray, List.set_cons_zero, List.set_cons_succ]), hb, cd0, (fun _ => rfl), cd2, cd3, cd4, cd5, cd6, cd7, cd8, cd9, cd10, cd11, f_r3, f_r4, f_r6, f_r9⟩
                  · rintro L a w ⟨b0, b1, b2, b3, b4, b5, b6, b7, b8, b9, b10, b11, x101, x102, x103, x104, x105, x106, x107, x108, x109, x110, x111, x4, qo, qn, qc, ro, rn, rc, eo, en, ec, uo, un, uc, fo, fn, fc, vo, vn, vc, ko, kn, kc, lo, ln, lc, rfl, rfl, hb, cd0, cd1, cd2, cd3, cd4, cd5, cd6, cd7, cd8, cd9, cd10, cd11, f_r3, f_r4, f_r6, f_r9⟩ hf hd
                    have hf' : b2 = false := hf
                    subst hf'
                    have d1 : b1 = true := hd ⟨1, .data⟩ (by simp) rfl
                    subst d1
                    obtain rfl := cd1.out rfl
                    clear hf hd
                    try simp only [List.setIfInBounds_toArray, List.set_cons_zero, List.set_cons_succ]
                    have z0 := (hb.cell hgB).trans z0_
                    intro K hK
                    rw [if_pos (by rfl)]
                    go_simp
                    exact hK.out _ _ ⟨b0, true, true, b3, b4, b5, b6, b7, b8, b9, b10, b11, x101, .pointer (some ⟨g1, 0, none⟩), (.int .i64 s), x104, x105, x106, x107, x108, x109, x110, x111, x4, qo, qn, qc, ro, rn, rc, eo, en, ec, uo, un, uc, fo, fn, fc, vo, vn, vc, ko, kn, kc, lo, ln, lc, (by simp only [Act.put, List.setIfInBounds_toArray, List.set_cons_zero, List.set_cons_succ]), (by simp only [Act.put, List.setIfInBounds_toArray, List.set_cons_zero, List.set_cons_succ]), hb, cd0, (fun _ => rfl), (fun _ => rfl), cd3, cd4, cd5, cd6, cd7, cd8, cd9, cd10, cd11, f_r3, f_r4, f_r6, f_r9⟩
                  · rintro L a w ⟨b0, b1, b2, b3, b4, b5, b6, b7, b8, b9, b10, b11, x101, x102, x103, x104, x105, x106, x107, x108, x109, x110, x111, x4, qo, qn, qc, ro, rn, rc, eo, en, ec, uo, un, uc, fo, fn, fc, vo, vn, vc, ko, kn, kc, lo, ln, lc, rfl, rfl, hb, cd0, cd1, cd2, cd3, cd4, cd5, cd6, cd7, cd8, cd9, cd10, cd11, f_r3, f_r4, f_r6, f_r9⟩ hf hd
                    have hf' : b3 = false := hf
                    subst hf'
                    have d0 : b0 = true := hd ⟨0, .data⟩ (by simp) rfl
                    subst d0
                    have d2 : b2 = true := hd ⟨2, .data⟩ (by simp) rfl
                    subst d2
                    obtain rfl := cd0.out rfl
                    obtain rfl := cd2.out rfl
                    clear hf hd
                    try simp only [List.setIfInBounds_toArray, List.set_cons_zero, List.set_cons_succ]
                    intro K hK
                    rw [if_pos (by rfl)]
                    go_simp
                    go_at_call 59
                    refine (HF _ hb).mono ?_
                    rintro e w' ⟨_, rfl, ⟨qo3, qn3, qc3, ro3, rn3, rc3, rfl, j1, j2, g1_, g2_⟩, bx⟩
                    unfold lkV
                    have k3 : RdB w' 0 qo3 qn3 qc3 ro3 rn3 rc3 H1 W1 := ⟨j1, j2, fun _ _ _ => Nat.zero_le _, fun _ _ _ => Nat.zero_le _⟩
                    exact hK.out _ _ ⟨true, b1, true, true, b4, b5, b6, b7, b8, b9, b10, b11, .agg #[.slice bo hn bc, .slice co cn cc], x102, .int .i64 s, (.agg #[.slice qo3 qn3 qc3, .slice ro3 rn3 rc3]), x105, x106, x107, x108, x109, x110, x111, x4, qo3, qn3, qc3, ro3, rn3, rc3, eo, en, ec, uo, un, uc, fo, fn, fc, vo, vn, vc, ko, kn, kc, lo, ln, lc, (by simp only [Act.put, List.setIfInBounds_toArray, List.set_cons_zero, List.set_cons_succ]), (by simp only [Act.put, List.setIfInBounds_toArray, List.set_cons_zero, List.set_cons_succ]), hb.trans (bx.mono (Nat.le_trans hB0 hb.size)), (fun _ => rfl), cd1, (fun _ => rfl), (fun _ => rfl), cd4, cd5, cd6, cd7, cd8, cd9, cd10, cd11, (fun _ => k3), (fun h0 => (f_r4.out h0).past bx), (fun h0 => (f_r6.out h0).past bx), (fun h0 => (f_r9.out h0).past bx)⟩
                  · rintro L a w ⟨b0, b1, b2, b3, b4, b5, b6, b7, b8, b9, b10, b11, x101, x102, x103, x104, x105, x106, x107, x108, x109, x110, x111, x4, qo, qn, qc, ro, rn, rc, eo, en, ec, uo, un, uc, fo, fn, fc, vo, vn, vc, ko, kn, kc, lo, ln, lc, rfl, rfl, hb, cd0, cd1, cd2, cd3, cd4, cd5, cd6, cd7, cd8, cd9, cd10, cd11, f_r3, f_r4, f_r6, f_r9⟩ hf hd
                    have hf' : b4 = false := hf
                    subst hf'
                    have d3 : b3 = true := hd ⟨3, .data⟩ (by simp) rfl
                    subst d3
                    obtain rfl := cd3.out rfl
                    clear hf hd
                    have W_r3 := f_r3.out rfl
                    try simp only [List.setIfInBounds_toArray, List.set_cons_zero, List.set_cons_succ]
                    intro K hK
                    rw [if_pos (by rfl)]
                    go_simp
                    go_at_call 57
                    refine (HT _ _ _ _ _ _ _ H1 W1 W_r3.h W_r3.w hl1 hl2).mono ?_
                    rintro e w' ⟨_, rfl, ⟨eo3, en3, ec3, uo3, un3, uc3, rfl, j1, j2, g1_, g2_⟩, bx⟩
                    unfold lkV
                    have k4 : RdB w' 0 eo3 en3 ec3 uo3 un3 uc3 H1 W1 := ⟨j1, j2, fun _ _ _ => Nat.zero_le _, fun _ _ _ => Nat.zero_le _⟩
                    exact hK.out _ _ ⟨b0, b1, b2, true, true, b5, b6, b7, b8, b9, b10, b11, x101, x102, x103, .agg #[.slice qo qn qc, .slice ro rn rc], (.agg #[.slice eo3 en3 ec3, .slice uo3 un3 uc3]), x106, x107, x108, x109, x110, x111, x4, qo, qn, qc, ro, rn, rc, eo3, en3, ec3, uo3, un3, uc3, fo, fn, fc, vo, vn, vc, ko, kn, kc, lo, ln, lc, (by simp only [Act.put, List.setIfInBounds_toArray, List.set_cons_zero, List.set_cons_succ]), (by simp only [Act.put, List.setIfInBounds_toArray, List.set_cons_zero, List.set_cons_succ]), hb.trans (bx.mono (Nat.le_trans hB0 hb.size)), cd0, cd1, cd2, (fun _ => rfl), (fun _ => rfl), cd5, cd6, cd7, cd8, cd9, cd10, cd11, (fun h0 => (f_r3.out h0).past bx), (fun _ => k4), (fun h0 => (f_r6.out h0).past bx), (fun h0 => (f_r9.out h0).past bx)⟩
                  · rintro L a w ⟨b0, b1, b2, b3, b4, b5, b6, b7, b8, b9, b10, b11, x101, x102, x103, x104, x105, x106, x107, x108, x109, x110, x111, x4, qo, qn, qc, ro, rn, rc, eo, en, ec, uo, un, uc, fo, fn, fc, vo, vn, vc, ko, kn, kc, lo, ln, lc, rfl, rfl, hb, cd0, cd1, cd2, cd3, cd4, cd5, cd6, cd7, cd8, cd9, cd10, cd11, f_r3, f_r4, f_r6, f_r9⟩ hf hd
                    have hf' : b5 = false := hf
                    subst hf'
                    clear hf hd
                    try simp only [List.setIfInBounds_toArray, List.set_cons_zero, List.set_cons_succ]
                    have z0 := (hb.cell hpB).trans c0_
                    have z1 := (hb.cell hpB).trans c1_
                    intro K hK
                    rw [if_pos (by rfl)]
                    go_simp
                    exact hK.out _ _ ⟨b0, b1, b2, b3, b4, true, b6, b7, b8, b9, b10, b11, x101, x102, x103, x104, x105, (.agg #[.slice ho hn hc, .slice wq wn wc]), x107, x108, x109, x110, x111, x4, qo, qn, qc, ro, rn, rc, eo, en, ec, uo, un, uc, fo, fn, fc, vo, vn, vc, ko, kn, kc, lo, ln, lc, (by simp only [Act.put, List.setIfInBounds_toArray, List.set_cons_zero, List.set_cons_succ]), (by simp only [Act.put, List.setIfInBounds_toArray, List.set_cons_zero, List.set_cons_succ]), hb, cd0, cd1, cd2, cd3, cd4, (fun _ => rfl), cd6, cd7, cd8, cd9, cd10, cd11, f_r3, f_r4, f_r6, f_r9⟩
                  · rintro L a w ⟨b0, b1, b2, b3, b4, b5, b6, b7, b8, b9, b10, b11, x101, x102, x103, x104, x105, x106, x107, x108, x109, x110, x111, x4, qo, qn, qc, ro, rn, rc, eo, en, ec, uo, un, uc, fo, fn, fc, vo, vn, vc, ko, kn, kc, lo, ln, lc, rfl, rfl, hb, cd0, cd1, cd2, cd3, cd4, cd5, cd6, cd7, cd8, cd9, cd10, cd11, f_r3, f_r4, f_r6, f_r9⟩ hf hd
                    have hf' : b6 = false := hf
                    subst hf'
                    have d5 : b5 = true := hd ⟨5, .data⟩ (by simp) rfl
                    subst d5
                    have d4 : b4 = true := hd ⟨4, .chain⟩ (by simp) rfl
                    subst d4
                    obtain rfl := cd5.out rfl
                    obtain rfl := cd4.out rfl
                    clear hf hd
                    have W_r4 := f_r4.out rfl
                    try simp only [List.setIfInBounds_toArray, List.set_cons_zero, List.set_cons_succ]
                    intro K hK
                    rw [if_pos (by rfl)]
                    go_simp
                    go_at_call 57
                    refine (HTA _ hb).mono ?_
                    rintro e w' ⟨_, rfl, ⟨fo3, fn3, fc3, vo3, vn3, vc3, rfl, j1, j2, g1_, g2_⟩, bx⟩
                    unfold lkV
                    have k6 : RdB w' 0 fo3 fn3 fc3 vo3 vn3 vc3 H0 W0 := ⟨j1, j2, fun _ _ _ => Nat.zero_le _, fun _ _ _ => Nat.zero_le _⟩
                    exact hK.out _ _ ⟨b0, b1, b2, b3, true, true, true, b7, b8, b9, b10, b11, x101, x102, x103, x104, .agg #[.slice eo en ec, .slice uo un uc], .agg #[.slice ho hn hc, .slice wq wn wc], (.agg #[.slice fo3 fn3 fc3, .slice vo3 vn3 vc3]), x108, x109, x110, x111, x4, qo, qn, qc, ro, rn, rc, eo, en, ec, uo, un, uc, fo3, fn3, fc3, vo3, vn3, vc3, ko, kn, kc, lo, ln, lc, (by simp only [Act.put, List.setIfInBounds_toArray, List.set_cons_zero, List.set_cons_succ]), (by simp only [Act.put, List.setIfInBounds_toArray, List.set_cons_zero, List.set_cons_succ]), hb.trans (bx.mono (Nat.le_trans hB0 hb.size)), cd0, cd1, cd2, cd3, (fun _ => rfl), (fun _ => rfl), (fun _ => rfl), cd7, cd8, cd9, cd10, cd11, (fun h0 => (f_r3.out h0).past bx), (fun h0 => (f_r4.out h0).past bx), (fun _ => k6), (fun h0 => (f_r9.out h0).past bx)⟩
                  · rintro L a w ⟨b0, b1, b2, b3, b4, b5, b6, b7, b8, b9, b10, b11, x101, x102, x103, x104, x105, x106, x107, x108, x109, x110, x111, x4, qo, qn, qc, ro, rn, rc, eo, en, ec, uo, un, uc, fo, fn, fc, vo, vn, vc, ko, kn, kc, lo, ln, lc, rfl, rfl, hb, cd0, cd1, cd2, cd3, cd4, cd5, cd6, cd7, cd8, cd9, cd10, cd11, f_r3, f_r4, f_r6, f_r9⟩ hf hd
                    have hf' : b7 = false := hf
                    subst hf'
                    clear hf hd
                    try simp only [List.setIfInBounds_toArray, List.set_cons_zero, List.set_cons_succ]
                    intro K hK
                    rw [if_pos (by rfl)]
                    go_simp
                    exact hK.out _ _ ⟨b0, b1, b2, b3, b4, b5, b6, true, b8, b9, b10, b11, x101, x102, x103, x104, x105, x106, x107, (.pointer (some ⟨g1, 0, none⟩)), x109, x110, x111, x4, qo, qn, qc, ro, rn, rc, eo, en, ec, uo, un, uc, fo, fn, fc, vo, vn, vc, ko, kn, kc, lo, ln, lc, (by simp only [Act.put, List.setIfInBounds_toArray, List.set_cons_zero, List.set_cons_succ]), (by simp only [Act.put, List.setIfInBounds_toArray, List.set_cons_zero, List.set_cons_succ]), hb, cd0, cd1, cd2, cd3, cd4, cd5, cd6, (fun _ => rfl), cd8, cd9, cd10, cd11, f_r3, f_r4, f_r6, f_r9⟩
                  · rintro L a w ⟨b0, b1, b2, b3, b4, b5, b6, b7, b8, b9, b10, b11, x101, x102, x103, x104, x105, x106, x107, x108, x109, x110, x111, x4, qo, qn, qc, ro, rn, rc, eo, en, ec, uo, un, uc, fo, fn, fc, vo, vn, vc, ko, kn, kc, lo, ln, lc, rfl, rfl, hb, cd0, cd1, cd2, cd3, cd4, cd5, cd6, cd7, cd8, cd9, cd10, cd11, f_r3, f_r4, f_r6, f_r9⟩ hf hd
                    have hf' : b8 = false := hf
                    subst hf'
                    have d7 : b7 = true := hd ⟨7, .data⟩ (by simp) rfl
                    subst d7
                    obtain rfl := cd7.out rfl
                    clear hf hd
                    try simp only [List.setIfInBounds_toArray, List.set_cons_zero, List.set_cons_succ]
                    have z0 := (hb.cell hgB).trans z0_
                    intro K hK
                    rw [if_pos (by rfl)]
                    go_simp
                    exact hK.out _ _ ⟨b0, b1, b2, b3, b4, b5, b6, true, true, b9, b10, b11, x101, x102, x103, x104, x105, x106, x107, .pointer (some ⟨g1, 0, none⟩), (.int .i64 s), x110, x111, x4, qo, qn, qc, ro, rn, rc, eo, en, ec, uo, un, uc, fo, fn, fc, vo, vn, vc, ko, kn, kc, lo, ln, lc, (by simp only [Act.put, List.setIfInBounds_toArray, List.set_cons_zero, List.set_cons_succ]), (by simp only [Act.put, List.setIfInBounds_toArray, List.set_cons_zero, List.set_cons_succ]), hb, cd0, cd1, cd2, cd3, cd4, cd5, cd6, (fun _ => rfl), (fun _ => rfl), cd9, cd10, cd11, f_r3, f_r4, f_r6, f_r9⟩
                  · rintro L a w ⟨b0, b1, b2, b3, b4, b5, b6, b7, b8, b9, b10, b11, x101, x102, x103, x104, x105, x106, x107, x108, x109, x110, x111, x4, qo, qn, qc, ro, rn, rc, eo, en, ec, uo, un, uc, fo, fn, fc, vo, vn, vc, ko, kn, kc, lo, ln, lc, rfl, rfl, hb, cd0, cd1, cd2, cd3, cd4, cd5, cd6, cd7, cd8, cd9, cd10, cd11, f_r3, f_r4, f_r6, f_r9⟩ hf hd
                    have hf' : b9 = false := hf
                    subst hf'
                    have d6 : b6 = true := hd ⟨6, .data⟩ (by simp) rfl
                    subst d6
                    have d8 : b8 = true := hd ⟨8, .data⟩ (by simp) rfl
                    subst d8
                    obtain rfl := cd6.out rfl
                    obtain rfl := cd8.out rfl
                    clear hf hd
                    have W_r6 := f_r6.out rfl
                    try simp only [List.setIfInBounds_toArray, List.set_cons_zero, List.set_cons_succ]
                    intro K hK
                    rw [if_pos (by rfl)]
                    go_simp
                    go_at_call 60
                    refine (HRF _ _ _ _ _ _ _ W_r6).mono ?_
                    rintro e w' ⟨_, rfl, ⟨ko3, kn3, kc3, lo3, ln3, lc3, rfl, j1, j2, g1_, g2_⟩, bx⟩
                    unfold lkV
                    have k9 : RdB w' 0 ko3 kn3 kc3 lo3 ln3 lc3 H1 W1 := ⟨j1, j2, fun _ _ _ => Nat.zero_le _, fun _ _ _ => Nat.zero_le _⟩
                    exact hK.out _ _ ⟨b0, b1, b2, b3, b4, b5, true, b7, true, true, b10, b11, x101, x102, x103, x104, x105, x106, .agg #[.slice fo fn fc, .slice vo vn vc], x108, .int .i64 s, (.agg #[.slice ko3 kn3 kc3, .slice lo3 ln3 lc3]), x111, x4, qo, qn, qc, ro, rn, rc, eo, en, ec, uo, un, uc, fo, fn, fc, vo, vn, vc, ko3, kn3, kc3, lo3, ln3, lc3, (by simp only [Act.put, List.setIfInBounds_toArray, List.set_cons_zero, List.set_cons_succ]), (by simp only [Act.put, List.setIfInBounds_toArray, List.set_cons_zero, List.set_cons_succ]), hb.trans (bx.mono (Nat.le_trans hB0 hb.size)), cd0, cd1, cd2, cd3, cd4, cd5, (fun _ => rfl), cd7, (fun _ => rfl), (fun _ => rfl), cd10, cd11, (fun h0 => (f_r3.out h0).past bx), (fun h0 => (f_r4.out h0).past bx), (fun h0 => (f_r6.out h0).past bx), (fun _ => k9)⟩
                  · rintro L a w ⟨b0, b1, b2, b3, b4, b5, b6, b7, b8, b9, b10, b11, x101, x102, x103, x104, x105, x106, x107, x108, x109, x110, x111, x4, qo, qn, qc, ro, rn, rc, eo, en, ec, uo, un, uc, fo, fn, fc, vo, vn, vc, ko, kn, kc, lo, ln, lc, rfl, rfl, hb, cd0, cd1, cd2, cd3, cd4, cd5, cd6, cd7, cd8, cd9, cd10, cd11, f_r3, f_r4, f_r6, f_r9⟩ hf hd
                    have hf' : b10 = false := hf
                    subst hf'
                    have d4 : b4 = true := hd ⟨4, .data⟩ (by simp) rfl
                    subst d4
                    have d9 : b9 = true := hd ⟨9, .data⟩ (by simp) rfl
                    subst d9
                    obtain rfl := cd4.out rfl
                    obtain rfl := cd9.out rfl
                    clear hf hd
                    have W_r4 := f_r4.out rfl
                    have W_r9 := f_r9.out rfl
                    try simp only [List.setIfInBounds_toArray, List.set_cons_zero, List.set_cons_succ]
                    intro K hK
                    rw [if_pos (by rfl)]
                    go_simp
                    go_at_call 63
                    refine (HS _ _ _ _ _ _ _ _ _ _ _ _ _ W_r4 W_r9).mono ?_
                    rintro e w' ⟨rfl, bx⟩
                    exact hK.out _ _ ⟨b0, b1, b2, b3, true, b5, b6, b7, b8, true, true, b11, x101, x102, x103, x104, .agg #[.slice eo en ec, .slice uo un uc], x106, x107, x108, x109, .agg #[.slice ko kn kc, .slice lo ln lc], (.bool true), x4, qo, qn, qc, ro, rn, rc, eo, en, ec, uo, un, uc, fo, fn, fc, vo, vn, vc, ko, kn, kc, lo, ln, lc, (by simp only [Act.put, List.setIfInBounds_toArray, List.set_cons_zero, List.set_cons_succ]), (by simp only [Act.put, List.setIfInBounds_toArray, List.set_cons_zero, List.set_cons_succ]), hb.trans (bx.mono (Nat.le_trans hB0 hb.size)), cd0, cd1, cd2, cd3, (fun _ => rfl), cd5, cd6, cd7, cd8, (fun _ => rfl), (fun _ => rfl), cd11, (fun h0 => (f_r3.out h0).past bx), (fun h0 => (f_r4.out h0).past bx), (fun h0 => (f_r6.out h0).past bx), (fun h0 => (f_r9.out h0).past bx)⟩
                  · rintro L a w ⟨b0, b1, b2, b3, b4, b5, b6, b7, b8, b9, b10, b11, x101, x102, x103, x104, x105, x106, x107, x108, x109, x110, x111, x4, qo, qn, qc, ro, rn, rc, eo, en, ec, uo, un, uc, fo, fn, fc, vo, vn, vc, ko, kn, kc, lo, ln, lc, rfl, rfl, hb, cd0, cd1, cd2, cd3, cd4, cd5, cd6, cd7, cd8, cd9, cd10, cd11, f_r3, f_r4, f_r6, f_r9⟩ hf hd
                    have hf' : b11 = false := hf
                    subst hf'
                    have d10 : b10 = true := hd ⟨10, .data⟩ (by simp) rfl
                    subst d10
                    have d0 : b0 = true := hd ⟨0, .phase⟩ (by simp) rfl
                    subst d0
                    have d1 : b1 = true := hd ⟨1, .phase⟩ (by simp) rfl
                    subst d1
                    have d2 : b2 = true := hd ⟨2, .phase⟩ (by simp) rfl
                    subst d2
                    have d3 : b3 = true := hd ⟨3, .phase⟩ (by simp) rfl
                    subst d3
                    have d4 : b4 = true := hd ⟨4, .phase⟩ (by simp) rfl
                    subst d4
                    have d5 : b5 = true := hd ⟨5, .phase⟩ (by simp) rfl
                    subst d5
                    have d6 : b6 = true := hd ⟨6, .phase⟩ (by simp) rfl
                    subst d6
                    have d7 : b7 = true := hd ⟨7, .phase⟩ (by simp) rfl
                    subst d7
                    have d8 : b8 = true := hd ⟨8, .phase⟩ (by simp) rfl
                    subst d8
                    have d9 : b9 = true := hd ⟨9, .phase⟩ (by simp) rfl
                    subst d9
                    obtain rfl := cd10.out rfl
                    obtain rfl := cd0.out rfl
                    obtain rfl := cd1.out rfl
                    obtain rfl := cd2.out rfl
                    obtain rfl := cd3.out rfl
                    obtain rfl := cd4.out rfl
                    obtain rfl := cd5.out rfl
                    obtain rfl := cd6.out rfl
                    obtain rfl := cd7.out rfl
                    obtain rfl := cd8.out rfl
                    obtain rfl := cd9.out rfl
                    clear hf hd
                    have W_r3 := f_r3.out rfl
                    have W_r4 := f_r4.out rfl
                    have W_r6 := f_r6.out rfl
                    have W_r9 := f_r9.out rfl
                    try simp only [List.setIfInBounds_toArray, List.set_cons_zero, List.set_cons_succ]
                    intro K hK
                    rw [if_pos (by rfl)]
                    go_simp
                    exact hK.out _ _ ⟨true, true, true, true, true, true, true, true, true, true, true, true, .agg #[.slice bo hn bc, .slice co cn cc], .pointer (some ⟨g1, 0, none⟩), .int .i64 s, .agg #[.slice qo qn qc, .slice ro rn rc], .agg #[.slice eo en ec, .slice uo un uc], .agg #[.slice ho hn hc, .slice wq wn wc], .agg #[.slice fo fn fc, .slice vo vn vc], .pointer (some ⟨g1, 0, none⟩), .int .i64 s, .agg #[.slice ko kn kc, .slice lo ln lc], .bool true, (.bool true), qo, qn, qc, ro, rn, rc, eo, en, ec, uo, un, uc, fo, fn, fc, vo, vn, vc, ko, kn, kc, lo, ln, lc, (by simp only [Act.put, List.setIfInBounds_toArray, List.set_cons_zero, List.set_cons_succ]), (by simp only [Act.put, List.setIfInBounds_toArray, List.set_cons_zero, List.set_cons_succ]), hb, (fun _ => rfl), (fun _ => rfl), (fun _ => rfl), (fun _ => rfl), (fun _ => rfl), (fun _ => rfl), (fun _ => rfl), (fun _ => rfl), (fun _ => rfl), (fun _ => rfl), (fun _ => rfl), (fun _ => rfl), f_r3, f_r4, f_r6, f_r9⟩
                · rintro act V ⟨b0, b1, b2, b3, b4, b5, b6, b7, b8, b9, b10, b11, x101, x102, x103, x104, x105, x106, x107, x108, x109, x110, x111, x4, qo, qn, qc, ro, rn, rc, eo, en, ec, uo, un, uc, fo, fn, fc, vo, vn, vc, ko, kn, kc, lo, ln, lc, hL, rfl, hb, cd0, cd1, cd2, cd3, cd4, cd5, cd6, cd7, cd8, cd9, cd10, cd11, f_r3, f_r4, f_r6, f_r9⟩
                  have hL' : [true, true, true, true, true, true, true, true, true, true, true, true] = [b0, b1, b2, b3, b4, b5, b6, b7, b8, b9, b10, b11] := congrArg Array.toList hL
                  simp only [List.cons.injEq, and_true] at hL'
                  obtain ⟨rfl, rfl, rfl, rfl, rfl, rfl, rfl, rfl, rfl, rfl, rfl, rfl⟩ := hL'
                  obtain rfl := cd0.out rfl
                  obtain rfl := cd1.out rfl
                  obtain rfl := cd2.out rfl
                  obtain rfl := cd3.out rfl
                  obtain rfl := cd4.out rfl
                  obtain rfl := cd5.out rfl
                  obtain rfl := cd6.out rfl
                  obtain rfl := cd7.out rfl
                  obtain rfl := cd8.out rfl
                  obtain rfl := cd9.out rfl
                  obtain rfl := cd10.out rfl
                  obtain rfl := cd11.out rfl
                  have W_r3 := f_r3.out rfl
                  have W_r4 := f_r4.out rfl
                  have W_r6 := f_r6.out rfl
                  have W_r9 := f_r9.out rfl
                  clear hL f_r3 f_r4 f_r6 f_r9 cd0 cd1 cd2 cd3 cd4 cd5 cd6 cd7 cd8 cd9 cd10 cd11
                  simp only [List.setIfInBounds_toArray, List.set_cons_zero, List.set_cons_succ]
                  go_wp2_with fail
                  go_ret
                  exact ⟨rfl, by rw [HP.out]; exact BZ.trans (((Below.refl _ _).drew.trans hb).mono hZ0)⟩
      · have hlti : ¬ ((i : Int) < (n : Int)) := by omega
        obtain ⟨ho, hn, hc, wq, wn, wc, X, RD⟩ := A.rd
        obtain ⟨c0_, c1_⟩ := X.c
        have hHl := hG.out.lenH
        have hWl := hG.out.lenW
        have hhl := RD.h.len
        have hwl := RD.w.len
        have hBw := Nat.le_trans hp0 B.size
        clear A hlt'
        by_cases hz : hn = 0
        · have hzb : ((hn : Int) == 0) = true := by simp [hz]
          go_wp2_with fail
          go_ret
          exact ⟨rfl, by rw [HP.out]; exact B⟩
        · have hzb : ((hn : Int) == 0) = false := by simp [hz]
          have hwr := wth_range k0 (hn : Int) (by omega)
          obtain ⟨m, hm⟩ : ∃ m : Nat, wth k0 (hn : Int) = (m : Int) := ⟨(wth k0 (hn : Int)).toNat, by omega⟩
          have HWm := fun w => within12_any k0 (hn : Int) w (by omega) (by omega)
          rw [hm] at hwr
          simp only [hm] at HWm
          obtain ⟨y, hy⟩ : ∃ v, H[m]? = some v := ⟨H[m]'(by omega), List.getElem?_eq_getElem _⟩
          have hmi : (m : Int) < (hn : Int) := hwr.2
          have hmn : m < hn := by omega
          clear hm hwr hG
          obtain ⟨rb, roff, rfl, hrb, hrc⟩ := RD.h.open (by omega) (by decide)
          obtain ⟨y0_, y1_, y2_⟩ := cells_hd hrc m y hy
          have hym := List.mem_of_getElem? hy
          clear hrc hy
          obtain ⟨s, t, x⟩ := y
          simp only at y0_ y1_ y2_
          have hq1 : Hid (askH H ⟨s, t, x⟩ = H ∧ askW H W ⟨s, t, x⟩ = wo W s ∧ askB H ⟨s, t, x⟩ = true) := Lib.hid (ask_has (covers_mem hym))
          have hq2 : Hid (askH H ⟨s, t, false⟩ = H ∧ askW H (wo W s) ⟨s, t, false⟩ = wo W s ∧ askB H ⟨s, t, false⟩ = true) := Lib.hid (by
            obtain ⟨e1, e2, e3⟩ := ask_has (W := wo W s) (covers_less hym)
            rw [wo_wo] at e2
            exact ⟨e1, e2, e3⟩)
          clear hym
          go_upto_region 10 with fail
          generalize wr = W7 at X RD B c0_ c1_ y0_ y1_ y2_ hrb hBw ⊢
          have hpB := X.lt
          have hrB := hrb
          have hB0 : W7.heap.size ≤ W7.heap.size := Nat.le_refl _
          refine region_inv (Again10 W7.heap.size p rb roff hn hc m k0 s t x) (by kernel_rfl) (by kernel_rfl) ?_ ?_ ?_
          · exact ⟨false, false, false, false, false, false, false, false, false, false, false, undef, undef, undef, undef, undef, undef, undef, undef, undef, undef, 0, rfl, (by simp only [Act.put, List.setIfInBounds_toArray, List.set_cons_zero, List.set_cons_succ]), Below.refl _ _, (fun h => by cases h), (fun h => by cases h), (fun h => by cases h), (fun h => by cases h), (fun h => by cases h), (fun h => by cases h), (fun h => by cases h), (fun h => by cases h), (fun h => by cases h), (fun h => by cases h), (fun h => by cases h), (fun h => by cases h), (fun h => by cases h), (fun h => by cases h)⟩
          · refine ⟨?_, ?_, ?_, ?_, ?_, ?_, ?_, ?_, ?_, ?_, ?_, trivial⟩
            · rintro L a w ⟨b0, b1, b2, b3, b4, b5, b6, b7, b8, b9, b10, x40, x41, x42, x43, x44, x45, x46, x47, x48, x7, g1, rfl, rfl, hb, cd0, cd1, cd2, cd3, cd4, cd5, cd6, cd7, cd8, cd9, f_z1, f_l1, f_s1, f_q9⟩ hf hd
              have hf' : b0 = false := hf
              subst hf'
              clear hf hd
              try simp only [List.setIfInBounds_toArray, List.set_cons_zero, List.set_cons_succ]
              intro K hK
              rw [if_pos (by rfl)]
              go_simp
              exact hK.out _ _ ⟨true, b1, b2, b3, b4, b5, b6, b7, b8, b9, b10, (.pointer (some ⟨p, 0, none⟩)), x41, x42, x43, x44, x45, x46, x47, x48, x7, g1, (by simp only [Act.put, List.setIfInBounds_toArray, List.set_cons_zero, List.set_cons_succ]), (by simp only [Act.put, List.setIfInBounds_toArray, List.set_cons_zero, List.set_cons_succ]), hb, (fun _ => rfl), cd1, cd2, cd3, cd4, cd5, cd6, cd7, cd8, cd9, f_z1, f_l1, f_s1, f_q9⟩
            · rintro L a w ⟨b0, b1, b2, b3, b4, b5, b6, b7, b8, b9, b10, x40, x41, x42, x43, x44, x45, x46, x47, x48, x7, g1, rfl, rfl, hb, cd0, cd1, cd2, cd3, cd4, cd5, cd6, cd7, cd8, cd9, f_z1, f_l1, f_s1, f_q9⟩ hf hd
              have hf' : b1 = false := hf
              subst hf'
              have d0 : b0 = true := hd ⟨0, .data⟩ (by simp) rfl
              subst d0
              obtain rfl := cd0.out rfl
              clear hf hd
              try simp only [List.setIfInBounds_toArray, List.set_cons_zero, List.set_cons_succ]
              have z0 := (hb.cell hpB).trans c0_
              intro K hK
              rw [if_pos (by rfl)]
              go_simp
              exact hK.out _ _ ⟨true, true, b2, b3, b4, b5, b6, b7, b8, b9, b10, .pointer (some ⟨p, 0, none⟩), (.slice (some ⟨rb, roff, none⟩) hn hc), x42, x43, x44, x45, x46, x47, x48, x7, g1, (by simp only [Act.put, List.setIfInBounds_toArray, List.set_cons_zero, List.set_cons_succ]), (by simp only [Act.put, List.setIfInBounds_toArray, List.set_cons_zero, List.set_cons_succ]), hb, (fun _ => rfl), (fun _ => rfl), cd2, cd3, cd4, cd5, cd6, cd7, cd8, cd9, f_z1, f_l1, f_s1, f_q9⟩
            · rintro L a w ⟨b0, b1, b2, b3, b4, b5, b6, b7, b8, b9, b10, x40, x41, x42, x43, x44, x45, x46, x47, x48, x7, g1, rfl, rfl, hb, cd0, cd1, cd2, cd3, cd4, cd5, cd6, cd7, cd8, cd9, f_z1, f_l1, f_s1, f_q9⟩ hf hd
              have hf' : b2 = false := hf
              subst hf'
              clear hf hd
              try simp only [List.setIfInBounds_toArray, List.set_cons_zero, List.set_cons_succ]
              intro K hK
              rw [if_pos (by rfl)]
              go_simp
              exact hK.out _ _ ⟨b0, b1, true, b3, b4, b5, b6, b7, b8, b9, b10, x40, x41, (.int .i64 k0), x43, x44, x45, x46, x47, x48, x7, g1, (by simp only [Act.put, List.setIfInBounds_toArray, List.set_cons_zero, List.set_cons_succ]), (by simp only [Act.put, List.setIfInBounds_toArray, List.set_cons_zero, List.set_cons_succ]), hb, cd0, cd1, (fun _ => rfl), cd3, cd4, cd5, cd6, cd7, cd8, cd9, f_z1, f_l1, f_s1, f_q9⟩
            · rintro L a w ⟨b0, b1, b2, b3, b4, b5, b6, b7, b8, b9, b10, x40, x41, x42, x43, x44, x45, x46, x47, x48, x7, g1, rfl, rfl, hb, cd0, cd1, cd2, cd3, cd4, cd5, cd6, cd7, cd8, cd9, f_z1, f_l1, f_s1, f_q9⟩ hf hd
              have hf' : b3 = false := hf
              subst hf'
              clear hf hd
              try simp only [List.setIfInBounds_toArray, List.set_cons_zero, List.set_cons_succ]
              intro K hK
              rw [if_pos (by rfl)]
              go_simp
              exact hK.out _ _ ⟨b0, b1, b2, true, b4, b5, b6, b7, b8, b9, b10, x40, x41, x42, (.pointer (some ⟨p, 0, none⟩)), x44, x45, x46, x47, x48, x7, g1, (by simp only [Act.put, List.setIfInBounds_toArray, List.set_cons_zero, List.set_cons_succ]), (by simp only [Act.put, List.setIfInBounds_toArray, List.set_cons_zero, List.set_cons_succ]), hb, cd0, cd1, cd2, (fun _ => rfl), cd4, cd5, cd6, cd7, cd8, cd9, f_z1, f_l1, f_s1, f_q9⟩
            · rintro L a w ⟨b0, b1, b2, b3, b4, b5, b6, b7, b8, b9, b10, x40, x41, x42, x43, x44, x45, x46, x47, x48, x7, g1, rfl, rfl, hb, cd0, cd1, cd2, cd3, cd4, cd5, cd6, cd7, cd8, cd9, f_z1, f_l1, f_s1, f_q9⟩ hf hd
              have hf' : b4 = false := hf
              subst hf'
              have d3 : b3 = true := hd ⟨3, .data⟩ (by simp) rfl
              subst d3
              obtain rfl := cd3.out rfl
              clear hf hd
              try simp only [List.setIfInBounds_toArray, List.set_cons_zero, List.set_cons_succ]
              have z0 := (hb.cell hpB).trans c0_
              intro K hK
              rw [if_pos (by rfl)]
              go_simp
              exact hK.out _ _ ⟨b0, b1, b2, true, true, b5, b6, b7, b8, b9, b10, x40, x41, x42, .pointer (some ⟨p, 0, none⟩), (.slice (some ⟨rb, roff, none⟩) hn hc), x45, x46, x47, x48, x7, g1, (by simp only [Act.put, List.setIfInBounds_toArray, List.set_cons_zero, List.set_cons_succ]), (by simp only [Act.put, List.setIfInBounds_toArray, List.set_cons_zero, List.set_cons_succ]), hb, cd0, cd1, cd2, (fun _ => rfl), (fun _ => rfl), cd5, cd6, cd7, cd8, cd9, f_z1, f_l1, f_s1, f_q9⟩
            · rintro L a w ⟨b0, b1, b2, b3, b4, b5, b6, b7, b8, b9, b10, x40, x41, x42, x43, x44, x45, x46, x47, x48, x7, g1, rfl, rfl, hb, cd0, cd1, cd2, cd3, cd4, cd5, cd6, cd7, cd8, cd9, f_z1, f_l1, f_s1, f_q9⟩ hf hd
              have hf' : b5 = false := hf
              subst hf'
              have d4 : b4 = true := hd ⟨4, .data⟩ (by simp) rfl
              subst d4
              obtain rfl := cd4.out rfl
              clear hf hd
              try simp only [List.setIfInBounds_toArray, List.set_cons_zero, List.set_cons_succ]
              intro K hK
              rw [if_pos (by rfl)]
              go_simp
              exact hK.out _ _ ⟨b0, b1, b2, b3, true, true, b6, b7, b8, b9, b10, x40, x41, x42, x43, .slice (some ⟨rb, roff, none⟩) hn hc, (.int .i64 (hn : Nat)), x46, x47, x48, x7, g1, (by simp only [Act.put, List.setIfInBounds_toArray, List.set_cons_zero, List.set_cons_succ]), (by simp only [Act.put, List.setIfInBounds_toArray, List.set_cons_zero, List.set_cons_succ]), hb, cd0, cd1, cd2, cd3, (fun _ => rfl), (fun _ => rfl), cd6, cd7, cd8, cd9, f_z1, f_l1, f_s1, f_q9⟩
            · rintro L a w ⟨b0, b1, b2, b3, b4, b5, b6, b7, b8, b9, b10, x40, x41, x42, x43, x44, x45, x46, x47, x48, x7, g1, rfl, rfl, hb, cd0, cd1, cd2, cd3, cd4, cd5, cd6, cd7, cd8, cd9, f_z1, f_l1, f_s1, f_q9⟩ hf hd
              have hf' : b6 = false := hf
              subst hf'
              have d2 : b2 = true := hd ⟨2, .data⟩ (by simp) rfl
              subst d2
              have d5 : b5 = true := hd ⟨5, .data⟩ (by simp) rfl
              subst d5
              obtain rfl := cd2.out rfl
              obtain rfl := cd5.out rfl
              clear hf hd
              try simp only [List.setIfInBounds_toArray, List.set_cons_zero, List.set_cons_succ]
              intro K hK
              rw [if_pos (by rfl)]
              go_simp
              go_at_call 58
              refine (HWm _).mono ?_
              rintro e w' ⟨rfl, rfl⟩
              exact hK.out _ _ ⟨b0, b1, true, b3, b4, true, true, b7, b8, b9, b10, x40, x41, .int .i64 k0, x43, x44, .int .i64 (hn : Nat), (.int .i64 (m : Nat)), x47, x48, x7, g1, (by simp only [Act.put, List.setIfInBounds_toArray, List.set_cons_zero, List.set_cons_succ]), (by simp only [Act.put, List.setIfInBounds_toArray, List.set_cons_zero, List.set_cons_succ]), hb, cd0, cd1, (fun _ => rfl), cd3, cd4, (fun _ => rfl), (fun _ => rfl), cd7, cd8, cd9, f_z1, f_l1, f_s1, f_q9⟩
            · rintro L a w ⟨b0, b1, b2, b3, b4, b5, b6, b7, b8, b9, b10, x40, x41, x42, x43, x44, x45, x46, x47, x48, x7, g1, rfl, rfl, hb, cd0, cd1, cd2, cd3, cd4, cd5, cd6, cd7, cd8, cd9, f_z1, f_l1, f_s1, f_q9⟩ hf hd
              have hf' : b7 = false := hf
              subst hf'
              have d1 : b1 = true := hd ⟨1, .data⟩ (by simp) rfl
              subst d1
              have d6 : b6 = true := hd ⟨6, .data⟩ (by simp) rfl
              subst d6
              obtain rfl := cd1.out rfl
              obtain rfl := cd6.out rfl
              clear hf hd
              try simp only [List.setIfInBounds_toArray, List.set_cons_zero, List.set_cons_succ]
              intro K hK
              rw [if_pos (by rfl)]
              go_simp
              exact hK.out _ _ ⟨b0, true, b2, b3, b4, b5, true, true, b8, b9, b10, x40, .slice (some ⟨rb, roff, none⟩) hn hc, x42, x43, x44, x45, .int .i64 (m : Nat), (.pointer (some ⟨rb, roff + m * 3, none⟩)), x48, x7, g1, (by simp only [Act.put, List.setIfInBounds_toArray, List.set_cons_zero, List.set_cons_succ]), (by simp only [Act.put, List.setIfInBounds_toArray, List.set_cons_zero, List.set_cons_succ]), hb, cd0, (fun _ => rfl), cd2, cd3, cd4, cd5, (fun _ => rfl), (fun _ => rfl), cd8, cd9, f_z1, f_l1, f_s1, f_q9⟩
            · rintro L a w ⟨b0, b1, b2, b3, b4, b5, b6, b7, b8, b9, b10, x40, x41, x42, x43, x44, x45, x46, x47, x48, x7, g1, rfl, rfl, hb, cd0, cd1, cd2, cd3, cd4, cd5, cd6, cd7, cd8, cd9, f_z1, f_l1, f_s1, f_q9⟩ hf hd
              have hf' : b8 = false := hf
              subst hf'
              have d7 : b7 = true := hd ⟨7, .data⟩ (by simp) rfl
              subst d7
              obtain rfl := cd7.out rfl
              clear hf hd
              try simp only [List.setIfInBounds_toArray, List.set_cons_zero, List.set_cons_succ]
              have z0 := (hb.cell hrB).trans y0_
              have z1 := (hb.cell hrB).trans y1_
              have z2 := (hb.cell hrB).trans y2_
              intro K hK
              rw [if_pos (by rfl)]
              go_simp
              exact hK.out _ _ ⟨b0, b1, b2, b3, b4, b5, b6, true, true, b9, b10, x40, x41, x42, x43, x44, x45, x46, .pointer (some ⟨rb, roff + m * 3, none⟩), (.agg #[.int .i64 s, .string (bsOf t), .bool x]), x7, g1, (by simp only [Act.put, List.setIfInBounds_toArray, List.set_cons_zero, List.set_cons_succ]), (by simp only [Act.put, List.setIfInBounds_toArray, List.set_cons_zero, List.set_cons_succ]), hb, cd0, cd1, cd2, cd3, cd4, cd5, cd6, (fun _ => rfl), (fun _ => rfl), cd9, f_z1, f_l1, f_s1, f_q9⟩
            · rintro L a w ⟨b0, b1, b2, b3, b4, b5, b6, b7, b8, b9, b10, x40, x41, x42, x43, x44, x45, x46, x47, x48, x7, g1, rfl, rfl, hb, cd0, cd1, cd2, cd3, cd4, cd5, cd6, cd7, cd8, cd9, f_z1, f_l1, f_s1, f_q9⟩ hf hd
              have hf' : b9 = false := hf
              subst hf'
              clear hf hd
              try simp only [List.setIfInBounds_toArray, List.set_cons_zero, List.set_cons_succ]
              intro K hK
              rw [if_pos (by rfl)]
              go_simp
              have bx : Below w.heap.size w (w.alloc (.cells #[.int .i64 0, .string ⟨#[]⟩, .bool false] 101)) := (Below.refl _ _).alloc (Nat.le_refl _) _
              exact hK.out _ _ ⟨b0, b1, b2, b3, b4, b5, b6, b7, b8, true, b10, x40, x41, x42, x43, x44, x45, x46, x47, x48, (.pointer (some ⟨(w.heap.size), 0, none⟩)), w.heap.size, (by simp only [Act.put, List.setIfInBounds_toArray, List.set_cons_zero, List.set_cons_succ]), (by simp only [Act.put, List.setIfInBounds_toArray, List.set_cons_zero, List.set_cons_succ]), hb.trans (bx.mono (Nat.le_trans hB0 hb.size)), cd0, cd1, cd2, cd3, cd4, cd5, cd6, cd7, cd8, (fun _ => rfl), (fun _ _ => heap_alloc_new w _), (fun _ => hb.size), (fun h0 => absurd (f_q9.out h0) (by simp)), (fun _ => rfl)⟩
            · rintro L a w ⟨b0, b1, b2, b3, b4, b5, b6, b7, b8, b9, b10, x40, x41, x42, x43, x44, x45, x46, x47, x48, x7, g1, rfl, rfl, hb, cd0, cd1, cd2, cd3, cd4, cd5, cd6, cd7, cd8, cd9, f_z1, f_l1, f_s1, f_q9⟩ hf hd
              have hf' : b10 = false := hf
              subst hf'
              have d9 : b9 = true := hd ⟨9, .data⟩ (by simp) rfl
              subst d9
              have d8 : b8 = true := hd ⟨8, .data⟩ (by simp) rfl
              subst d8
              have d6 : b6 = true := hd ⟨6, .chain⟩ (by simp) rfl
              subst d6
              have d0 : b0 = true := hd ⟨0, .phase⟩ (by simp) rfl
              subst d0
              have d1 : b1 = true := hd ⟨1, .phase⟩ (by simp) rfl
              subst d1
              have d2 : b2 = true := hd ⟨2, .phase⟩ (by simp) rfl
              subst d2
              have d3 : b3 = true := hd ⟨3, .phase⟩ (by simp) rfl
              subst d3
              have d4 : b4 = true := hd ⟨4, .phase⟩ (by simp) rfl
              subst d4
              have d5 : b5 = true := hd ⟨5, .phase⟩ (by simp) rfl
              subst d5
              have d7 : b7 = true := hd ⟨7, .phase⟩ (by simp) rfl
              subst d7
              obtain rfl := cd9.out rfl
              obtain rfl := cd8.out rfl
              obtain rfl := cd6.out rfl
              obtain rfl := cd0.out rfl
              obtain rfl := cd1.out rfl
              obtain rfl := cd2.out rfl
              obtain rfl := cd3.out rfl
              obtain rfl := cd4.out rfl
              obtain rfl := cd5.out rfl
              obtain rfl := cd7.out rfl
              clear hf hd
              have W_z1 := f_z1.out rfl rfl
              have W_l1 := f_l1.out rfl
              try simp only [List.setIfInBounds_toArray, List.set_cons_zero, List.set_cons_succ]
              intro K hK
              rw [if_pos (by rfl)]
              refine wp_store_hd _ _ rfl g1 (⟨0, [], false⟩ : Hd) (⟨s, t, x⟩ : Hd) rfl rfl (Lib.hid W_z1) fun w2 h8 g8 => ?_
              have hb2 := hb.grown g8 (Nat.le_trans hB0 hb.size) (fun z hz => by cases hz; exact W_l1)
              exact hK.out _ _ ⟨true, true, true, true, true, true, true, true, true, true, true, .pointer (some ⟨p, 0, none⟩), .slice (some ⟨rb, roff, none⟩) hn hc, .int .i64 k0, .pointer (some ⟨p, 0, none⟩), .slice (some ⟨rb, roff, none⟩) hn hc, .int .i64 (hn : Nat), .int .i64 (m : Nat), .pointer (some ⟨rb, roff + m * 3, none⟩), .agg #[.int .i64 s, .string (bsOf t), .bool x], .pointer (some ⟨g1, 0, none⟩), g1, (by simp only [Act.put, List.setIfInBounds_toArray, List.set_cons_zero, List.set_cons_succ]), (by simp only [Act.put, List.setIfInBounds_toArray, List.set_cons_zero, List.set_cons_succ]), hb2, (fun _ => rfl), (fun _ => rfl), (fun _ => rfl), (fun _ => rfl), (fun _ => rfl), (fun _ => rfl), (fun _ => rfl), (fun _ => rfl), (fun _ => rfl), (fun _ => rfl), (fun _ h => by cases h), f_l1, (fun _ => h8), (fun _ => rfl)⟩
          · rintro act V ⟨b0, b1, b2, b3, b4, b5, b6, b7, b8, b9, b10, x40, x41, x42, x43, x44, x45, x46, x47, x48, x7, g1, hL, rfl, hb, cd0, cd1, cd2, cd3, cd4, cd5, cd6, cd7, cd8, cd9, f_z1, f_l1, f_s1, f_q9⟩
            have hL' : [true, true, true, true, true, true, true, true, true, true, true] = [b0, b1, b2, b3, b4, b5, b6, b7, b8, b9, b10] := congrArg Array.toList hL
            simp only [List.cons.injEq, and_true] at hL'
            obtain ⟨rfl, rfl, rfl, rfl, rfl, rfl, rfl, rfl, rfl, rfl, rfl⟩ := hL'
            obtain rfl := cd0.out rfl
            obtain rfl := cd1.out rfl
            obtain rfl := cd2.out rfl
            obtain rfl := cd3.out rfl
            obtain rfl := cd4.out rfl
            obtain rfl := cd5.out rfl
            obtain rfl := cd6.out rfl
            obtain rfl := cd7.out rfl
            obtain rfl := cd8.out rfl
            obtain rfl := cd9.out rfl
            have W_l1 := f_l1.out rfl
            have W_s1 := f_s1.out rfl
            have W_q9 := f_q9.out rfl
            clear hL f_z1 f_l1 f_s1 f_q9 cd0 cd1 cd2 cd3 cd4 cd5 cd6 cd7 cd8 cd9
            simp only [List.setIfInBounds_toArray, List.set_cons_zero, List.set_cons_succ]
            have BV := (Below.refl _ _).drew.trans hb
            have ap1 := RD.apNew W_l1
            have pg1 : p ≠ g1 := by omega
            have X := X.past BV
            have RD := RD.past BV
            have hBv := Nat.le_trans hBw BV.size
            have B := B.trans (BV.mono hBw)
            have hg0 : p0 ≤ g1 := Nat.le_trans hBw W_l1
            have Z := W_s1
            clear hb BV W_s1 W_l1 W_q9 c0_ c1_ y0_ y1_ y2_ hB0 hBw hpB hrB hrb
            generalize V = U3 at X RD B Z hBv ⊢
            obtain ⟨c0_, c1_⟩ := X.c
            obtain ⟨z0_, z1_, z2_⟩ := Z.c
            simp only at z0_ z1_ z2_
            have HK := ask_rd U3 _ hn hc wq wn wc H W H (wo W s) true ⟨s, t, x⟩ RD hq1.out.1 hq1.out.2.1 hq1.out.2.2 (by omega) (by omega)
            simp only at HK
            have hgV := Z.lt
            go_upto_region 12 with (go_at_call 61; refine HK.mono ?_; rintro e v4 ⟨_, rfl, ⟨bo, bn, bc, co, cn, cc, rfl, j1, j2, gq1, gq2⟩, b4⟩; unfold lkV)
            have bA : Below v4.heap.size v4 (v4.alloc (.cells #[.slice bo bn bc, .slice co cn cc] 96)) := (Below.refl _ _).alloc (Nat.le_refl _) _
            have XB : LkB (v4.alloc (.cells #[.slice bo bn bc, .slice co cn cc] 96)) v4.heap.size bo bn bc co cn cc 96 := heap_alloc_new v4 _
            have RB : RdB v4 U3.heap.size bo bn bc co cn cc H (wo W s) := ⟨j1, j2, gq1, gq2⟩
            have ap2 := RB.ap hgV
            have RB := (RB.past bA).mono (Nat.zero_le _)
            have Z := (Z.past b4).past bA
            have X := (X.past b4).past bA
            have RD := (RD.past b4).past bA
            have B := B.trans ((b4.trans (bA.mono b4.size)).mono hBv)
            have hBv := Nat.le_trans (Nat.le_trans hBv b4.size) bA.size
            have rg1 : v4.heap.size ≠ g1 := by have := b4.size; omega
            have hbn : hn = bn := by have := RB.h.len; omega
            subst hbn
            generalize v4.alloc (.cells #[.slice bo hn bc, .slice co cn cc] 96) = U5 at XB RB Z X RD B hBv ⊢
            obtain ⟨r, hr⟩ : ∃ r, v4.heap.size = r := ⟨_, rfl⟩
            rw [hr] at XB rg1
            simp only [hr]
            clear hr bA j1 j2 gq1 gq2 b4 HK c0_ c1_ z0_ z1_ z2_ hgV
            have zf := free_blk (i := 2) Z
            have zc := Z.c.2.2
            go_upto_region 13 with fail
            have g8 := set1_grown U5 g1 2 (.bool false)
            have Z6 : HdB (U5.setCell ⟨g1, 2, none⟩ (.bool false)) g1 ⟨s, t, false⟩ 101 := by
              have := heap_setCell_same (i := 2) (v := .bool false) Z
              simpa [HdB] using this
            have X := X.far g8 pg1
            have XB := XB.far g8 rg1
            have RD := RD.far g8 ap1
            have RB := RB.far g8 ap2
            have B := B.grown g8 hBv (fun z hz => by cases hz; exact hg0)
            have hBv := Nat.le_trans hBv g8.size
            clear zf zc Z g8
            have Z := Z6
            clear Z6
            generalize U5.setCell ⟨g1, 2, none⟩ (.bool false) = U6 at X XB RD RB B hBv Z ⊢
            obtain ⟨b0_, b1_⟩ := XB.c
            obtain ⟨z0_, z1_, z2_⟩ := Z.c
            simp only at z0_ z1_ z2_
            have HK := ask_rd U6 bo hn bc co cn cc H (wo W s) H (wo W s) true ⟨s, t, false⟩ RB hq2.out.1 hq2.out.2.1 hq2.out.2.2 (by omega) (by have := wo_length W s; omega)
            simp only at HK
            go_upto_region 14 with (go_at_call 61; refine HK.mono ?_; rintro e v4 ⟨_, rfl, ⟨eo, en, ec, uo, un, uc, rfl, j1, j2, gq1, gq2⟩, b4⟩; unfold lkV)
            have bA : Below v4.heap.size v4 (v4.alloc (.cells #[.slice eo en ec, .slice uo un uc] 96)) := (Below.refl _ _).alloc (Nat.le_refl _) _
            have XC : LkB (v4.alloc (.cells #[.slice eo en ec, .slice uo un uc] 96)) v4.heap.size eo en ec uo un uc 96 := heap_alloc_new v4 _
            have k5 : RdB v4 0 eo en ec uo un uc H (wo W s) := ⟨j1, j2, fun _ _ _ => Nat.zero_le _, fun _ _ _ => Nat.zero_le _⟩
            have k5 := k5.past bA
            have Z := (Z.past b4).past bA
            have X := (X.past b4).past bA
            have XB := (XB.past b4).past bA
            have RD := (RD.past b4).past bA
            have RB := (RB.past b4).past bA
            have B := B.trans ((b4.trans (bA.mono b4.size)).mono hBv)
            generalize v4.alloc (.cells #[.slice eo en ec, .slice uo un uc] 96) = W8 at XB XC RB k5 Z X RD B ⊢
            obtain ⟨rr, hr⟩ : ∃ r, v4.heap.size = r := ⟨_, rfl⟩
            rw [hr] at XC
            simp only [hr]
            clear hr bA j1 j2 gq1 gq2 b4 HK b0_ b1_ z0_ z1_ z2_ hBv ap1 ap2 pg1 rg1 hg0
            obtain ⟨ho, hho⟩ : ∃ z_, z_ = (some ⟨rb, roff, none⟩ : Option Addr) := ⟨_, rfl⟩
            rw [← hho] at X RD
            clear hho
            have HS := same_lk1 W8 bo hn bc co cn cc eo en ec uo un uc H (wo W s) RB.h RB.w k5.h k5.w
            obtain ⟨c0_, c1_⟩ := X.c
            obtain ⟨b0_, b1_⟩ := XB.c
            obtain ⟨e0_, e1_⟩ := XC.c
            have hpB := X.lt
            have hrB := XB.lt
            have hqB := XC.lt
            have hBw := Nat.le_trans hpp (Nat.le_of_lt hpB)
            have nn : ((hn : Int) != (hn : Int)) = false := by simp
            go_upto_region 16 with (go_at_call 66; refine HS.mono ?_; rintro e v9 ⟨rfl, b9⟩; have q0_ := (b9.cell hrB).trans b0_; have q1_ := (b9.cell hpB).trans c0_)
            have BV := b9
            have X := X.past BV
            have XB := XB.past BV
            have Z := Z.past BV
            have RD := RD.past BV
            have RB := RB.past BV
            have B := B.trans (BV.mono hBw)
            clear BV b9 c0_ c1_ b0_ b1_ e0_ e1_ q0_ q1_ HS XC k5 hpB hrB hqB hBw nn
            generalize v9 = U at X XB Z RD RB B ⊢
            obtain ⟨c0, c1⟩ := X.c
            obtain ⟨b0_, b1_⟩ := XB.c
            have BU0 : Below U.heap.size U U := Below.refl _ _
            have hBw := Nat.le_trans hpp (Nat.le_of_lt X.lt)
            go_wp2_with fail
            go_loopw [12] (fun zs wr => ∃ j : Nat, j ≤ hn ∧ zs = .int .i64 (j : Nat) ∧ Below U.heap.size U wr) (fun zs _ => hn - (intOf zs).toNat)
            case atStart => exact ⟨0, by omega, rfl, BU0⟩
            case round =>
              clear BU0
              obtain ⟨j, hj, rfl, BU⟩ := hrel
              obtain ⟨c0, c1⟩ := (X.past BU).c
              obtain ⟨b0_, b1_⟩ := (XB.past BU).c
              by_cases hlt : j < hn
              · have hlti : (j : Int) < (hn : Int) := by omega
                obtain ⟨y, hy⟩ : ∃ v, H[j]? = some v := ⟨H[j]'(by omega), List.getElem?_eq_getElem _⟩
                obtain ⟨rb, roff, rfl, hrb, hrc⟩ := (RD.past BU).h.open (by omega) (by decide)
                obtain ⟨y0_, y1_, y2_⟩ := cells_hd hrc j y hy
                obtain ⟨sb, soff, rfl, hsb, hsc⟩ := (RB.past BU).h.open (by omega) (by decide)
                obtain ⟨x0_, x1_, x2_⟩ := cells_hd hsc j y hy
                clear hrc hsc hy
                obtain ⟨ys, yt, yb⟩ := y
                simp only at y0_ y1_ y2_ x0_ x1_ x2_
                have f1 : ((bsOf yt).toList == (bsOf yt).toList) = true := by simp
                go_wp2_with fail
                go_region
                all_goals
                  go_wp2_with fail
                  go_roundw
                  case rel => exact ⟨j + 1, by omega, by go_num, BU.drew⟩
                  case measure => simp [intOf]; omega
              · have hlti : ¬ ((j : Int) < (hn : Int)) := by omega
                have X := X.past BU
                have XB := XB.past BU
                have Z := Z.past BU
                have RD := RD.past BU
                have RB := RB.past BU
                have BZ := B.trans (BU.mono hBw)
                go_upto_region 21 with fail
                generalize wr = W9 at X XB Z RD RB BZ ⊢
                clear c0 c1 b0_ b1_
                obtain ⟨c0_, c1_⟩ := X.c
                obtain ⟨b0_, b1_⟩ := XB.c
                obtain ⟨z0_, z1_, z2_⟩ := Z.c
                simp only at z0_ z1_ z2_
                have hpB := X.lt
                have hrB := XB.lt
                have hgB := Z.lt
                have hB0 : W9.heap.size ≤ W9.heap.size := Nat.le_refl _
                have hZ0 : p0 ≤ W9.heap.size := Nat.le_trans hpp (Nat.le_of_lt hpB)
                obtain ⟨H1, hH1⟩ : ∃ z_, z_ = wo H s := ⟨_, rfl⟩
                obtain ⟨W1, hW1⟩ : ∃ z_, z_ = wo W s := ⟨_, rfl⟩
                have e1 : wo W1 s = W1 := by rw [hW1, wo_wo]
                have hl1 : H1.length ≤ 100000 := by rw [hH1]; have := wo_length H s; omega
                have hl2 : W1.length ≤ 100000 := by rw [hW1]; have := wo_length W s; omega
                rw [← hW1] at RB
                have HF := fun (w' : World) (hb : Below W9.heap.size W9.drew w') => free_any w' (lkV bo hn bc co cn cc) H W1 ⟨_, _, _, _, _, _, rfl, (RB.past (Below.refl _ _).drew).h.past hb, (RB.past (Below.refl _ _).drew).w.past hb⟩ (by omega) hl2 s
                unfold lkV at HF
                simp only [e1, ← hH1] at HF
                have HT := fun (w' : World) (qo : Option Addr) (qn qc : Nat) (ro : Option Addr) (rn rc : Nat) (HL WL : List Hd) (h1 : IsR EHd w' qo qn qc HL) (h2 : IsR EHd w' ro rn rc WL) => toRef_any w' qo qn qc ro rn rc HL WL h1 h2
                have HTA := fun (w' : World) (hb : Below W9.heap.size W9.drew w') => toRef_any w' ho hn hc wq wn wc H W ((RD.past (Below.refl _ _).drew).h.past hb) ((RD.past (Below.refl _ _).drew).w.past hb) (by omega) (by omega)
                have HRF := fun (w' : World) (qo : Option Addr) (qn qc : Nat) (ro : Option Addr) (rn rc : Nat) (hr : RdB w' 0 qo qn qc ro rn rc H W) => rfree_any w' (lkV qo qn qc ro rn rc) H W ⟨_, _, _, _, _, _, rfl, hr.h, hr.w⟩ (by omega) (by omega) s
                unfold lkV at HRF
                simp only [← hH1, ← hW1] at HRF
                have HS := fun (w' : World) (qo : Option Addr) (qn qc : Nat) (ro : Option Addr) (rn rc : Nat) (eo : Option Addr) (en ec : Nat) (uo : Option Addr) (un uc : Nat) (ha : RdB w' 0 qo qn qc ro rn rc H1 W1) (hb : RdB w' 0 eo en ec uo un uc H1 W1) => rsame_lk1 w' qo qn qc ro rn rc eo en ec uo un uc H1 W1 ha.h ha.w hb.h hb.w
                clear e1 hH1 hW1 RD RB X XB Z
                generalize H = H0 at HTA HRF ⊢
                generalize W = W0 at HTA HRF ⊢
                refine region_inv (Again21 W9.heap.size p r g1 ho hn hc wq wn wc bo bc co cn cc s H0 W0 H1 W1) (by kernel_rfl) (by kernel_rfl) ?_ ?_ ?_
                · exact ⟨false, false, false, false, false, false, false, false, false, false, false, false, undef, undef, undef, undef, undef, undef, undef, undef, undef, undef, undef, u4, none, 0, 0, none, 0, 0, none, 0, 0, none, 0, 0, none, 0, 0, none, 0, 0, none, 0, 0, none, 0, 0, rfl, (by simp only [Act.put, List.setIfInBounds_toArray, List.set_cons_zero, List.set_cons_succ]), Below.refl _ _, (fun h => by cases h), (fun h => by cases h), (fun h => by cases h), (fun h => by cases h), (fun h => by cases h), (fun h => by cases h), (fun h => by cases h), (fun h => by cases h), (fun h => by cases h), (fun h => by cases h), (fun h => by cases h), (fun h => by cases h), (fun h => by cases h), (fun h => by cases h), (fun h => by cases h), (fun h => by cases h)⟩
                · refine ⟨?_, ?_, ?_, ?_, ?_, ?_, ?_, ?_, ?_, ?_, ?_, ?_, trivial⟩
                  · rintro L a w ⟨b0, b1, b2, b3, b4, b5, b6, b7, b8, b9, b10, b11, x101, x102, x103, x104, x105, x106, x107, x108, x109, x110, x111, x4, qo, qn, qc, ro, rn, rc, eo, en, ec, uo, un, uc, fo, fn, fc, vo, vn, vc, ko, kn, kc, lo, ln, lc, rfl, rfl, hb, cd0, cd1, cd2, cd3, cd4, cd5, cd6, cd7, cd8, cd9, cd10, cd11, f_r3, f_r4, f_r6, f_r9⟩ hf hd
                    have hf' : b0 = false := hf
                    subst hf'
                    clear hf hd
                    try simp only [List.setIfInBounds_toArray, List.set_cons_zero, List.set_cons_succ]
                    have z0 := (hb.cell hrB).trans b0_
                    have z1 := (hb.cell hrB).trans b1_
                    intro K hK
                    rw [if_pos (by rfl)]
                    go_simp
                    exact hK.out _ _ ⟨true, b1, b2, b3, b4, b5, b6, b7, b8, b9, b10, b11, (.agg #[.slice bo hn bc, .slice co cn cc]), x102, x103, x104, x105, x106, x107, x108, x109, x110, x111, x4, qo, qn, qc, ro, rn, rc, eo, en, ec, uo, un, uc, fo, fn, fc, vo, vn, vc, ko, kn, kc, lo, ln, lc, (by simp only [Act.put, List.setIfInBounds_toArray, List.set_cons_zero, List.set_cons_succ]), (by simp only [Act.put, List.setIfInBounds_toArray, List.set_cons_zero, List.set_cons_succ]), hb, (fun _ => rfl), cd1, cd2, cd3, cd4, cd5, cd6, cd7, cd8, cd9, cd10, cd11, f_r3, f_r4, f_r6, f_r9⟩
                  · rintro L a w ⟨b0, b1, b2, b3, b4, b5, b6, b7, b8, b9, b10, b11, x101, x102, x103, x104, x105, x106, x107, x108, x109, x110, x111, x4, qo, qn, qc, ro, rn, rc, eo, en, ec, uo, un, uc, fo, fn, fc, vo, vn, vc, ko, kn, kc, lo, ln, lc, rfl, rfl, hb, cd0, cd1, cd2, cd3, cd4, cd5, cd6, cd7, cd8, cd9, cd10, cd11, f_r3, f_r4, f_r6, f_r9⟩ hf hd
                    have hf' : b1 = false := hf
                    subst hf'
                    clear hf hd
                    try simp only [List.setIfInBounds_toArray, List.set_cons_zero, List.set_cons_succ]
                    intro K hK
                    rw [if_pos (by rfl)]
                    go_simp
                    exact hK.out _ _ ⟨b0, true, b2, b3, b4, b5, b6, b7, b8, b9, b10, b11, x101, (.pointer (some ⟨g1, 0, none⟩)), x103, x104, x105, x106, x107, x108, x109, x110, x111, x4, qo, qn, qc, ro, rn, rc, eo, en, ec, uo, un, uc, fo, fn, fc, vo, vn, vc, ko, kn, kc, lo, ln, lc, (by simp only [Act.put, List.setIfInBounds_toArray, List.set_cons_zero, List.set_cons_succ]), (by simp only [Act.put, List.setIfInBounds_toArray, List.set_cons_zero, List.set_cons_succ]), hb, cd0, (fun _ => rfl), cd2, cd3, cd4, cd5, cd6, cd7, cd8, cd9, cd10, cd11, f_r3, f_r4, f_r6, f_r9⟩
                  · rintro L a w ⟨b0, b1, b2, b3, b4, b5, b6, b7, b8, b9, b10, b11, x101, x102, x103, x104, x105, x106, x107, x108, x109, x110, x111, x4, qo, qn, qc, ro, rn, rc, eo, en, ec, uo, un, uc, fo, fn, fc, vo, vn, vc, ko, kn, kc, lo, ln, lc, rfl, rfl, hb, cd0, cd1, cd2, cd3, cd4, cd5, cd6, cd7, cd8, cd9, cd10, cd11, f_r3, f_r4, f_r6, f_r9⟩ hf hd
                    have hf' : b2 = false := hf
                    subst hf'
                    have d1 : b1 = true := hd ⟨1, .data⟩ (by simp) rfl
                    subst d1
                    obtain rfl := cd1.out rfl
                    clear hf hd
                    try simp only [List.setIfInBounds_toArray, List.set_cons_zero, List.set_cons_succ]
                    have z0 := (hb.cell hgB).trans z0_
                    intro K hK
                    rw [if_pos (by rfl)]
                    go_simp
                    exact hK.out _ _ ⟨b0, true, true, b3, b4, b5, b6, b7, b8, b9, b10, b11, x101, .pointer (some ⟨g1, 0, none⟩), (.int .i64 s), x104, x105, x106, x107, x108, x109, x110, x111, x4, qo, qn, qc, ro, rn, rc, eo, en, ec, uo, un, uc, fo, fn, fc, vo, vn, vc, ko, kn, kc, lo, ln, lc, (by simp only [Act.put, List.setIfInBounds_toArray, List.set_cons_zero, List.set_cons_succ]), (by simp only [Act.put, List.setIfInBounds_toArray, List.set_cons_zero, List.set_cons_succ]), hb, cd0, (fun _ => rfl), (fun _ => rfl), cd3, cd4, cd5, cd6, cd7, cd8, cd9, cd10, cd11, f_r3, f_r4, f_r6, f_r9⟩
                  · rintro L a w ⟨b0, b1, b2, b3, b4, b5, b6, b7, b8, b9, b10, b11, x101, x102, x103, x104, x105, x106, x107, x108, x109, x110, x111, x4, qo, qn, qc, ro, rn, rc, eo, en, ec, uo, un, uc, fo, fn, fc, vo, vn, vc, ko, kn, kc, lo, ln, lc, rfl, rfl, hb, cd0, cd1, cd2, cd3, cd4, cd5, cd6, cd7, cd8, cd9, cd10, cd11, f_r3, f_r4, f_r6, f_r9⟩ hf hd
                    have hf' : b3 = false := hf
                    subst hf'
                    have d0 : b0 = true := hd ⟨0, .data⟩ (by simp) rfl
                    subst d0
                    have d2 : b2 = true := hd ⟨2, .data⟩ (by simp) rfl
                    subst d2
                    obtain rfl := cd0.out rfl
                    obtain rfl := cd2.out rfl
                    clear hf hd
                    try simp only [List.setIfInBounds_toArray, List.set_cons_zero, List.set_cons_succ]
                    intro K hK
                    rw [if_pos (by rfl)]
                    go_simp
                    go_at_call 59
                    refine (HF _ hb).mono ?_
                    rintro e w' ⟨_, rfl, ⟨qo3, qn3, qc3, ro3, rn3, rc3, rfl, j1, j2, g1_, g2_⟩, bx⟩
                    unfold lkV
                    have k3 : RdB w' 0 qo3 qn3 qc3 ro3 rn3 rc3 H1 W1 := ⟨j1, j2, fun _ _ _ => Nat.zero_le _, fun _ _ _ => Nat.zero_le _⟩
                    exact hK.out _ _ ⟨true, b1, true, true, b4, b5, b6, b7, b8, b9, b10, b11, .agg #[.slice bo hn bc, .slice co cn cc], x102, .int .i64 s, (.agg #[.slice qo3 qn3 qc3, .slice ro3 rn3 rc3]), x105, x106, x107, x108, x109, x110, x111, x4, qo3, qn3, qc3, ro3, rn3, rc3, eo, en, ec, uo, un, uc, fo, fn, fc, vo, vn, vc, ko, kn, kc, lo, ln, lc, (by simp only [Act.put, List.setIfInBounds_toArray, List.set_cons_zero, List.set_cons_succ]), (by simp only [Act.put, List.setIfInBounds_toArray, List.set_cons_zero, List.set_cons_succ]), hb.trans (bx.mono (Nat.le_trans hB0 hb.size)), (fun _ => rfl), cd1, (fun _ => rfl), (fun _ => rfl), cd4, cd5, cd6, cd7, cd8, cd9, cd10, cd11, (fun _ => k3), (fun h0 => (f_r4.out h0).past bx), (fun h0 => (f_r6.out h0).past bx), (fun h0 => (f_r9.out h0).past bx)⟩
                  · rintro L a w ⟨b0, b1, b2, b3, b4, b5, b6, b7, b8, b9, b10, b11, x101, x102, x103, x104, x105, x106, x107, x108, x109, x110, x111, x4, qo, qn, qc, ro, rn, rc, eo, en, ec, uo, un, uc, fo, fn, fc, vo, vn, vc, ko, kn, kc, lo, ln, lc, rfl, rfl, hb, cd0, cd1, cd2, cd3, cd4, cd5, cd6, cd7, cd8, cd9, cd10, cd11, f_r3, f_r4, f_r6, f_r9⟩ hf hd
                    have hf' : b4 = false := hf
                    subst hf'
                    have d3 : b3 = true := hd ⟨3, .data⟩ (by simp) rfl
                    subst d3
                    obtain rfl := cd3.out rfl
                    clear hf hd
                    have W_r3 := f_r3.out rfl
                    try simp only [List.setIfInBounds_toArray, List.set_cons_zero, List.set_cons_succ]
                    intro K hK
                    rw [if_pos (by rfl)]
                    go_simp
                    go_at_call 57
                    refine (HT _ _ _ _ _ _ _ H1 W1 W_r3.h W_r3.w hl1 hl2).mono ?_
                    rintro e w' ⟨_, rfl, ⟨eo3, en3, ec3, uo3, un3, uc3, rfl, j1, j2, g1_, g2_⟩, bx⟩
                    unfold lkV
                    have k4 : RdB w' 0 eo3 en3 ec3 uo3 un3 uc3 H1 W1 := ⟨j1, j2, fun _ _ _ => Nat.zero_le _, fun _ _ _ => Nat.zero_le _⟩
                    exact hK.out _ _ ⟨b0, b1, b2, true, true, b5, b6, b7, b8, b9, b10, b11, x101, x102, x103, .agg #[.slice qo qn qc, .slice ro rn rc], (.agg #[.slice eo3 en3 ec3, .slice uo3 un3 uc3]), x106, x107, x108, x109, x110, x111, x4, qo, qn, qc, ro, rn, rc, eo3, en3, ec3, uo3, un3, uc3, fo, fn, fc, vo, vn, vc, ko, kn, kc, lo, ln, lc, (by simp only [Act.put, List.setIfInBounds_toArray, List.set_cons_zero, List.set_cons_succ]), (by simp only [Act.put, List.setIfInBounds_toArray, List.set_cons_zero, List.set_cons_succ]), hb.trans (bx.mono (Nat.le_trans hB0 hb.size)), cd0, cd1, cd2, (fun _ => rfl), (fun _ => rfl), cd5, cd6, cd7, cd8, cd9, cd10, cd11, (fun h0 => (f_r3.out h0).past bx), (fun _ => k4), (fun h0 => (f_r6.out h0).past bx), (fun h0 => (f_r9.out h0).past bx)⟩
                  · rintro L a w ⟨b0, b1, b2, b3, b4, b5, b6, b7, b8, b9, b10, b11, x101, x102, x103, x104, x105, x106, x107, x108, x109, x110, x111, x4, qo, qn, qc, ro, rn, rc, eo, en, ec, uo, un, uc, fo, fn, fc, vo, vn, vc, ko, kn, kc, lo, ln, lc, rfl, rfl, hb, cd0, cd1, cd2, cd3, cd4, cd5, cd6, cd7, cd8, cd9, cd10, cd11, f_r3, f_r4, f_r6, f_r9⟩ hf hd
                    have hf' : b5 = false := hf
                    subst hf'
                    clear hf hd
                    try simp only [List.setIfInBounds_toArray, List.set_cons_zero, List.set_cons_succ]
                    have z0 := (hb.cell hpB).trans c0_
                    have z1 := (hb.cell hpB).trans c1_
                    intro K hK
                    rw [if_pos (by rfl)]
                    go_simp
                    exact hK.out _ _ ⟨b0, b1, b2, b3, b4, true, b6, b7, b8, b9, b10, b11, x101, x102, x103, x104, x105, (.agg #[.slice ho hn hc, .slice wq wn wc]), x107, x108, x109, x110, x111, x4, qo, qn, qc, ro, rn, rc, eo, en, ec, uo, un, uc, fo, fn, fc, vo, vn, vc, ko, kn, kc, lo, ln, lc, (by simp only [Act.put, List.setIfInBounds_toArray, List.set_cons_zero, List.set_cons_succ]), (by simp only [Act.put, List.setIfInBounds_toArray, List.set_cons_zero, List.set_cons_succ]), hb, cd0, cd1, cd2, cd3, cd4, (fun _ => rfl), cd6, cd7, cd8, cd9, cd10, cd11, f_r3, f_r4, f_r6, f_r9⟩
                  · rintro L a w ⟨b0, b1, b2, b3, b4, b5, b6, b7, b8, b9, b10, b11, x101, x102, x103, x104, x105, x106, x107, x108, x109, x110, x111, x4, qo, qn, qc, ro, rn, rc, eo, en, ec, uo, un, uc, fo, fn, fc, vo, vn, vc, ko, kn, kc, lo, ln, lc, rfl, rfl, hb, cd0, cd1, cd2, cd3, cd4, cd5, cd6, cd7, cd8, cd9, cd10, cd11, f_r3, f_r4, f_r6, f_r9⟩ hf hd
                    have hf' : b6 = false := hf
                    subst hf'
                    have d5 : b5 = true := hd ⟨5, .data⟩ (by simp) rfl
                    subst d5
                    have d4 : b4 = true := hd ⟨4, .chain⟩ (by simp) rfl
                    subst d4
                    obtain rfl := cd5.out rfl
                    obtain rfl := cd4.out rfl
                    clear hf hd
                    have W_r4 := f_r4.out rfl
                    try simp only [List.setIfInBounds_toArray, List.set_cons_zero, List.set_cons_succ]
                    intro K hK
                    rw [if_pos (by rfl)]
                    go_simp
                    go_at_call 57
                    refine (HTA _ hb).mono ?_
                    rintro e w' ⟨_, rfl, ⟨fo3, fn3, fc3, vo3, vn3, vc3, rfl, j1, j2, g1_, g2_⟩, bx⟩
                    unfold lkV
                    have k6 : RdB w' 0 fo3 fn3 fc3 vo3 vn3 vc3 H0 W0 := ⟨j1, j2, fun _ _ _ => Nat.zero_le _, fun _ _ _ => Nat.zero_le _⟩
                    exact hK.out _ _ ⟨b0, b1, b2, b3, true, true, true, b7, b8, b9, b10, b11, x101, x102, x103, x104, .agg #[.slice eo en ec, .slice uo un uc], .agg #[.slice ho hn hc, .slice wq wn wc], (.agg #[.slice fo3 fn3 fc3, .slice vo3 vn3 vc3]), x108, x109, x110, x111, x4, qo, qn, qc, ro, rn, rc, eo, en, ec, uo, un, uc, fo3, fn3, fc3, vo3, vn3, vc3, ko, kn, kc, lo, ln, lc, (by simp only [Act.put, List.setIfInBounds_toArray, List.set_cons_zero, List.set_cons_succ]), (by simp only [Act.put, List.setIfInBounds_toArray, List.set_cons_zero, List.set_cons_succ]), hb.trans (bx.mono (Nat.le_trans hB0 hb.size)), cd0, cd1, cd2, cd3, (fun _ => rfl), (fun _ => rfl), (fun _ => rfl), cd7, cd8, cd9, cd10, cd11, (fun h0 => (f_r3.out h0).past bx), (fun h0 => (f_r4.out h0).past bx), (fun _ => k6), (fun h0 => (f_r9.out h0).past bx)⟩
                  · rintro L a w ⟨b0, b1, b2, b3, b4, b5, b6, b7, b8, b9, b10, b11, x101, x102, x103, x104, x105, x106, x107, x108, x109, x110, x111, x4, qo, qn, qc, ro, rn, rc, eo, en, ec, uo, un, uc, fo, fn, fc, vo, vn, vc, ko, kn, kc, lo, ln, lc, rfl, rfl, hb, cd0, cd1, cd2, cd3, cd4, cd5, cd6, cd7, cd8, cd9, cd10, cd11, f_r3, f_r4, f_r6, f_r9⟩ hf hd
                    have hf' : b7 = false := hf
                    subst hf'
                    clear hf hd
                    try simp only [List.setIfInBounds_toArray, List.set_cons_zero, List.set_cons_succ]
                    intro K hK
                    rw [if_pos (by rfl)]
                    go_simp
                    exact hK.out _ _ ⟨b0, b1, b2, b3, b4, b5, b6, true, b8, b9, b10, b11, x101, x102, x103, x104, x105, x106, x107, (.pointer (some ⟨g1, 0, none⟩)), x109, x110, x111, x4, qo, qn, qc, ro, rn, rc, eo, en, ec, uo, un, uc, fo, fn, fc, vo, vn, vc, ko, kn, kc, lo, ln, lc, (by simp only [Act.put, List.setIfInBounds_toArray, List.set_cons_zero, List.set_cons_succ]), (by simp only [Act.put, List.setIfInBounds_toArray, List.set_cons_zero, List.set_cons_succ]), hb, cd0, cd1, cd2, cd3, cd4, cd5, cd6, (fun _ => rfl), cd8, cd9, cd10, cd11, f_r3, f_r4, f_r6, f_r9⟩
                  · rintro L a w ⟨b0, b1, b2, b3, b4, b5, b6, b7, b8, b9, b10, b11, x101, x102, x103, x104, x105, x106, x107, x108, x109, x110, x111, x4, qo, qn, qc, ro, rn, rc, eo, en, ec, uo, un, uc, fo, fn, fc, vo, vn, vc, ko, kn, kc, lo, ln, lc, rfl, rfl, hb, cd0, cd1, cd2, cd3, cd4, cd5, cd6, cd7, cd8, cd9, cd10, cd11, f_r3, f_r4, f_r6, f_r9⟩ hf hd
                    have hf' : b8 = false := hf
                    subst hf'
                    have d7 : b7 = true := hd ⟨7, .data⟩ (by simp) rfl
                    subst d7
                    obtain rfl := cd7.out rfl
                    clear hf hd
                    try simp only [List.setIfInBounds_toArray, List.set_cons_zero, List.set_cons_succ]
                    have z0 := (hb.cell hgB).trans z0_
                    intro K hK
                    rw [if_pos (by rfl)]
                    go_simp
                    exact hK.out _ _ ⟨b0, b1, b2, b3, b4, b5, b6, true, true, b9, b10, b11, x101, x102, x103, x104, x105, x106, x107, .pointer (some ⟨g1, 0, none⟩), (.int .i64 s), x110, x111, x4, qo, qn, qc, ro, rn, rc, eo, en, ec, uo, un, uc, fo, fn, fc, vo, vn, vc, ko, kn, kc, lo, ln, lc, (by simp only [Act.put, List.setIfInBounds_toArray, List.set_cons_zero, List.set_cons_succ]), (by simp only [Act.put, List.setIfInBounds_toArray, List.set_cons_zero, List.set_cons_succ]), hb, cd0, cd1, cd2, cd3, cd4, cd5, cd6, (fun _ => rfl), (fun _ => rfl), cd9, cd10, cd11, f_r3, f_r4, f_r6, f_r9⟩
                  · rintro L a w ⟨b0, b1, b2, b3, b4, b5, b6, b7, b8, b9, b10, b11, x101, x102, x103, x104, x105, x106, x107, x108, x109, x110, x111, x4, qo, qn, qc, ro, rn, rc, eo, en, ec, uo, un, uc, fo, fn, fc, vo, vn, vc, ko, kn, kc, lo, ln, lc, rfl, rfl, hb, cd0, cd1, cd2, cd3, cd4, cd5, cd6, cd7, cd8, cd9, cd10, cd11, f_r3, f_r4, f_r6, f_r9⟩ hf hd
                    have hf' : b9 = false := hf
                    subst hf'
                    have d6 : b6 = true := hd ⟨6, .data⟩ (by simp) rfl
                    subst d6
                    have d8 : b8 = true := hd ⟨8, .data⟩ (by simp) rfl
                    subst d8
                    obtain rfl := cd6.out rfl
                    obtain rfl := cd8.out rfl
                    clear hf hd
                    have W_r6 := f_r6.out rfl
                    try simp only [List.setIfInBounds_toArray, List.set_cons_zero, List.set_cons_succ]
                    intro K hK
                    rw [if_pos (by rfl)]
                    go_simp
                    go_at_call 60
                    refine (HRF _ _ _ _ _ _ _ W_r6).mono ?_
                    rintro e w' ⟨_, rfl, ⟨ko3, kn3, kc3, lo3, ln3, lc3, rfl, j1, j2, g1_, g2_⟩, bx⟩
                    unfold lkV
                    have k9 : RdB w' 0 ko3 kn3 kc3 lo3 ln3 lc3 H1 W1 := ⟨j1, j2, fun _ _ _ => Nat.zero_le _, fun _ _ _ => Nat.zero_le _⟩
                    exact hK.out _ _ ⟨b0, b1, b2, b3, b4, b5, true, b7, true, true, b10, b11, x101, x102, x103, x104, x105, x106, .agg #[.slice fo fn fc, .slice vo vn vc], x108, .int .i64 s, (.agg #[.slice ko3 kn3 kc3, .slice lo3 ln3 lc3]), x111, x4, qo, qn, qc, ro, rn, rc, eo, en, ec, uo, un, uc, fo, fn, fc, vo, vn, vc, ko3, kn3, kc3, lo3, ln3, lc3, (by simp only [Act.put, List.setIfInBounds_toArray, List.set_cons_zero, List.set_cons_succ]), (by simp only [Act.put, List.setIfInBounds_toArray, List.set_cons_zero, List.set_cons_succ]), hb.trans (bx.mono (Nat.le_trans hB0 hb.size)), cd0, cd1, cd2, cd3, cd4, cd5, (fun _ => rfl), cd7, (fun _ => rfl), (fun _ => rfl), cd10, cd11, (fun h0 => (f_r3.out h0).past bx), (fun h0 => (f_r4.out h0).past bx), (fun h0 => (f_r6.out h0).past bx), (fun _ => k9)⟩
                  · rintro L a w ⟨b0, b1, b2, b3, b4, b5, b6, b7, b8, b9, b10, b11, x101, x102, x103, x104, x105, x106, x107, x108, x109, x110, x111, x4, qo, qn, qc, ro, rn, rc, eo, en, ec, uo, un, uc, fo, fn, fc, vo, vn, vc, ko, kn, kc, lo, ln, lc, rfl, rfl, hb, cd0, cd1, cd2, cd3, cd4, cd5, cd6, cd7, cd8, cd9, cd10, cd11, f_r3, f_r4, f_r6, f_r9⟩ hf hd
                    have hf' : b10 = false := hf
                    subst hf'
                    have d4 : b4 = true := hd ⟨4, .data⟩ (by simp) rfl
                    subst d4
                    have d9 : b9 = true := hd ⟨9, .data⟩ (by simp) rfl
                    subst d9
                    obtain rfl := cd4.out rfl
                    obtain rfl := cd9.out rfl
                    clear hf hd
                    have W_r4 := f_r4.out rfl
                    have W_r9 := f_r9.out rfl
                    try simp only [List.setIfInBounds_toArray, List.set_cons_zero, List.set_cons_succ]
                    intro K hK
                    rw [if_pos (by rfl)]
                    go_simp
                    go_at_call 63
                    refine (HS _ _ _ _ _ _ _ _ _ _ _ _ _ W_r4 W_r9).mono ?_
                    rintro e w' ⟨rfl, bx⟩
                    exact hK.out _ _ ⟨b0, b1, b2, b3, true, b5, b6, b7, b8, true, true, b11, x101, x102, x103, x104, .agg #[.slice eo en ec, .slice uo un uc], x106, x107, x108, x109, .agg #[.slice ko kn kc, .slice lo ln lc], (.bool true), x4, qo, qn, qc, ro, rn, rc, eo, en, ec, uo, un, uc, fo, fn, fc, vo, vn, vc, ko, kn, kc, lo, ln, lc, (by simp only [Act.put, List.setIfInBounds_toArray, List.set_cons_zero, List.set_cons_succ]), (by simp only [Act.put, List.setIfInBounds_toArray, List.set_cons_zero, List.set_cons_succ]), hb.trans (bx.mono (Nat.le_trans hB0 hb.size)), cd0, cd1, cd2, cd3, (fun _ => rfl), cd5, cd6, cd7, cd8, (fun _ => rfl), (fun _ => rfl), cd11, (fun h0 => (f_r3.out h0).past bx), (fun h0 => (f_r4.out h0).past bx), (fun h0 => (f_r6.out h0).past bx), (fun h0 => (f_r9.out h0).past bx)⟩
                  · rintro L a w ⟨b0, b1, b2, b3, b4, b5, b6, b7, b8, b9, b10, b11, x101, x102, x103, x104, x105, x106, x107, x108, x109, x110, x111, x4, qo, qn, qc, ro, rn, rc, eo, en, ec, uo, un, uc, fo, fn, fc, vo, vn, vc, ko, kn, kc, lo, ln, lc, rfl, rfl, hb, cd0, cd1, cd2, cd3, cd4, cd5, cd6, cd7, cd8, cd9, cd10, cd11, f_r3, f_r4, f_r6, f_r9⟩ hf hd
                    have hf' : b11 = false := hf
                    subst hf'
                    have d10 : b10 = true := hd ⟨10, .data⟩ (by simp) rfl
                    subst d10
                    have d0 : b0 = true := hd ⟨0, .phase⟩ (by simp) rfl
                    subst d0
                    have d1 : b1 = true := hd ⟨1, .phase⟩ (by simp) rfl
                    subst d1
                    have d2 : b2 = true := hd ⟨2, .phase⟩ (by simp) rfl
                    subst d2
                    have d3 : b3 = true := hd ⟨3, .phase⟩ (by simp) rfl
                    subst d3
                    have d4 : b4 = true := hd ⟨4, .phase⟩ (by simp) rfl
                    subst d4
                    have d5 : b5 = true := hd ⟨5, .phase⟩ (by simp) rfl
                    subst d5
                    have d6 : b6 = true := hd ⟨6, .phase⟩ (by simp) rfl
                    subst d6
                    have d7 : b7 = true := hd ⟨7, .phase⟩ (by simp) rfl
                    subst d7
                    have d8 : b8 = true := hd ⟨8, .phase⟩ (by simp) rfl
                    subst d8
                    have d9 : b9 = true := hd ⟨9, .phase⟩ (by simp) rfl
                    subst d9
                    obtain rfl := cd10.out rfl
                    obtain rfl := cd0.out rfl
                    obtain rfl := cd1.out rfl
                    obtain rfl := cd2.out rfl
                    obtain rfl := cd3.out rfl
                    obtain rfl := cd4.out rfl
                    obtain rfl := cd5.out rfl
                    obtain rfl := cd6.out rfl
                    obtain rfl := cd7.out rfl
                    obtain rfl := cd8.out rfl
                    obtain rfl := cd9.out rfl
                    clear hf hd
                    have W_r3 := f_r3.out rfl
                    have W_r4 := f_r4.out rfl
                    have W_r6 := f_r6.out rfl
                    have W_r9 := f_r9.out rfl
                    try simp only [List.setIfInBounds_toArray, List.set_cons_zero, List.set_cons_succ]
                    intro K hK
                    rw [if_pos (by rfl)]
                    go_simp
                    exact hK.out _ _ ⟨true, true, true, true, true, true, true, true, true, true, true, true, .agg #[.slice bo hn bc, .slice co cn cc], .pointer (some ⟨g1, 0, none⟩), .int .i64 s, .agg #[.slice qo qn qc, .slice ro rn rc], .agg #[.slice eo en ec, .slice uo un uc], .agg #[.slice ho hn hc, .slice wq wn wc], .agg #[.slice fo fn fc, .slice vo vn vc], .pointer (some ⟨g1, 0, none⟩), .int .i64 s, .agg #[.slice ko kn kc, .slice lo ln lc], .bool true, (.bool true), qo, qn, qc, ro, rn, rc, eo, en, ec, uo, un, uc, fo, fn, fc, vo, vn, vc, ko, kn, kc, lo, ln, lc, (by simp only [Act.put, List.setIfInBounds_toArray, List.set_cons_zero, List.set_cons_succ]), (by simp only [Act.put, List.setIfInBounds_toArray, List.set_cons_zero, List.set_cons_succ]), hb, (fun _ => rfl), (fun _ => rfl), (fun _ => rfl), (fun _ => rfl), (fun _ => rfl), (fun _ => rfl), (fun _ => rfl), (fun _ => rfl), (fun _ => rfl), (fun _ => rfl), (fun _ => rfl), (fun _ => rfl), f_r3, f_r4, f_r6, f_r9⟩
                · rintro act V ⟨b0, b1, b2, b3, b4, b5, b6, b7, b8, b9, b10, b11, x101, x102, x103, x104, x105, x106, x107, x108, x109, x110, x111, x4, qo, qn, qc, ro, rn, rc, eo, en, ec, uo, un, uc, fo, fn, fc, vo, vn, vc, ko, kn, kc, lo, ln, lc, hL, rfl, hb, cd0, cd1, cd2, cd3, cd4, cd5, cd6, cd7, cd8, cd9, cd10, cd11, f_r3, f_r4, f_r6, f_r9⟩
                  have hL' : [true, true, true, true, true, true, true, true, true, true, true, true] = [b0, b1, b2, b3, b4, b5, b6, b7, b8, b9, b10, b11] := congrArg Array.toList hL
                  simp only [List.cons.injEq, and_true] at hL'
                  obtain ⟨rfl, rfl, rfl, rfl, rfl, rfl, rfl, rfl, rfl, rfl, rfl, rfl⟩ := hL'
                  obtain rfl := cd0.out rfl
                  obtain rfl := cd1.out rfl
                  obtain rfl := cd2.out rfl
                  obtain rfl := cd3.out rfl
                  obtain rfl := cd4.out rfl
                  obtain rfl := cd5.out rfl
                  obtain rfl := cd6.out rfl
                  obtain rfl := cd7.out rfl
                  obtain rfl := cd8.out rfl
                  obtain rfl := cd9.out rfl
                  obtain rfl := cd10.out rfl
                  obtain rfl := cd11.out rfl
                  have W_r3 := f_r3.out rfl
                  have W_r4 := f_r4.out rfl
                  have W_r6 := f_r6.out rfl
                  have W_r9 := f_r9.out rfl
                  clear hL f_r3 f_r4 f_r6 f_r9 cd0 cd1 cd2 cd3 cd4 cd5 cd6 cd7 cd8 cd9 cd10 cd11
                  simp only [List.setIfInBounds_toArray, List.set_cons_zero, List.set_cons_succ]
                  go_wp2_with fail
                  go_ret
                  exact ⟨rfl, by rw [HP.out]; exact BZ.trans (((Below.refl _ _).drew.trans hb).mono hZ0)⟩
end Go.Proofs.Ytckfkgmlifnfkaa
