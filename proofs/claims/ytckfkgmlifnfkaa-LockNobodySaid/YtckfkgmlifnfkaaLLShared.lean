/-
  LockShared, walked (by gen_lshared.py).
-/
import Derived.Test.YtckfkgmlifnfkaaLaw12
import Derived.Test.YtckfkgmlifnfkaaKLs
namespace Go.Proofs.Ytckfkgmlifnfkaa
open Go.RowKit
set_option linter.unusedSimpArgs false
theorem Sh_len (t : List UInt8) (k : Nat) : (Sh t k).length = k := by simp [Sh]
theorem Fr_len (t : List UInt8) (N X k : Nat) : (Fr t N X k).length ≤ N := by
  have := List.length_filter_le (fun h : Hd => decide ((k : Int) ≤ h.s) || decide (h.s = (X : Int))) (Sh t N)
  rw [Sh_len] at this
  exact this
theorem wth_nat (a : Int) (n : Nat) (hn : 0 < n) : ∃ k : Nat, wth a (n : Nat) = (k : Int) ∧ k < n := by
  have h1 := Int.lt_tmod_of_pos a (show (0 : Int) < (n : Int) by omega)
  have h2 := Int.tmod_lt_of_pos a (show (0 : Int) < (n : Int) by omega)
  have h : 0 ≤ wth a (n : Nat) ∧ wth a (n : Nat) < (n : Int) := by
    unfold wth
    split <;> omega
  exact ⟨(wth a (n : Nat)).toNat, by omega, by omega⟩
set_option maxRecDepth 100000 in
set_option maxHeartbeats 2000000 in
theorem lockShared_walk (n x : Int) (w : World) (_h1 : (Lit.int .i64 n).wf = true) (_h2 : (Lit.int .i64 x).wf = true) :
    Calls Try.prog 10 #[.int .i64 n, .int .i64 x] w fun e w' => e = .returned (.bool true) ∧ Below w.heap.size w w' := by
  obtain ⟨K, hK, hK6⟩ := wth_nat n 6 (by decide)
  obtain ⟨N, hN⟩ : ∃ N : Nat, N = K + 2 := ⟨_, rfl⟩
  have hNI : (2 : Int) + (K : Int) = (N : Int) := by omega
  have hN2 : 2 ≤ N := by omega
  have hN7 : N ≤ 7 := by omega
  obtain ⟨X, hX, hXN⟩ := wth_nat x N (by omega)
  have HW1 := fun w => within12_any n 6 w (by decide) (by decide)
  have HW2 := fun w => within12_any x (N : Nat) w (by omega) (by omega)
  have hK' : wth n 6 = (K : Int) := hK
  simp only [hK'] at HW1
  simp only [hX] at HW2
  clear hK hK' hX hN hK6
  go_enter Try.func10, Try.ntmps10
  go_upto_region 3 with (go_at_call 55; refine (known12 _).mono ?_; rintro e w1 ⟨rfl, b1⟩)
  go_upto_region 4 with (go_at_call 58; refine (HW1 _).mono ?_; rintro e w2 ⟨rfl, rfl⟩)
  try simp only [hNI]
  clear hNI HW1
  go_upto_region 5 with (go_at_call 58; refine (HW2 _).mono ?_; rintro e w2 ⟨rfl, rfl⟩)
  clear HW2
  obtain ⟨p0, hp⟩ : ∃ p0, w.heap.size = p0 := ⟨_, rfl⟩
  have HP := Lib.hid hp
  have hp0 : p0 ≤ w.heap.size := by omega
  have A := LkAt.new w1
  have B : Below p0 w (w1.alloc (.cells #[.slice none 0 0, .slice none 0 0] 96)) := by rw [← hp]; exact b1.alloc b1.size _
  have hpp : p0 ≤ w1.heap.size := by rw [← hp]; exact b1.size
  go_upto_region 6 with fail
  generalize w1.alloc (.cells #[.slice none 0 0, .slice none 0 0] 96) = u0 at A B ⊢
  obtain ⟨p, hpv⟩ : ∃ p, w1.heap.size = p := ⟨_, rfl⟩
  rw [hpv] at A hpp
  simp only [hpv]
  clear hp hpv b1
  go_wp2_with fail
  go_loopw [6] (fun zs wr => ∃ k : Nat, k ≤ N ∧ zs = .int .i64 (k : Nat) ∧ LkAt wr p (Sh [116] k) [] ∧ Below p0 w wr) (fun zs _ => N - (intOf zs).toNat)
  case atStart => exact ⟨0, by omega, rfl, A, B⟩
  case round =>
    clear A B
    obtain ⟨k, hk, rfl, A, B⟩ := hrel
    by_cases hlt : k < N
    · have hlti : (k : Int) < (N : Int) := by omega
      have hl := Sh_len [116] k
      obtain ⟨ho1, hn1, hc1, wo1, wn1, wc1, X1, i11, i21, f11, f21⟩ := A
      obtain ⟨c0, c1⟩ := X1.c
      have hpw := X1.lt
      have hBw := Nat.le_trans hp0 B.size
      have HA := ask_any wr (lkV ho1 hn1 hc1 wo1 wn1 wc1) (Sh [116] k) [] ⟨_, _, _, _, _, _, rfl, i11, i21⟩ (by omega) (by decide) ⟨(k : Nat), [116], false⟩
      unfold lkV Hd.val at HA
      simp only at HA
      rw [(Sh_ask [116] k).1, (Sh_ask [116] k).2.1, (Sh_ask [116] k).2.2] at HA
      go_wp2_with (go_at_call 61; refine HA.mono ?_; rintro e v1 ⟨_, rfl, ⟨qo1, qn1, qc1, ro1, rn1, rc1, rfl, j11, j21, g11, g21⟩, b1⟩; unfold lkV; have Y1 := X1.past b1; have bA1 : Below v1.heap.size v1 (v1.alloc (.cells #[.slice qo1 qn1 qc1, .slice ro1 rn1 rc1] 96)) := (Below.refl _ _).alloc (Nat.le_refl _) _; have Y1 := Y1.past bA1; obtain ⟨d0, d1⟩ := Y1.c; obtain ⟨e0, e1⟩ := Y1.free)
      have A2 := LkAt.store Y1 (j11.past bA1) (j21.past bA1) g11 g21 hpw
      have B2 := LkAt.below (B.trans ((b1.mono hBw).trans (bA1.mono (Nat.le_trans hBw b1.size)))) p hpp (Nat.le_trans (Nat.le_trans hBw b1.size) bA1.size) (.slice qo1 qn1 qc1) (.slice ro1 rn1 rc1)
      go_roundw
      case rel => exact ⟨k + 1, by omega, by go_num, A2, B2⟩
      case measure => simp [intOf]; omega
    · have hlti : ¬ ((k : Int) < (N : Int)) := by omega
      obtain rfl : k = N := by omega
      have hl := Sh_len [116] k
      obtain ⟨ho2, hn2, hc2, wo2, wn2, wc2, X2, i12, i22, f12, f22⟩ := A
      obtain ⟨c0, c1⟩ := X2.c
      have hpw := X2.lt
      have hBw := Nat.le_trans hp0 B.size
      have HA := ask_any wr (lkV ho2 hn2 hc2 wo2 wn2 wc2) (Sh [116] k) [] ⟨_, _, _, _, _, _, rfl, i12, i22⟩ (by omega) (by decide) ⟨(X : Nat), [116], true⟩
      unfold lkV Hd.val at HA
      simp only at HA
      rw [(Sh_wait [116] hN2 hXN).1, (Sh_wait [116] hN2 hXN).2.1, (Sh_wait [116] hN2 hXN).2.2] at HA
      go_upto_region 14 with (go_at_call 61; refine HA.mono ?_; rintro e v2 ⟨_, rfl, ⟨qo2, qn2, qc2, ro2, rn2, rc2, rfl, j12, j22, g12, g22⟩, b2⟩; unfold lkV; have Y2 := X2.past b2; obtain ⟨d0, d1⟩ := Y2.c; obtain ⟨e0, e1⟩ := Y2.free)
      have A2 := LkAt.store Y2 j12 j22 g12 g22 hpw
      have B2 := LkAt.below (B.trans (b2.mono hBw)) p hpp (Nat.le_trans hBw b2.size) (.slice qo2 qn2 qc2) (.slice ro2 rn2 rc2)
      clear X2 Y2 i12 i22 f12 f22 c0 c1 d0 d1 e0 e1 HA hpw
      generalize (v2.setCell ⟨p, 0, none⟩ (.slice qo2 qn2 qc2)).setCell ⟨p, 1, none⟩ (.slice ro2 rn2 rc2) = u2 at A2 B2 ⊢
      clear j12 j22 g12 g22 b2 B hBw
      have A := A2
      have B := B2
      clear A2 B2
      have A3 := A
      obtain ⟨ho, hn, hc, wq, wn, wc, X9, i1, i2, f1, f2⟩ := A3
      obtain ⟨c0, c1⟩ := X9.c
      obtain rfl : 1 = wn := i2.len
      go_upto_region 16 with fail
      clear X9 i1 i2 f1 f2 c0 c1
      rw [← Fr_start [116] k X] at A
      go_wp2_with fail
      go_loopw [10] (fun zs wr => ∃ j : Nat, j ≤ k ∧ zs = .int .i64 (j : Nat) ∧ LkAt wr p (Fr [116] k X j) [⟨(X : Nat), [116], true⟩] ∧ Below p0 w wr) (fun zs _ => k - (intOf zs).toNat)
      case atStart => exact ⟨0, by omega, rfl, A, B⟩
      case round =>
        clear A B
        obtain ⟨j, hj, rfl, A, B⟩ := hrel
        have hl := Fr_len [116] k X j
        by_cases hlt : j < k
        · have hlti : (j : Int) < (k : Int) := by omega
          by_cases hjX : j = X
          · subst hjX
            have hne : ((j : Int) != (j : Int)) = false := by simp
            have hF := Fr_skip [116] k j
            rw [← hF] at A
            go_wp2_with fail
            go_roundw
            case rel => exact ⟨j + 1, by omega, by go_num, A, B⟩
            case measure => simp [intOf]; omega
          · have hne : ((j : Int) != (X : Int)) = true := by simp; omega
            have hwX : wo [(⟨(X : Nat), [116], true⟩ : Hd)] (j : Nat) = [⟨(X : Nat), [116], true⟩] := wo_self fun q hq e => by
              obtain rfl := List.mem_singleton.1 hq
              have : (X : Int) = (j : Int) := e
              omega
            obtain ⟨ho3, hn3, hc3, wo3, wn3, wc3, X3, i13, i23, f13, f23⟩ := A
            obtain ⟨c0, c1⟩ := X3.c
            have hpw := X3.lt
            have hBw := Nat.le_trans hp0 B.size
            have HA := free_any wr (lkV ho3 hn3 hc3 wo3 wn3 wc3) (Fr [116] k X j) [⟨(X : Nat), [116], true⟩] ⟨_, _, _, _, _, _, rfl, i13, i23⟩ (by omega) (by simp) (j : Nat)
            unfold lkV at HA
            rw [Fr_step [116] hjX, hwX] at HA
            go_wp2_with (go_at_call 59; refine HA.mono ?_; rintro e v3 ⟨_, rfl, ⟨qo3, qn3, qc3, ro3, rn3, rc3, rfl, j13, j23, g13, g23⟩, b3⟩; unfold lkV; have Y3 := X3.past b3; obtain ⟨d0, d1⟩ := Y3.c; obtain ⟨e0, e1⟩ := Y3.free)
            have A2 := LkAt.store Y3 j13 j23 g13 g23 hpw
            have B2 := LkAt.below (B.trans (b3.mono hBw)) p hpp (Nat.le_trans hBw b3.size) (.slice qo3 qn3 qc3) (.slice ro3 rn3 rc3)
            go_roundw
            case rel => exact ⟨j + 1, by omega, by go_num, A2, B2⟩
            case measure => simp [intOf]; omega
        · have hlti : ¬ ((j : Int) < (k : Int)) := by omega
          obtain rfl : j = k := by omega
          rw [Fr_end [116] hXN] at A
          obtain ⟨ho4, hn4, hc4, wo4, wn4, wc4, X4, i14, i24, f14, f24⟩ := A
          obtain ⟨c0, c1⟩ := X4.c
          have hpw := X4.lt
          have hBw := Nat.le_trans hp0 B.size
          have HA := ask_any wr (lkV ho4 hn4 hc4 wo4 wn4 wc4) [⟨(X : Nat), [116], false⟩] [⟨(X : Nat), [116], true⟩] ⟨_, _, _, _, _, _, rfl, i14, i24⟩ (by simp) (by simp) ⟨(X : Nat), [116], true⟩
          unfold lkV Hd.val at HA
          simp only at HA
          rw [(Sh_last [116] X).1, (Sh_last [116] X).2.1, (Sh_last [116] X).2.2] at HA
          go_upto_region 22 with (go_at_call 61; refine HA.mono ?_; rintro e v4 ⟨_, rfl, ⟨qo4, qn4, qc4, ro4, rn4, rc4, rfl, j14, j24, g14, g24⟩, b4⟩; unfold lkV; have Y4 := X4.past b4; obtain ⟨d0, d1⟩ := Y4.c; obtain ⟨e0, e1⟩ := Y4.free)
          have A2 := LkAt.store Y4 j14 j24 g14 g24 hpw
          have B2 := LkAt.below (B.trans (b4.mono hBw)) p hpp (Nat.le_trans hBw b4.size) (.slice qo4 qn4 qc4) (.slice ro4 rn4 rc4)
          clear X4 Y4 i14 i24 f14 f24 c0 c1 d0 d1 e0 e1 HA hpw
          generalize (v4.setCell ⟨p, 0, none⟩ (.slice qo4 qn4 qc4)).setCell ⟨p, 1, none⟩ (.slice ro4 rn4 rc4) = u4 at A2 B2 ⊢
          clear j14 j24 g14 g24 b4 B hBw
          have A := A2
          have B := B2
          clear A2 B2
          obtain ⟨ho, hn, hc, wq, wn, wc, X9, i1, i2, f1, f2⟩ := A
          obtain ⟨c0, c1⟩ := X9.c
          obtain rfl : 1 = hn := i1.len
          obtain rfl : 0 = wn := i2.len
          obtain ⟨b, off, rfl, hb, hcc⟩ := i1.open (by decide) (by decide)
          obtain ⟨q0, q1, q2⟩ := cells_hd hcc 0 _ rfl
          simp only [Nat.zero_mul, Nat.add_zero] at q0 q1 q2
          go_wp2_with fail
          go_ret
          exact ⟨rfl, by rw [HP.out]; exact B⟩
end Go.Proofs.Ytckfkgmlifnfkaa
