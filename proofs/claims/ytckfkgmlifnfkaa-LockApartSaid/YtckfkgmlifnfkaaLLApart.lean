/-
  LockApart, walked (by gen_lapart.py).
-/
import Derived.Test.YtckfkgmlifnfkaaRdB
import Derived.Test.YtckfkgmlifnfkaaKLq
namespace Go.Proofs.Ytckfkgmlifnfkaa
open Go.RowKit
set_option linter.unusedSimpArgs false
theorem Once.get {W : List Hd} (h : Once W) {i j : Nat} {a b : Hd} (hi : W[i]? = some a) (hj : W[j]? = some b) (hne : j < i) : a.s ≠ b.s := by
  obtain ⟨hi1, rfl⟩ := List.getElem?_eq_some_iff.1 hi
  obtain ⟨hj1, rfl⟩ := List.getElem?_eq_some_iff.1 hj
  exact fun e => List.pairwise_iff_getElem.1 h j i hj1 hi1 hne e.symm
theorem neHL {w : World} {r p : Nat} {x : Hd} {ho wo : Option Addr} {hn hc wn wc : Nat} (h : HdB w r x 101) (hg : LkB w p ho hn hc wo wn wc 96) : r ≠ p := fun e => by
  subst e
  unfold HdB at h
  unfold LkB at hg
  rw [hg] at h
  injection h with h
  injection h with _ h2
  exact absurd h2 (by decide)
/-- What stands while the region's operations come up. -/
inductive Apart15T (B : Nat) (p : Nat) (r : Nat) (rb : Nat) (roff : Nat) (wn : Nat) (wc : Nat) (j : Nat) (ys : Int) (s : Int) (a0 : Act) (w0 : World) (L : Array Bool) (a : Act) (w : World) : Prop
  | mk (b0 b1 b2 b3 b4 b5 b6 b7 b8 b9 b10 b11 : Bool) (x58 x59 x60 x61 x62 x63 x64 x65 x66 x67 x68 x69 : Value) (hL : L = #[b0, b1, b2, b3, b4, b5, b6, b7, b8, b9, b10, b11]) (ha : a = ⟨((((((((((((a0.tmps.setIfInBounds 58 x58).setIfInBounds 59 x59).setIfInBounds 60 x60).setIfInBounds 61 x61).setIfInBounds 62 x62).setIfInBounds 63 x63).setIfInBounds 64 x64).setIfInBounds 65 x65).setIfInBounds 66 x66).setIfInBounds 67 x67).setIfInBounds 68 x68).setIfInBounds 69 x69), a0.defers⟩) (hb : Below B w0 w) (cd0 : Hid (b0 = true → x58 = .bool true)) (cd1 : Hid (b1 = true → x59 = .bool true)) (cd2 : Hid (b2 = true → x60 = .pointer (some ⟨p, 1, none⟩))) (cd3 : Hid (b3 = true → x61 = .slice (some ⟨rb, roff, none⟩) wn wc)) (cd4 : Hid (b4 = true → x62 = .int .i64 (j : Nat))) (cd5 : Hid (b5 = true → x63 = .pointer (some ⟨rb, roff + j * 3, none⟩))) (cd6 : Hid (b6 = true → x64 = .pointer (some ⟨rb, roff + j * 3, none⟩))) (cd7 : Hid (b7 = true → x65 = .int .i64 ys)) (cd8 : Hid (b8 = true → x66 = .pointer (some ⟨r, 0, none⟩))) (cd9 : Hid (b9 = true → x67 = .int .i64 s)) (cd10 : Hid (b10 = true → x68 = .bool false)) (cd11 : Hid (b11 = true → x69 = .bool false)) : Apart15T B p r rb roff wn wc j ys s a0 w0 L a w

/-- What stands while the region's operations come up. -/
inductive Apart15F (B : Nat) (p : Nat) (r : Nat) (rb : Nat) (roff : Nat) (wn : Nat) (wc : Nat) (j : Nat) (ys : Int) (s : Int) (a0 : Act) (w0 : World) (L : Array Bool) (a : Act) (w : World) : Prop
  | mk (b0 b1 b2 b3 b4 b5 b6 b7 b8 b9 b10 b11 : Bool) (x58 x59 x60 x61 x62 x63 x64 x65 x66 x67 x68 x69 : Value) (hL : L = #[b0, b1, b2, b3, b4, b5, b6, b7, b8, b9, b10, b11]) (ha : a = ⟨((((((((((((a0.tmps.setIfInBounds 58 x58).setIfInBounds 59 x59).setIfInBounds 60 x60).setIfInBounds 61 x61).setIfInBounds 62 x62).setIfInBounds 63 x63).setIfInBounds 64 x64).setIfInBounds 65 x65).setIfInBounds 66 x66).setIfInBounds 67 x67).setIfInBounds 68 x68).setIfInBounds 69 x69), a0.defers⟩) (hb : Below B w0 w) (cd0 : Hid (b0 = true → x58 = .bool false)) (cd1 : Hid (b1 = true → x59 = .bool false)) (cd2 : Hid (b2 = true → x60 = undef)) (cd3 : Hid (b3 = true → x61 = undef)) (cd4 : Hid (b4 = true → x62 = undef)) (cd5 : Hid (b5 = true → x63 = undef)) (cd6 : Hid (b6 = true → x64 = undef)) (cd7 : Hid (b7 = true → x65 = undef)) (cd8 : Hid (b8 = true → x66 = undef)) (cd9 : Hid (b9 = true → x67 = undef)) (cd10 : Hid (b10 = true → x68 = undef)) (cd11 : Hid (b11 = true → x69 = .bool false)) : Apart15F B p r rb roff wn wc j ys s a0 w0 L a w

/-- What stands while the region's operations come up. -/
inductive Apart23 (B : Nat) (p : Nat) (rb : Nat) (roff : Nat) (hn : Nat) (hc : Nat) (a1 : Nat) (b1_ : Nat) (xs : Int) (xt : List UInt8) (xb : Bool) (ys : Int) (yt : List UInt8) (yb : Bool) (a0 : Act) (w0 : World) (L : Array Bool) (a : Act) (w : World) : Prop
  | mk (b0 b1 b2 b3 b4 b5 b6 b7 b8 b9 b10 b11 b12 b13 : Bool) (x82 x83 x84 x85 x86 x87 x88 x89 x90 x91 x11 x12 : Value) (g1 : Nat) (g2 : Nat) (hL : L = #[b0, b1, b2, b3, b4, b5, b6, b7, b8, b9, b10, b11, b12, b13]) (ha : a = ⟨((((((((((((a0.tmps.setIfInBounds 82 x82).setIfInBounds 83 x83).setIfInBounds 84 x84).setIfInBounds 85 x85).setIfInBounds 86 x86).setIfInBounds 87 x87).setIfInBounds 88 x88).setIfInBounds 89 x89).setIfInBounds 90 x90).setIfInBounds 91 x91).setIfInBounds 11 x11).setIfInBounds 12 x12), a0.defers⟩) (hb : Below B w0 w) (cd0 : Hid (b0 = true → x82 = .pointer (some ⟨p, 0, none⟩))) (cd1 : Hid (b1 = true → x83 = .slice (some ⟨rb, roff, none⟩) hn hc)) (cd2 : Hid (b2 = true → x84 = .int .i64 (a1 : Nat))) (cd3 : Hid (b3 = true → x85 = .pointer (some ⟨rb, roff + a1 * 3, none⟩))) (cd4 : Hid (b4 = true → x86 = .agg #[.int .i64 xs, .string (bsOf xt), .bool xb])) (cd5 : Hid (b5 = true → x87 = .pointer (some ⟨p, 0, none⟩))) (cd6 : Hid (b6 = true → x88 = .slice (some ⟨rb, roff, none⟩) hn hc)) (cd7 : Hid (b7 = true → x89 = .int .i64 (b1_ : Nat))) (cd8 : Hid (b8 = true → x90 = .pointer (some ⟨rb, roff + b1_ * 3, none⟩))) (cd9 : Hid (b9 = true → x91 = .agg #[.int .i64 ys, .string (bsOf yt), .bool yb])) (cd10 : Hid (b10 = true → x11 = .pointer (some ⟨g1, 0, none⟩))) (cd11 : Hid (b11 = true → x12 = .pointer (some ⟨g2, 0, none⟩))) (f_z1 : Hid (b10 = true → b12 = false → HdB w g1 (⟨0, [], false⟩ : Hd) 101)) (f_l1 : Hid (b10 = true → B ≤ g1)) (f_s1 : Hid (b12 = true → HdB w g1 (⟨xs, xt, xb⟩ : Hd) 101)) (f_q10 : Hid (b12 = true → b10 = true)) (f_z2 : Hid (b11 = true → b13 = false → HdB w g2 (⟨0, [], false⟩ : Hd) 101)) (f_l2 : Hid (b11 = true → B ≤ g2)) (f_s2 : Hid (b13 = true → HdB w g2 (⟨ys, yt, yb⟩ : Hd) 101)) (f_q11 : Hid (b13 = true → b11 = true)) (f_t1 : Hid (b10 = true → LtB w g1)) (f_t2 : Hid (b11 = true → LtB w g2)) (f_ne : Hid (b10 = true → (b11 = true → g1 ≠ g2))) (f_q13 : Hid (b13 = true → b12 = true)) : Apart23 B p rb roff hn hc a1 b1_ xs xt xb ys yt yb a0 w0 L a w

/-- What stands while the region's operations come up. -/
inductive Apart32 (B : Nat) (p : Nat) (rb : Nat) (roff : Nat) (wn : Nat) (wc : Nat) (a1 : Nat) (b1_ : Nat) (xs : Int) (ys : Int) (a0 : Act) (w0 : World) (L : Array Bool) (a : Act) (w : World) : Prop
  | mk (b0 b1 b2 b3 b4 b5 b6 b7 b8 b9 b10 b11 b12 : Bool) (x124 x125 x126 x127 x128 x129 x130 x131 x132 x133 x134 x135 x136 : Value) (hL : L = #[b0, b1, b2, b3, b4, b5, b6, b7, b8, b9, b10, b11, b12]) (ha : a = ⟨(((((((((((((a0.tmps.setIfInBounds 124 x124).setIfInBounds 125 x125).setIfInBounds 126 x126).setIfInBounds 127 x127).setIfInBounds 128 x128).setIfInBounds 129 x129).setIfInBounds 130 x130).setIfInBounds 131 x131).setIfInBounds 132 x132).setIfInBounds 133 x133).setIfInBounds 134 x134).setIfInBounds 135 x135).setIfInBounds 136 x136), a0.defers⟩) (hb : Below B w0 w) (cd0 : Hid (b0 = true → x124 = .pointer (some ⟨p, 1, none⟩))) (cd1 : Hid (b1 = true → x125 = .slice (some ⟨rb, roff, none⟩) wn wc)) (cd2 : Hid (b2 = true → x126 = .int .i64 (a1 : Nat))) (cd3 : Hid (b3 = true → x127 = .pointer (some ⟨rb, roff + a1 * 3, none⟩))) (cd4 : Hid (b4 = true → x128 = .pointer (some ⟨rb, roff + a1 * 3, none⟩))) (cd5 : Hid (b5 = true → x129 = .int .i64 xs)) (cd6 : Hid (b6 = true → x130 = .pointer (some ⟨p, 1, none⟩))) (cd7 : Hid (b7 = true → x131 = .slice (some ⟨rb, roff, none⟩) wn wc)) (cd8 : Hid (b8 = true → x132 = .int .i64 (b1_ : Nat))) (cd9 : Hid (b9 = true → x133 = .pointer (some ⟨rb, roff + b1_ * 3, none⟩))) (cd10 : Hid (b10 = true → x134 = .pointer (some ⟨rb, roff + b1_ * 3, none⟩))) (cd11 : Hid (b11 = true → x135 = .int .i64 ys)) (cd12 : Hid (b12 = true → x136 = .bool false)) : Apart32 B p rb roff wn wc a1 b1_ xs ys a0 w0 L a w
set_option maxRecDepth 100000 in
set_option maxHeartbeats 8000000 in
theorem lockApart_walk (ao : Option Addr) (n c : Nat) (la : List Ac) (w : World) (hla : IsR EAc w ao n c la) :
    Calls Try.prog 8 #[.slice ao n c] w fun e w' => e = .returned (.bool true) ∧ Below w.heap.size w w' := by
  go_enter Try.func8, Try.ntmps8
  go_upto_region 3 with (go_at_call 55; refine (known12 _).mono ?_; rintro e w1 ⟨rfl, b1⟩)
  obtain ⟨p0, hp⟩ : ∃ p0, w.heap.size = p0 := ⟨_, rfl⟩
  have HP := Lib.hid hp
  have hp0 : p0 ≤ w.heap.size := by omega
  have A := LkAt.new w1
  have B : Below p0 w (w1.alloc (.cells #[.slice none 0 0, .slice none 0 0] 96)) := by rw [← hp]; exact b1.alloc b1.size _
  have hpp : p0 ≤ w1.heap.size := by rw [← hp]; exact b1.size
  go_upto_region 4 with fail
  generalize w1.alloc (.cells #[.slice none 0 0, .slice none 0 0] 96) = u0 at A B ⊢
  obtain ⟨p, hpv⟩ : ∃ p, w1.heap.size = p := ⟨_, rfl⟩
  rw [hpv] at A hpp
  simp only [hpv]
  clear hp hpv b1
  have hln := hla.len
  have hmx := hla.max
  have hle := hla.le
  unfold maxLen at hmx
  go_wp2_with fail
  go_loopw [4] (fun zs wr => ∃ (i : Nat) (H W : List Hd), i ≤ n ∧ i ≤ 60 ∧ zs = .int .i64 (i : Nat) ∧ LkAt wr p H W ∧ Hid (Good i H W) ∧ Below p0 w wr) (fun zs _ => 60 - (intOf zs).toNat)
  case atStart => exact ⟨0, [], [], by omega, by omega, rfl, A, Lib.hid Good.start, B⟩
  case round =>
    clear A B
    obtain ⟨i, H, W, hin, hi40, rfl, A, hG, B⟩ := hrel
    by_cases hlt' : i < n ∧ i < 60
    · obtain ⟨hlt, hlt3⟩ := hlt'
      have hlti : (i : Int) < (n : Int) := by omega
      have hlt3i : (i : Int) < 60 := by omega
      obtain ⟨a, hai⟩ : ∃ a, la[i]? = some a := ⟨la[i]'(by have := hla.len; omega), List.getElem?_eq_getElem _⟩
      obtain ⟨ag, aoff, rfl, hag, hac⟩ := hla.open (by omega) (by decide)
      obtain ⟨a0_, a1_, a2_, a3_⟩ := cells_ac hac i a hai
      have hagp : ag < p0 := by rw [← HP.out]; exact hag
      rw [← B.cell (show (⟨ag, aoff + i * 4, none⟩ : Addr).block < p0 from hagp)] at a0_
      rw [← B.cell (show (⟨ag, aoff + i * 4 + 1, none⟩ : Addr).block < p0 from hagp)] at a1_
      rw [← B.cell (show (⟨ag, aoff + i * 4 + 2, none⟩ : Addr).block < p0 from hagp)] at a2_
      rw [← B.cell (show (⟨ag, aoff + i * 4 + 3, none⟩ : Addr).block < p0 from hagp)] at a3_
      have HD := fun w => hold_any w a
      have hsm := a.small
      obtain ⟨hd, hhd⟩ : ∃ hd, a.hd = hd := ⟨_, rfl⟩
      rw [hhd] at hsm
      simp only [hhd] at HD
      obtain ⟨k, ks, kt, kx⟩ := a
      obtain ⟨s, t, x⟩ := hd
      unfold Hd.val at HD
      simp only at HD a0_ a1_ a2_ a3_ hsm
      clear hac hai hhd
      have hBw := Nat.le_trans hp0 B.size
      have HWk := fun w => within12_any k 6 w (by decide) (by decide)
      obtain ⟨KK, hKK⟩ : ∃ KK, wth k 6 = KK := ⟨_, rfl⟩
      simp only [hKK] at HWk
      clear hKK
      go_upto_region 8 with (go_at_call 56; refine (HD _).mono ?_; rintro e w2 ⟨rfl, b2⟩)
      have bR : Below w2.heap.size w2 (w2.alloc (.cells #[.int .i64 s, .string (bsOf t), .bool x] 101)) := (Below.refl _ _).alloc (Nat.le_refl _) _
      have ZR := HdB.new w2 ⟨s, t, x⟩ 101
      simp only at ZR
      have A := (A.past b2).past bR
      have b3 := b2.trans (bR.mono b2.size)
      have B3 := B.trans (b3.mono hBw)
      have a0_ := (B3.cell (show (⟨ag, aoff + i * 4, none⟩ : Addr).block < p0 from hagp)).trans ((B.cell (show (⟨ag, aoff + i * 4, none⟩ : Addr).block < p0 from hagp)).symm.trans a0_)
      clear B b3 bR b2 HD a1_ a2_ a3_ hBw
      have B := B3
      clear B3
      generalize w2.alloc (.cells #[.int .i64 s, .string (bsOf t), .bool x] 101) = U0 at ZR A B a0_ ⊢
      obtain ⟨r, hr⟩ : ∃ r, w2.heap.size = r := ⟨_, rfl⟩
      rw [hr] at ZR
      simp only [hr]
      clear hr
      have hBw := Nat.le_trans hp0 B.size
      obtain ⟨z0_, z1_, z2_⟩ := ZR.c
      simp only at z0_ z1_ z2_
      have hGh := hG.out.lenH
      have hGw := hG.out.lenW
      obtain ⟨ho, hn, hc, wq, wn, wc, X, RD⟩ := A.rd
      obtain ⟨c0, c1⟩ := X.c
      by_cases h5 : KK = 5
      · have h5b : (KK == 5) = true := by simp [h5]
        clear h5
        have hGG : Hid (Good (i + 1) (wo H s) (wo W s)) := Lib.hid (hG.out.free s)
        have HA := free_any U0 (lkV ho hn hc wq wn wc) H W ⟨_, _, _, _, _, _, rfl, RD.h, RD.w⟩ (by omega) (by omega) s
        unfold lkV at HA
        go_upto_region 9 with (go_at_call 58; refine (HWk _).mono ?_; rintro e w2 ⟨rfl, rfl⟩)
        go_upto_region 17 with (go_at_call 59; refine HA.mono ?_; rintro e v3 ⟨_, rfl, ⟨qo3, qn3, qc3, ro3, rn3, rc3, rfl, j13, j23, g13, g23⟩, b3⟩; unfold lkV; have Y3 := X.past b3; obtain ⟨d0, d1⟩ := Y3.c; obtain ⟨e0, e1⟩ := Y3.free)
        have A2 := LkAt.store Y3 j13 j23 g13 g23 X.lt
        have B2 := LkAt.below (B.trans (b3.mono hBw)) p hpp (Nat.le_trans hBw b3.size) (.slice qo3 qn3 qc3) (.slice ro3 rn3 rc3)
        clear c0 c1 d0 d1 e0 e1 HA
        generalize (v3.setCell ⟨p, 0, none⟩ (.slice qo3 qn3 qc3)).setCell ⟨p, 1, none⟩ (.slice ro3 rn3 rc3) = U at A2 B2 ⊢
        clear Y3 j13 j23 g13 g23 b3 X RD A B z0_ z1_ z2_ ZR a0_ hBw
        have A := A2
        have B := B2
        clear A2 B2
        obtain ⟨HH, hHH⟩ : ∃ z_, z_ = wo H s := ⟨_, rfl⟩
        obtain ⟨WW, hWW⟩ : ∃ z_, z_ = wo W s := ⟨_, rfl⟩
        rw [← hHH, ← hWW] at A hGG
        clear hHH hWW hG hGh hGw
        obtain ⟨ho, hn, hc, wq, wn, wc, XU, RD⟩ := A.rd
        have hBw := Nat.le_trans hp0 B.size
        have BU0 : Below U.heap.size U U := Below.refl _ _
        obtain ⟨cp0, cp1⟩ := XU.c
        have hHl2 := hGG.out.lenH
        have hWl2 := hGG.out.lenW
        have hhl := RD.h.len
        have hwl := RD.w.len
        go_wp2_with fail
        go_loopw [9] (fun zs wr => ∃ a1 : Nat, a1 ≤ hn ∧ zs = .int .i64 (a1 : Nat) ∧ Below U.heap.size U wr) (fun zs _ => hn - (intOf zs).toNat)
        case atStart => exact ⟨0, by omega, rfl, BU0⟩
        case round =>
          clear BU0
          obtain ⟨a1, ha1, rfl, BU⟩ := hrel
          obtain ⟨cp0, cp1⟩ := (XU.past BU).c
          have hznl := RD.h.len
          by_cases hlt : a1 < hn
          · have hlti : (a1 : Int) < (hn : Int) := by omega
            go_wp2_with fail
            go_loopw [10] (fun zs wr => ∃ b1_ : Nat, b1_ ≤ a1 ∧ zs = .int .i64 (b1_ : Nat) ∧ Below U.heap.size U wr) (fun zs _ => a1 - (intOf zs).toNat)
            case atStart => exact ⟨0, by omega, rfl, BU⟩
            case round =>
              clear BU cp0 cp1
              obtain ⟨b1_, hb1, rfl, BU2⟩ := hrel
              obtain ⟨cp0, cp1⟩ := (XU.past BU2).c
              by_cases hlt2 : b1_ < a1
              · have hlt2i : (b1_ : Int) < (a1 : Int) := by omega
                have hlt3i : (b1_ : Int) < (hn : Int) := by omega
                obtain ⟨x, hx⟩ : ∃ v, HH[a1]? = some v := ⟨HH[a1]'(by omega), List.getElem?_eq_getElem _⟩
                obtain ⟨y, hy⟩ : ∃ v, HH[b1_]? = some v := ⟨HH[b1_]'(by omega), List.getElem?_eq_getElem _⟩
                have hAp := Lib.hid (hGG.out.apt.get hx hy (by omega))
                obtain ⟨rb, roff, rfl, hrb, hrc⟩ := (RD.h.past BU2).open (by omega) (by decide)
                obtain ⟨x0_, x1_, x2_⟩ := cells_hd hrc a1 x hx
                obtain ⟨y0_, y1_, y2_⟩ := cells_hd hrc b1_ y hy
                have hpB := (XU.past BU2).lt
                clear hrc hx hy
                obtain ⟨xs, xt, xb⟩ := x
                obtain ⟨ys, yt, yb⟩ := y
                simp only at x0_ x1_ x2_ y0_ y1_ y2_ hAp
                go_upto_region 23 with fail
                generalize wr = W7 at BU2 hpB hrb x0_ x1_ x2_ y0_ y1_ y2_ cp0 cp1 ⊢
                have hrB := hrb
                have hB0 : W7.heap.size ≤ W7.heap.size := Nat.le_refl _
                skip
                refine region_inv (Apart23 W7.heap.size p rb roff hn hc a1 b1_ xs xt xb ys yt yb) (by kernel_rfl) (by kernel_rfl) ?_ ?_ ?_
                · exact ⟨false, false, false, false, false, false, false, false, false, false, false, false, false, false, u82, u83, u84, u85, u86, u87, u88, u89, u90, u91, u11, u12, 0, 0, rfl, (by simp only [Act.put, List.setIfInBounds_toArray, List.set_cons_zero, List.set_cons_succ]), Below.refl _ _, (fun h => by cases h), (fun h => by cases h), (fun h => by cases h), (fun h => by cases h), (fun h => by cases h), (fun h => by cases h), (fun h => by cases h), (fun h => by cases h), (fun h => by cases h), (fun h => by cases h), (fun h => by cases h), (fun h => by cases h), (fun h => by cases h), (fun h => by cases h), (fun h => by cases h), (fun h => by cases h), (fun h => by cases h), (fun h => by cases h), (fun h => by cases h), (fun h => by cases h), (fun h => by cases h), (fun h => by cases h), (fun h => by cases h), (fun h => by cases h)⟩
                · refine ⟨?_, ?_, ?_, ?_, ?_, ?_, ?_, ?_, ?_, ?_, ?_, ?_, ?_, ?_, trivial⟩
                  · rintro L a w ⟨b0, b1, b2, b3, b4, b5, b6, b7, b8, b9, b10, b11, b12, b13, x82, x83, x84, x85, x86, x87, x88, x89, x90, x91, x11, x12, g1, g2, rfl, rfl, hb, cd0, cd1, cd2, cd3, cd4, cd5, cd6, cd7, cd8, cd9, cd10, cd11, f_z1, f_l1, f_s1, f_q10, f_z2, f_l2, f_s2, f_q11, f_t1, f_t2, f_ne, f_q13⟩ hf hd
                    have hf' : b0 = false := hf
                    subst hf'
                    clear hf hd
                    try simp only [List.setIfInBounds_toArray, List.set_cons_zero, List.set_cons_succ]
                    intro K hK
                    rw [if_pos (by rfl)]
                    go_simp
                    exact hK.out _ _ ⟨true, b1, b2, b3, b4, b5, b6, b7, b8, b9, b10, b11, b12, b13, (.pointer (some ⟨p, 0, none⟩)), x83, x84, x85, x86, x87, x88, x89, x90, x91, x11, x12, g1, g2, (by simp only [Act.put, List.setIfInBounds_toArray, List.set_cons_zero, List.set_cons_succ]), (by simp only [Act.put, List.setIfInBounds_toArray, List.set_cons_zero, List.set_cons_succ]), hb, (fun _ => rfl), cd1, cd2, cd3, cd4, cd5, cd6, cd7, cd8, cd9, cd10, cd11, f_z1, f_l1, f_s1, f_q10, f_z2, f_l2, f_s2, f_q11, f_t1, f_t2, f_ne, f_q13⟩
                  · rintro L a w ⟨b0, b1, b2, b3, b4, b5, b6, b7, b8, b9, b10, b11, b12, b13, x82, x83, x84, x85, x86, x87, x88, x89, x90, x91, x11, x12, g1, g2, rfl, rfl, hb, cd0, cd1, cd2, cd3, cd4, cd5, cd6, cd7, cd8, cd9, cd10, cd11, f_z1, f_l1, f_s1, f_q10, f_z2, f_l2, f_s2, f_q11, f_t1, f_t2, f_ne, f_q13⟩ hf hd
                    have hf' : b1 = false := hf
                    subst hf'
                    have d0 : b0 = true := hd ⟨0, .data⟩ (by simp) rfl
                    subst d0
                    obtain rfl := cd0.out rfl
                    clear hf hd
                    try simp only [List.setIfInBounds_toArray, List.set_cons_zero, List.set_cons_succ]
                    have z0 := (hb.cell hpB).trans cp0
                    intro K hK
                    rw [if_pos (by rfl)]
                    go_simp
                    exact hK.out _ _ ⟨true, true, b2, b3, b4, b5, b6, b7, b8, b9, b10, b11, b12, b13, .pointer (some ⟨p, 0, none⟩), (.slice (some ⟨rb, roff, none⟩) hn hc), x84, x85, x86, x87, x88, x89, x90, x91, x11, x12, g1, g2, (by simp only [Act.put, List.setIfInBounds_toArray, List.set_cons_zero, List.set_cons_succ]), (by simp only [Act.put, List.setIfInBounds_toArray, List.set_cons_zero, List.set_cons_succ]), hb, (fun _ => rfl), (fun _ => rfl), cd2, cd3, cd4, cd5, cd6, cd7, cd8, cd9, cd10, cd11, f_z1, f_l1, f_s1, f_q10, f_z2, f_l2, f_s2, f_q11, f_t1, f_t2, f_ne, f_q13⟩
                  · rintro L a w ⟨b0, b1, b2, b3, b4, b5, b6, b7, b8, b9, b10, b11, b12, b13, x82, x83, x84, x85, x86, x87, x88, x89, x90, x91, x11, x12, g1, g2, rfl, rfl, hb, cd0, cd1, cd2, cd3, cd4, cd5, cd6, cd7, cd8, cd9, cd10, cd11, f_z1, f_l1, f_s1, f_q10, f_z2, f_l2, f_s2, f_q11, f_t1, f_t2, f_ne, f_q13⟩ hf hd
                    have hf' : b2 = false := hf
                    subst hf'
                    clear hf hd
                    try simp only [List.setIfInBounds_toArray, List.set_cons_zero, List.set_cons_succ]
                    intro K hK
                    rw [if_pos (by rfl)]
                    go_simp
                    exact hK.out _ _ ⟨b0, b1, true, b3, b4, b5, b6, b7, b8, b9, b10, b11, b12, b13, x82, x83, (.int .i64 (a1 : Nat)), x85, x86, x87, x88, x89, x90, x91, x11, x12, g1, g2, (by simp only [Act.put, List.setIfInBounds_toArray, List.set_cons_zero, List.set_cons_succ]), (by simp only [Act.put, List.setIfInBounds_toArray, List.set_cons_zero, List.set_cons_succ]), hb, cd0, cd1, (fun _ => rfl), cd3, cd4, cd5, cd6, cd7, cd8, cd9, cd10, cd11, f_z1, f_l1, f_s1, f_q10, f_z2, f_l2, f_s2, f_q11, f_t1, f_t2, f_ne, f_q13⟩
                  · rintro L a w ⟨b0, b1, b2, b3, b4, b5, b6, b7, b8, b9, b10, b11, b12, b13, x82, x83, x84, x85, x86, x87, x88, x89, x90, x91, x11, x12, g1, g2, rfl, rfl, hb, cd0, cd1, cd2, cd3, cd4, cd5, cd6, cd7, cd8, cd9, cd10, cd11, f_z1, f_l1, f_s1, f_q10, f_z2, f_l2, f_s2, f_q11, f_t1, f_t2, f_ne, f_q13⟩ hf hd
                    have hf' : b3 = false := hf
                    subst hf'
                    have d1 : b1 = true := hd ⟨1, .data⟩ (by simp) rfl
                    subst d1
                    have d2 : b2 = true := hd ⟨2, .data⟩ (by simp) rfl
                    subst d2
                    obtain rfl := cd1.out rfl
                    obtain rfl := cd2.out rfl
                    clear hf hd
                    try simp only [List.setIfInBounds_toArray, List.set_cons_zero, List.set_cons_succ]
                    intro K hK
                    rw [if_pos (by rfl)]
                    go_simp
                    exact hK.out _ _ ⟨b0, true, true, true, b4, b5, b6, b7, b8, b9, b10, b11, b12, b13, x82, .slice (some ⟨rb, roff, none⟩) hn hc, .int .i64 (a1 : Nat), (.pointer (some ⟨rb, roff + a1 * 3, none⟩)), x86, x87, x88, x89, x90, x91, x11, x12, g1, g2, (by simp only [Act.put, List.setIfInBounds_toArray, List.set_cons_zero, List.set_cons_succ]), (by simp only [Act.put, List.setIfInBounds_toArray, List.set_cons_zero, List.set_cons_succ]), hb, cd0, (fun _ => rfl), (fun _ => rfl), (fun _ => rfl), cd4, cd5, cd6, cd7, cd8, cd9, cd10, cd11, f_z1, f_l1, f_s1, f_q10, f_z2, f_l2, f_s2, f_q11, f_t1, f_t2, f_ne, f_q13⟩
                  · rintro L a w ⟨b0, b1, b2, b3, b4, b5, b6, b7, b8, b9, b10, b11, b12, b13, x82, x83, x84, x85, x86, x87, x88, x89, x90, x91, x11, x12, g1, g2, rfl, rfl, hb, cd0, cd1, cd2, cd3, cd4, cd5, cd6, cd7, cd8, cd9, cd10, cd11, f_z1, f_l1, f_s1, f_q10, f_z2, f_l2, f_s2, f_q11, f_t1, f_t2, f_ne, f_q13⟩ hf hd
                    have hf' : b4 = false := hf
                    subst hf'
                    have d3 : b3 = true := hd ⟨3, .data⟩ (by simp) rfl
                    subst d3
                    obtain rfl := cd3.out rfl
                    clear hf hd
                    try simp only [List.setIfInBounds_toArray, List.set_cons_zero, List.set_cons_succ]
                    have z0 := (hb.cell hrB).trans x0_
                    have z1 := (hb.cell hrB).trans x1_
                    have z2 := (hb.cell hrB).trans x2_
                    intro K hK
                    rw [if_pos (by rfl)]
                    go_simp
                    exact hK.out _ _ ⟨b0, b1, b2, true, true, b5, b6, b7, b8, b9, b10, b11, b12, b13, x82, x83, x84, .pointer (some ⟨rb, roff + a1 * 3, none⟩), (.agg #[.int .i64 xs, .string (bsOf xt), .bool xb]), x87, x88, x89, x90, x91, x11, x12, g1, g2, (by simp only [Act.put, List.setIfInBounds_toArray, List.set_cons_zero, List.set_cons_succ]), (by simp only [Act.put, List.setIfInBounds_toArray, List.set_cons_zero, List.set_cons_succ]), hb, cd0, cd1, cd2, (fun _ => rfl), (fun _ => rfl), cd5, cd6, cd7, cd8, cd9, cd10, cd11, f_z1, f_l1, f_s1, f_q10, f_z2, f_l2, f_s2, f_q11, f_t1, f_t2, f_ne, f_q13⟩
                  · rintro L a w ⟨b0, b1, b2, b3, b4, b5, b6, b7, b8, b9, b10, b11, b12, b13, x82, x83, x84, x85, x86, x87, x88, x89, x90, x91, x11, x12, g1, g2, rfl, rfl, hb, cd0, cd1, cd2, cd3, cd4, cd5, cd6, cd7, cd8, cd9, cd10, cd11, f_z1, f_l1, f_s1, f_q10, f_z2, f_l2, f_s2, f_q11, f_t1, f_t2, f_ne, f_q13⟩ hf hd
                    have hf' : b5 = false := hf
                    subst hf'
                    clear hf hd
                    try simp only [List.setIfInBounds_toArray, List.set_cons_zero, List.set_cons_succ]
                    intro K hK
                    rw [if_pos (by rfl)]
                    go_simp
                    exact hK.out _ _ ⟨b0, b1, b2, b3, b4, true, b6, b7, b8, b9, b10, b11, b12, b13, x82, x83, x84, x85, x86, (.pointer (some ⟨p, 0, none⟩)), x88, x89, x90, x91, x11, x12, g1, g2, (by simp only [Act.put, List.setIfInBounds_toArray, List.set_cons_zero, List.set_cons_succ]), (by simp only [Act.put, List.setIfInBounds_toArray, List.set_cons_zero, List.set_cons_succ]), hb, cd0, cd1, cd2, cd3, cd4, (fun _ => rfl), cd6, cd7, cd8, cd9, cd10, cd11, f_z1, f_l1, f_s1, f_q10, f_z2, f_l2, f_s2, f_q11, f_t1, f_t2, f_ne, f_q13⟩
                  · rintro L a w ⟨b0, b1, b2, b3, b4, b5, b6, b7, b8, b9, b10, b11, b12, b13, x82, x83, x84, x85, x86, x87, x88, x89, x90, x91, x11, x12, g1, g2, rfl, rfl, hb, cd0, cd1, cd2, cd3, cd4, cd5, cd6, cd7, cd8, cd9, cd10, cd11, f_z1, f_l1, f_s1, f_q10, f_z2, f_l2, f_s2, f_q11, f_t1, f_t2, f_ne, f_q13⟩ hf hd
                    have hf' : b6 = false := hf
                    subst hf'
                    have d5 : b5 = true := hd ⟨5, .data⟩ (by simp) rfl
                    subst d5
                    obtain rfl := cd5.out rfl
                    clear hf hd
                    try simp only [List.setIfInBounds_toArray, List.set_cons_zero, List.set_cons_succ]
                    have z0 := (hb.cell hpB).trans cp0
                    intro K hK
                    rw [if_pos (by rfl)]
                    go_simp
                    exact hK.out _ _ ⟨b0, b1, b2, b3, b4, true, true, b7, b8, b9, b10, b11, b12, b13, x82, x83, x84, x85, x86, .pointer (some ⟨p, 0, none⟩), (.slice (some ⟨rb, roff, none⟩) hn hc), x89, x90, x91, x11, x12, g1, g2, (by simp only [Act.put, List.setIfInBounds_toArray, List.set_cons_zero, List.set_cons_succ]), (by simp only [Act.put, List.setIfInBounds_toArray, List.set_cons_zero, List.set_cons_succ]), hb, cd0, cd1, cd2, cd3, cd4, (fun _ => rfl), (fun _ => rfl), cd7, cd8, cd9, cd10, cd11, f_z1, f_l1, f_s1, f_q10, f_z2, f_l2, f_s2, f_q11, f_t1, f_t2, f_ne, f_q13⟩
                  · rintro L a w ⟨b0, b1, b2, b3, b4, b5, b6, b7, b8, b9, b10, b11, b12, b13, x82, x83, x84, x85, x86, x87, x88, x89, x90, x91, x11, x12, g1, g2, rfl, rfl, hb, cd0, cd1, cd2, cd3, cd4, cd5, cd6, cd7, cd8, cd9, cd10, cd11, f_z1, f_l1, f_s1, f_q10, f_z2, f_l2, f_s2, f_q11, f_t1, f_t2, f_ne, f_q13⟩ hf hd
                    have hf' : b7 = false := hf
                    subst hf'
                    clear hf hd
                    try simp only [List.setIfInBounds_toArray, List.set_cons_zero, List.set_cons_succ]
                    intro K hK
                    rw [if_pos (by rfl)]
                    go_simp
                    exact hK.out _ _ ⟨b0, b1, b2, b3, b4, b5, b6, true, b8, b9, b10, b11, b12, b13, x82, x83, x84, x85, x86, x87, x88, (.int .i64 (b1_ : Nat)), x90, x91, x11, x12, g1, g2, (by simp only [Act.put, List.setIfInBounds_toArray, List.set_cons_zero, List.set_cons_succ]), (by simp only [Act.put, List.setIfInBounds_toArray, List.set_cons_zero, List.set_cons_succ]), hb, cd0, cd1, cd2, cd3, cd4, cd5, cd6, (fun _ => rfl), cd8, cd9, cd10, cd11, f_z1, f_l1, f_s1, f_q10, f_z2, f_l2, f_s2, f_q11, f_t1, f_t2, f_ne, f_q13⟩
                  · rintro L a w ⟨b0, b1, b2, b3, b4, b5, b6, b7, b8, b9, b10, b11, b12, b13, x82, x83, x84, x85, x86, x87, x88, x89, x90, x91, x11, x12, g1, g2, rfl, rfl, hb, cd0, cd1, cd2, cd3, cd4, cd5, cd6, cd7, cd8, cd9, cd10, cd11, f_z1, f_l1, f_s1, f_q10, f_z2, f_l2, f_s2, f_q11, f_t1, f_t2, f_ne, f_q13⟩ hf hd
                    have hf' : b8 = false := hf
                    subst hf'
                    have d6 : b6 = true := hd ⟨6, .data⟩ (by simp) rfl
                    subst d6
                    have d7 : b7 = true := hd ⟨7, .data⟩ (by simp) rfl
                    subst d7
                    obtain rfl := cd6.out rfl
                    obtain rfl := cd7.out rfl
                    clear hf hd
                    try simp only [List.setIfInBounds_toArray, List.set_cons_zero, List.set_cons_succ]
                    intro K hK
                    rw [if_pos (by rfl)]
                    go_simp
                    exact hK.out _ _ ⟨b0, b1, b2, b3, b4, b5, true, true, true, b9, b10, b11, b12, b13, x82, x83, x84, x85, x86, x87, .slice (some ⟨rb, roff, none⟩) hn hc, .int .i64 (b1_ : Nat), (.pointer (some ⟨rb, roff + b1_ * 3, none⟩)), x91, x11, x12, g1, g2, (by simp only [Act.put, List.setIfInBounds_toArray, List.set_cons_zero, List.set_cons_succ]), (by simp only [Act.put, List.setIfInBounds_toArray, List.set_cons_zero, List.set_cons_succ]), hb, cd0, cd1, cd2, cd3, cd4, cd5, (fun _ => rfl), (fun _ => rfl), (fun _ => rfl), cd9, cd10, cd11, f_z1, f_l1, f_s1, f_q10, f_z2, f_l2, f_s2, f_q11, f_t1, f_t2, f_ne, f_q13⟩
                  · rintro L a w ⟨b0, b1, b2, b3, b4, b5, b6, b7, b8, b9, b10, b11, b12, b13, x82, x83, x84, x85, x86, x87, x88, x89, x90, x91, x11, x12, g1, g2, rfl, rfl, hb, cd0, cd1, cd2, cd3, cd4, cd5, cd6, cd7, cd8, cd9, cd10, cd11, f_z1, f_l1, f_s1, f_q10, f_z2, f_l2, f_s2, f_q11, f_t1, f_t2, f_ne, f_q13⟩ hf hd
                    have hf' : b9 = false := hf
                    subst hf'
                    have d8 : b8 = true := hd ⟨8, .data⟩ (by simp) rfl
                    subst d8
                    obtain rfl := cd8.out rfl
                    clear hf hd
                    try simp only [List.setIfInBounds_toArray, List.set_cons_zero, List.set_cons_succ]
                    have z0 := (hb.cell hrB).trans y0_
                    have z1 := (hb.cell hrB).trans y1_
                    have z2 := (hb.cell hrB).trans y2_
                    intro K hK
                    rw [if_pos (by rfl)]
                    go_simp
                    exact hK.out _ _ ⟨b0, b1, b2, b3, b4, b5, b6, b7, true, true, b10, b11, b12, b13, x82, x83, x84, x85, x86, x87, x88, x89, .pointer (some ⟨rb, roff + b1_ * 3, none⟩), (.agg #[.int .i64 ys, .string (bsOf yt), .bool yb]), x11, x12, g1, g2, (by simp only [Act.put, List.setIfInBounds_toArray, List.set_cons_zero, List.set_cons_succ]), (by simp only [Act.put, List.setIfInBounds_toArray, List.set_cons_zero, List.set_cons_succ]), hb, cd0, cd1, cd2, cd3, cd4, cd5, cd6, cd7, (fun _ => rfl), (fun _ => rfl), cd10, cd11, f_z1, f_l1, f_s1, f_q10, f_z2, f_l2, f_s2, f_q11, f_t1, f_t2, f_ne, f_q13⟩
                  · rintro L a w ⟨b0, b1, b2, b3, b4, b5, b6, b7, b8, b9, b10, b11, b12, b13, x82, x83, x84, x85, x86, x87, x88, x89, x90, x91, x11, x12, g1, g2, rfl, rfl, hb, cd0, cd1, cd2, cd3, cd4, cd5, cd6, cd7, cd8, cd9, cd10, cd11, f_z1, f_l1, f_s1, f_q10, f_z2, f_l2, f_s2, f_q11, f_t1, f_t2, f_ne, f_q13⟩ hf hd
                    have hf' : b10 = false := hf
                    subst hf'
                    clear hf hd
                    try simp only [List.setIfInBounds_toArray, List.set_cons_zero, List.set_cons_succ]
                    intro K hK
                    rw [if_pos (by rfl)]
                    go_simp
                    have bx : Below w.heap.size w (w.alloc (.cells #[.int .i64 0, .string ⟨#[]⟩, .bool false] 101)) := (Below.refl _ _).alloc (Nat.le_refl _) _
                    exact hK.out _ _ ⟨b0, b1, b2, b3, b4, b5, b6, b7, b8, b9, true, b11, b12, b13, x82, x83, x84, x85, x86, x87, x88, x89, x90, x91, (.pointer (some ⟨(w.heap.size), 0, none⟩)), x12, w.heap.size, g2, (by simp only [Act.put, List.setIfInBounds_toArray, List.set_cons_zero, List.set_cons_succ]), (by simp only [Act.put, List.setIfInBounds_toArray, List.set_cons_zero, List.set_cons_succ]), hb.trans (bx.mono (Nat.le_trans hB0 hb.size)), cd0, cd1, cd2, cd3, cd4, cd5, cd6, cd7, cd8, cd9, (fun _ => rfl), cd11, (fun _ _ => heap_alloc_new w _), (fun _ => hb.size), (fun h0 => absurd (f_q10.out h0) (by simp)), (fun _ => rfl), (fun h0 h1 => (f_z2.out h0 h1).past bx), f_l2, (fun h0 => (f_s2.out h0).past bx), f_q11, (fun _ => (by show _ < _; rw [World.size_alloc]; omega)), (fun h0 => (f_t2.out h0).past bx), (fun _ => fun h e => Nat.ne_of_gt (f_t2.out h) e), f_q13⟩
                  · rintro L a w ⟨b0, b1, b2, b3, b4, b5, b6, b7, b8, b9, b10, b11, b12, b13, x82, x83, x84, x85, x86, x87, x88, x89, x90, x91, x11, x12, g1, g2, rfl, rfl, hb, cd0, cd1, cd2, cd3, cd4, cd5, cd6, cd7, cd8, cd9, cd10, cd11, f_z1, f_l1, f_s1, f_q10, f_z2, f_l2, f_s2, f_q11, f_t1, f_t2, f_ne, f_q13⟩ hf hd
                    have hf' : b11 = false := hf
                    subst hf'
                    clear hf hd
                    try simp only [List.setIfInBounds_toArray, List.set_cons_zero, List.set_cons_succ]
                    intro K hK
                    rw [if_pos (by rfl)]
                    go_simp
                    have bx : Below w.heap.size w (w.alloc (.cells #[.int .i64 0, .string ⟨#[]⟩, .bool false] 101)) := (Below.refl _ _).alloc (Nat.le_refl _) _
                    exact hK.out _ _ ⟨b0, b1, b2, b3, b4, b5, b6, b7, b8, b9, b10, true, b12, b13, x82, x83, x84, x85, x86, x87, x88, x89, x90, x91, x11, (.pointer (some ⟨(w.heap.size), 0, none⟩)), g1, w.heap.size, (by simp only [Act.put, List.setIfInBounds_toArray, List.set_cons_zero, List.set_cons_succ]), (by simp only [Act.put, List.setIfInBounds_toArray, List.set_cons_zero, List.set_cons_succ]), hb.trans (bx.mono (Nat.le_trans hB0 hb.size)), cd0, cd1, cd2, cd3, cd4, cd5, cd6, cd7, cd8, cd9, cd10, (fun _ => rfl), (fun h0 h1 => (f_z1.out h0 h1).past bx), f_l1, (fun h0 => (f_s1.out h0).past bx), f_q10, (fun _ _ => heap_alloc_new w _), (fun _ => hb.size), (fun h0 => absurd (f_q11.out h0) (by simp)), (fun _ => rfl), (fun h0 => (f_t1.out h0).past bx), (fun _ => (by show _ < _; rw [World.size_alloc]; omega)), (fun h0 _ e => Nat.ne_of_gt (f_t1.out h0) e.symm), f_q13⟩
                  · rintro L a w ⟨b0, b1, b2, b3, b4, b5, b6, b7, b8, b9, b10, b11, b12, b13, x82, x83, x84, x85, x86, x87, x88, x89, x90, x91, x11, x12, g1, g2, rfl, rfl, hb, cd0, cd1, cd2, cd3, cd4, cd5, cd6, cd7, cd8, cd9, cd10, cd11, f_z1, f_l1, f_s1, f_q10, f_z2, f_l2, f_s2, f_q11, f_t1, f_t2, f_ne, f_q13⟩ hf hd
                    have hf' : b12 = false := hf
                    subst hf'
                    have d10 : b10 = true := hd ⟨10, .data⟩ (by simp) rfl
                    subst d10
                    have d4 : b4 = true := hd ⟨4, .data⟩ (by simp) rfl
                    subst d4
                    have d0 : b0 = true := hd ⟨0, .phase⟩ (by simp) rfl
                    subst d0
                    have d1 : b1 = true := hd ⟨1, .phase⟩ (by simp) rfl
                    subst d1
                    have d2 : b2 = true := hd ⟨2, .phase⟩ (by simp) rfl
                    subst d2
                    have d3 : b3 = true := hd ⟨3, .phase⟩ (by simp) rfl
                    subst d3
                    have d11 : b11 = true := hd ⟨11, .phase⟩ (by simp) rfl
                    subst d11
                    obtain rfl := cd10.out rfl
                    obtain rfl := cd4.out rfl
                    obtain rfl := cd0.out rfl
                    obtain rfl := cd1.out rfl
                    obtain rfl := cd2.out rfl
                    obtain rfl := cd3.out rfl
                    obtain rfl := cd11.out rfl
                    clear hf hd
                    have W_z1 := f_z1.out rfl rfl
                    have W_l1 := f_l1.out rfl
                    have W_l2 := f_l2.out rfl
                    have W_t1 := f_t1.out rfl
                    have W_t2 := f_t2.out rfl
                    have W_ne := f_ne.out rfl
                    try simp only [List.setIfInBounds_toArray, List.set_cons_zero, List.set_cons_succ]
                    intro K hK
                    rw [if_pos (by rfl)]
                    refine wp_store_hd _ _ rfl g1 (⟨0, [], false⟩ : Hd) (⟨xs, xt, xb⟩ : Hd) rfl rfl (Lib.hid W_z1) fun w2 h8 g8 => ?_
                    have hb2 := hb.grown g8 (Nat.le_trans hB0 hb.size) (fun z hz => by cases hz; exact W_l1)
                    exact hK.out _ _ ⟨true, true, true, true, true, b5, b6, b7, b8, b9, true, true, true, b13, .pointer (some ⟨p, 0, none⟩), .slice (some ⟨rb, roff, none⟩) hn hc, .int .i64 (a1 : Nat), .pointer (some ⟨rb, roff + a1 * 3, none⟩), .agg #[.int .i64 xs, .string (bsOf xt), .bool xb], x87, x88, x89, x90, x91, .pointer (some ⟨g1, 0, none⟩), .pointer (some ⟨g2, 0, none⟩), g1, g2, (by simp only [Act.put, List.setIfInBounds_toArray, List.set_cons_zero, List.set_cons_succ]), (by simp only [Act.put, List.setIfInBounds_toArray, List.set_cons_zero, List.set_cons_succ]), hb2, (fun _ => rfl), (fun _ => rfl), (fun _ => rfl), (fun _ => rfl), (fun _ => rfl), cd5, cd6, cd7, cd8, cd9, (fun _ => rfl), (fun _ => rfl), (fun _ h => by cases h), f_l1, (fun _ => h8), (fun _ => rfl), (fun h0 h1 => ((f_z2.out h0 h1)).far g8 (fun e => (f_ne.out rfl h0) e.symm)), f_l2, (fun h0 => absurd (f_q13.out h0) (by simp)), f_q11, (fun h0 => Nat.lt_of_lt_of_le ((f_t1.out h0)) g8.size), (fun h0 => Nat.lt_of_lt_of_le ((f_t2.out h0)) g8.size), f_ne, (fun _ => rfl)⟩
                  · rintro L a w ⟨b0, b1, b2, b3, b4, b5, b6, b7, b8, b9, b10, b11, b12, b13, x82, x83, x84, x85, x86, x87, x88, x89, x90, x91, x11, x12, g1, g2, rfl, rfl, hb, cd0, cd1, cd2, cd3, cd4, cd5, cd6, cd7, cd8, cd9, cd10, cd11, f_z1, f_l1, f_s1, f_q10, f_z2, f_l2, f_s2, f_q11, f_t1, f_t2, f_ne, f_q13⟩ hf hd
                    have hf' : b13 = false := hf
                    subst hf'
                    have d11 : b11 = true := hd ⟨11, .data⟩ (by simp) rfl
                    subst d11
                    have d9 : b9 = true := hd ⟨9, .data⟩ (by simp) rfl
                    subst d9
                    have d12 : b12 = true := hd ⟨12, .chain⟩ (by simp) rfl
                    subst d12
                    have d0 : b0 = true := hd ⟨0, .phase⟩ (by simp) rfl
                    subst d0
                    have d1 : b1 = true := hd ⟨1, .phase⟩ (by simp) rfl
                    subst d1
                    have d2 : b2 = true := hd ⟨2, .phase⟩ (by simp) rfl
                    subst d2
                    have d3 : b3 = true := hd ⟨3, .phase⟩ (by simp) rfl
                    subst d3
                    have d4 : b4 = true := hd ⟨4, .phase⟩ (by simp) rfl
                    subst d4
                    have d5 : b5 = true := hd ⟨5, .phase⟩ (by simp) rfl
                    subst d5
                    have d6 : b6 = true := hd ⟨6, .phase⟩ (by simp) rfl
                    subst d6
                    have d7 : b7 = true := hd ⟨7, .phase⟩ (by simp) rfl
                    subst d7
                    have d8 : b8 = true := hd ⟨8, .phase⟩ (by simp) rfl
                    subst d8
                    have d10 : b10 = true := hd ⟨10, .phase⟩ (by simp) rfl
                    subst d10
                    obtain rfl := cd11.out rfl
                    obtain rfl := cd9.out rfl
                    obtain rfl := cd0.out rfl
                    obtain rfl := cd1.out rfl
                    obtain rfl := cd2.out rfl
                    obtain rfl := cd3.out rfl
                    obtain rfl := cd4.out rfl
                    obtain rfl := cd5.out rfl
                    obtain rfl := cd6.out rfl
                    obtain rfl := cd7.out rfl
                    obtain rfl := cd8.out rfl
                    obtain rfl := cd10.out rfl
                    clear hf hd
                    have W_l1 := f_l1.out rfl
                    have W_s1 := f_s1.out rfl
                    have W_q10 := f_q10.out rfl
                    have W_z2 := f_z2.out rfl rfl
                    have W_l2 := f_l2.out rfl
                    have W_t1 := f_t1.out rfl
                    have W_t2 := f_t2.out rfl
                    have W_ne := f_ne.out rfl
                    try simp only [List.setIfInBounds_toArray, List.set_cons_zero, List.set_cons_succ]
                    intro K hK
                    rw [if_pos (by rfl)]
                    refine wp_store_hd _ _ rfl g2 (⟨0, [], false⟩ : Hd) (⟨ys, yt, yb⟩ : Hd) rfl rfl (Lib.hid W_z2) fun w2 h8 g8 => ?_
                    have hb2 := hb.grown g8 (Nat.le_trans hB0 hb.size) (fun z hz => by cases hz; exact W_l2)
                    exact hK.out _ _ ⟨true, true, true, true, true, true, true, true, true, true, true, true, true, true, .pointer (some ⟨p, 0, none⟩), .slice (some ⟨rb, roff, none⟩) hn hc, .int .i64 (a1 : Nat), .pointer (some ⟨rb, roff + a1 * 3, none⟩), .agg #[.int .i64 xs, .string (bsOf xt), .bool xb], .pointer (some ⟨p, 0, none⟩), .slice (some ⟨rb, roff, none⟩) hn hc, .int .i64 (b1_ : Nat), .pointer (some ⟨rb, roff + b1_ * 3, none⟩), .agg #[.int .i64 ys, .string (bsOf yt), .bool yb], .pointer (some ⟨g1, 0, none⟩), .pointer (some ⟨g2, 0, none⟩), g1, g2, (by simp only [Act.put, List.setIfInBounds_toArray, List.set_cons_zero, List.set_cons_succ]), (by simp only [Act.put, List.setIfInBounds_toArray, List.set_cons_zero, List.set_cons_succ]), hb2, (fun _ => rfl), (fun _ => rfl), (fun _ => rfl), (fun _ => rfl), (fun _ => rfl), (fun _ => rfl), (fun _ => rfl), (fun _ => rfl), (fun _ => rfl), (fun _ => rfl), (fun _ => rfl), (fun _ => rfl), (fun _ h => by cases h), f_l1, (fun h0 => ((f_s1.out h0)).far g8 ((f_ne.out (f_q10.out h0) rfl))), f_q10, (fun _ h => by cases h), f_l2, (fun _ => h8), (fun _ => rfl), (fun h0 => Nat.lt_of_lt_of_le ((f_t1.out h0)) g8.size), (fun h0 => Nat.lt_of_lt_of_le ((f_t2.out h0)) g8.size), f_ne, (fun _ => rfl)⟩
                · rintro act V ⟨b0, b1, b2, b3, b4, b5, b6, b7, b8, b9, b10, b11, b12, b13, x82, x83, x84, x85, x86, x87, x88, x89, x90, x91, x11, x12, g1, g2, hL, rfl, hb, cd0, cd1, cd2, cd3, cd4, cd5, cd6, cd7, cd8, cd9, cd10, cd11, f_z1, f_l1, f_s1, f_q10, f_z2, f_l2, f_s2, f_q11, f_t1, f_t2, f_ne, f_q13⟩
                  have hL' : [true, true, true, true, true, true, true, true, true, true, true, true, true, true] = [b0, b1, b2, b3, b4, b5, b6, b7, b8, b9, b10, b11, b12, b13] := congrArg Array.toList hL
                  simp only [List.cons.injEq, and_true] at hL'
                  obtain ⟨rfl, rfl, rfl, rfl, rfl, rfl, rfl, rfl, rfl, rfl, rfl, rfl, rfl, rfl⟩ := hL'
                  obtain rfl := cd0.out rfl
                  obtain rfl := cd1.out rfl
                  obtain rfl := cd2.out rfl
                  obtain rfl := cd3.out rfl
                  obtain rfl := cd4.out rfl
                  obtain rfl := cd5.out rfl
                  obtain rfl := cd6.out rfl
                  obtain rfl := cd7.out rfl
                  obtain rfl := cd8.out rfl
                  obtain rfl := cd9.out rfl
                  obtain rfl := cd10.out rfl
                  obtain rfl := cd11.out rfl
                  have W_l1 := f_l1.out rfl
                  have W_s1 := f_s1.out rfl
                  have W_q10 := f_q10.out rfl
                  have W_l2 := f_l2.out rfl
                  have W_s2 := f_s2.out rfl
                  have W_q11 := f_q11.out rfl
                  have W_t1 := f_t1.out rfl
                  have W_t2 := f_t2.out rfl
                  have W_ne := f_ne.out rfl
                  have W_q13 := f_q13.out rfl
                  clear hL f_z1 f_l1 f_s1 f_q10 f_z2 f_l2 f_s2 f_q11 f_t1 f_t2 f_ne f_q13 cd0 cd1 cd2 cd3 cd4 cd5 cd6 cd7 cd8 cd9 cd10 cd11
                  simp only [List.setIfInBounds_toArray, List.set_cons_zero, List.set_cons_succ]
                  have BV := BU2.trans (((Below.refl _ _).drew.trans hb).mono BU2.size)
                  obtain ⟨u0_, u1_, u2_⟩ := W_s1.c
                  obtain ⟨v0_, v1_, v2_⟩ := W_s2.c
                  simp only at u0_ u1_ u2_ v0_ v1_ v2_
                  clear hb W_s1 W_s2 W_l1 W_l2 W_q10 W_q11 W_t1 W_t2 W_ne W_q13
                  by_cases ht : xt = yt
                  · obtain ⟨h1, h2, h3⟩ := hAp.out ht
                    subst ht h2 h3
                    have f1 : ((bsOf xt).toList == (bsOf xt).toList) = true := by simp
                    have f2 : (xs == ys) = false := by simpa using h1
                    clear h1 hAp
                    go_wp2_with fail
                    go_roundw
                    case rel => exact ⟨b1_ + 1, by omega, by go_num, BV⟩
                    case measure => simp [intOf]; omega
                  · have f1 : ¬ ((bsOf xt).toList = (bsOf yt).toList) := by
                      rw [ByteArray.toList_eq, ByteArray.toList_eq, bsOf_toList, bsOf_toList]
                      exact ht
                    clear hAp
                    go_wp2_with fail
                    go_roundw
                    case rel => exact ⟨b1_ + 1, by omega, by go_num, BV⟩
                    case measure => simp [intOf]; omega
              · have hlt2i : ¬ ((b1_ : Int) < (a1 : Int)) := by omega
                go_wp2_with fail
                go_roundw
                case rel => exact ⟨a1 + 1, by omega, by go_num, BU2⟩
                case measure => simp [intOf]; omega
          · have hlti : ¬ ((a1 : Int) < (hn : Int)) := by omega
            have BU0 := BU
            go_wp2_with fail
            go_loopw [13] (fun zs wr => ∃ a1 : Nat, a1 ≤ wn ∧ zs = .int .i64 (a1 : Nat) ∧ Below U.heap.size U wr) (fun zs _ => wn - (intOf zs).toNat)
            case atStart => exact ⟨0, by omega, rfl, BU0⟩
            case round =>
              clear BU0
              obtain ⟨a1, ha1, rfl, BU⟩ := hrel
              obtain ⟨cp0, cp1⟩ := (XU.past BU).c
              have hznl := RD.w.len
              by_cases hlt : a1 < wn
              · have hlti : (a1 : Int) < (wn : Int) := by omega
                go_wp2_with fail
                go_loopw [14] (fun zs wr => ∃ b1_ : Nat, b1_ ≤ a1 ∧ zs = .int .i64 (b1_ : Nat) ∧ Below U.heap.size U wr) (fun zs _ => a1 - (intOf zs).toNat)
                case atStart => exact ⟨0, by omega, rfl, BU⟩
                case round =>
                  clear BU cp0 cp1
                  obtain ⟨b1_, hb1, rfl, BU2⟩ := hrel
                  obtain ⟨cp0, cp1⟩ := (XU.past BU2).c
                  by_cases hlt2 : b1_ < a1
                  · have hlt2i : (b1_ : Int) < (a1 : Int) := by omega
                    have hlt3i : (b1_ : Int) < (wn : Int) := by omega
                    obtain ⟨x, hx⟩ : ∃ v, WW[a1]? = some v := ⟨WW[a1]'(by omega), List.getElem?_eq_getElem _⟩
                    obtain ⟨y, hy⟩ : ∃ v, WW[b1_]? = some v := ⟨WW[b1_]'(by omega), List.getElem?_eq_getElem _⟩
                    have hAp := Lib.hid (hGG.out.once.get hx hy hlt2)
                    obtain ⟨rb, roff, rfl, hrb, hrc⟩ := (RD.w.past BU2).open (by omega) (by decide)
                    obtain ⟨x0_, x1_, x2_⟩ := cells_hd hrc a1 x hx
                    obtain ⟨y0_, y1_, y2_⟩ := cells_hd hrc b1_ y hy
                    have hpB := (XU.past BU2).lt
                    clear hrc hx hy
                    obtain ⟨xs, xt, xb⟩ := x
                    obtain ⟨ys, yt, yb⟩ := y
                    simp only at x0_ x1_ x2_ y0_ y1_ y2_ hAp
                    go_upto_region 32 with fail
                    generalize wr = W7 at BU2 hpB hrb x0_ x1_ x2_ y0_ y1_ y2_ cp0 cp1 ⊢
                    have hrB := hrb
                    have hB0 : W7.heap.size ≤ W7.heap.size := Nat.le_refl _
                    have hne : (xs == ys) = false := by simpa using hAp.out
                    refine region_inv (Apart32 W7.heap.size p rb roff wn wc a1 b1_ xs ys) (by kernel_rfl) (by kernel_rfl) ?_ ?_ ?_
                    · exact ⟨false, false, false, false, false, false, false, false, false, false, false, false, false, u124, u125, u126, u127, u128, u129, u130, u131, u132, u133, u134, u135, u136, rfl, (by simp only [Act.put, List.setIfInBounds_toArray, List.set_cons_zero, List.set_cons_succ]), Below.refl _ _, (fun h => by cases h), (fun h => by cases h), (fun h => by cases h), (fun h => by cases h), (fun h => by cases h), (fun h => by cases h), (fun h => by cases h), (fun h => by cases h), (fun h => by cases h), (fun h => by cases h), (fun h => by cases h), (fun h => by cases h), (fun h => by cases h)⟩
                    · refine ⟨?_, ?_, ?_, ?_, ?_, ?_, ?_, ?_, ?_, ?_, ?_, ?_, ?_, trivial⟩
                      · rintro L a w ⟨b0, b1, b2, b3, b4, b5, b6, b7, b8, b9, b10, b11, b12, x124, x125, x126, x127, x128, x129, x130, x131, x132, x133, x134, x135, x136, rfl, rfl, hb, cd0, cd1, cd2, cd3, cd4, cd5, cd6, cd7, cd8, cd9, cd10, cd11, cd12⟩ hf hd
                        have hf' : b0 = false := hf
                        subst hf'
                        clear hf hd
                        try simp only [List.setIfInBounds_toArray, List.set_cons_zero, List.set_cons_succ]
                        intro K hK
                        rw [if_pos (by rfl)]
                        go_simp
                        exact hK.out _ _ ⟨true, b1, b2, b3, b4, b5, b6, b7, b8, b9, b10, b11, b12, (.pointer (some ⟨p, 1, none⟩)), x125, x126, x127, x128, x129, x130, x131, x132, x133, x134, x135, x136, (by simp only [Act.put, List.setIfInBounds_toArray, List.set_cons_zero, List.set_cons_succ]), (by simp only [Act.put, List.setIfInBounds_toArray, List.set_cons_zero, List.set_cons_succ]), hb, (fun _ => rfl), cd1, cd2, cd3, cd4, cd5, cd6, cd7, cd8, cd9, cd10, cd11, cd12⟩
                      · rintro L a w ⟨b0, b1, b2, b3, b4, b5, b6, b7, b8, b9, b10, b11, b12, x124, x125, x126, x127, x128, x129, x130, x131, x132, x133, x134, x135, x136, rfl, rfl, hb, cd0, cd1, cd2, cd3, cd4, cd5, cd6, cd7, cd8, cd9, cd10, cd11, cd12⟩ hf hd
                        have hf' : b1 = false := hf
                        subst hf'
                        have d0 : b0 = true := hd ⟨0, .data⟩ (by simp) rfl
                        subst d0
                        obtain rfl := cd0.out rfl
                        clear hf hd
                        try simp only [List.setIfInBounds_toArray, List.set_cons_zero, List.set_cons_succ]
                        have z0 := (hb.cell hpB).trans cp1
                        intro K hK
                        rw [if_pos (by rfl)]
                        go_simp
                        exact hK.out _ _ ⟨true, true, b2, b3, b4, b5, b6, b7, b8, b9, b10, b11, b12, .pointer (some ⟨p, 1, none⟩), (.slice (some ⟨rb, roff, none⟩) wn wc), x126, x127, x128, x129, x130, x131, x132, x133, x134, x135, x136, (by simp only [Act.put, List.setIfInBounds_toArray, List.set_cons_zero, List.set_cons_succ]), (by simp only [Act.put, List.setIfInBounds_toArray, List.set_cons_zero, List.set_cons_succ]), hb, (fun _ => rfl), (fun _ => rfl), cd2, cd3, cd4, cd5, cd6, cd7, cd8, cd9, cd10, cd11, cd12⟩
                      · rintro L a w ⟨b0, b1, b2, b3, b4, b5, b6, b7, b8, b9, b10, b11, b12, x124, x125, x126, x127, x128, x129, x130, x131, x132, x133, x134, x135, x136, rfl, rfl, hb, cd0, cd1, cd2, cd3, cd4, cd5, cd6, cd7, cd8, cd9, cd10, cd11, cd12⟩ hf hd
                        have hf' : b2 = false := hf
                        subst hf'
                        clear hf hd
                        try simp only [List.setIfInBounds_toArray, List.set_cons_zero, List.set_cons_succ]
                        intro K hK
                        rw [if_pos (by rfl)]
                        go_simp
                        exact hK.out _ _ ⟨b0, b1, true, b3, b4, b5, b6, b7, b8, b9, b10, b11, b12, x124, x125, (.int .i64 (a1 : Nat)), x127, x128, x129, x130, x131, x132, x133, x134, x135, x136, (by simp only [Act.put, List.setIfInBounds_toArray, List.set_cons_zero, List.set_cons_succ]), (by simp only [Act.put, List.setIfInBounds_toArray, List.set_cons_zero, List.set_cons_succ]), hb, cd0, cd1, (fun _ => rfl), cd3, cd4, cd5, cd6, cd7, cd8, cd9, cd10, cd11, cd12⟩
                      · rintro L a w ⟨b0, b1, b2, b3, b4, b5, b6, b7, b8, b9, b10, b11, b12, x124, x125, x126, x127, x128, x129, x130, x131, x132, x133, x134, x135, x136, rfl, rfl, hb, cd0, cd1, cd2, cd3, cd4, cd5, cd6, cd7, cd8, cd9, cd10, cd11, cd12⟩ hf hd
                        have hf' : b3 = false := hf
                        subst hf'
                        have d1 : b1 = true := hd ⟨1, .data⟩ (by simp) rfl
                        subst d1
                        have d2 : b2 = true := hd ⟨2, .data⟩ (by simp) rfl
                        subst d2
                        obtain rfl := cd1.out rfl
                        obtain rfl := cd2.out rfl
                        clear hf hd
                        try simp only [List.setIfInBounds_toArray, List.set_cons_zero, List.set_cons_succ]
                        intro K hK
                        rw [if_pos (by rfl)]
                        go_simp
                        exact hK.out _ _ ⟨b0, true, true, true, b4, b5, b6, b7, b8, b9, b10, b11, b12, x124, .slice (some ⟨rb, roff, none⟩) wn wc, .int .i64 (a1 : Nat), (.pointer (some ⟨rb, roff + a1 * 3, none⟩)), x128, x129, x130, x131, x132, x133, x134, x135, x136, (by simp only [Act.put, List.setIfInBounds_toArray, List.set_cons_zero, List.set_cons_succ]), (by simp only [Act.put, List.setIfInBounds_toArray, List.set_cons_zero, List.set_cons_succ]), hb, cd0, (fun _ => rfl), (fun _ => rfl), (fun _ => rfl), cd4, cd5, cd6, cd7, cd8, cd9, cd10, cd11, cd12⟩
                      · rintro L a w ⟨b0, b1, b2, b3, b4, b5, b6, b7, b8, b9, b10, b11, b12, x124, x125, x126, x127, x128, x129, x130, x131, x132, x133, x134, x135, x136, rfl, rfl, hb, cd0, cd1, cd2, cd3, cd4, cd5, cd6, cd7, cd8, cd9, cd10, cd11, cd12⟩ hf hd
                        have hf' : b4 = false := hf
                        subst hf'
                        have d3 : b3 = true := hd ⟨3, .data⟩ (by simp) rfl
                        subst d3
                        obtain rfl := cd3.out rfl
                        clear hf hd
                        try simp only [List.setIfInBounds_toArray, List.set_cons_zero, List.set_cons_succ]
                        intro K hK
                        rw [if_pos (by rfl)]
                        go_simp
                        exact hK.out _ _ ⟨b0, b1, b2, true, true, b5, b6, b7, b8, b9, b10, b11, b12, x124, x125, x126, .pointer (some ⟨rb, roff + a1 * 3, none⟩), (.pointer (some ⟨rb, roff + a1 * 3, none⟩)), x129, x130, x131, x132, x133, x134, x135, x136, (by simp only [Act.put, List.setIfInBounds_toArray, List.set_cons_zero, List.set_cons_succ]), (by simp only [Act.put, List.setIfInBounds_toArray, List.set_cons_zero, List.set_cons_succ]), hb, cd0, cd1, cd2, (fun _ => rfl), (fun _ => rfl), cd5, cd6, cd7, cd8, cd9, cd10, cd11, cd12⟩
                      · rintro L a w ⟨b0, b1, b2, b3, b4, b5, b6, b7, b8, b9, b10, b11, b12, x124, x125, x126, x127, x128, x129, x130, x131, x132, x133, x134, x135, x136, rfl, rfl, hb, cd0, cd1, cd2, cd3, cd4, cd5, cd6, cd7, cd8, cd9, cd10, cd11, cd12⟩ hf hd
                        have hf' : b5 = false := hf
                        subst hf'
                        have d4 : b4 = true := hd ⟨4, .data⟩ (by simp) rfl
                        subst d4
                        obtain rfl := cd4.out rfl
                        clear hf hd
                        try simp only [List.setIfInBounds_toArray, List.set_cons_zero, List.set_cons_succ]
                        have z0 := (hb.cell hrB).trans x0_
                        intro K hK
                        rw [if_pos (by rfl)]
                        go_simp
                        exact hK.out _ _ ⟨b0, b1, b2, b3, true, true, b6, b7, b8, b9, b10, b11, b12, x124, x125, x126, x127, .pointer (some ⟨rb, roff + a1 * 3, none⟩), (.int .i64 xs), x130, x131, x132, x133, x134, x135, x136, (by simp only [Act.put, List.setIfInBounds_toArray, List.set_cons_zero, List.set_cons_succ]), (by simp only [Act.put, List.setIfInBounds_toArray, List.set_cons_zero, List.set_cons_succ]), hb, cd0, cd1, cd2, cd3, (fun _ => rfl), (fun _ => rfl), cd6, cd7, cd8, cd9, cd10, cd11, cd12⟩
                      · rintro L a w ⟨b0, b1, b2, b3, b4, b5, b6, b7, b8, b9, b10, b11, b12, x124, x125, x126, x127, x128, x129, x130, x131, x132, x133, x134, x135, x136, rfl, rfl, hb, cd0, cd1, cd2, cd3, cd4, cd5, cd6, cd7, cd8, cd9, cd10, cd11, cd12⟩ hf hd
                        have hf' : b6 = false := hf
                        subst hf'
                        clear hf hd
                        try simp only [List.setIfInBounds_toArray, List.set_cons_zero, List.set_cons_succ]
                        intro K hK
                        rw [if_pos (by rfl)]
                        go_simp
                        exact hK.out _ _ ⟨b0, b1, b2, b3, b4, b5, true, b7, b8, b9, b10, b11, b12, x124, x125, x126, x127, x128, x129, (.pointer (some ⟨p, 1, none⟩)), x131, x132, x133, x134, x135, x136, (by simp only [Act.put, List.setIfInBounds_toArray, List.set_cons_zero, List.set_cons_succ]), (by simp only [Act.put, List.setIfInBounds_toArray, List.set_cons_zero, List.set_cons_succ]), hb, cd0, cd1, cd2, cd3, cd4, cd5, (fun _ => rfl), cd7, cd8, cd9, cd10, cd11, cd12⟩
                      · rintro L a w ⟨b0, b1, b2, b3, b4, b5, b6, b7, b8, b9, b10, b11, b12, x124, x125, x126, x127, x128, x129, x130, x131, x132, x133, x134, x135, x136, rfl, rfl, hb, cd0, cd1, cd2, cd3, cd4, cd5, cd6, cd7, cd8, cd9, cd10, cd11, cd12⟩ hf hd
                        have hf' : b7 = false := hf
                        subst hf'
                        have d6 : b6 = true := hd ⟨6, .data⟩ (by simp) rfl
                        subst d6
                        obtain rfl := cd6.out rfl
                        clear hf hd
                        try simp only [List.setIfInBounds_toArray, List.set_cons_zero, List.set_cons_succ]
                        have z0 := (hb.cell hpB).trans cp1
                        intro K hK
                        rw [if_pos (by rfl)]
                        go_simp
                        exact hK.out _ _ ⟨b0, b1, b2, b3, b4, b5, true, true, b8, b9, b10, b11, b12, x124, x125, x126, x127, x128, x129, .pointer (some ⟨p, 1, none⟩), (.slice (some ⟨rb, roff, none⟩) wn wc), x132, x133, x134, x135, x136, (by simp only [Act.put, List.setIfInBounds_toArray, List.set_cons_zero, List.set_cons_succ]), (by simp only [Act.put, List.setIfInBounds_toArray, List.set_cons_zero, List.set_cons_succ]), hb, cd0, cd1, cd2, cd3, cd4, cd5, (fun _ => rfl), (fun _ => rfl), cd8, cd9, cd10, cd11, cd12⟩
                      · rintro L a w ⟨b0, b1, b2, b3, b4, b5, b6, b7, b8, b9, b10, b11, b12, x124, x125, x126, x127, x128, x129, x130, x131, x132, x133, x134, x135, x136, rfl, rfl, hb, cd0, cd1, cd2, cd3, cd4, cd5, cd6, cd7, cd8, cd9, cd10, cd11, cd12⟩ hf hd
                        have hf' : b8 = false := hf
                        subst hf'
                        clear hf hd
                        try simp only [List.setIfInBounds_toArray, List.set_cons_zero, List.set_cons_succ]
                        intro K hK
                        rw [if_pos (by rfl)]
                        go_simp
                        exact hK.out _ _ ⟨b0, b1, b2, b3, b4, b5, b6, b7, true, b9, b10, b11, b12, x124, x125, x126, x127, x128, x129, x130, x131, (.int .i64 (b1_ : Nat)), x133, x134, x135, x136, (by simp only [Act.put, List.setIfInBounds_toArray, List.set_cons_zero, List.set_cons_succ]), (by simp only [Act.put, List.setIfInBounds_toArray, List.set_cons_zero, List.set_cons_succ]), hb, cd0, cd1, cd2, cd3, cd4, cd5, cd6, cd7, (fun _ => rfl), cd9, cd10, cd11, cd12⟩
                      · rintro L a w ⟨b0, b1, b2, b3, b4, b5, b6, b7, b8, b9, b10, b11, b12, x124, x125, x126, x127, x128, x129, x130, x131, x132, x133, x134, x135, x136, rfl, rfl, hb, cd0, cd1, cd2, cd3, cd4, cd5, cd6, cd7, cd8, cd9, cd10, cd11, cd12⟩ hf hd
                        have hf' : b9 = false := hf
                        subst hf'
                        have d7 : b7 = true := hd ⟨7, .data⟩ (by simp) rfl
                        subst d7
                        have d8 : b8 = true := hd ⟨8, .data⟩ (by simp) rfl
                        subst d8
                        obtain rfl := cd7.out rfl
                        obtain rfl := cd8.out rfl
                        clear hf hd
                        try simp only [List.setIfInBounds_toArray, List.set_cons_zero, List.set_cons_succ]
                        intro K hK
                        rw [if_pos (by rfl)]
                        go_simp
                        exact hK.out _ _ ⟨b0, b1, b2, b3, b4, b5, b6, true, true, true, b10, b11, b12, x124, x125, x126, x127, x128, x129, x130, .slice (some ⟨rb, roff, none⟩) wn wc, .int .i64 (b1_ : Nat), (.pointer (some ⟨rb, roff + b1_ * 3, none⟩)), x134, x135, x136, (by simp only [Act.put, List.setIfInBounds_toArray, List.set_cons_zero, List.set_cons_succ]), (by simp only [Act.put, List.setIfInBounds_toArray, List.set_cons_zero, List.set_cons_succ]), hb, cd0, cd1, cd2, cd3, cd4, cd5, cd6, (fun _ => rfl), (fun _ => rfl), (fun _ => rfl), cd10, cd11, cd12⟩
                      · rintro L a w ⟨b0, b1, b2, b3, b4, b5, b6, b7, b8, b9, b10, b11, b12, x124, x125, x126, x127, x128, x129, x130, x131, x132, x133, x134, x135, x136, rfl, rfl, hb, cd0, cd1, cd2, cd3, cd4, cd5, cd6, cd7, cd8, cd9, cd10, cd11, cd12⟩ hf hd
                        have hf' : b10 = false := hf
                        subst hf'
                        have d9 : b9 = true := hd ⟨9, .data⟩ (by simp) rfl
                        subst d9
                        obtain rfl := cd9.out rfl
                        clear hf hd
                        try simp only [List.setIfInBounds_toArray, List.set_cons_zero, List.set_cons_succ]
                        intro K hK
                        rw [if_pos (by rfl)]
                        go_simp
                        exact hK.out _ _ ⟨b0, b1, b2, b3, b4, b5, b6, b7, b8, true, true, b11, b12, x124, x125, x126, x127, x128, x129, x130, x131, x132, .pointer (some ⟨rb, roff + b1_ * 3, none⟩), (.pointer (some ⟨rb, roff + b1_ * 3, none⟩)), x135, x136, (by simp only [Act.put, List.setIfInBounds_toArray, List.set_cons_zero, List.set_cons_succ]), (by simp only [Act.put, List.setIfInBounds_toArray, List.set_cons_zero, List.set_cons_succ]), hb, cd0, cd1, cd2, cd3, cd4, cd5, cd6, cd7, cd8, (fun _ => rfl), (fun _ => rfl), cd11, cd12⟩
                      · rintro L a w ⟨b0, b1, b2, b3, b4, b5, b6, b7, b8, b9, b10, b11, b12, x124, x125, x126, x127, x128, x129, x130, x131, x132, x133, x134, x135, x136, rfl, rfl, hb, cd0, cd1, cd2, cd3, cd4, cd5, cd6, cd7, cd8, cd9, cd10, cd11, cd12⟩ hf hd
                        have hf' : b11 = false := hf
                        subst hf'
                        have d10 : b10 = true := hd ⟨10, .data⟩ (by simp) rfl
                        subst d10
                        obtain rfl := cd10.out rfl
                        clear hf hd
                        try simp only [List.setIfInBounds_toArray, List.set_cons_zero, List.set_cons_succ]
                        have z0 := (hb.cell hrB).trans y0_
                        intro K hK
                        rw [if_pos (by rfl)]
                        go_simp
                        exact hK.out _ _ ⟨b0, b1, b2, b3, b4, b5, b6, b7, b8, b9, true, true, b12, x124, x125, x126, x127, x128, x129, x130, x131, x132, x133, .pointer (some ⟨rb, roff + b1_ * 3, none⟩), (.int .i64 ys), x136, (by simp only [Act.put, List.setIfInBounds_toArray, List.set_cons_zero, List.set_cons_succ]), (by simp only [Act.put, List.setIfInBounds_toArray, List.set_cons_zero, List.set_cons_succ]), hb, cd0, cd1, cd2, cd3, cd4, cd5, cd6, cd7, cd8, cd9, (fun _ => rfl), (fun _ => rfl), cd12⟩
                      · rintro L a w ⟨b0, b1, b2, b3, b4, b5, b6, b7, b8, b9, b10, b11, b12, x124, x125, x126, x127, x128, x129, x130, x131, x132, x133, x134, x135, x136, rfl, rfl, hb, cd0, cd1, cd2, cd3, cd4, cd5, cd6, cd7, cd8, cd9, cd10, cd11, cd12⟩ hf hd
                        have hf' : b12 = false := hf
                        subst hf'
                        have d5 : b5 = true := hd ⟨5, .data⟩ (by simp) rfl
                        subst d5
                        have d11 : b11 = true := hd ⟨11, .data⟩ (by simp) rfl
                        subst d11
                        obtain rfl := cd5.out rfl
                        obtain rfl := cd11.out rfl
                        clear hf hd
                        try simp only [List.setIfInBounds_toArray, List.set_cons_zero, List.set_cons_succ]
                        intro K hK
                        rw [if_pos (by rfl)]
                        go_simp
                        exact hK.out _ _ ⟨b0, b1, b2, b3, b4, true, b6, b7, b8, b9, b10, true, true, x124, x125, x126, x127, x128, .int .i64 xs, x130, x131, x132, x133, x134, .int .i64 ys, (.bool false), (by simp only [Act.put, List.setIfInBounds_toArray, List.set_cons_zero, List.set_cons_succ]), (by simp only [Act.put, List.setIfInBounds_toArray, List.set_cons_zero, List.set_cons_succ]), hb, cd0, cd1, cd2, cd3, cd4, (fun _ => rfl), cd6, cd7, cd8, cd9, cd10, (fun _ => rfl), (fun _ => rfl)⟩
                    · rintro act V ⟨b0, b1, b2, b3, b4, b5, b6, b7, b8, b9, b10, b11, b12, x124, x125, x126, x127, x128, x129, x130, x131, x132, x133, x134, x135, x136, hL, rfl, hb, cd0, cd1, cd2, cd3, cd4, cd5, cd6, cd7, cd8, cd9, cd10, cd11, cd12⟩
                      have hL' : [true, true, true, true, true, true, true, true, true, true, true, true, true] = [b0, b1, b2, b3, b4, b5, b6, b7, b8, b9, b10, b11, b12] := congrArg Array.toList hL
                      simp only [List.cons.injEq, and_true] at hL'
                      obtain ⟨rfl, rfl, rfl, rfl, rfl, rfl, rfl, rfl, rfl, rfl, rfl, rfl, rfl⟩ := hL'
                      obtain rfl := cd0.out rfl
                      obtain rfl := cd1.out rfl
                      obtain rfl := cd2.out rfl
                      obtain rfl := cd3.out rfl
                      obtain rfl := cd4.out rfl
                      obtain rfl := cd5.out rfl
                      obtain rfl := cd6.out rfl
                      obtain rfl := cd7.out rfl
                      obtain rfl := cd8.out rfl
                      obtain rfl := cd9.out rfl
                      obtain rfl := cd10.out rfl
                      obtain rfl := cd11.out rfl
                      obtain rfl := cd12.out rfl
                      clear hL cd0 cd1 cd2 cd3 cd4 cd5 cd6 cd7 cd8 cd9 cd10 cd11 cd12
                      simp only [List.setIfInBounds_toArray, List.set_cons_zero, List.set_cons_succ]
                      have BV := BU2.trans (((Below.refl _ _).drew.trans hb).mono BU2.size)
                      go_wp2_with fail
                      go_roundw
                      case rel => exact ⟨b1_ + 1, by omega, by go_num, BV⟩
                      case measure => simp [intOf]; omega
                  · have hlt2i : ¬ ((b1_ : Int) < (a1 : Int)) := by omega
                    go_wp2_with fail
                    go_roundw
                    case rel => exact ⟨a1 + 1, by omega, by go_num, BU2⟩
                    case measure => simp [intOf]; omega
              · have hlti : ¬ ((a1 : Int) < (wn : Int)) := by omega
                have BE := B.trans (BU.mono hBw)
                have AE := A.past BU
                go_wp2_with fail
                go_roundw
                case rel => exact ⟨i + 1, HH, WW, by omega, by omega, by go_num, AE, hGG, BE⟩
                case measure => simp [intOf]; omega
      · have h5b : (KK == 5) = false := by simp [h5]
        clear h5
        have hGG : Hid (Good (i + 1) (askH H ⟨s, t, x⟩) (askW H W ⟨s, t, x⟩)) := Lib.hid (hG.out.ask hsm)
        obtain ⟨HH, hHH⟩ : ∃ z_, z_ = askH H ⟨s, t, x⟩ := ⟨_, rfl⟩
        obtain ⟨WW, hWW⟩ : ∃ z_, z_ = askW H W ⟨s, t, x⟩ := ⟨_, rfl⟩
        obtain ⟨ab, hab⟩ : ∃ z_, z_ = askB H ⟨s, t, x⟩ := ⟨_, rfl⟩
        have HK := ask_rd U0 ho hn hc wq wn wc H W HH WW ab ⟨s, t, x⟩ RD hHH.symm hWW.symm hab.symm (by omega) (by omega)
        simp only at HK
        have hNW : Hid (ab = true → ∀ k ∈ WW, k.s ≠ s) := Lib.hid fun e => by rw [hWW]; exact askB_waits (h := ⟨s, t, x⟩) (by rw [← hab, e])
        rw [← hHH, ← hWW] at hGG
        clear hHH hWW hab
        go_upto_region 10 with (go_at_call 58; refine (HWk _).mono ?_; rintro e w2 ⟨rfl, rfl⟩)
        go_upto_region 12 with (go_at_call 61; refine HK.mono ?_; rintro e v1 ⟨_, rfl, ⟨qo1, qn1, qc1, ro1, rn1, rc1, rfl, j11, j21, g11, g21⟩, b1⟩; unfold lkV; have Y1 := X.past b1; have bA1 : Below v1.heap.size v1 (v1.alloc (.cells #[.slice qo1 qn1 qc1, .slice ro1 rn1 rc1] 96)) := (Below.refl _ _).alloc (Nat.le_refl _) _; have Y1 := Y1.past bA1; obtain ⟨d0, d1⟩ := Y1.c; obtain ⟨e0, e1⟩ := Y1.free)
        have A2 := LkAt.store Y1 (j11.past bA1) (j21.past bA1) g11 g21 X.lt
        have B2 := LkAt.below (B.trans ((b1.mono hBw).trans (bA1.mono (Nat.le_trans hBw b1.size)))) p hpp (Nat.le_trans (Nat.le_trans hBw b1.size) bA1.size) (.slice qo1 qn1 qc1) (.slice ro1 rn1 rc1)
        have hrp : r ≠ p := neHL ZR X
        have Z2 : HdB (((v1.alloc (.cells #[.slice qo1 qn1 qc1, .slice ro1 rn1 rc1] 96)).setCell ⟨p, 0, none⟩ (.slice qo1 qn1 qc1)).setCell ⟨p, 1, none⟩ (.slice ro1 rn1 rc1)) r ⟨s, t, x⟩ 101 := (((ZR.past b1).past bA1).far (set1_grown _ p 0 _) hrp).far (set1_grown _ p 1 _) hrp
        clear c0 c1 d0 d1 e0 e1 HK
        generalize ((v1.alloc (.cells #[.slice qo1 qn1 qc1, .slice ro1 rn1 rc1] 96)).setCell ⟨p, 0, none⟩ (.slice qo1 qn1 qc1)).setCell ⟨p, 1, none⟩ (.slice ro1 rn1 rc1) = U at A2 B2 Z2 ⊢
        clear Y1 j11 j21 g11 g21 b1 bA1 X RD A B z0_ z1_ z2_ ZR a0_ hBw hrp
        have A := A2
        have B := B2
        have ZR := Z2
        clear A2 B2 Z2 hG hGh hGw
        have BU0 : Below U.heap.size U U := Below.refl _ _
        obtain ⟨ho, hn, hc, wq, wn, wc, XU, RD⟩ := A.rd
        obtain ⟨cp0, cp1⟩ := XU.c
        have hWl2 := hGG.out.lenW
        have hznl := RD.w.len
        have hBw := Nat.le_trans hp0 B.size
        go_wp2_with fail
        go_loopw [8] (fun zs wr => ∃ j : Nat, j ≤ wn ∧ zs = .int .i64 (j : Nat) ∧ Below U.heap.size U wr) (fun zs _ => wn - (intOf zs).toNat)
        case atStart => exact ⟨0, by omega, rfl, BU0⟩
        case round =>
          clear BU0
          obtain ⟨j, hj, rfl, BU⟩ := hrel
          obtain ⟨cp0, cp1⟩ := (XU.past BU).c
          by_cases hlt : j < wn
          · have hlti : (j : Int) < (wn : Int) := by omega
            obtain ⟨y, hy⟩ : ∃ v, WW[j]? = some v := ⟨WW[j]'(by omega), List.getElem?_eq_getElem _⟩
            obtain ⟨rb, roff, rfl, hrb, hrc⟩ := (RD.w.past BU).open (by omega) (by decide)
            obtain ⟨y0_, y1_, y2_⟩ := cells_hd hrc j y hy
            obtain ⟨z0_, z1_, z2_⟩ := (ZR.past BU).c
            simp only at z0_ z1_ z2_
            have hpB := (XU.past BU).lt
            have hqB := (ZR.past BU).lt
            have hym := Lib.hid (List.mem_of_getElem? hy)
            clear hrc hy
            obtain ⟨ys, yt, yb⟩ := y
            simp only at y0_ y1_ y2_
            cases ab
            · go_upto_region 15 with fail
              generalize wr = W7 at BU hpB hqB hrb y0_ z0_ cp1 ⊢
              have hrB := hrb
              have hB0 : W7.heap.size ≤ W7.heap.size := Nat.le_refl _
              refine region_inv (Apart15F W7.heap.size p r rb roff wn wc j ys s) (by kernel_rfl) (by kernel_rfl) ?_ ?_ ?_
              · exact ⟨false, false, false, false, false, false, false, false, false, false, false, false, u58, u59, u60, u61, u62, u63, u64, u65, u66, u67, u68, u69, rfl, (by simp only [Act.put, List.setIfInBounds_toArray, List.set_cons_zero, List.set_cons_succ]), Below.refl _ _, (fun h => by cases h), (fun h => by cases h), (fun h => by cases h), (fun h => by cases h), (fun h => by cases h), (fun h => by cases h), (fun h => by cases h), (fun h => by cases h), (fun h => by cases h), (fun h => by cases h), (fun h => by cases h), (fun h => by cases h)⟩
              · refine ⟨?_, ?_, ?_, ?_, ?_, ?_, ?_, ?_, ?_, ?_, ?_, ?_, trivial⟩
                · rintro L a w ⟨b0, b1, b2, b3, b4, b5, b6, b7, b8, b9, b10, b11, x58, x59, x60, x61, x62, x63, x64, x65, x66, x67, x68, x69, rfl, rfl, hb, cd0, cd1, cd2, cd3, cd4, cd5, cd6, cd7, cd8, cd9, cd10, cd11⟩ hf hd
                  have hf' : b0 = false := hf
                  subst hf'
                  clear hf hd
                  try simp only [List.setIfInBounds_toArray, List.set_cons_zero, List.set_cons_succ]
                  intro K hK
                  rw [if_pos (by rfl)]
                  go_simp
                  exact hK.out _ _ ⟨true, b1, b2, b3, b4, b5, b6, b7, b8, b9, b10, b11, (.bool false), x59, x60, x61, x62, x63, x64, x65, x66, x67, x68, x69, (by simp only [Act.put, List.setIfInBounds_toArray, List.set_cons_zero, List.set_cons_succ]), (by simp only [Act.put, List.setIfInBounds_toArray, List.set_cons_zero, List.set_cons_succ]), hb, (fun _ => rfl), cd1, cd2, cd3, cd4, cd5, cd6, cd7, cd8, cd9, cd10, cd11⟩
                · rintro L a w ⟨b0, b1, b2, b3, b4, b5, b6, b7, b8, b9, b10, b11, x58, x59, x60, x61, x62, x63, x64, x65, x66, x67, x68, x69, rfl, rfl, hb, cd0, cd1, cd2, cd3, cd4, cd5, cd6, cd7, cd8, cd9, cd10, cd11⟩ hf hd
                  have hf' : b1 = false := hf
                  subst hf'
                  have d0 : b0 = true := hd ⟨0, .data⟩ (by simp) rfl
                  subst d0
                  obtain rfl := cd0.out rfl
                  clear hf hd
                  try simp only [List.setIfInBounds_toArray, List.set_cons_zero, List.set_cons_succ]
                  intro K hK
                  rw [if_pos (by rfl)]
                  go_simp
                  exact hK.out _ _ ⟨true, true, b2, b3, b4, b5, b6, b7, b8, b9, b10, b11, .bool false, (.bool false), x60, x61, x62, x63, x64, x65, x66, x67, x68, x69, (by simp only [Act.put, List.setIfInBounds_toArray, List.set_cons_zero, List.set_cons_succ]), (by simp only [Act.put, List.setIfInBounds_toArray, List.set_cons_zero, List.set_cons_succ]), hb, (fun _ => rfl), (fun _ => rfl), cd2, cd3, cd4, cd5, cd6, cd7, cd8, cd9, cd10, cd11⟩
                · rintro L a w ⟨b0, b1, b2, b3, b4, b5, b6, b7, b8, b9, b10, b11, x58, x59, x60, x61, x62, x63, x64, x65, x66, x67, x68, x69, rfl, rfl, hb, cd0, cd1, cd2, cd3, cd4, cd5, cd6, cd7, cd8, cd9, cd10, cd11⟩ hf hd
                  have hf' : b2 = false := hf
                  subst hf'
                  have d1 : b1 = true := hd ⟨1, .guard⟩ (by simp) rfl
                  subst d1
                  obtain rfl := cd1.out rfl
                  clear hf hd
                  try simp only [List.setIfInBounds_toArray, List.set_cons_zero, List.set_cons_succ]
                  intro K hK
                  rw [if_neg (Bool.eq_false_iff.1 (by rfl))]
                  exact hK.out _ _ ⟨b0, true, true, b3, b4, b5, b6, b7, b8, b9, b10, b11, x58, .bool false, (undef), x61, x62, x63, x64, x65, x66, x67, x68, x69, (by simp only [Act.put, List.setIfInBounds_toArray, List.set_cons_zero, List.set_cons_succ]), (by simp only [Act.put, List.setIfInBounds_toArray, List.set_cons_zero, List.set_cons_succ]), hb, cd0, (fun _ => rfl), (fun _ => rfl), cd3, cd4, cd5, cd6, cd7, cd8, cd9, cd10, cd11⟩
                · rintro L a w ⟨b0, b1, b2, b3, b4, b5, b6, b7, b8, b9, b10, b11, x58, x59, x60, x61, x62, x63, x64, x65, x66, x67, x68, x69, rfl, rfl, hb, cd0, cd1, cd2, cd3, cd4, cd5, cd6, cd7, cd8, cd9, cd10, cd11⟩ hf hd
                  have hf' : b3 = false := hf
                  subst hf'
                  have d2 : b2 = true := hd ⟨2, .data⟩ (by simp) rfl
                  subst d2
                  have d1 : b1 = true := hd ⟨1, .guard⟩ (by simp) rfl
                  subst d1
                  obtain rfl := cd2.out rfl
                  obtain rfl := cd1.out rfl
                  clear hf hd
                  try simp only [List.setIfInBounds_toArray, List.set_cons_zero, List.set_cons_succ]
                  intro K hK
                  rw [if_neg (Bool.eq_false_iff.1 (by rfl))]
                  exact hK.out _ _ ⟨b0, true, true, true, b4, b5, b6, b7, b8, b9, b10, b11, x58, .bool false, undef, (undef), x62, x63, x64, x65, x66, x67, x68, x69, (by simp only [Act.put, List.setIfInBounds_toArray, List.set_cons_zero, List.set_cons_succ]), (by simp only [Act.put, List.setIfInBounds_toArray, List.set_cons_zero, List.set_cons_succ]), hb, cd0, (fun _ => rfl), (fun _ => rfl), (fun _ => rfl), cd4, cd5, cd6, cd7, cd8, cd9, cd10, cd11⟩
                · rintro L a w ⟨b0, b1, b2, b3, b4, b5, b6, b7, b8, b9, b10, b11, x58, x59, x60, x61, x62, x63, x64, x65, x66, x67, x68, x69, rfl, rfl, hb, cd0, cd1, cd2, cd3, cd4, cd5, cd6, cd7, cd8, cd9, cd10, cd11⟩ hf hd
                  have hf' : b4 = false := hf
                  subst hf'
                  have d1 : b1 = true := hd ⟨1, .guard⟩ (by simp) rfl
                  subst d1
                  obtain rfl := cd1.out rfl
                  clear hf hd
                  try simp only [List.setIfInBounds_toArray, List.set_cons_zero, List.set_cons_succ]
                  intro K hK
                  rw [if_neg (Bool.eq_false_iff.1 (by rfl))]
                  exact hK.out _ _ ⟨b0, true, b2, b3, true, b5, b6, b7, b8, b9, b10, b11, x58, .bool false, x60, x61, (undef), x63, x64, x65, x66, x67, x68, x69, (by simp only [Act.put, List.setIfInBounds_toArray, List.set_cons_zero, List.set_cons_succ]), (by simp only [Act.put, List.setIfInBounds_toArray, List.set_cons_zero, List.set_cons_succ]), hb, cd0, (fun _ => rfl), cd2, cd3, (fun _ => rfl), cd5, cd6, cd7, cd8, cd9, cd10, cd11⟩
                · rintro L a w ⟨b0, b1, b2, b3, b4, b5, b6, b7, b8, b9, b10, b11, x58, x59, x60, x61, x62, x63, x64, x65, x66, x67, x68, x69, rfl, rfl, hb, cd0, cd1, cd2, cd3, cd4, cd5, cd6, cd7, cd8, cd9, cd10, cd11⟩ hf hd
                  have hf' : b5 = false := hf
                  subst hf'
                  have d3 : b3 = true := hd ⟨3, .data⟩ (by simp) rfl
                  subst d3
                  have d4 : b4 = true := hd ⟨4, .data⟩ (by simp) rfl
                  subst d4
                  have d1 : b1 = true := hd ⟨1, .guard⟩ (by simp) rfl
                  subst d1
                  obtain rfl := cd3.out rfl
                  obtain rfl := cd4.out rfl
                  obtain rfl := cd1.out rfl
                  clear hf hd
                  try simp only [List.setIfInBounds_toArray, List.set_cons_zero, List.set_cons_succ]
                  intro K hK
                  rw [if_neg (Bool.eq_false_iff.1 (by rfl))]
                  exact hK.out _ _ ⟨b0, true, b2, true, true, true, b6, b7, b8, b9, b10, b11, x58, .bool false, x60, undef, undef, (undef), x64, x65, x66, x67, x68, x69, (by simp only [Act.put, List.setIfInBounds_toArray, List.set_cons_zero, List.set_cons_succ]), (by simp only [Act.put, List.setIfInBounds_toArray, List.set_cons_zero, List.set_cons_succ]), hb, cd0, (fun _ => rfl), cd2, (fun _ => rfl), (fun _ => rfl), (fun _ => rfl), cd6, cd7, cd8, cd9, cd10, cd11⟩
                · rintro L a w ⟨b0, b1, b2, b3, b4, b5, b6, b7, b8, b9, b10, b11, x58, x59, x60, x61, x62, x63, x64, x65, x66, x67, x68, x69, rfl, rfl, hb, cd0, cd1, cd2, cd3, cd4, cd5, cd6, cd7, cd8, cd9, cd10, cd11⟩ hf hd
                  have hf' : b6 = false := hf
                  subst hf'
                  have d5 : b5 = true := hd ⟨5, .data⟩ (by simp) rfl
                  subst d5
                  have d1 : b1 = true := hd ⟨1, .guard⟩ (by simp) rfl
                  subst d1
                  obtain rfl := cd5.out rfl
                  obtain rfl := cd1.out rfl
                  clear hf hd
                  try simp only [List.setIfInBounds_toArray, List.set_cons_zero, List.set_cons_succ]
                  intro K hK
                  rw [if_neg (Bool.eq_false_iff.1 (by rfl))]
                  exact hK.out _ _ ⟨b0, true, b2, b3, b4, true, true, b7, b8, b9, b10, b11, x58, .bool false, x60, x61, x62, undef, (undef), x65, x66, x67, x68, x69, (by simp only [Act.put, List.setIfInBounds_toArray, List.set_cons_zero, List.set_cons_succ]), (by simp only [Act.put, List.setIfInBounds_toArray, List.set_cons_zero, List.set_cons_succ]), hb, cd0, (fun _ => rfl), cd2, cd3, cd4, (fun _ => rfl), (fun _ => rfl), cd7, cd8, cd9, cd10, cd11⟩
                · rintro L a w ⟨b0, b1, b2, b3, b4, b5, b6, b7, b8, b9, b10, b11, x58, x59, x60, x61, x62, x63, x64, x65, x66, x67, x68, x69, rfl, rfl, hb, cd0, cd1, cd2, cd3, cd4, cd5, cd6, cd7, cd8, cd9, cd10, cd11⟩ hf hd
                  have hf' : b7 = false := hf
                  subst hf'
                  have d6 : b6 = true := hd ⟨6, .data⟩ (by simp) rfl
                  subst d6
                  have d1 : b1 = true := hd ⟨1, .guard⟩ (by simp) rfl
                  subst d1
                  obtain rfl := cd6.out rfl
                  obtain rfl := cd1.out rfl
                  clear hf hd
                  try simp only [List.setIfInBounds_toArray, List.set_cons_zero, List.set_cons_succ]
                  intro K hK
                  rw [if_neg (Bool.eq_false_iff.1 (by rfl))]
                  exact hK.out _ _ ⟨b0, true, b2, b3, b4, b5, true, true, b8, b9, b10, b11, x58, .bool false, x60, x61, x62, x63, undef, (undef), x66, x67, x68, x69, (by simp only [Act.put, List.setIfInBounds_toArray, List.set_cons_zero, List.set_cons_succ]), (by simp only [Act.put, List.setIfInBounds_toArray, List.set_cons_zero, List.set_cons_succ]), hb, cd0, (fun _ => rfl), cd2, cd3, cd4, cd5, (fun _ => rfl), (fun _ => rfl), cd8, cd9, cd10, cd11⟩
                · rintro L a w ⟨b0, b1, b2, b3, b4, b5, b6, b7, b8, b9, b10, b11, x58, x59, x60, x61, x62, x63, x64, x65, x66, x67, x68, x69, rfl, rfl, hb, cd0, cd1, cd2, cd3, cd4, cd5, cd6, cd7, cd8, cd9, cd10, cd11⟩ hf hd
                  have hf' : b8 = false := hf
                  subst hf'
                  have d1 : b1 = true := hd ⟨1, .guard⟩ (by simp) rfl
                  subst d1
                  obtain rfl := cd1.out rfl
                  clear hf hd
                  try simp only [List.setIfInBounds_toArray, List.set_cons_zero, List.set_cons_succ]
                  intro K hK
                  rw [if_neg (Bool.eq_false_iff.1 (by rfl))]
                  exact hK.out _ _ ⟨b0, true, b2, b3, b4, b5, b6, b7, true, b9, b10, b11, x58, .bool false, x60, x61, x62, x63, x64, x65, (undef), x67, x68, x69, (by simp only [Act.put, List.setIfInBounds_toArray, List.set_cons_zero, List.set_cons_succ]), (by simp only [Act.put, List.setIfInBounds_toArray, List.set_cons_zero, List.set_cons_succ]), hb, cd0, (fun _ => rfl), cd2, cd3, cd4, cd5, cd6, cd7, (fun _ => rfl), cd9, cd10, cd11⟩
                · rintro L a w ⟨b0, b1, b2, b3, b4, b5, b6, b7, b8, b9, b10, b11, x58, x59, x60, x61, x62, x63, x64, x65, x66, x67, x68, x69, rfl, rfl, hb, cd0, cd1, cd2, cd3, cd4, cd5, cd6, cd7, cd8, cd9, cd10, cd11⟩ hf hd
                  have hf' : b9 = false := hf
                  subst hf'
                  have d8 : b8 = true := hd ⟨8, .data⟩ (by simp) rfl
                  subst d8
                  have d1 : b1 = true := hd ⟨1, .guard⟩ (by simp) rfl
                  subst d1
                  obtain rfl := cd8.out rfl
                  obtain rfl := cd1.out rfl
                  clear hf hd
                  try simp only [List.setIfInBounds_toArray, List.set_cons_zero, List.set_cons_succ]
                  intro K hK
                  rw [if_neg (Bool.eq_false_iff.1 (by rfl))]
                  exact hK.out _ _ ⟨b0, true, b2, b3, b4, b5, b6, b7, true, true, b10, b11, x58, .bool false, x60, x61, x62, x63, x64, x65, undef, (undef), x68, x69, (by simp only [Act.put, List.setIfInBounds_toArray, List.set_cons_zero, List.set_cons_succ]), (by simp only [Act.put, List.setIfInBounds_toArray, List.set_cons_zero, List.set_cons_succ]), hb, cd0, (fun _ => rfl), cd2, cd3, cd4, cd5, cd6, cd7, (fun _ => rfl), (fun _ => rfl), cd10, cd11⟩
                · rintro L a w ⟨b0, b1, b2, b3, b4, b5, b6, b7, b8, b9, b10, b11, x58, x59, x60, x61, x62, x63, x64, x65, x66, x67, x68, x69, rfl, rfl, hb, cd0, cd1, cd2, cd3, cd4, cd5, cd6, cd7, cd8, cd9, cd10, cd11⟩ hf hd
                  have hf' : b10 = false := hf
                  subst hf'
                  have d7 : b7 = true := hd ⟨7, .data⟩ (by simp) rfl
                  subst d7
                  have d9 : b9 = true := hd ⟨9, .data⟩ (by simp) rfl
                  subst d9
                  have d1 : b1 = true := hd ⟨1, .guard⟩ (by simp) rfl
                  subst d1
                  obtain rfl := cd7.out rfl
                  obtain rfl := cd9.out rfl
                  obtain rfl := cd1.out rfl
                  clear hf hd
                  try simp only [List.setIfInBounds_toArray, List.set_cons_zero, List.set_cons_succ]
                  intro K hK
                  rw [if_neg (Bool.eq_false_iff.1 (by rfl))]
                  exact hK.out _ _ ⟨b0, true, b2, b3, b4, b5, b6, true, b8, true, true, b11, x58, .bool false, x60, x61, x62, x63, x64, undef, x66, undef, (undef), x69, (by simp only [Act.put, List.setIfInBounds_toArray, List.set_cons_zero, List.set_cons_succ]), (by simp only [Act.put, List.setIfInBounds_toArray, List.set_cons_zero, List.set_cons_succ]), hb, cd0, (fun _ => rfl), cd2, cd3, cd4, cd5, cd6, (fun _ => rfl), cd8, (fun _ => rfl), (fun _ => rfl), cd11⟩
                · rintro L a w ⟨b0, b1, b2, b3, b4, b5, b6, b7, b8, b9, b10, b11, x58, x59, x60, x61, x62, x63, x64, x65, x66, x67, x68, x69, rfl, rfl, hb, cd0, cd1, cd2, cd3, cd4, cd5, cd6, cd7, cd8, cd9, cd10, cd11⟩ hf hd
                  have hf' : b11 = false := hf
                  subst hf'
                  have d1 : b1 = true := hd ⟨1, .data⟩ (by simp) rfl
                  subst d1
                  have d10 : b10 = true := hd ⟨10, .data⟩ (by simp) rfl
                  subst d10
                  obtain rfl := cd1.out rfl
                  obtain rfl := cd10.out rfl
                  clear hf hd
                  try simp only [List.setIfInBounds_toArray, List.set_cons_zero, List.set_cons_succ]
                  intro K hK
                  rw [if_pos (by rfl)]
                  go_simp
                  exact hK.out _ _ ⟨b0, true, b2, b3, b4, b5, b6, b7, b8, b9, true, true, x58, .bool false, x60, x61, x62, x63, x64, x65, x66, x67, undef, (.bool false), (by simp only [Act.put, List.setIfInBounds_toArray, List.set_cons_zero, List.set_cons_succ]), (by simp only [Act.put, List.setIfInBounds_toArray, List.set_cons_zero, List.set_cons_succ]), hb, cd0, (fun _ => rfl), cd2, cd3, cd4, cd5, cd6, cd7, cd8, cd9, (fun _ => rfl), (fun _ => rfl)⟩
              · rintro act V ⟨b0, b1, b2, b3, b4, b5, b6, b7, b8, b9, b10, b11, x58, x59, x60, x61, x62, x63, x64, x65, x66, x67, x68, x69, hL, rfl, hb, cd0, cd1, cd2, cd3, cd4, cd5, cd6, cd7, cd8, cd9, cd10, cd11⟩
                have hL' : [true, true, true, true, true, true, true, true, true, true, true, true] = [b0, b1, b2, b3, b4, b5, b6, b7, b8, b9, b10, b11] := congrArg Array.toList hL
                simp only [List.cons.injEq, and_true] at hL'
                obtain ⟨rfl, rfl, rfl, rfl, rfl, rfl, rfl, rfl, rfl, rfl, rfl, rfl⟩ := hL'
                obtain rfl := cd0.out rfl
                obtain rfl := cd1.out rfl
                obtain rfl := cd2.out rfl
                obtain rfl := cd3.out rfl
                obtain rfl := cd4.out rfl
                obtain rfl := cd5.out rfl
                obtain rfl := cd6.out rfl
                obtain rfl := cd7.out rfl
                obtain rfl := cd8.out rfl
                obtain rfl := cd9.out rfl
                obtain rfl := cd10.out rfl
                obtain rfl := cd11.out rfl
                clear hL cd0 cd1 cd2 cd3 cd4 cd5 cd6 cd7 cd8 cd9 cd10 cd11
                simp only [List.setIfInBounds_toArray, List.set_cons_zero, List.set_cons_succ]
                have BV := BU.trans (((Below.refl _ _).drew.trans hb).mono BU.size)
                go_wp2_with fail
                go_roundw
                case rel => exact ⟨j + 1, by omega, by go_num, BV⟩
                case measure => simp [intOf]; omega
            · have hne : (ys == s) = false := by simpa using hNW.out rfl _ hym.out
              go_upto_region 15 with fail
              generalize wr = W7 at BU hpB hqB hrb y0_ z0_ cp1 ⊢
              have hrB := hrb
              have hB0 : W7.heap.size ≤ W7.heap.size := Nat.le_refl _
              refine region_inv (Apart15T W7.heap.size p r rb roff wn wc j ys s) (by kernel_rfl) (by kernel_rfl) ?_ ?_ ?_
              · exact ⟨false, false, false, false, false, false, false, false, false, false, false, false, u58, u59, u60, u61, u62, u63, u64, u65, u66, u67, u68, u69, rfl, (by simp only [Act.put, List.setIfInBounds_toArray, List.set_cons_zero, List.set_cons_succ]), Below.refl _ _, (fun h => by cases h), (fun h => by cases h), (fun h => by cases h), (fun h => by cases h), (fun h => by cases h), (fun h => by cases h), (fun h => by cases h), (fun h => by cases h), (fun h => by cases h), (fun h => by cases h), (fun h => by cases h), (fun h => by cases h)⟩
              · refine ⟨?_, ?_, ?_, ?_, ?_, ?_, ?_, ?_, ?_, ?_, ?_, ?_, trivial⟩
                · rintro L a w ⟨b0, b1, b2, b3, b4, b5, b6, b7, b8, b9, b10, b11, x58, x59, x60, x61, x62, x63, x64, x65, x66, x67, x68, x69, rfl, rfl, hb, cd0, cd1, cd2, cd3, cd4, cd5, cd6, cd7, cd8, cd9, cd10, cd11⟩ hf hd
                  have hf' : b0 = false := hf
                  subst hf'
                  clear hf hd
                  try simp only [List.setIfInBounds_toArray, List.set_cons_zero, List.set_cons_succ]
                  intro K hK
                  rw [if_pos (by rfl)]
                  go_simp
                  exact hK.out _ _ ⟨true, b1, b2, b3, b4, b5, b6, b7, b8, b9, b10, b11, (.bool true), x59, x60, x61, x62, x63, x64, x65, x66, x67, x68, x69, (by simp only [Act.put, List.setIfInBounds_toArray, List.set_cons_zero, List.set_cons_succ]), (by simp only [Act.put, List.setIfInBounds_toArray, List.set_cons_zero, List.set_cons_succ]), hb, (fun _ => rfl), cd1, cd2, cd3, cd4, cd5, cd6, cd7, cd8, cd9, cd10, cd11⟩
                · rintro L a w ⟨b0, b1, b2, b3, b4, b5, b6, b7, b8, b9, b10, b11, x58, x59, x60, x61, x62, x63, x64, x65, x66, x67, x68, x69, rfl, rfl, hb, cd0, cd1, cd2, cd3, cd4, cd5, cd6, cd7, cd8, cd9, cd10, cd11⟩ hf hd
                  have hf' : b1 = false := hf
                  subst hf'
                  have d0 : b0 = true := hd ⟨0, .data⟩ (by simp) rfl
                  subst d0
                  obtain rfl := cd0.out rfl
                  clear hf hd
                  try simp only [List.setIfInBounds_toArray, List.set_cons_zero, List.set_cons_succ]
                  intro K hK
                  rw [if_pos (by rfl)]
                  go_simp
                  exact hK.out _ _ ⟨true, true, b2, b3, b4, b5, b6, b7, b8, b9, b10, b11, .bool true, (.bool true), x60, x61, x62, x63, x64, x65, x66, x67, x68, x69, (by simp only [Act.put, List.setIfInBounds_toArray, List.set_cons_zero, List.set_cons_succ]), (by simp only [Act.put, List.setIfInBounds_toArray, List.set_cons_zero, List.set_cons_succ]), hb, (fun _ => rfl), (fun _ => rfl), cd2, cd3, cd4, cd5, cd6, cd7, cd8, cd9, cd10, cd11⟩
                · rintro L a w ⟨b0, b1, b2, b3, b4, b5, b6, b7, b8, b9, b10, b11, x58, x59, x60, x61, x62, x63, x64, x65, x66, x67, x68, x69, rfl, rfl, hb, cd0, cd1, cd2, cd3, cd4, cd5, cd6, cd7, cd8, cd9, cd10, cd11⟩ hf hd
                  have hf' : b2 = false := hf
                  subst hf'
                  have d1 : b1 = true := hd ⟨1, .guard⟩ (by simp) rfl
                  subst d1
                  obtain rfl := cd1.out rfl
                  clear hf hd
                  try simp only [List.setIfInBounds_toArray, List.set_cons_zero, List.set_cons_succ]
                  intro K hK
                  rw [if_pos (by rfl)]
                  go_simp
                  exact hK.out _ _ ⟨b0, true, true, b3, b4, b5, b6, b7, b8, b9, b10, b11, x58, .bool true, (.pointer (some ⟨p, 1, none⟩)), x61, x62, x63, x64, x65, x66, x67, x68, x69, (by simp only [Act.put, List.setIfInBounds_toArray, List.set_cons_zero, List.set_cons_succ]), (by simp only [Act.put, List.setIfInBounds_toArray, List.set_cons_zero, List.set_cons_succ]), hb, cd0, (fun _ => rfl), (fun _ => rfl), cd3, cd4, cd5, cd6, cd7, cd8, cd9, cd10, cd11⟩
                · rintro L a w ⟨b0, b1, b2, b3, b4, b5, b6, b7, b8, b9, b10, b11, x58, x59, x60, x61, x62, x63, x64, x65, x66, x67, x68, x69, rfl, rfl, hb, cd0, cd1, cd2, cd3, cd4, cd5, cd6, cd7, cd8, cd9, cd10, cd11⟩ hf hd
                  have hf' : b3 = false := hf
                  subst hf'
                  have d2 : b2 = true := hd ⟨2, .data⟩ (by simp) rfl
                  subst d2
                  have d1 : b1 = true := hd ⟨1, .guard⟩ (by simp) rfl
                  subst d1
                  obtain rfl := cd2.out rfl
                  obtain rfl := cd1.out rfl
                  clear hf hd
                  try simp only [List.setIfInBounds_toArray, List.set_cons_zero, List.set_cons_succ]
                  have z0 := (hb.cell hpB).trans cp1
                  intro K hK
                  rw [if_pos (by rfl)]
                  go_simp
                  exact hK.out _ _ ⟨b0, true, true, true, b4, b5, b6, b7, b8, b9, b10, b11, x58, .bool true, .pointer (some ⟨p, 1, none⟩), (.slice (some ⟨rb, roff, none⟩) wn wc), x62, x63, x64, x65, x66, x67, x68, x69, (by simp only [Act.put, List.setIfInBounds_toArray, List.set_cons_zero, List.set_cons_succ]), (by simp only [Act.put, List.setIfInBounds_toArray, List.set_cons_zero, List.set_cons_succ]), hb, cd0, (fun _ => rfl), (fun _ => rfl), (fun _ => rfl), cd4, cd5, cd6, cd7, cd8, cd9, cd10, cd11⟩
                · rintro L a w ⟨b0, b1, b2, b3, b4, b5, b6, b7, b8, b9, b10, b11, x58, x59, x60, x61, x62, x63, x64, x65, x66, x67, x68, x69, rfl, rfl, hb, cd0, cd1, cd2, cd3, cd4, cd5, cd6, cd7, cd8, cd9, cd10, cd11⟩ hf hd
                  have hf' : b4 = false := hf
                  subst hf'
                  have d1 : b1 = true := hd ⟨1, .guard⟩ (by simp) rfl
                  subst d1
                  obtain rfl := cd1.out rfl
                  clear hf hd
                  try simp only [List.setIfInBounds_toArray, List.set_cons_zero, List.set_cons_succ]
                  intro K hK
                  rw [if_pos (by rfl)]
                  go_simp
                  exact hK.out _ _ ⟨b0, true, b2, b3, true, b5, b6, b7, b8, b9, b10, b11, x58, .bool true, x60, x61, (.int .i64 (j : Nat)), x63, x64, x65, x66, x67, x68, x69, (by simp only [Act.put, List.setIfInBounds_toArray, List.set_cons_zero, List.set_cons_succ]), (by simp only [Act.put, List.setIfInBounds_toArray, List.set_cons_zero, List.set_cons_succ]), hb, cd0, (fun _ => rfl), cd2, cd3, (fun _ => rfl), cd5, cd6, cd7, cd8, cd9, cd10, cd11⟩
                · rintro L a w ⟨b0, b1, b2, b3, b4, b5, b6, b7, b8, b9, b10, b11, x58, x59, x60, x61, x62, x63, x64, x65, x66, x67, x68, x69, rfl, rfl, hb, cd0, cd1, cd2, cd3, cd4, cd5, cd6, cd7, cd8, cd9, cd10, cd11⟩ hf hd
                  have hf' : b5 = false := hf
                  subst hf'
                  have d3 : b3 = true := hd ⟨3, .data⟩ (by simp) rfl
                  subst d3
                  have d4 : b4 = true := hd ⟨4, .data⟩ (by simp) rfl
                  subst d4
                  have d1 : b1 = true := hd ⟨1, .guard⟩ (by simp) rfl
                  subst d1
                  obtain rfl := cd3.out rfl
                  obtain rfl := cd4.out rfl
                  obtain rfl := cd1.out rfl
                  clear hf hd
                  try simp only [List.setIfInBounds_toArray, List.set_cons_zero, List.set_cons_succ]
                  intro K hK
                  rw [if_pos (by rfl)]
                  go_simp
                  exact hK.out _ _ ⟨b0, true, b2, true, true, true, b6, b7, b8, b9, b10, b11, x58, .bool true, x60, .slice (some ⟨rb, roff, none⟩) wn wc, .int .i64 (j : Nat), (.pointer (some ⟨rb, roff + j * 3, none⟩)), x64, x65, x66, x67, x68, x69, (by simp only [Act.put, List.setIfInBounds_toArray, List.set_cons_zero, List.set_cons_succ]), (by simp only [Act.put, List.setIfInBounds_toArray, List.set_cons_zero, List.set_cons_succ]), hb, cd0, (fun _ => rfl), cd2, (fun _ => rfl), (fun _ => rfl), (fun _ => rfl), cd6, cd7, cd8, cd9, cd10, cd11⟩
                · rintro L a w ⟨b0, b1, b2, b3, b4, b5, b6, b7, b8, b9, b10, b11, x58, x59, x60, x61, x62, x63, x64, x65, x66, x67, x68, x69, rfl, rfl, hb, cd0, cd1, cd2, cd3, cd4, cd5, cd6, cd7, cd8, cd9, cd10, cd11⟩ hf hd
                  have hf' : b6 = false := hf
                  subst hf'
                  have d5 : b5 = true := hd ⟨5, .data⟩ (by simp) rfl
                  subst d5
                  have d1 : b1 = true := hd ⟨1, .guard⟩ (by simp) rfl
                  subst d1
                  obtain rfl := cd5.out rfl
                  obtain rfl := cd1.out rfl
                  clear hf hd
                  try simp only [List.setIfInBounds_toArray, List.set_cons_zero, List.set_cons_succ]
                  intro K hK
                  rw [if_pos (by rfl)]
                  go_simp
                  exact hK.out _ _ ⟨b0, true, b2, b3, b4, true, true, b7, b8, b9, b10, b11, x58, .bool true, x60, x61, x62, .pointer (some ⟨rb, roff + j * 3, none⟩), (.pointer (some ⟨rb, roff + j * 3, none⟩)), x65, x66, x67, x68, x69, (by simp only [Act.put, List.setIfInBounds_toArray, List.set_cons_zero, List.set_cons_succ]), (by simp only [Act.put, List.setIfInBounds_toArray, List.set_cons_zero, List.set_cons_succ]), hb, cd0, (fun _ => rfl), cd2, cd3, cd4, (fun _ => rfl), (fun _ => rfl), cd7, cd8, cd9, cd10, cd11⟩
                · rintro L a w ⟨b0, b1, b2, b3, b4, b5, b6, b7, b8, b9, b10, b11, x58, x59, x60, x61, x62, x63, x64, x65, x66, x67, x68, x69, rfl, rfl, hb, cd0, cd1, cd2, cd3, cd4, cd5, cd6, cd7, cd8, cd9, cd10, cd11⟩ hf hd
                  have hf' : b7 = false := hf
                  subst hf'
                  have d6 : b6 = true := hd ⟨6, .data⟩ (by simp) rfl
                  subst d6
                  have d1 : b1 = true := hd ⟨1, .guard⟩ (by simp) rfl
                  subst d1
                  obtain rfl := cd6.out rfl
                  obtain rfl := cd1.out rfl
                  clear hf hd
                  try simp only [List.setIfInBounds_toArray, List.set_cons_zero, List.set_cons_succ]
                  have z0 := (hb.cell hrB).trans y0_
                  intro K hK
                  rw [if_pos (by rfl)]
                  go_simp
                  exact hK.out _ _ ⟨b0, true, b2, b3, b4, b5, true, true, b8, b9, b10, b11, x58, .bool true, x60, x61, x62, x63, .pointer (some ⟨rb, roff + j * 3, none⟩), (.int .i64 ys), x66, x67, x68, x69, (by simp only [Act.put, List.setIfInBounds_toArray, List.set_cons_zero, List.set_cons_succ]), (by simp only [Act.put, List.setIfInBounds_toArray, List.set_cons_zero, List.set_cons_succ]), hb, cd0, (fun _ => rfl), cd2, cd3, cd4, cd5, (fun _ => rfl), (fun _ => rfl), cd8, cd9, cd10, cd11⟩
                · rintro L a w ⟨b0, b1, b2, b3, b4, b5, b6, b7, b8, b9, b10, b11, x58, x59, x60, x61, x62, x63, x64, x65, x66, x67, x68, x69, rfl, rfl, hb, cd0, cd1, cd2, cd3, cd4, cd5, cd6, cd7, cd8, cd9, cd10, cd11⟩ hf hd
                  have hf' : b8 = false := hf
                  subst hf'
                  have d1 : b1 = true := hd ⟨1, .guard⟩ (by simp) rfl
                  subst d1
                  obtain rfl := cd1.out rfl
                  clear hf hd
                  try simp only [List.setIfInBounds_toArray, List.set_cons_zero, List.set_cons_succ]
                  intro K hK
                  rw [if_pos (by rfl)]
                  go_simp
                  exact hK.out _ _ ⟨b0, true, b2, b3, b4, b5, b6, b7, true, b9, b10, b11, x58, .bool true, x60, x61, x62, x63, x64, x65, (.pointer (some ⟨r, 0, none⟩)), x67, x68, x69, (by simp only [Act.put, List.setIfInBounds_toArray, List.set_cons_zero, List.set_cons_succ]), (by simp only [Act.put, List.setIfInBounds_toArray, List.set_cons_zero, List.set_cons_succ]), hb, cd0, (fun _ => rfl), cd2, cd3, cd4, cd5, cd6, cd7, (fun _ => rfl), cd9, cd10, cd11⟩
                · rintro L a w ⟨b0, b1, b2, b3, b4, b5, b6, b7, b8, b9, b10, b11, x58, x59, x60, x61, x62, x63, x64, x65, x66, x67, x68, x69, rfl, rfl, hb, cd0, cd1, cd2, cd3, cd4, cd5, cd6, cd7, cd8, cd9, cd10, cd11⟩ hf hd
                  have hf' : b9 = false := hf
                  subst hf'
                  have d8 : b8 = true := hd ⟨8, .data⟩ (by simp) rfl
                  subst d8
                  have d1 : b1 = true := hd ⟨1, .guard⟩ (by simp) rfl
                  subst d1
                  obtain rfl := cd8.out rfl
                  obtain rfl := cd1.out rfl
                  clear hf hd
                  try simp only [List.setIfInBounds_toArray, List.set_cons_zero, List.set_cons_succ]
                  have z0 := (hb.cell hqB).trans z0_
                  intro K hK
                  rw [if_pos (by rfl)]
                  go_simp
                  exact hK.out _ _ ⟨b0, true, b2, b3, b4, b5, b6, b7, true, true, b10, b11, x58, .bool true, x60, x61, x62, x63, x64, x65, .pointer (some ⟨r, 0, none⟩), (.int .i64 s), x68, x69, (by simp only [Act.put, List.setIfInBounds_toArray, List.set_cons_zero, List.set_cons_succ]), (by simp only [Act.put, List.setIfInBounds_toArray, List.set_cons_zero, List.set_cons_succ]), hb, cd0, (fun _ => rfl), cd2, cd3, cd4, cd5, cd6, cd7, (fun _ => rfl), (fun _ => rfl), cd10, cd11⟩
                · rintro L a w ⟨b0, b1, b2, b3, b4, b5, b6, b7, b8, b9, b10, b11, x58, x59, x60, x61, x62, x63, x64, x65, x66, x67, x68, x69, rfl, rfl, hb, cd0, cd1, cd2, cd3, cd4, cd5, cd6, cd7, cd8, cd9, cd10, cd11⟩ hf hd
                  have hf' : b10 = false := hf
                  subst hf'
                  have d7 : b7 = true := hd ⟨7, .data⟩ (by simp) rfl
                  subst d7
                  have d9 : b9 = true := hd ⟨9, .data⟩ (by simp) rfl
                  subst d9
                  have d1 : b1 = true := hd ⟨1, .guard⟩ (by simp) rfl
                  subst d1
                  obtain rfl := cd7.out rfl
                  obtain rfl := cd9.out rfl
                  obtain rfl := cd1.out rfl
                  clear hf hd
                  try simp only [List.setIfInBounds_toArray, List.set_cons_zero, List.set_cons_succ]
                  intro K hK
                  rw [if_pos (by rfl)]
                  go_simp
                  exact hK.out _ _ ⟨b0, true, b2, b3, b4, b5, b6, true, b8, true, true, b11, x58, .bool true, x60, x61, x62, x63, x64, .int .i64 ys, x66, .int .i64 s, (.bool false), x69, (by simp only [Act.put, List.setIfInBounds_toArray, List.set_cons_zero, List.set_cons_succ]), (by simp only [Act.put, List.setIfInBounds_toArray, List.set_cons_zero, List.set_cons_succ]), hb, cd0, (fun _ => rfl), cd2, cd3, cd4, cd5, cd6, (fun _ => rfl), cd8, (fun _ => rfl), (fun _ => rfl), cd11⟩
                · rintro L a w ⟨b0, b1, b2, b3, b4, b5, b6, b7, b8, b9, b10, b11, x58, x59, x60, x61, x62, x63, x64, x65, x66, x67, x68, x69, rfl, rfl, hb, cd0, cd1, cd2, cd3, cd4, cd5, cd6, cd7, cd8, cd9, cd10, cd11⟩ hf hd
                  have hf' : b11 = false := hf
                  subst hf'
                  have d1 : b1 = true := hd ⟨1, .data⟩ (by simp) rfl
                  subst d1
                  have d10 : b10 = true := hd ⟨10, .data⟩ (by simp) rfl
                  subst d10
                  obtain rfl := cd1.out rfl
                  obtain rfl := cd10.out rfl
                  clear hf hd
                  try simp only [List.setIfInBounds_toArray, List.set_cons_zero, List.set_cons_succ]
                  intro K hK
                  rw [if_pos (by rfl)]
                  go_simp
                  exact hK.out _ _ ⟨b0, true, b2, b3, b4, b5, b6, b7, b8, b9, true, true, x58, .bool true, x60, x61, x62, x63, x64, x65, x66, x67, .bool false, (.bool false), (by simp only [Act.put, List.setIfInBounds_toArray, List.set_cons_zero, List.set_cons_succ]), (by simp only [Act.put, List.setIfInBounds_toArray, List.set_cons_zero, List.set_cons_succ]), hb, cd0, (fun _ => rfl), cd2, cd3, cd4, cd5, cd6, cd7, cd8, cd9, (fun _ => rfl), (fun _ => rfl)⟩
              · rintro act V ⟨b0, b1, b2, b3, b4, b5, b6, b7, b8, b9, b10, b11, x58, x59, x60, x61, x62, x63, x64, x65, x66, x67, x68, x69, hL, rfl, hb, cd0, cd1, cd2, cd3, cd4, cd5, cd6, cd7, cd8, cd9, cd10, cd11⟩
                have hL' : [true, true, true, true, true, true, true, true, true, true, true, true] = [b0, b1, b2, b3, b4, b5, b6, b7, b8, b9, b10, b11] := congrArg Array.toList hL
                simp only [List.cons.injEq, and_true] at hL'
                obtain ⟨rfl, rfl, rfl, rfl, rfl, rfl, rfl, rfl, rfl, rfl, rfl, rfl⟩ := hL'
                obtain rfl := cd0.out rfl
                obtain rfl := cd1.out rfl
                obtain rfl := cd2.out rfl
                obtain rfl := cd3.out rfl
                obtain rfl := cd4.out rfl
                obtain rfl := cd5.out rfl
                obtain rfl := cd6.out rfl
                obtain rfl := cd7.out rfl
                obtain rfl := cd8.out rfl
                obtain rfl := cd9.out rfl
                obtain rfl := cd10.out rfl
                obtain rfl := cd11.out rfl
                clear hL cd0 cd1 cd2 cd3 cd4 cd5 cd6 cd7 cd8 cd9 cd10 cd11
                simp only [List.setIfInBounds_toArray, List.set_cons_zero, List.set_cons_succ]
                have BV := BU.trans (((Below.refl _ _).drew.trans hb).mono BU.size)
                go_wp2_with fail
                go_roundw
                case rel => exact ⟨j + 1, by omega, by go_num, BV⟩
                case measure => simp [intOf]; omega
          · have hlti : ¬ ((j : Int) < (wn : Int)) := by omega
            have A := A.past BU
            have B := B.trans (BU.mono hBw)
            clear hNW
            generalize wr = U at A B cp1 ⊢
            obtain ⟨ho, hn, hc, wq, wn, wc, XU, RD⟩ := A.rd
            have hBw := Nat.le_trans hp0 B.size
            have BU0 : Below U.heap.size U U := Below.refl _ _
            obtain ⟨cp0, cp1⟩ := XU.c
            have hHl2 := hGG.out.lenH
            have hWl2 := hGG.out.lenW
            have hhl := RD.h.len
            have hwl := RD.w.len
            go_wp2_with fail
            go_loopw [9] (fun zs wr => ∃ a1 : Nat, a1 ≤ hn ∧ zs = .int .i64 (a1 : Nat) ∧ Below U.heap.size U wr) (fun zs _ => hn - (intOf zs).toNat)
            case atStart => exact ⟨0, by omega, rfl, BU0⟩
            case round =>
              clear BU0
              obtain ⟨a1, ha1, rfl, BU⟩ := hrel
              obtain ⟨cp0, cp1⟩ := (XU.past BU).c
              have hznl := RD.h.len
              by_cases hlt : a1 < hn
              · have hlti : (a1 : Int) < (hn : Int) := by omega
                go_wp2_with fail
                go_loopw [10] (fun zs wr => ∃ b1_ : Nat, b1_ ≤ a1 ∧ zs = .int .i64 (b1_ : Nat) ∧ Below U.heap.size U wr) (fun zs _ => a1 - (intOf zs).toNat)
                case atStart => exact ⟨0, by omega, rfl, BU⟩
                case round =>
                  clear BU cp0 cp1
                  obtain ⟨b1_, hb1, rfl, BU2⟩ := hrel
                  obtain ⟨cp0, cp1⟩ := (XU.past BU2).c
                  by_cases hlt2 : b1_ < a1
                  · have hlt2i : (b1_ : Int) < (a1 : Int) := by omega
                    have hlt3i : (b1_ : Int) < (hn : Int) := by omega
                    obtain ⟨x, hx⟩ : ∃ v, HH[a1]? = some v := ⟨HH[a1]'(by omega), List.getElem?_eq_getElem _⟩
                    obtain ⟨y, hy⟩ : ∃ v, HH[b1_]? = some v := ⟨HH[b1_]'(by omega), List.getElem?_eq_getElem _⟩
                    have hAp := Lib.hid (hGG.out.apt.get hx hy (by omega))
                    obtain ⟨rb, roff, rfl, hrb, hrc⟩ := (RD.h.past BU2).open (by omega) (by decide)
                    obtain ⟨x0_, x1_, x2_⟩ := cells_hd hrc a1 x hx
                    obtain ⟨y0_, y1_, y2_⟩ := cells_hd hrc b1_ y hy
                    have hpB := (XU.past BU2).lt
                    clear hrc hx hy
                    obtain ⟨xs, xt, xb⟩ := x
                    obtain ⟨ys, yt, yb⟩ := y
                    simp only at x0_ x1_ x2_ y0_ y1_ y2_ hAp
                    go_upto_region 23 with fail
                    generalize wr = W7 at BU2 hpB hrb x0_ x1_ x2_ y0_ y1_ y2_ cp0 cp1 ⊢
                    have hrB := hrb
                    have hB0 : W7.heap.size ≤ W7.heap.size := Nat.le_refl _
                    skip
                    refine region_inv (Apart23 W7.heap.size p rb roff hn hc a1 b1_ xs xt xb ys yt yb) (by kernel_rfl) (by kernel_rfl) ?_ ?_ ?_
                    · exact ⟨false, false, false, false, false, false, false, false, false, false, false, false, false, false, u82, u83, u84, u85, u86, u87, u88, u89, u90, u91, u11, u12, 0, 0, rfl, (by simp only [Act.put, List.setIfInBounds_toArray, List.set_cons_zero, List.set_cons_succ]), Below.refl _ _, (fun h => by cases h), (fun h => by cases h), (fun h => by cases h), (fun h => by cases h), (fun h => by cases h), (fun h => by cases h), (fun h => by cases h), (fun h => by cases h), (fun h => by cases h), (fun h => by cases h), (fun h => by cases h), (fun h => by cases h), (fun h => by cases h), (fun h => by cases h), (fun h => by cases h), (fun h => by cases h), (fun h => by cases h), (fun h => by cases h), (fun h => by cases h), (fun h => by cases h), (fun h => by cases h), (fun h => by cases h), (fun h => by cases h), (fun h => by cases h)⟩
                    · refine ⟨?_, ?_, ?_, ?_, ?_, ?_, ?_, ?_, ?_, ?_, ?_, ?_, ?_, ?_, trivial⟩
                      · rintro L a w ⟨b0, b1, b2, b3, b4, b5, b6, b7, b8, b9, b10, b11, b12, b13, x82, x83, x84, x85, x86, x87, x88, x89, x90, x91, x11, x12, g1, g2, rfl, rfl, hb, cd0, cd1, cd2, cd3, cd4, cd5, cd6, cd7, cd8, cd9, cd10, cd11, f_z1, f_l1, f_s1, f_q10, f_z2, f_l2, f_s2, f_q11, f_t1, f_t2, f_ne, f_q13⟩ hf hd
                        have hf' : b0 = false := hf
                        subst hf'
                        clear hf hd
                        try simp only [List.setIfInBounds_toArray, List.set_cons_zero, List.set_cons_succ]
                        intro K hK
                        rw [if_pos (by rfl)]
                        go_simp
                        exact hK.out _ _ ⟨true, b1, b2, b3, b4, b5, b6, b7, b8, b9, b10, b11, b12, b13, (.pointer (some ⟨p, 0, none⟩)), x83, x84, x85, x86, x87, x88, x89, x90, x91, x11, x12, g1, g2, (by simp only [Act.put, List.setIfInBounds_toArray, List.set_cons_zero, List.set_cons_succ]), (by simp only [Act.put, List.setIfInBounds_toArray, List.set_cons_zero, List.set_cons_succ]), hb, (fun _ => rfl), cd1, cd2, cd3, cd4, cd5, cd6, cd7, cd8, cd9, cd10, cd11, f_z1, f_l1, f_s1, f_q10, f_z2, f_l2, f_s2, f_q11, f_t1, f_t2, f_ne, f_q13⟩
                      · rintro L a w ⟨b0, b1, b2, b3, b4, b5, b6, b7, b8, b9, b10, b11, b12, b13, x82, x83, x84, x85, x86, x87, x88, x89, x90, x91, x11, x12, g1, g2, rfl, rfl, hb, cd0, cd1, cd2, cd3, cd4, cd5, cd6, cd7, cd8, cd9, cd10, cd11, f_z1, f_l1, f_s1, f_q10, f_z2, f_l2, f_s2, f_q11, f_t1, f_t2, f_ne, f_q13⟩ hf hd
                        have hf' : b1 = false := hf
                        subst hf'
                        have d0 : b0 = true := hd ⟨0, .data⟩ (by simp) rfl
                        subst d0
                        obtain rfl := cd0.out rfl
                        clear hf hd
                        try simp only [List.setIfInBounds_toArray, List.set_cons_zero, List.set_cons_succ]
                        have z0 := (hb.cell hpB).trans cp0
                        intro K hK
                        rw [if_pos (by rfl)]
                        go_simp
                        exact hK.out _ _ ⟨true, true, b2, b3, b4, b5, b6, b7, b8, b9, b10, b11, b12, b13, .pointer (some ⟨p, 0, none⟩), (.slice (some ⟨rb, roff, none⟩) hn hc), x84, x85, x86, x87, x88, x89, x90, x91, x11, x12, g1, g2, (by simp only [Act.put, List.setIfInBounds_toArray, List.set_cons_zero, List.set_cons_succ]), (by simp only [Act.put, List.setIfInBounds_toArray, List.set_cons_zero, List.set_cons_succ]), hb, (fun _ => rfl), (fun _ => rfl), cd2, cd3, cd4, cd5, cd6, cd7, cd8, cd9, cd10, cd11, f_z1, f_l1, f_s1, f_q10, f_z2, f_l2, f_s2, f_q11, f_t1, f_t2, f_ne, f_q13⟩
                      · rintro L a w ⟨b0, b1, b2, b3, b4, b5, b6, b7, b8, b9, b10, b11, b12, b13, x82, x83, x84, x85, x86, x87, x88, x89, x90, x91, x11, x12, g1, g2, rfl, rfl, hb, cd0, cd1, cd2, cd3, cd4, cd5, cd6, cd7, cd8, cd9, cd10, cd11, f_z1, f_l1, f_s1, f_q10, f_z2, f_l2, f_s2, f_q11, f_t1, f_t2, f_ne, f_q13⟩ hf hd
                        have hf' : b2 = false := hf
                        subst hf'
                        clear hf hd
                        try simp only [List.setIfInBounds_toArray, List.set_cons_zero, List.set_cons_succ]
                        intro K hK
                        rw [if_pos (by rfl)]
                        go_simp
                        exact hK.out _ _ ⟨b0, b1, true, b3, b4, b5, b6, b7, b8, b9, b10, b11, b12, b13, x82, x83, (.int .i64 (a1 : Nat)), x85, x86, x87, x88, x89, x90, x91, x11, x12, g1, g2, (by simp only [Act.put, List.setIfInBounds_toArray, List.set_cons_zero, List.set_cons_succ]), (by simp only [Act.put, List.setIfInBounds_toArray, List.set_cons_zero, List.set_cons_succ]), hb, cd0, cd1, (fun _ => rfl), cd3, cd4, cd5, cd6, cd7, cd8, cd9, cd10, cd11, f_z1, f_l1, f_s1, f_q10, f_z2, f_l2, f_s2, f_q11, f_t1, f_t2, f_ne, f_q13⟩
                      · rintro L a w ⟨b0, b1, b2, b3, b4, b5, b6, b7, b8, b9, b10, b11, b12, b13, x82, x83, x84, x85, x86, x87, x88, x89, x90, x91, x11, x12, g1, g2, rfl, rfl, hb, cd0, cd1, cd2, cd3, cd4, cd5, cd6, cd7, cd8, cd9, cd10, cd11, f_z1, f_l1, f_s1, f_q10, f_z2, f_l2, f_s2, f_q11, f_t1, f_t2, f_ne, f_q13⟩ hf hd
                        have hf' : b3 = false := hf
                        subst hf'
                        have d1 : b1 = true := hd ⟨1, .data⟩ (by simp) rfl
                        subst d1
                        have d2 : b2 = true := hd ⟨2, .data⟩ (by simp) rfl
                        subst d2
                        obtain rfl := cd1.out rfl
                        obtain rfl := cd2.out rfl
                        clear hf hd
                        try simp only [List.setIfInBounds_toArray, List.set_cons_zero, List.set_cons_succ]
                        intro K hK
                        rw [if_pos (by rfl)]
                        go_simp
                        exact hK.out _ _ ⟨b0, true, true, true, b4, b5, b6, b7, b8, b9, b10, b11, b12, b13, x82, .slice (some ⟨rb, roff, none⟩) hn hc, .int .i64 (a1 : Nat), (.pointer (some ⟨rb, roff + a1 * 3, none⟩)), x86, x87, x88, x89, x90, x91, x11, x12, g1, g2, (by simp only [Act.put, List.setIfInBounds_toArray, List.set_cons_zero, List.set_cons_succ]), (by simp only [Act.put, List.setIfInBounds_toArray, List.set_cons_zero, List.set_cons_succ]), hb, cd0, (fun _ => rfl), (fun _ => rfl), (fun _ => rfl), cd4, cd5, cd6, cd7, cd8, cd9, cd10, cd11, f_z1, f_l1, f_s1, f_q10, f_z2, f_l2, f_s2, f_q11, f_t1, f_t2, f_ne, f_q13⟩
                      · rintro L a w ⟨b0, b1, b2, b3, b4, b5, b6, b7, b8, b9, b10, b11, b12, b13, x82, x83, x84, x85, x86, x87, x88, x89, x90, x91, x11, x12, g1, g2, rfl, rfl, hb, cd0, cd1, cd2, cd3, cd4, cd5, cd6, cd7, cd8, cd9, cd10, cd11, f_z1, f_l1, f_s1, f_q10, f_z2, f_l2, f_s2, f_q11, f_t1, f_t2, f_ne, f_q13⟩ hf hd
                        have hf' : b4 = false := hf
                        subst hf'
                        have d3 : b3 = true := hd ⟨3, .data⟩ (by simp) rfl
                        subst d3
                        obtain rfl := cd3.out rfl
                        clear hf hd
                        try simp only [List.setIfInBounds_toArray, List.set_cons_zero, List.set_cons_succ]
                        have z0 := (hb.cell hrB).trans x0_
                        have z1 := (hb.cell hrB).trans x1_
                        have z2 := (hb.cell hrB).trans x2_
                        intro K hK
                        rw [if_pos (by rfl)]
                        go_simp
                        exact hK.out _ _ ⟨b0, b1, b2, true, true, b5, b6, b7, b8, b9, b10, b11, b12, b13, x82, x83, x84, .pointer (some ⟨rb, roff + a1 * 3, none⟩), (.agg #[.int .i64 xs, .string (bsOf xt), .bool xb]), x87, x88, x89, x90, x91, x11, x12, g1, g2, (by simp only [Act.put, List.setIfInBounds_toArray, List.set_cons_zero, List.set_cons_succ]), (by simp only [Act.put, List.setIfInBounds_toArray, List.set_cons_zero, List.set_cons_succ]), hb, cd0, cd1, cd2, (fun _ => rfl), (fun _ => rfl), cd5, cd6, cd7, cd8, cd9, cd10, cd11, f_z1, f_l1, f_s1, f_q10, f_z2, f_l2, f_s2, f_q11, f_t1, f_t2, f_ne, f_q13⟩
                      · rintro L a w ⟨b0, b1, b2, b3, b4, b5, b6, b7, b8, b9, b10, b11, b12, b13, x82, x83, x84, x85, x86, x87, x88, x89, x90, x91, x11, x12, g1, g2, rfl, rfl, hb, cd0, cd1, cd2, cd3, cd4, cd5, cd6, cd7, cd8, cd9, cd10, cd11, f_z1, f_l1, f_s1, f_q10, f_z2, f_l2, f_s2, f_q11, f_t1, f_t2, f_ne, f_q13⟩ hf hd
                        have hf' : b5 = false := hf
                        subst hf'
                        clear hf hd
                        try simp only [List.setIfInBounds_toArray, List.set_cons_zero, List.set_cons_succ]
                        intro K hK
                        rw [if_pos (by rfl)]
                        go_simp
                        exact hK.out _ _ ⟨b0, b1, b2, b3, b4, true, b6, b7, b8, b9, b10, b11, b12, b13, x82, x83, x84, x85, x86, (.pointer (some ⟨p, 0, none⟩)), x88, x89, x90, x91, x11, x12, g1, g2, (by simp only [Act.put, List.setIfInBounds_toArray, List.set_cons_zero, List.set_cons_succ]), (by simp only [Act.put, List.setIfInBounds_toArray, List.set_cons_zero, List.set_cons_succ]), hb, cd0, cd1, cd2, cd3, cd4, (fun _ => rfl), cd6, cd7, cd8, cd9, cd10, cd11, f_z1, f_l1, f_s1, f_q10, f_z2, f_l2, f_s2, f_q11, f_t1, f_t2, f_ne, f_q13⟩
                      · rintro L a w ⟨b0, b1, b2, b3, b4, b5, b6, b7, b8, b9, b10, b11, b12, b13, x82, x83, x84, x85, x86, x87, x88, x89, x90, x91, x11, x12, g1, g2, rfl, rfl, hb, cd0, cd1, cd2, cd3, cd4, cd5, cd6, cd7, cd8, cd9, cd10, cd11, f_z1, f_l1, f_s1, f_q10, f_z2, f_l2, f_s2, f_q11, f_t1, f_t2, f_ne, f_q13⟩ hf hd
                        have hf' : b6 = false := hf
                        subst hf'
                        have d5 : b5 = true := hd ⟨5, .data⟩ (by simp) rfl
                        subst d5
                        obtain rfl := cd5.out rfl
                        clear hf hd
                        try simp only [List.setIfInBounds_toArray, List.set_cons_zero, List.set_cons_succ]
                        have z0 := (hb.cell hpB).trans cp0
                        intro K hK
                        rw [if_pos (by rfl)]
                        go_simp
                        exact hK.out _ _ ⟨b0, b1, b2, b3, b4, true, true, b7, b8, b9, b10, b11, b12, b13, x82, x83, x84, x85, x86, .pointer (some ⟨p, 0, none⟩), (.slice (some ⟨rb, roff, none⟩) hn hc), x89, x90, x91, x11, x12, g1, g2, (by simp only [Act.put, List.setIfInBounds_toArray, List.set_cons_zero, List.set_cons_succ]), (by simp only [Act.put, List.setIfInBounds_toArray, List.set_cons_zero, List.set_cons_succ]), hb, cd0, cd1, cd2, cd3, cd4, (fun _ => rfl), (fun _ => rfl), cd7, cd8, cd9, cd10, cd11, f_z1, f_l1, f_s1, f_q10, f_z2, f_l2, f_s2, f_q11, f_t1, f_t2, f_ne, f_q13⟩
                      · rintro L a w ⟨b0, b1, b2, b3, b4, b5, b6, b7, b8, b9, b10, b11, b12, b13, x82, x83, x84, x85, x86, x87, x88, x89, x90, x91, x11, x12, g1, g2, rfl, rfl, hb, cd0, cd1, cd2, cd3, cd4, cd5, cd6, cd7, cd8, cd9, cd10, cd11, f_z1, f_l1, f_s1, f_q10, f_z2, f_l2, f_s2, f_q11, f_t1, f_t2, f_ne, f_q13⟩ hf hd
                        have hf' : b7 = false := hf
                        subst hf'
                        clear hf hd
                        try simp only [List.setIfInBounds_toArray, List.set_cons_zero, List.set_cons_succ]
                        intro K hK
                        rw [if_pos (by rfl)]
                        go_simp
                        exact hK.out _ _ ⟨b0, b1, b2, b3, b4, b5, b6, true, b8, b9, b10, b11, b12, b13, x82, x83, x84, x85, x86, x87, x88, (.int .i64 (b1_ : Nat)), x90, x91, x11, x12, g1, g2, (by simp only [Act.put, List.setIfInBounds_toArray, List.set_cons_zero, List.set_cons_succ]), (by simp only [Act.put, List.setIfInBounds_toArray, List.set_cons_zero, List.set_cons_succ]), hb, cd0, cd1, cd2, cd3, cd4, cd5, cd6, (fun _ => rfl), cd8, cd9, cd10, cd11, f_z1, f_l1, f_s1, f_q10, f_z2, f_l2, f_s2, f_q11, f_t1, f_t2, f_ne, f_q13⟩
                      · rintro L a w ⟨b0, b1, b2, b3, b4, b5, b6, b7, b8, b9, b10, b11, b12, b13, x82, x83, x84, x85, x86, x87, x88, x89, x90, x91, x11, x12, g1, g2, rfl, rfl, hb, cd0, cd1, cd2, cd3, cd4, cd5, cd6, cd7, cd8, cd9, cd10, cd11, f_z1, f_l1, f_s1, f_q10, f_z2, f_l2, f_s2, f_q11, f_t1, f_t2, f_ne, f_q13⟩ hf hd
                        have hf' : b8 = false := hf
                        subst hf'
                        have d6 : b6 = true := hd ⟨6, .data⟩ (by simp) rfl
                        subst d6
                        have d7 : b7 = true := hd ⟨7, .data⟩ (by simp) rfl
                        subst d7
                        obtain rfl := cd6.out rfl
                        obtain rfl := cd7.out rfl
                        clear hf hd
                        try simp only [List.setIfInBounds_toArray, List.set_cons_zero, List.set_cons_succ]
                        intro K hK
                        rw [if_pos (by rfl)]
                        go_simp
                        exact hK.out _ _ ⟨b0, b1, b2, b3, b4, b5, true, true, true, b9, b10, b11, b12, b13, x82, x83, x84, x85, x86, x87, .slice (some ⟨rb, roff, none⟩) hn hc, .int .i64 (b1_ : Nat), (.pointer (some ⟨rb, roff + b1_ * 3, none⟩)), x91, x11, x12, g1, g2, (by simp only [Act.put, List.setIfInBounds_toArray, List.set_cons_zero, List.set_cons_succ]), (by simp only [Act.put, List.setIfInBounds_toArray, List.set_cons_zero, List.set_cons_succ]), hb, cd0, cd1, cd2, cd3, cd4, cd5, (fun _ => rfl), (fun _ => rfl), (fun _ => rfl), cd9, cd10, cd11, f_z1, f_l1, f_s1, f_q10, f_z2, f_l2, f_s2, f_q11, f_t1, f_t2, f_ne, f_q13⟩
                      · rintro L a w ⟨b0, b1, b2, b3, b4, b5, b6, b7, b8, b9, b10, b11, b12, b13, x82, x83, x84, x85, x86, x87, x88, x89, x90, x91, x11, x12, g1, g2, rfl, rfl, hb, cd0, cd1, cd2, cd3, cd4, cd5, cd6, cd7, cd8, cd9, cd10, cd11, f_z1, f_l1, f_s1, f_q10, f_z2, f_l2, f_s2, f_q11, f_t1, f_t2, f_ne, f_q13⟩ hf hd
                        have hf' : b9 = false := hf
                        subst hf'
                        have d8 : b8 = true := hd ⟨8, .data⟩ (by simp) rfl
                        subst d8
                        obtain rfl := cd8.out rfl
                        clear hf hd
                        try simp only [List.setIfInBounds_toArray, List.set_cons_zero, List.set_cons_succ]
                        have z0 := (hb.cell hrB).trans y0_
                        have z1 := (hb.cell hrB).trans y1_
                        have z2 := (hb.cell hrB).trans y2_
                        intro K hK
                        rw [if_pos (by rfl)]
                        go_simp
                        exact hK.out _ _ ⟨b0, b1, b2, b3, b4, b5, b6, b7, true, true, b10, b11, b12, b13, x82, x83, x84, x85, x86, x87, x88, x89, .pointer (some ⟨rb, roff + b1_ * 3, none⟩), (.agg #[.int .i64 ys, .string (bsOf yt), .bool yb]), x11, x12, g1, g2, (by simp only [Act.put, List.setIfInBounds_toArray, List.set_cons_zero, List.set_cons_succ]), (by simp only [Act.put, List.setIfInBounds_toArray, List.set_cons_zero, List.set_cons_succ]), hb, cd0, cd1, cd2, cd3, cd4, cd5, cd6, cd7, (fun _ => rfl), (fun _ => rfl), cd10, cd11, f_z1, f_l1, f_s1, f_q10, f_z2, f_l2, f_s2, f_q11, f_t1, f_t2, f_ne, f_q13⟩
                      · rintro L a w ⟨b0, b1, b2, b3, b4, b5, b6, b7, b8, b9, b10, b11, b12, b13, x82, x83, x84, x85, x86, x87, x88, x89, x90, x91, x11, x12, g1, g2, rfl, rfl, hb, cd0, cd1, cd2, cd3, cd4, cd5, cd6, cd7, cd8, cd9, cd10, cd11, f_z1, f_l1, f_s1, f_q10, f_z2, f_l2, f_s2, f_q11, f_t1, f_t2, f_ne, f_q13⟩ hf hd
                        have hf' : b10 = false := hf
                        subst hf'
                        clear hf hd
                        try simp only [List.setIfInBounds_toArray, List.set_cons_zero, List.set_cons_succ]
                        intro K hK
                        rw [if_pos (by rfl)]
                        go_simp
                        have bx : Below w.heap.size w (w.alloc (.cells #[.int .i64 0, .string ⟨#[]⟩, .bool false] 101)) := (Below.refl _ _).alloc (Nat.le_refl _) _
                        exact hK.out _ _ ⟨b0, b1, b2, b3, b4, b5, b6, b7, b8, b9, true, b11, b12, b13, x82, x83, x84, x85, x86, x87, x88, x89, x90, x91, (.pointer (some ⟨(w.heap.size), 0, none⟩)), x12, w.heap.size, g2, (by simp only [Act.put, List.setIfInBounds_toArray, List.set_cons_zero, List.set_cons_succ]), (by simp only [Act.put, List.setIfInBounds_toArray, List.set_cons_zero, List.set_cons_succ]), hb.trans (bx.mono (Nat.le_trans hB0 hb.size)), cd0, cd1, cd2, cd3, cd4, cd5, cd6, cd7, cd8, cd9, (fun _ => rfl), cd11, (fun _ _ => heap_alloc_new w _), (fun _ => hb.size), (fun h0 => absurd (f_q10.out h0) (by simp)), (fun _ => rfl), (fun h0 h1 => (f_z2.out h0 h1).past bx), f_l2, (fun h0 => (f_s2.out h0).past bx), f_q11, (fun _ => (by show _ < _; rw [World.size_alloc]; omega)), (fun h0 => (f_t2.out h0).past bx), (fun _ => fun h e => Nat.ne_of_gt (f_t2.out h) e), f_q13⟩
                      · rintro L a w ⟨b0, b1, b2, b3, b4, b5, b6, b7, b8, b9, b10, b11, b12, b13, x82, x83, x84, x85, x86, x87, x88, x89, x90, x91, x11, x12, g1, g2, rfl, rfl, hb, cd0, cd1, cd2, cd3, cd4, cd5, cd6, cd7, cd8, cd9, cd10, cd11, f_z1, f_l1, f_s1, f_q10, f_z2, f_l2, f_s2, f_q11, f_t1, f_t2, f_ne, f_q13⟩ hf hd
                        have hf' : b11 = false := hf
                        subst hf'
                        clear hf hd
                        try simp only [List.setIfInBounds_toArray, List.set_cons_zero, List.set_cons_succ]
                        intro K hK
                        rw [if_pos (by rfl)]
                        go_simp
                        have bx : Below w.heap.size w (w.alloc (.cells #[.int .i64 0, .string ⟨#[]⟩, .bool false] 101)) := (Below.refl _ _).alloc (Nat.le_refl _) _
                        exact hK.out _ _ ⟨b0, b1, b2, b3, b4, b5, b6, b7, b8, b9, b10, true, b12, b13, x82, x83, x84, x85, x86, x87, x88, x89, x90, x91, x11, (.pointer (some ⟨(w.heap.size), 0, none⟩)), g1, w.heap.size, (by simp only [Act.put, List.setIfInBounds_toArray, List.set_cons_zero, List.set_cons_succ]), (by simp only [Act.put, List.setIfInBounds_toArray, List.set_cons_zero, List.set_cons_succ]), hb.trans (bx.mono (Nat.le_trans hB0 hb.size)), cd0, cd1, cd2, cd3, cd4, cd5, cd6, cd7, cd8, cd9, cd10, (fun _ => rfl), (fun h0 h1 => (f_z1.out h0 h1).past bx), f_l1, (fun h0 => (f_s1.out h0).past bx), f_q10, (fun _ _ => heap_alloc_new w _), (fun _ => hb.size), (fun h0 => absurd (f_q11.out h0) (by simp)), (fun _ => rfl), (fun h0 => (f_t1.out h0).past bx), (fun _ => (by show _ < _; rw [World.size_alloc]; omega)), (fun h0 _ e => Nat.ne_of_gt (f_t1.out h0) e.symm), f_q13⟩
                      · rintro L a w ⟨b0, b1, b2, b3, b4, b5, b6, b7, b8, b9, b10, b11, b12, b13, x82, x83, x84, x85, x86, x87, x88, x89, x90, x91, x11, x12, g1, g2, rfl, rfl, hb, cd0, cd1, cd2, cd3, cd4, cd5, cd6, cd7, cd8, cd9, cd10, cd11, f_z1, f_l1, f_s1, f_q10, f_z2, f_l2, f_s2, f_q11, f_t1, f_t2, f_ne, f_q13⟩ hf hd
                        have hf' : b12 = false := hf
                        subst hf'
                        have d10 : b10 = true := hd ⟨10, .data⟩ (by simp) rfl
                        subst d10
                        have d4 : b4 = true := hd ⟨4, .data⟩ (by simp) rfl
                        subst d4
                        have d0 : b0 = true := hd ⟨0, .phase⟩ (by simp) rfl
                        subst d0
                        have d1 : b1 = true := hd ⟨1, .phase⟩ (by simp) rfl
                        subst d1
                        have d2 : b2 = true := hd ⟨2, .phase⟩ (by simp) rfl
                        subst d2
                        have d3 : b3 = true := hd ⟨3, .phase⟩ (by simp) rfl
                        subst d3
                        have d11 : b11 = true := hd ⟨11, .phase⟩ (by simp) rfl
                        subst d11
                        obtain rfl := cd10.out rfl
                        obtain rfl := cd4.out rfl
                        obtain rfl := cd0.out rfl
                        obtain rfl := cd1.out rfl
                        obtain rfl := cd2.out rfl
                        obtain rfl := cd3.out rfl
                        obtain rfl := cd11.out rfl
                        clear hf hd
                        have W_z1 := f_z1.out rfl rfl
                        have W_l1 := f_l1.out rfl
                        have W_l2 := f_l2.out rfl
                        have W_t1 := f_t1.out rfl
                        have W_t2 := f_t2.out rfl
                        have W_ne := f_ne.out rfl
                        try simp only [List.setIfInBounds_toArray, List.set_cons_zero, List.set_cons_succ]
                        intro K hK
                        rw [if_pos (by rfl)]
                        refine wp_store_hd _ _ rfl g1 (⟨0, [], false⟩ : Hd) (⟨xs, xt, xb⟩ : Hd) rfl rfl (Lib.hid W_z1) fun w2 h8 g8 => ?_
                        have hb2 := hb.grown g8 (Nat.le_trans hB0 hb.size) (fun z hz => by cases hz; exact W_l1)
                        exact hK.out _ _ ⟨true, true, true, true, true, b5, b6, b7, b8, b9, true, true, true, b13, .pointer (some ⟨p, 0, none⟩), .slice (some ⟨rb, roff, none⟩) hn hc, .int .i64 (a1 : Nat), .pointer (some ⟨rb, roff + a1 * 3, none⟩), .agg #[.int .i64 xs, .string (bsOf xt), .bool xb], x87, x88, x89, x90, x91, .pointer (some ⟨g1, 0, none⟩), .pointer (some ⟨g2, 0, none⟩), g1, g2, (by simp only [Act.put, List.setIfInBounds_toArray, List.set_cons_zero, List.set_cons_succ]), (by simp only [Act.put, List.setIfInBounds_toArray, List.set_cons_zero, List.set_cons_succ]), hb2, (fun _ => rfl), (fun _ => rfl), (fun _ => rfl), (fun _ => rfl), (fun _ => rfl), cd5, cd6, cd7, cd8, cd9, (fun _ => rfl), (fun _ => rfl), (fun _ h => by cases h), f_l1, (fun _ => h8), (fun _ => rfl), (fun h0 h1 => ((f_z2.out h0 h1)).far g8 (fun e => (f_ne.out rfl h0) e.symm)), f_l2, (fun h0 => absurd (f_q13.out h0) (by simp)), f_q11, (fun h0 => Nat.lt_of_lt_of_le ((f_t1.out h0)) g8.size), (fun h0 => Nat.lt_of_lt_of_le ((f_t2.out h0)) g8.size), f_ne, (fun _ => rfl)⟩
                      · rintro L a w ⟨b0, b1, b2, b3, b4, b5, b6, b7, b8, b9, b10, b11, b12, b13, x82, x83, x84, x85, x86, x87, x88, x89, x90, x91, x11, x12, g1, g2, rfl, rfl, hb, cd0, cd1, cd2, cd3, cd4, cd5, cd6, cd7, cd8, cd9, cd10, cd11, f_z1, f_l1, f_s1, f_q10, f_z2, f_l2, f_s2, f_q11, f_t1, f_t2, f_ne, f_q13⟩ hf hd
                        have hf' : b13 = false := hf
                        subst hf'
                        have d11 : b11 = true := hd ⟨11, .data⟩ (by simp) rfl
                        subst d11
                        have d9 : b9 = true := hd ⟨9, .data⟩ (by simp) rfl
                        subst d9
                        have d12 : b12 = true := hd ⟨12, .chain⟩ (by simp) rfl
                        subst d12
                        have d0 : b0 = true := hd ⟨0, .phase⟩ (by simp) rfl
                        subst d0
                        have d1 : b1 = true := hd ⟨1, .phase⟩ (by simp) rfl
                        subst d1
                        have d2 : b2 = true := hd ⟨2, .phase⟩ (by simp) rfl
                        subst d2
                        have d3 : b3 = true := hd ⟨3, .phase⟩ (by simp) rfl
                        subst d3
                        have d4 : b4 = true := hd ⟨4, .phase⟩ (by simp) rfl
                        subst d4
                        have d5 : b5 = true := hd ⟨5, .phase⟩ (by simp) rfl
                        subst d5
                        have d6 : b6 = true := hd ⟨6, .phase⟩ (by simp) rfl
                        subst d6
                        have d7 : b7 = true := hd ⟨7, .phase⟩ (by simp) rfl
                        subst d7
                        have d8 : b8 = true := hd ⟨8, .phase⟩ (by simp) rfl
                        subst d8
                        have d10 : b10 = true := hd ⟨10, .phase⟩ (by simp) rfl
                        subst d10
                        obtain rfl := cd11.out rfl
                        obtain rfl := cd9.out rfl
                        obtain rfl := cd0.out rfl
                        obtain rfl := cd1.out rfl
                        obtain rfl := cd2.out rfl
                        obtain rfl := cd3.out rfl
                        obtain rfl := cd4.out rfl
                        obtain rfl := cd5.out rfl
                        obtain rfl := cd6.out rfl
                        obtain rfl := cd7.out rfl
                        obtain rfl := cd8.out rfl
                        obtain rfl := cd10.out rfl
                        clear hf hd
                        have W_l1 := f_l1.out rfl
                        have W_s1 := f_s1.out rfl
                        have W_q10 := f_q10.out rfl
                        have W_z2 := f_z2.out rfl rfl
                        have W_l2 := f_l2.out rfl
                        have W_t1 := f_t1.out rfl
                        have W_t2 := f_t2.out rfl
                        have W_ne := f_ne.out rfl
                        try simp only [List.setIfInBounds_toArray, List.set_cons_zero, List.set_cons_succ]
                        intro K hK
                        rw [if_pos (by rfl)]
                        refine wp_store_hd _ _ rfl g2 (⟨0, [], false⟩ : Hd) (⟨ys, yt, yb⟩ : Hd) rfl rfl (Lib.hid W_z2) fun w2 h8 g8 => ?_
                        have hb2 := hb.grown g8 (Nat.le_trans hB0 hb.size) (fun z hz => by cases hz; exact W_l2)
                        exact hK.out _ _ ⟨true, true, true, true, true, true, true, true, true, true, true, true, true, true, .pointer (some ⟨p, 0, none⟩), .slice (some ⟨rb, roff, none⟩) hn hc, .int .i64 (a1 : Nat), .pointer (some ⟨rb, roff + a1 * 3, none⟩), .agg #[.int .i64 xs, .string (bsOf xt), .bool xb], .pointer (some ⟨p, 0, none⟩), .slice (some ⟨rb, roff, none⟩) hn hc, .int .i64 (b1_ : Nat), .pointer (some ⟨rb, roff + b1_ * 3, none⟩), .agg #[.int .i64 ys, .string (bsOf yt), .bool yb], .pointer (some ⟨g1, 0, none⟩), .pointer (some ⟨g2, 0, none⟩), g1, g2, (by simp only [Act.put, List.setIfInBounds_toArray, List.set_cons_zero, List.set_cons_succ]), (by simp only [Act.put, List.setIfInBounds_toArray, List.set_cons_zero, List.set_cons_succ]), hb2, (fun _ => rfl), (fun _ => rfl), (fun _ => rfl), (fun _ => rfl), (fun _ => rfl), (fun _ => rfl), (fun _ => rfl), (fun _ => rfl), (fun _ => rfl), (fun _ => rfl), (fun _ => rfl), (fun _ => rfl), (fun _ h => by cases h), f_l1, (fun h0 => ((f_s1.out h0)).far g8 ((f_ne.out (f_q10.out h0) rfl))), f_q10, (fun _ h => by cases h), f_l2, (fun _ => h8), (fun _ => rfl), (fun h0 => Nat.lt_of_lt_of_le ((f_t1.out h0)) g8.size), (fun h0 => Nat.lt_of_lt_of_le ((f_t2.out h0)) g8.size), f_ne, (fun _ => rfl)⟩
                    · rintro act V ⟨b0, b1, b2, b3, b4, b5, b6, b7, b8, b9, b10, b11, b12, b13, x82, x83, x84, x85, x86, x87, x88, x89, x90, x91, x11, x12, g1, g2, hL, rfl, hb, cd0, cd1, cd2, cd3, cd4, cd5, cd6, cd7, cd8, cd9, cd10, cd11, f_z1, f_l1, f_s1, f_q10, f_z2, f_l2, f_s2, f_q11, f_t1, f_t2, f_ne, f_q13⟩
                      have hL' : [true, true, true, true, true, true, true, true, true, true, true, true, true, true] = [b0, b1, b2, b3, b4, b5, b6, b7, b8, b9, b10, b11, b12, b13] := congrArg Array.toList hL
                      simp only [List.cons.injEq, and_true] at hL'
                      obtain ⟨rfl, rfl, rfl, rfl, rfl, rfl, rfl, rfl, rfl, rfl, rfl, rfl, rfl, rfl⟩ := hL'
                      obtain rfl := cd0.out rfl
                      obtain rfl := cd1.out rfl
                      obtain rfl := cd2.out rfl
                      obtain rfl := cd3.out rfl
                      obtain rfl := cd4.out rfl
                      obtain rfl := cd5.out rfl
                      obtain rfl := cd6.out rfl
                      obtain rfl := cd7.out rfl
                      obtain rfl := cd8.out rfl
                      obtain rfl := cd9.out rfl
                      obtain rfl := cd10.out rfl
                      obtain rfl := cd11.out rfl
                      have W_l1 := f_l1.out rfl
                      have W_s1 := f_s1.out rfl
                      have W_q10 := f_q10.out rfl
                      have W_l2 := f_l2.out rfl
                      have W_s2 := f_s2.out rfl
                      have W_q11 := f_q11.out rfl
                      have W_t1 := f_t1.out rfl
                      have W_t2 := f_t2.out rfl
                      have W_ne := f_ne.out rfl
                      have W_q13 := f_q13.out rfl
                      clear hL f_z1 f_l1 f_s1 f_q10 f_z2 f_l2 f_s2 f_q11 f_t1 f_t2 f_ne f_q13 cd0 cd1 cd2 cd3 cd4 cd5 cd6 cd7 cd8 cd9 cd10 cd11
                      simp only [List.setIfInBounds_toArray, List.set_cons_zero, List.set_cons_succ]
                      have BV := BU2.trans (((Below.refl _ _).drew.trans hb).mono BU2.size)
                      obtain ⟨u0_, u1_, u2_⟩ := W_s1.c
                      obtain ⟨v0_, v1_, v2_⟩ := W_s2.c
                      simp only at u0_ u1_ u2_ v0_ v1_ v2_
                      clear hb W_s1 W_s2 W_l1 W_l2 W_q10 W_q11 W_t1 W_t2 W_ne W_q13
                      by_cases ht : xt = yt
                      · obtain ⟨h1, h2, h3⟩ := hAp.out ht
                        subst ht h2 h3
                        have f1 : ((bsOf xt).toList == (bsOf xt).toList) = true := by simp
                        have f2 : (xs == ys) = false := by simpa using h1
                        clear h1 hAp
                        go_wp2_with fail
                        go_roundw
                        case rel => exact ⟨b1_ + 1, by omega, by go_num, BV⟩
                        case measure => simp [intOf]; omega
                      · have f1 : ¬ ((bsOf xt).toList = (bsOf yt).toList) := by
                          rw [ByteArray.toList_eq, ByteArray.toList_eq, bsOf_toList, bsOf_toList]
                          exact ht
                        clear hAp
                        go_wp2_with fail
                        go_roundw
                        case rel => exact ⟨b1_ + 1, by omega, by go_num, BV⟩
                        case measure => simp [intOf]; omega
                  · have hlt2i : ¬ ((b1_ : Int) < (a1 : Int)) := by omega
                    go_wp2_with fail
                    go_roundw
                    case rel => exact ⟨a1 + 1, by omega, by go_num, BU2⟩
                    case measure => simp [intOf]; omega
              · have hlti : ¬ ((a1 : Int) < (hn : Int)) := by omega
                have BU0 := BU
                go_wp2_with fail
                go_loopw [13] (fun zs wr => ∃ a1 : Nat, a1 ≤ wn ∧ zs = .int .i64 (a1 : Nat) ∧ Below U.heap.size U wr) (fun zs _ => wn - (intOf zs).toNat)
                case atStart => exact ⟨0, by omega, rfl, BU0⟩
                case round =>
                  clear BU0
                  obtain ⟨a1, ha1, rfl, BU⟩ := hrel
                  obtain ⟨cp0, cp1⟩ := (XU.past BU).c
                  have hznl := RD.w.len
                  by_cases hlt : a1 < wn
                  · have hlti : (a1 : Int) < (wn : Int) := by omega
                    go_wp2_with fail
                    go_loopw [14] (fun zs wr => ∃ b1_ : Nat, b1_ ≤ a1 ∧ zs = .int .i64 (b1_ : Nat) ∧ Below U.heap.size U wr) (fun zs _ => a1 - (intOf zs).toNat)
                    case atStart => exact ⟨0, by omega, rfl, BU⟩
                    case round =>
                      clear BU cp0 cp1
                      obtain ⟨b1_, hb1, rfl, BU2⟩ := hrel
                      obtain ⟨cp0, cp1⟩ := (XU.past BU2).c
                      by_cases hlt2 : b1_ < a1
                      · have hlt2i : (b1_ : Int) < (a1 : Int) := by omega
                        have hlt3i : (b1_ : Int) < (wn : Int) := by omega
                        obtain ⟨x, hx⟩ : ∃ v, WW[a1]? = some v := ⟨WW[a1]'(by omega), List.getElem?_eq_getElem _⟩
                        obtain ⟨y, hy⟩ : ∃ v, WW[b1_]? = some v := ⟨WW[b1_]'(by omega), List.getElem?_eq_getElem _⟩
                        have hAp := Lib.hid (hGG.out.once.get hx hy hlt2)
                        obtain ⟨rb, roff, rfl, hrb, hrc⟩ := (RD.w.past BU2).open (by omega) (by decide)
                        obtain ⟨x0_, x1_, x2_⟩ := cells_hd hrc a1 x hx
                        obtain ⟨y0_, y1_, y2_⟩ := cells_hd hrc b1_ y hy
                        have hpB := (XU.past BU2).lt
                        clear hrc hx hy
                        obtain ⟨xs, xt, xb⟩ := x
                        obtain ⟨ys, yt, yb⟩ := y
                        simp only at x0_ x1_ x2_ y0_ y1_ y2_ hAp
                        go_upto_region 32 with fail
                        generalize wr = W7 at BU2 hpB hrb x0_ x1_ x2_ y0_ y1_ y2_ cp0 cp1 ⊢
                        have hrB := hrb
                        have hB0 : W7.heap.size ≤ W7.heap.size := Nat.le_refl _
                        have hne : (xs == ys) = false := by simpa using hAp.out
                        refine region_inv (Apart32 W7.heap.size p rb roff wn wc a1 b1_ xs ys) (by kernel_rfl) (by kernel_rfl) ?_ ?_ ?_
                        · exact ⟨false, false, false, false, false, false, false, false, false, false, false, false, false, u124, u125, u126, u127, u128, u129, u130, u131, u132, u133, u134, u135, u136, rfl, (by simp only [Act.put, List.setIfInBounds_toArray, List.set_cons_zero, List.set_cons_succ]), Below.refl _ _, (fun h => by cases h), (fun h => by cases h), (fun h => by cases h), (fun h => by cases h), (fun h => by cases h), (fun h => by cases h), (fun h => by cases h), (fun h => by cases h), (fun h => by cases h), (fun h => by cases h), (fun h => by cases h), (fun h => by cases h), (fun h => by cases h)⟩
                        · refine ⟨?_, ?_, ?_, ?_, ?_, ?_, ?_, ?_, ?_, ?_, ?_, ?_, ?_, trivial⟩
                          · rintro L a w ⟨b0, b1, b2, b3, b4, b5, b6, b7, b8, b9, b10, b11, b12, x124, x125, x126, x127, x128, x129, x130, x131, x132, x133, x134, x135, x136, rfl, rfl, hb, cd0, cd1, cd2, cd3, cd4, cd5, cd6, cd7, cd8, cd9, cd10, cd11, cd12⟩ hf hd
                            have hf' : b0 = false := hf
                            subst hf'
                            clear hf hd
                            try simp only [List.setIfInBounds_toArray, List.set_cons_zero, List.set_cons_succ]
                            intro K hK
                            rw [if_pos (by rfl)]
                            go_simp
                            exact hK.out _ _ ⟨true, b1, b2, b3, b4, b5, b6, b7, b8, b9, b10, b11, b12, (.pointer (some ⟨p, 1, none⟩)), x125, x126, x127, x128, x129, x130, x131, x132, x133, x134, x135, x136, (by simp only [Act.put, List.setIfInBounds_toArray, List.set_cons_zero, List.set_cons_succ]), (by simp only [Act.put, List.setIfInBounds_toArray, List.set_cons_zero, List.set_cons_succ]), hb, (fun _ => rfl), cd1, cd2, cd3, cd4, cd5, cd6, cd7, cd8, cd9, cd10, cd11, cd12⟩
                          · rintro L a w ⟨b0, b1, b2, b3, b4, b5, b6, b7, b8, b9, b10, b11, b12, x124, x125, x126, x127, x128, x129, x130, x131, x132, x133, x134, x135, x136, rfl, rfl, hb, cd0, cd1, cd2, cd3, cd4, cd5, cd6, cd7, cd8, cd9, cd10, cd11, cd12⟩ hf hd
                            have hf' : b1 = false := hf
                            subst hf'
                            have d0 : b0 = true := hd ⟨0, .data⟩ (by simp) rfl
                            subst d0
                            obtain rfl := cd0.out rfl
                            clear hf hd
                            try simp only [List.setIfInBounds_toArray, List.set_cons_zero, List.set_cons_succ]
                            have z0 := (hb.cell hpB).trans cp1
                            intro K hK
                            rw [if_pos (by rfl)]
                            go_simp
                            exact hK.out _ _ ⟨true, true, b2, b3, b4, b5, b6, b7, b8, b9, b10, b11, b12, .pointer (some ⟨p, 1, none⟩), (.slice (some ⟨rb, roff, none⟩) wn wc), x126, x127, x128, x129, x130, x131, x132, x133, x134, x135, x136, (by simp only [Act.put, List.setIfInBounds_toArray, List.set_cons_zero, List.set_cons_succ]), (by simp only [Act.put, List.setIfInBounds_toArray, List.set_cons_zero, List.set_cons_succ]), hb, (fun _ => rfl), (fun _ => rfl), cd2, cd3, cd4, cd5, cd6, cd7, cd8, cd9, cd10, cd11, cd12⟩
                          · rintro L a w ⟨b0, b1, b2, b3, b4, b5, b6, b7, b8, b9, b10, b11, b12, x124, x125, x126, x127, x128, x129, x130, x131, x132, x133, x134, x135, x136, rfl, rfl, hb, cd0, cd1, cd2, cd3, cd4, cd5, cd6, cd7, cd8, cd9, cd10, cd11, cd12⟩ hf hd
                            have hf' : b2 = false := hf
                            subst hf'
                            clear hf hd
                            try simp only [List.setIfInBounds_toArray, List.set_cons_zero, List.set_cons_succ]
                            intro K hK
                            rw [if_pos (by rfl)]
                            go_simp
                            exact hK.out _ _ ⟨b0, b1, true, b3, b4, b5, b6, b7, b8, b9, b10, b11, b12, x124, x125, (.int .i64 (a1 : Nat)), x127, x128, x129, x130, x131, x132, x133, x134, x135, x136, (by simp only [Act.put, List.setIfInBounds_toArray, List.set_cons_zero, List.set_cons_succ]), (by simp only [Act.put, List.setIfInBounds_toArray, List.set_cons_zero, List.set_cons_succ]), hb, cd0, cd1, (fun _ => rfl), cd3, cd4, cd5, cd6, cd7, cd8, cd9, cd10, cd11, cd12⟩
                          · rintro L a w ⟨b0, b1, b2, b3, b4, b5, b6, b7, b8, b9, b10, b11, b12, x124, x125, x126, x127, x128, x129, x130, x131, x132, x133, x134, x135, x136, rfl, rfl, hb, cd0, cd1, cd2, cd3, cd4, cd5, cd6, cd7, cd8, cd9, cd10, cd11, cd12⟩ hf hd
                            have hf' : b3 = false := hf
                            subst hf'
                            have d1 : b1 = true := hd ⟨1, .data⟩ (by simp) rfl
                            subst d1
                            have d2 : b2 = true := hd ⟨2, .data⟩ (by simp) rfl
                            subst d2
                            obtain rfl := cd1.out rfl
                            obtain rfl := cd2.out rfl
                            clear hf hd
                            try simp only [List.setIfInBounds_toArray, List.set_cons_zero, List.set_cons_succ]
                            intro K hK
                            rw [if_pos (by rfl)]
                            go_simp
                            exact hK.out _ _ ⟨b0, true, true, true, b4, b5, b6, b7, b8, b9, b10, b11, b12, x124, .slice (some ⟨rb, roff, none⟩) wn wc, .int .i64 (a1 : Nat), (.pointer (some ⟨rb, roff + a1 * 3, none⟩)), x128, x129, x130, x131, x132, x133, x134, x135, x136, (by simp only [Act.put, List.setIfInBounds_toArray, List.set_cons_zero, List.set_cons_succ]), (by simp only [Act.put, List.setIfInBounds_toArray, List.set_cons_zero, List.set_cons_succ]), hb, cd0, (fun _ => rfl), (fun _ => rfl), (fun _ => rfl), cd4, cd5, cd6, cd7, cd8, cd9, cd10, cd11, cd12⟩
                          · rintro L a w ⟨b0, b1, b2, b3, b4, b5, b6, b7, b8, b9, b10, b11, b12, x124, x125, x126, x127, x128, x129, x130, x131, x132, x133, x134, x135, x136, rfl, rfl, hb, cd0, cd1, cd2, cd3, cd4, cd5, cd6, cd7, cd8, cd9, cd10, cd11, cd12⟩ hf hd
                            have hf' : b4 = false := hf
                            subst hf'
                            have d3 : b3 = true := hd ⟨3, .data⟩ (by simp) rfl
                            subst d3
                            obtain rfl := cd3.out rfl
                            clear hf hd
                            try simp only [List.setIfInBounds_toArray, List.set_cons_zero, List.set_cons_succ]
                            intro K hK
                            rw [if_pos (by rfl)]
                            go_simp
                            exact hK.out _ _ ⟨b0, b1, b2, true, true, b5, b6, b7, b8, b9, b10, b11, b12, x124, x125, x126, .pointer (some ⟨rb, roff + a1 * 3, none⟩), (.pointer (some ⟨rb, roff + a1 * 3, none⟩)), x129, x130, x131, x132, x133, x134, x135, x136, (by simp only [Act.put, List.setIfInBounds_toArray, List.set_cons_zero, List.set_cons_succ]), (by simp only [Act.put, List.setIfInBounds_toArray, List.set_cons_zero, List.set_cons_succ]), hb, cd0, cd1, cd2, (fun _ => rfl), (fun _ => rfl), cd5, cd6, cd7, cd8, cd9, cd10, cd11, cd12⟩
                          · rintro L a w ⟨b0, b1, b2, b3, b4, b5, b6, b7, b8, b9, b10, b11, b12, x124, x125, x126, x127, x128, x129, x130, x131, x132, x133, x134, x135, x136, rfl, rfl, hb, cd0, cd1, cd2, cd3, cd4, cd5, cd6, cd7, cd8, cd9, cd10, cd11, cd12⟩ hf hd
                            have hf' : b5 = false := hf
                            subst hf'
                            have d4 : b4 = true := hd ⟨4, .data⟩ (by simp) rfl
                            subst d4
                            obtain rfl := cd4.out rfl
                            clear hf hd
                            try simp only [List.setIfInBounds_toArray, List.set_cons_zero, List.set_cons_succ]
                            have z0 := (hb.cell hrB).trans x0_
                            intro K hK
                            rw [if_pos (by rfl)]
                            go_simp
                            exact hK.out _ _ ⟨b0, b1, b2, b3, true, true, b6, b7, b8, b9, b10, b11, b12, x124, x125, x126, x127, .pointer (some ⟨rb, roff + a1 * 3, none⟩), (.int .i64 xs), x130, x131, x132, x133, x134, x135, x136, (by simp only [Act.put, List.setIfInBounds_toArray, List.set_cons_zero, List.set_cons_succ]), (by simp only [Act.put, List.setIfInBounds_toArray, List.set_cons_zero, List.set_cons_succ]), hb, cd0, cd1, cd2, cd3, (fun _ => rfl), (fun _ => rfl), cd6, cd7, cd8, cd9, cd10, cd11, cd12⟩
                          · rintro L a w ⟨b0, b1, b2, b3, b4, b5, b6, b7, b8, b9, b10, b11, b12, x124, x125, x126, x127, x128, x129, x130, x131, x132, x133, x134, x135, x136, rfl, rfl, hb, cd0, cd1, cd2, cd3, cd4, cd5, cd6, cd7, cd8, cd9, cd10, cd11, cd12⟩ hf hd
                            have hf' : b6 = false := hf
                            subst hf'
                            clear hf hd
                            try simp only [List.setIfInBounds_toArray, List.set_cons_zero, List.set_cons_succ]
                            intro K hK
                            rw [if_pos (by rfl)]
                            go_simp
                            exact hK.out _ _ ⟨b0, b1, b2, b3, b4, b5, true, b7, b8, b9, b10, b11, b12, x124, x125, x126, x127, x128, x129, (.pointer (some ⟨p, 1, none⟩)), x131, x132, x133, x134, x135, x136, (by simp only [Act.put, List.setIfInBounds_toArray, List.set_cons_zero, List.set_cons_succ]), (by simp only [Act.put, List.setIfInBounds_toArray, List.set_cons_zero, List.set_cons_succ]), hb, cd0, cd1, cd2, cd3, cd4, cd5, (fun _ => rfl), cd7, cd8, cd9, cd10, cd11, cd12⟩
                          · rintro L a w ⟨b0, b1, b2, b3, b4, b5, b6, b7, b8, b9, b10, b11, b12, x124, x125, x126, x127, x128, x129, x130, x131, x132, x133, x134, x135, x136, rfl, rfl, hb, cd0, cd1, cd2, cd3, cd4, cd5, cd6, cd7, cd8, cd9, cd10, cd11, cd12⟩ hf hd
                            have hf' : b7 = false := hf
                            subst hf'
                            have d6 : b6 = true := hd ⟨6, .data⟩ (by simp) rfl
                            subst d6
                            obtain rfl := cd6.out rfl
                            clear hf hd
                            try simp only [List.setIfInBounds_toArray, List.set_cons_zero, List.set_cons_succ]
                            have z0 := (hb.cell hpB).trans cp1
                            intro K hK
                            rw [if_pos (by rfl)]
                            go_simp
                            exact hK.out _ _ ⟨b0, b1, b2, b3, b4, b5, true, true, b8, b9, b10, b11, b12, x124, x125, x126, x127, x128, x129, .pointer (some ⟨p, 1, none⟩), (.slice (some ⟨rb, roff, none⟩) wn wc), x132, x133, x134, x135, x136, (by simp only [Act.put, List.setIfInBounds_toArray, List.set_cons_zero, List.set_cons_succ]), (by simp only [Act.put, List.setIfInBounds_toArray, List.set_cons_zero, List.set_cons_succ]), hb, cd0, cd1, cd2, cd3, cd4, cd5, (fun _ => rfl), (fun _ => rfl), cd8, cd9, cd10, cd11, cd12⟩
                          · rintro L a w ⟨b0, b1, b2, b3, b4, b5, b6, b7, b8, b9, b10, b11, b12, x124, x125, x126, x127, x128, x129, x130, x131, x132, x133, x134, x135, x136, rfl, rfl, hb, cd0, cd1, cd2, cd3, cd4, cd5, cd6, cd7, cd8, cd9, cd10, cd11, cd12⟩ hf hd
                            have hf' : b8 = false := hf
                            subst hf'
                            clear hf hd
                            try simp only [List.setIfInBounds_toArray, List.set_cons_zero, List.set_cons_succ]
                            intro K hK
                            rw [if_pos (by rfl)]
                            go_simp
                            exact hK.out _ _ ⟨b0, b1, b2, b3, b4, b5, b6, b7, true, b9, b10, b11, b12, x124, x125, x126, x127, x128, x129, x130, x131, (.int .i64 (b1_ : Nat)), x133, x134, x135, x136, (by simp only [Act.put, List.setIfInBounds_toArray, List.set_cons_zero, List.set_cons_succ]), (by simp only [Act.put, List.setIfInBounds_toArray, List.set_cons_zero, List.set_cons_succ]), hb, cd0, cd1, cd2, cd3, cd4, cd5, cd6, cd7, (fun _ => rfl), cd9, cd10, cd11, cd12⟩
                          · rintro L a w ⟨b0, b1, b2, b3, b4, b5, b6, b7, b8, b9, b10, b11, b12, x124, x125, x126, x127, x128, x129, x130, x131, x132, x133, x134, x135, x136, rfl, rfl, hb, cd0, cd1, cd2, cd3, cd4, cd5, cd6, cd7, cd8, cd9, cd10, cd11, cd12⟩ hf hd
                            have hf' : b9 = false := hf
                            subst hf'
                            have d7 : b7 = true := hd ⟨7, .data⟩ (by simp) rfl
                            subst d7
                            have d8 : b8 = true := hd ⟨8, .data⟩ (by simp) rfl
                            subst d8
                            obtain rfl := cd7.out rfl
                            obtain rfl := cd8.out rfl
                            clear hf hd
                            try simp only [List.setIfInBounds_toArray, List.set_cons_zero, List.set_cons_succ]
                            intro K hK
                            rw [if_pos (by rfl)]
                            go_simp
                            exact hK.out _ _ ⟨b0, b1, b2, b3, b4, b5, b6, true, true, true, b10, b11, b12, x124, x125, x126, x127, x128, x129, x130, .slice (some ⟨rb, roff, none⟩) wn wc, .int .i64 (b1_ : Nat), (.pointer (some ⟨rb, roff + b1_ * 3, none⟩)), x134, x135, x136, (by simp only [Act.put, List.setIfInBounds_toArray, List.set_cons_zero, List.set_cons_succ]), (by simp only [Act.put, List.setIfInBounds_toArray, List.set_cons_zero, List.set_cons_succ]), hb, cd0, cd1, cd2, cd3, cd4, cd5, cd6, (fun _ => rfl), (fun _ => rfl), (fun _ => rfl), cd10, cd11, cd12⟩
                          · rintro L a w ⟨b0, b1, b2, b3, b4, b5, b6, b7, b8, b9, b10, b11, b12, x124, x125, x126, x127, x128, x129, x130, x131, x132, x133, x134, x135, x136, rfl, rfl, hb, cd0, cd1, cd2, cd3, cd4, cd5, cd6, cd7, cd8, cd9, cd10, cd11, cd12⟩ hf hd
                            have hf' : b10 = false := hf
                            subst hf'
                            have d9 : b9 = true := hd ⟨9, .data⟩ (by simp) rfl
                            subst d9
                            obtain rfl := cd9.out rfl
                            clear hf hd
                            try simp only [List.setIfInBounds_toArray, List.set_cons_zero, List.set_cons_succ]
                            intro K hK
                            rw [if_pos (by rfl)]
                            go_simp
                            exact hK.out _ _ ⟨b0, b1, b2, b3, b4, b5, b6, b7, b8, true, true, b11, b12, x124, x125, x126, x127, x128, x129, x130, x131, x132, .pointer (some ⟨rb, roff + b1_ * 3, none⟩), (.pointer (some ⟨rb, roff + b1_ * 3, none⟩)), x135, x136, (by simp only [Act.put, List.setIfInBounds_toArray, List.set_cons_zero, List.set_cons_succ]), (by simp only [Act.put, List.setIfInBounds_toArray, List.set_cons_zero, List.set_cons_succ]), hb, cd0, cd1, cd2, cd3, cd4, cd5, cd6, cd7, cd8, (fun _ => rfl), (fun _ => rfl), cd11, cd12⟩
                          · rintro L a w ⟨b0, b1, b2, b3, b4, b5, b6, b7, b8, b9, b10, b11, b12, x124, x125, x126, x127, x128, x129, x130, x131, x132, x133, x134, x135, x136, rfl, rfl, hb, cd0, cd1, cd2, cd3, cd4, cd5, cd6, cd7, cd8, cd9, cd10, cd11, cd12⟩ hf hd
                            have hf' : b11 = false := hf
                            subst hf'
                            have d10 : b10 = true := hd ⟨10, .data⟩ (by simp) rfl
                            subst d10
                            obtain rfl := cd10.out rfl
                            clear hf hd
                            try simp only [List.setIfInBounds_toArray, List.set_cons_zero, List.set_cons_succ]
                            have z0 := (hb.cell hrB).trans y0_
                            intro K hK
                            rw [if_pos (by rfl)]
                            go_simp
                            exact hK.out _ _ ⟨b0, b1, b2, b3, b4, b5, b6, b7, b8, b9, true, true, b12, x124, x125, x126, x127, x128, x129, x130, x131, x132, x133, .pointer (some ⟨rb, roff + b1_ * 3, none⟩), (.int .i64 ys), x136, (by simp only [Act.put, List.setIfInBounds_toArray, List.set_cons_zero, List.set_cons_succ]), (by simp only [Act.put, List.setIfInBounds_toArray, List.set_cons_zero, List.set_cons_succ]), hb, cd0, cd1, cd2, cd3, cd4, cd5, cd6, cd7, cd8, cd9, (fun _ => rfl), (fun _ => rfl), cd12⟩
                          · rintro L a w ⟨b0, b1, b2, b3, b4, b5, b6, b7, b8, b9, b10, b11, b12, x124, x125, x126, x127, x128, x129, x130, x131, x132, x133, x134, x135, x136, rfl, rfl, hb, cd0, cd1, cd2, cd3, cd4, cd5, cd6, cd7, cd8, cd9, cd10, cd11, cd12⟩ hf hd
                            have hf' : b12 = false := hf
                            subst hf'
                            have d5 : b5 = true := hd ⟨5, .data⟩ (by simp) rfl
                            subst d5
                            have d11 : b11 = true := hd ⟨11, .data⟩ (by simp) rfl
                            subst d11
                            obtain rfl := cd5.out rfl
                            obtain rfl := cd11.out rfl
                            clear hf hd
                            try simp only [List.setIfInBounds_toArray, List.set_cons_zero, List.set_cons_succ]
                            intro K hK
                            rw [if_pos (by rfl)]
                            go_simp
                            exact hK.out _ _ ⟨b0, b1, b2, b3, b4, true, b6, b7, b8, b9, b10, true, true, x124, x125, x126, x127, x128, .int .i64 xs, x130, x131, x132, x133, x134, .int .i64 ys, (.bool false), (by simp only [Act.put, List.setIfInBounds_toArray, List.set_cons_zero, List.set_cons_succ]), (by simp only [Act.put, List.setIfInBounds_toArray, List.set_cons_zero, List.set_cons_succ]), hb, cd0, cd1, cd2, cd3, cd4, (fun _ => rfl), cd6, cd7, cd8, cd9, cd10, (fun _ => rfl), (fun _ => rfl)⟩
                        · rintro act V ⟨b0, b1, b2, b3, b4, b5, b6, b7, b8, b9, b10, b11, b12, x124, x125, x126, x127, x128, x129, x130, x131, x132, x133, x134, x135, x136, hL, rfl, hb, cd0, cd1, cd2, cd3, cd4, cd5, cd6, cd7, cd8, cd9, cd10, cd11, cd12⟩
                          have hL' : [true, true, true, true, true, true, true, true, true, true, true, true, true] = [b0, b1, b2, b3, b4, b5, b6, b7, b8, b9, b10, b11, b12] := congrArg Array.toList hL
                          simp only [List.cons.injEq, and_true] at hL'
                          obtain ⟨rfl, rfl, rfl, rfl, rfl, rfl, rfl, rfl, rfl, rfl, rfl, rfl, rfl⟩ := hL'
                          obtain rfl := cd0.out rfl
                          obtain rfl := cd1.out rfl
                          obtain rfl := cd2.out rfl
                          obtain rfl := cd3.out rfl
                          obtain rfl := cd4.out rfl
                          obtain rfl := cd5.out rfl
                          obtain rfl := cd6.out rfl
                          obtain rfl := cd7.out rfl
                          obtain rfl := cd8.out rfl
                          obtain rfl := cd9.out rfl
                          obtain rfl := cd10.out rfl
                          obtain rfl := cd11.out rfl
                          obtain rfl := cd12.out rfl
                          clear hL cd0 cd1 cd2 cd3 cd4 cd5 cd6 cd7 cd8 cd9 cd10 cd11 cd12
                          simp only [List.setIfInBounds_toArray, List.set_cons_zero, List.set_cons_succ]
                          have BV := BU2.trans (((Below.refl _ _).drew.trans hb).mono BU2.size)
                          go_wp2_with fail
                          go_roundw
                          case rel => exact ⟨b1_ + 1, by omega, by go_num, BV⟩
                          case measure => simp [intOf]; omega
                      · have hlt2i : ¬ ((b1_ : Int) < (a1 : Int)) := by omega
                        go_wp2_with fail
                        go_roundw
                        case rel => exact ⟨a1 + 1, by omega, by go_num, BU2⟩
                        case measure => simp [intOf]; omega
                  · have hlti : ¬ ((a1 : Int) < (wn : Int)) := by omega
                    have BE := B.trans (BU.mono hBw)
                    have AE := A.past BU
                    go_wp2_with fail
                    go_roundw
                    case rel => exact ⟨i + 1, HH, WW, by omega, by omega, by go_num, AE, hGG, BE⟩
                    case measure => simp [intOf]; omega
    · by_cases hlt : i < n
      · have hlti : (i : Int) < (n : Int) := by omega
        have hlt3i : ¬ ((i : Int) < 60) := by omega
        go_wp2_with fail
        go_ret
        exact ⟨rfl, by rw [HP.out]; exact B⟩
      · have hlti : ¬ ((i : Int) < (n : Int)) := by omega
        go_wp2_with fail
        go_ret
        exact ⟨rfl, by rw [HP.out]; exact B⟩
end Go.Proofs.Ytckfkgmlifnfkaa
