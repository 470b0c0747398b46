/-
  The laws of locks: within, known, an act's hold; a variable of locks (by gen_law12.py).
-/
import Derived.Test.YtllijeciodmckaaLkV
import Derived.Test.YtllijeciodmckaaLkH
import Derived.Test.YtllijeciodmckaaTy
import Derived.Test.YtllijeciodmckaaWth
namespace Go.Proofs.Ytllijeciodmckaa
open Go.RowKit
set_option linter.unusedSimpArgs false
theorem LkAt.store {w : World} {p B : Nat} {ho wo : Option Addr} {hn hc wn wc : Nat} {qo ro : Option Addr} {qn qc rn rc : Nat} {H W : List Hd} (h : LkB w p ho hn hc wo wn wc 96) (h1 : IsR EHd w qo qn qc H) (h2 : IsR EHd w ro rn rc W)
    (g1 : 0 < qn → ∀ a, qo = some a → B ≤ a.block) (g2 : 0 < rn → ∀ a, ro = some a → B ≤ a.block) (hp : p < B) : LkAt ((w.setCell ⟨p, 0, none⟩ (.slice qo qn qc)).setCell ⟨p, 1, none⟩ (.slice ro rn rc)) p H W := by
  have k1 : 0 < qn → ∀ a, qo = some a → a.block ≠ p := fun hn a ha => by have := g1 hn a ha; omega
  have k2 : 0 < rn → ∀ a, ro = some a → a.block ≠ p := fun hn a ha => by have := g2 hn a ha; omega
  exact ⟨qo, qn, qc, ro, rn, rc, (h.put0 qo qn qc).put1 ro rn rc, (h1.setOther k1 _).setOther k1 _, (h2.setOther k2 _).setOther k2 _, k1, k2⟩
theorem LkAt.below {w0 w : World} {B : Nat} (h : Below B w0 w) (p : Nat) (hp : B ≤ p) (hw : B ≤ w.heap.size) (x y : Value) : Below B w0 ((w.setCell ⟨p, 0, none⟩ x).setCell ⟨p, 1, none⟩ y) :=
  (h.grown (set1_grown w p 0 x) hw (fun z hz => by cases hz; exact hp)).grown (set1_grown _ p 1 y) (by simp; exact hw) (fun z hz => by cases hz; exact hp)
theorem LkAt.past {w w' : World} {p : Nat} {H W : List Hd} (h : LkAt w p H W) (b : Below w.heap.size w w') : LkAt w' p H W := by
  obtain ⟨a1, a2, a3, a4, a5, a6, h1, h2, h3, h4, h5⟩ := h
  exact ⟨a1, a2, a3, a4, a5, a6, h1.past b, h2.past b, h3.past b, h4, h5⟩
theorem LkAt.lt {w : World} {p : Nat} {H W : List Hd} (h : LkAt w p H W) : p < w.heap.size := by
  obtain ⟨a1, a2, a3, a4, a5, a6, h1, _⟩ := h
  exact h1.lt
theorem LkAt.new (w : World) : LkAt (w.alloc (.cells #[.slice none 0 0, .slice none 0 0] 96)) w.heap.size [] [] :=
  ⟨none, 0, 0, none, 0, 0, LkB.new w _ _ _ _ _ _ _, IsR.nilR _, IsR.nilR _, (fun h => by omega), (fun h => by omega)⟩
theorem LkAt.of {w : World} {p : Nat} {v : Value} {B : Nat} {H W : List Hd} (h : LkF w v B H W) (hp : ∀ ho hn hc wo wn wc, v = lkV ho hn hc wo wn wc → LkB w p ho hn hc wo wn wc 96) (hB : p < B) : LkAt w p H W := by
  obtain ⟨a1, a2, a3, a4, a5, a6, h1, h2, h3, h4, h5⟩ := h
  exact ⟨a1, a2, a3, a4, a5, a6, hp _ _ _ _ _ _ h1, h2, h3, fun hn a ha => by have := h4 hn a ha; omega, fun hn a ha => by have := h5 hn a ha; omega⟩

theorem within12_any (a n : Int) (w : World) (hn : 0 < n) (hn2 : n ≤ 1000000) :
    Calls Try.prog 52 #[.int .i64 a, .int .i64 n] w fun e w' => e = .returned (.int .i64 (wth a n)) ∧ w = w' := by
  have h1 := Int.lt_tmod_of_pos a hn
  have h2 := Int.tmod_lt_of_pos a hn
  have hz : (n == 0) = false := by simp; omega
  by_cases h3 : a.tmod n < 0
  · go_enter Try.func52, Try.ntmps52
    go_wp2_with fail
    go_ret
    exact ⟨ret_int (by unfold wth; rw [if_pos h3]), rfl⟩
  · go_enter Try.func52, Try.ntmps52
    go_wp2_with fail
    go_ret
    exact ⟨ret_int (by unfold wth; rw [if_neg (by omega)]), rfl⟩
theorem known_a0 : askH [] ⟨1, [120], true⟩ = [⟨1, [120], true⟩] ∧ askW [] [] ⟨1, [120], true⟩ = [] ∧ askB [] ⟨1, [120], true⟩ = true := by decide
theorem known_a1 : askH [⟨1, [120], true⟩] ⟨2, [121], true⟩ = [⟨1, [120], true⟩, ⟨2, [121], true⟩] ∧ askW [⟨1, [120], true⟩] [] ⟨2, [121], true⟩ = [] ∧ askB [⟨1, [120], true⟩] ⟨2, [121], true⟩ = true := by decide
theorem known_a2 : askH [⟨1, [120], true⟩, ⟨2, [121], true⟩] ⟨1, [121], false⟩ = [⟨1, [120], true⟩, ⟨2, [121], true⟩] ∧ askW [⟨1, [120], true⟩, ⟨2, [121], true⟩] [] ⟨1, [121], false⟩ = [⟨1, [121], false⟩] ∧ askB [⟨1, [120], true⟩, ⟨2, [121], true⟩] ⟨1, [121], false⟩ = false := by decide
theorem known_a3 : askH [⟨1, [120], true⟩, ⟨2, [121], true⟩] ⟨2, [120], false⟩ = [⟨1, [120], true⟩, ⟨2, [121], true⟩] ∧ askW [⟨1, [120], true⟩, ⟨2, [121], true⟩] [⟨1, [121], false⟩] ⟨2, [120], false⟩ = [⟨1, [121], false⟩, ⟨2, [120], false⟩] ∧ askB [⟨1, [120], true⟩, ⟨2, [121], true⟩] ⟨2, [120], false⟩ = false := by decide
theorem known_v : Vic [⟨1, [120], true⟩, ⟨2, [121], true⟩] [⟨1, [121], false⟩, ⟨2, [120], false⟩] 1 2 true := vicOk_vic (by decide)
set_option maxRecDepth 100000 in
set_option maxHeartbeats 1000000 in
theorem known12 (w : World) : Calls Try.prog 49 #[] w fun e w' => e = .returned (.bool true) ∧ Below w.heap.size w w' := by
  have A := LkAt.new w
  have B : Below w.heap.size w (w.alloc (.cells #[.slice none 0 0, .slice none 0 0] 96)) := (Below.refl _ _).alloc (Nat.le_refl _) _
  go_enter Try.func49, Try.ntmps49
  go_upto_region 2 with fail
  generalize w.alloc (.cells #[.slice none 0 0, .slice none 0 0] 96) = u0 at A B ⊢
  obtain ⟨p, hp⟩ : ∃ p, w.heap.size = p := ⟨_, rfl⟩
  have HP := Lib.hid hp
  have hp0 : p ≤ w.heap.size := by omega
  have hpp : p ≤ p := Nat.le_refl _
  rw [hp] at A B
  simp only [hp]
  clear hp
  obtain ⟨ho0, hn0, hc0, wo0, wn0, wc0, X0, i10, i20, f10, f20⟩ := A
  obtain ⟨c0, c1⟩ := X0.c
  have hpw := X0.lt
  have hBw := Nat.le_trans hp0 B.size
  have HA := ask_any u0 (lkV ho0 hn0 hc0 wo0 wn0 wc0) [] [] ⟨_, _, _, _, _, _, rfl, i10, i20⟩ (by decide) (by decide) ⟨1, [120], true⟩
  unfold lkV Hd.val at HA
  simp only at HA
  rw [known_a0.1, known_a0.2.1, known_a0.2.2] at HA
  go_upto_region 3 with (go_at_call 55; refine HA.mono ?_; rintro e v0 ⟨_, rfl, ⟨qo0, qn0, qc0, ro0, rn0, rc0, rfl, j10, j20, g10, g20⟩, b0⟩; unfold lkV; have Y0 := X0.past b0; obtain ⟨d0, d1⟩ := Y0.c; obtain ⟨e0, e1⟩ := Y0.free)
  have A2 := LkAt.store Y0 j10 j20 g10 g20 hpw
  have B2 := LkAt.below (B.trans (b0.mono hBw)) p hpp (Nat.le_trans hBw b0.size) (.slice qo0 qn0 qc0) (.slice ro0 rn0 rc0)
  clear X0 Y0 i10 i20 f10 f20 c0 c1 d0 d1 e0 e1 HA hpw
  generalize (v0.setCell ⟨p, 0, none⟩ (.slice qo0 qn0 qc0)).setCell ⟨p, 1, none⟩ (.slice ro0 rn0 rc0) = u1 at A2 B2 ⊢
  clear j10 j20 g10 g20 b0 B hBw
  have A := A2
  have B := B2
  clear A2 B2
  obtain ⟨ho1, hn1, hc1, wo1, wn1, wc1, X1, i11, i21, f11, f21⟩ := A
  obtain ⟨c0, c1⟩ := X1.c
  have hpw := X1.lt
  have hBw := Nat.le_trans hp0 B.size
  have HA := ask_any u1 (lkV ho1 hn1 hc1 wo1 wn1 wc1) [⟨1, [120], true⟩] [] ⟨_, _, _, _, _, _, rfl, i11, i21⟩ (by decide) (by decide) ⟨2, [121], true⟩
  unfold lkV Hd.val at HA
  simp only at HA
  rw [known_a1.1, known_a1.2.1, known_a1.2.2] at HA
  go_upto_region 4 with (go_at_call 55; refine HA.mono ?_; rintro e v1 ⟨_, rfl, ⟨qo1, qn1, qc1, ro1, rn1, rc1, rfl, j11, j21, g11, g21⟩, b1⟩; unfold lkV; have Y1 := X1.past b1; obtain ⟨d0, d1⟩ := Y1.c; obtain ⟨e0, e1⟩ := Y1.free)
  have A2 := LkAt.store Y1 j11 j21 g11 g21 hpw
  have B2 := LkAt.below (B.trans (b1.mono hBw)) p hpp (Nat.le_trans hBw b1.size) (.slice qo1 qn1 qc1) (.slice ro1 rn1 rc1)
  clear X1 Y1 i11 i21 f11 f21 c0 c1 d0 d1 e0 e1 HA hpw
  generalize (v1.setCell ⟨p, 0, none⟩ (.slice qo1 qn1 qc1)).setCell ⟨p, 1, none⟩ (.slice ro1 rn1 rc1) = u2 at A2 B2 ⊢
  clear j11 j21 g11 g21 b1 B hBw
  have A := A2
  have B := B2
  clear A2 B2
  obtain ⟨ho2, hn2, hc2, wo2, wn2, wc2, X2, i12, i22, f12, f22⟩ := A
  obtain ⟨c0, c1⟩ := X2.c
  have hpw := X2.lt
  have hBw := Nat.le_trans hp0 B.size
  have HA := ask_any u2 (lkV ho2 hn2 hc2 wo2 wn2 wc2) [⟨1, [120], true⟩, ⟨2, [121], true⟩] [] ⟨_, _, _, _, _, _, rfl, i12, i22⟩ (by decide) (by decide) ⟨1, [121], false⟩
  unfold lkV Hd.val at HA
  simp only at HA
  rw [known_a2.1, known_a2.2.1, known_a2.2.2] at HA
  go_upto_region 5 with (go_at_call 55; refine HA.mono ?_; rintro e v2 ⟨_, rfl, ⟨qo2, qn2, qc2, ro2, rn2, rc2, rfl, j12, j22, g12, g22⟩, b2⟩; unfold lkV; have Y2 := X2.past b2; obtain ⟨d0, d1⟩ := Y2.c; obtain ⟨e0, e1⟩ := Y2.free)
  have A2 := LkAt.store Y2 j12 j22 g12 g22 hpw
  have B2 := LkAt.below (B.trans (b2.mono hBw)) p hpp (Nat.le_trans hBw b2.size) (.slice qo2 qn2 qc2) (.slice ro2 rn2 rc2)
  clear X2 Y2 i12 i22 f12 f22 c0 c1 d0 d1 e0 e1 HA hpw
  generalize (v2.setCell ⟨p, 0, none⟩ (.slice qo2 qn2 qc2)).setCell ⟨p, 1, none⟩ (.slice ro2 rn2 rc2) = u3 at A2 B2 ⊢
  clear j12 j22 g12 g22 b2 B hBw
  have A := A2
  have B := B2
  clear A2 B2
  obtain ⟨ho3, hn3, hc3, wo3, wn3, wc3, X3, i13, i23, f13, f23⟩ := A
  obtain ⟨c0, c1⟩ := X3.c
  have hpw := X3.lt
  have hBw := Nat.le_trans hp0 B.size
  have HA := ask_any u3 (lkV ho3 hn3 hc3 wo3 wn3 wc3) [⟨1, [120], true⟩, ⟨2, [121], true⟩] [⟨1, [121], false⟩] ⟨_, _, _, _, _, _, rfl, i13, i23⟩ (by decide) (by decide) ⟨2, [120], false⟩
  unfold lkV Hd.val at HA
  simp only at HA
  rw [known_a3.1, known_a3.2.1, known_a3.2.2] at HA
  go_upto_region 6 with (go_at_call 55; refine HA.mono ?_; rintro e v3 ⟨_, rfl, ⟨qo3, qn3, qc3, ro3, rn3, rc3, rfl, j13, j23, g13, g23⟩, b3⟩; unfold lkV; have Y3 := X3.past b3; obtain ⟨d0, d1⟩ := Y3.c; obtain ⟨e0, e1⟩ := Y3.free)
  have A2 := LkAt.store Y3 j13 j23 g13 g23 hpw
  have B2 := LkAt.below (B.trans (b3.mono hBw)) p hpp (Nat.le_trans hBw b3.size) (.slice qo3 qn3 qc3) (.slice ro3 rn3 rc3)
  clear X3 Y3 i13 i23 f13 f23 c0 c1 d0 d1 e0 e1 HA hpw
  generalize (v3.setCell ⟨p, 0, none⟩ (.slice qo3 qn3 qc3)).setCell ⟨p, 1, none⟩ (.slice ro3 rn3 rc3) = u4 at A2 B2 ⊢
  clear j13 j23 g13 g23 b3 B hBw
  have A := A2
  have B := B2
  clear A2 B2
  obtain ⟨ho, hn, hc, wo, wn, wc, X, i1, i2, f1, f2⟩ := A
  obtain ⟨c0, c1⟩ := X.c
  have HV := victim_any u4 (lkV ho hn hc wo wn wc) _ _ ⟨_, _, _, _, _, _, rfl, i1, i2⟩ (by decide) (by decide) (by decide) (by decide) 1 (by decide)
  unfold lkV at HV
  have hpu : p ≤ u4.heap.size := Nat.le_of_lt X.lt
  go_upto_region 7 with (go_at_call 58; refine HV.mono ?_; rintro e u5 ⟨x, ok, rfl, hv, b5⟩)
  obtain ⟨rfl, rfl⟩ := hv.unique known_v
  go_wp2_with fail
  go_ret
  exact ⟨rfl, by rw [HP.out]; exact B.trans (b5.mono hpu)⟩
end Go.Proofs.Ytllijeciodmckaa
