/-
  LockFree, walked (by gen_lfree.py).
-/
import Derived.Test.YtckfkgmlifnfkaaRdB
import Derived.Test.YtckfkgmlifnfkaaKLq
import Derived.Test.YtckfkgmlifnfkaaLkI
namespace Go.Proofs.Ytckfkgmlifnfkaa
open Go.RowKit
set_option linter.unusedSimpArgs false
theorem hd_inf' : ∃ i z, Try.prog.info? 101 = some i ∧ i.zero = some z ∧ i.size = 3 := by
  obtain ⟨i, h1, h2, h3, h4⟩ := info_parts hd_info
  exact ⟨i, _, h1, h2, h3⟩
/-- A variable of locks that is filled: its rows are the call's own, behind it. -/
def WtAt (w : World) (q : Nat) (HL WL : List Hd) : Prop := ∃ ao1 n1 c1 ao2 n2 c2, LkB w q ao1 n1 c1 ao2 n2 c2 96 ∧ TxtR EHd w 101 (q + 1) ao1 n1 c1 HL ∧ TxtR EHd w 101 (q + 1) ao2 n2 c2 WL ∧ ∀ z, Go.Proofs.Ytckfkgmlifnfkaa.blk ao1 = some z → Go.Proofs.Ytckfkgmlifnfkaa.blk ao2 ≠ some z
theorem WtAt.new (w : World) : WtAt (w.alloc (.cells #[.slice none 0 0, .slice none 0 0] 96)) w.heap.size [] [] :=
  ⟨none, 0, 0, none, 0, 0, LkB.new w _ _ _ _ _ _ _, TxtR.nil _ _ _, TxtR.nil _ _ _, fun z hz => by cases hz⟩
/-- What stands while the region's operations come up. -/
inductive Free7 (B : Nat) (p : Nat) (ho : Option Addr) (hn : Nat) (hc : Nat) (wq : Option Addr) (wn : Nat) (wc : Nat) (ab : Bool) (H0 : List Hd) (W0 : List Hd) (H1 : List Hd) (W1 : List Hd) (ag : Nat) (aoff : Nat) (n : Nat) (c : Nat) (i : Nat) (k : Int) (ks : Int) (kt : Int) (kx : Bool) (s : Int) (t : List UInt8) (x : Bool) (a0 : Act) (w0 : World) (L : Array Bool) (a : Act) (w : World) : Prop
  | mk (b0 b1 b2 b3 b4 b5 b6 b7 b8 b9 b10 : Bool) (x25 x26 x27 x28 x29 x30 x31 x24 x32 x33 : Value) (qo : Option Addr) (qn : Nat) (qc : Nat) (ro : Option Addr) (rn : Nat) (rc : Nat) (hL : L = #[b0, b1, b2, b3, b4, b5, b6, b7, b8, b9, b10]) (ha : a = ⟨((((((((((a0.tmps.setIfInBounds 25 x25).setIfInBounds 26 x26).setIfInBounds 27 x27).setIfInBounds 28 x28).setIfInBounds 29 x29).setIfInBounds 30 x30).setIfInBounds 31 x31).setIfInBounds 24 x24).setIfInBounds 32 x32).setIfInBounds 33 x33), a0.defers⟩) (hb : Below B w0 w) (cd0 : Hid (b0 = true → x25 = .agg #[.slice ho hn hc, .slice wq wn wc])) (cd1 : Hid (b1 = true → x26 = .slice (some ⟨ag, aoff, none⟩) n c)) (cd2 : Hid (b2 = true → x27 = .int .i64 (i : Nat))) (cd3 : Hid (b3 = true → x28 = .pointer (some ⟨ag, aoff + i * 4, none⟩))) (cd4 : Hid (b4 = true → x29 = .agg #[.int .i64 k, .int .i64 ks, .int .i64 kt, .bool kx])) (cd5 : Hid (b5 = true → x30 = .agg #[.int .i64 s, .string (bsOf t), .bool x])) (cd6 : Hid (b6 = true → x31 = .tuple #[.agg #[.slice qo qn qc, .slice ro rn rc], .bool ab])) (cd7 : Hid (b7 = true → x24 = .tuple #[.agg #[.slice qo qn qc, .slice ro rn rc], .bool ab])) (cd8 : Hid (b8 = true → x32 = .agg #[.slice qo qn qc, .slice ro rn rc])) (cd9 : Hid (b9 = true → x33 = .bool ab)) (f_v : Hid (b10 = false → LkB w p ho hn hc wq wn wc 96)) (f_ih : Hid (b10 = false → RdB w 0 ho hn hc wq wn wc H0 W0)) (f_r : Hid (b6 = true → RdB w (p + 1) qo qn qc ro rn rc H1 W1)) (f_o : Hid (b10 = true → LkB w p qo qn qc ro rn rc 96)) (f_qC : Hid (b10 = true → b6 = true)) (f_q0 : Hid (b10 = true → b0 = true)) (w_7_6 : Hid (b7 = true → b6 = true)) (w_8_6 : Hid (b8 = true → b6 = true)) : Free7 B p ho hn hc wq wn wc ab H0 W0 H1 W1 ag aoff n c i k ks kt kx s t x a0 w0 L a w

/-- What stands while the region's operations come up. -/
inductive FreeW0 (B : Nat) (p : Nat) (q : Nat) (ao1 : Option Addr) (n1 : Nat) (c1_ : Nat) (ao2 : Option Addr) (n2 : Nat) (c2_ : Nat) (N : Nat) (rb : Nat) (roff : Nat) (hn : Nat) (hc : Nat) (j : Nat) (s : Int) (t : List UInt8) (x : Bool) (ML : List Hd) (OL : List Hd) (a0 : Act) (w0 : World) (L : Array Bool) (a : Act) (w : World) : Prop
  | mk (b0 b1 b2 b3 b4 b5 b6 b7 b8 b9 b10 : Bool) (x54 x55 x56 x57 x58 x59 x60 x61 x62 x63 : Value) (gb : Nat) (g9 : Nat) (c9 : Nat) (hL : L = #[b0, b1, b2, b3, b4, b5, b6, b7, b8, b9, b10]) (ha : a = ⟨((((((((((a0.tmps.setIfInBounds 54 x54).setIfInBounds 55 x55).setIfInBounds 56 x56).setIfInBounds 57 x57).setIfInBounds 58 x58).setIfInBounds 59 x59).setIfInBounds 60 x60).setIfInBounds 61 x61).setIfInBounds 62 x62).setIfInBounds 63 x63), a0.defers⟩) (hb : Below B w0 w) (cd0 : Hid (b0 = true → x54 = .pointer (some ⟨q, 0, none⟩))) (cd1 : Hid (b1 = true → x55 = .slice ao1 n1 c1_)) (cd2 : Hid (b2 = true → x56 = .pointer (some ⟨p, 0, none⟩))) (cd3 : Hid (b3 = true → x57 = .slice (some ⟨rb, roff, none⟩) hn hc)) (cd4 : Hid (b4 = true → x58 = .int .i64 (j : Nat))) (cd5 : Hid (b5 = true → x59 = .pointer (some ⟨rb, roff + j * 3, none⟩))) (cd6 : Hid (b6 = true → x60 = .agg #[.int .i64 s, .string (bsOf t), .bool x])) (cd7 : Hid (b7 = true → x61 = .slice (some ⟨gb, 0, none⟩) 1 1)) (cd8 : Hid (b8 = true → x62 = .slice (some ⟨g9, 0, none⟩) N c9)) (cd9 : Hid (b9 = true → x63 = .pointer (some ⟨q, 0, none⟩))) (f_q : Hid (b10 = false → LkB w q ao1 n1 c1_ ao2 n2 c2_ 96)) (f_m : Hid (b8 = false → TxtR EHd w 101 (q + 1) ao1 n1 c1_ ML)) (f_ot : Hid (TxtR EHd w 101 (q + 1) ao2 n2 c2_ OL)) (f_bl : Hid (b7 = true → b8 = false → OwnR EHd w 101 gb 1 1 [(⟨s, t, x⟩ : Hd)])) (f_q7 : Hid (b8 = true → b7 = true)) (f_r : Hid (b8 = true → TxtR EHd w 101 (q + 1) (some ⟨g9, 0, none⟩) N c9 (ML ++ [(⟨s, t, x⟩ : Hd)]))) (f_ap : Hid (b8 = true → ∀ z, Go.Proofs.Ytckfkgmlifnfkaa.blk ao2 = some z → z ≠ g9)) (f_o : Hid (b10 = true → LkB w q (some ⟨g9, 0, none⟩) N c9 ao2 n2 c2_ 96)) (f_q77 : Hid (b10 = true → b7 = true)) (f_q88 : Hid (b10 = true → b8 = true)) (f_q1 : Hid (b8 = true → b1 = true)) (f_q1s : Hid (b10 = true → b1 = true)) : FreeW0 B p q ao1 n1 c1_ ao2 n2 c2_ N rb roff hn hc j s t x ML OL a0 w0 L a w

/-- What stands while the region's operations come up. -/
inductive FreeW1 (B : Nat) (p : Nat) (q : Nat) (ao1 : Option Addr) (n1 : Nat) (c1_ : Nat) (ao2 : Option Addr) (n2 : Nat) (c2_ : Nat) (N : Nat) (rb : Nat) (roff : Nat) (wn : Nat) (wc : Nat) (j : Nat) (s : Int) (t : List UInt8) (x : Bool) (ML : List Hd) (OL : List Hd) (a0 : Act) (w0 : World) (L : Array Bool) (a : Act) (w : World) : Prop
  | mk (b0 b1 b2 b3 b4 b5 b6 b7 b8 b9 b10 : Bool) (x79 x80 x81 x82 x83 x84 x85 x86 x87 x88 : Value) (gb : Nat) (g9 : Nat) (c9 : Nat) (hL : L = #[b0, b1, b2, b3, b4, b5, b6, b7, b8, b9, b10]) (ha : a = ⟨((((((((((a0.tmps.setIfInBounds 79 x79).setIfInBounds 80 x80).setIfInBounds 81 x81).setIfInBounds 82 x82).setIfInBounds 83 x83).setIfInBounds 84 x84).setIfInBounds 85 x85).setIfInBounds 86 x86).setIfInBounds 87 x87).setIfInBounds 88 x88), a0.defers⟩) (hb : Below B w0 w) (cd0 : Hid (b0 = true → x79 = .pointer (some ⟨q, 1, none⟩))) (cd1 : Hid (b1 = true → x80 = .slice ao2 n2 c2_)) (cd2 : Hid (b2 = true → x81 = .pointer (some ⟨p, 1, none⟩))) (cd3 : Hid (b3 = true → x82 = .slice (some ⟨rb, roff, none⟩) wn wc)) (cd4 : Hid (b4 = true → x83 = .int .i64 (j : Nat))) (cd5 : Hid (b5 = true → x84 = .pointer (some ⟨rb, roff + j * 3, none⟩))) (cd6 : Hid (b6 = true → x85 = .agg #[.int .i64 s, .string (bsOf t), .bool x])) (cd7 : Hid (b7 = true → x86 = .slice (some ⟨gb, 0, none⟩) 1 1)) (cd8 : Hid (b8 = true → x87 = .slice (some ⟨g9, 0, none⟩) N c9)) (cd9 : Hid (b9 = true → x88 = .pointer (some ⟨q, 1, none⟩))) (f_q : Hid (b10 = false → LkB w q ao1 n1 c1_ ao2 n2 c2_ 96)) (f_m : Hid (b8 = false → TxtR EHd w 101 (q + 1) ao2 n2 c2_ ML)) (f_ot : Hid (TxtR EHd w 101 (q + 1) ao1 n1 c1_ OL)) (f_bl : Hid (b7 = true → b8 = false → OwnR EHd w 101 gb 1 1 [(⟨s, t, x⟩ : Hd)])) (f_q7 : Hid (b8 = true → b7 = true)) (f_r : Hid (b8 = true → TxtR EHd w 101 (q + 1) (some ⟨g9, 0, none⟩) N c9 (ML ++ [(⟨s, t, x⟩ : Hd)]))) (f_ap : Hid (b8 = true → ∀ z, Go.Proofs.Ytckfkgmlifnfkaa.blk ao1 = some z → z ≠ g9)) (f_o : Hid (b10 = true → LkB w q ao1 n1 c1_ (some ⟨g9, 0, none⟩) N c9 96)) (f_q77 : Hid (b10 = true → b7 = true)) (f_q88 : Hid (b10 = true → b8 = true)) (f_q1 : Hid (b8 = true → b1 = true)) (f_q1s : Hid (b10 = true → b1 = true)) : FreeW1 B p q ao1 n1 c1_ ao2 n2 c2_ N rb roff wn wc j s t x ML OL a0 w0 L a w

/-- What stands while the region's operations come up. -/
inductive Free21 (B : Nat) (r : Nat) (q : Nat) (bo : Option Addr) (bn : Nat) (bc : Nat) (vo : Option Addr) (vn : Nat) (vc : Nat) (ao1 : Option Addr) (n1 : Nat) (c1_ : Nat) (ao2 : Option Addr) (n2 : Nat) (c2_ : Nat) (S : Int) (H1 : List Hd) (W1 : List Hd) (a0 : Act) (w0 : World) (L : Array Bool) (a : Act) (w : World) : Prop
  | mk (b0 b1 b2 b3 b4 b5 b6 b7 b8 b9 b10 : Bool) (x89 x90 x91 x92 x93 x94 x95 x96 x97 x98 x4 : Value) (qo : Option Addr) (qn : Nat) (qc : Nat) (ro : Option Addr) (rn : Nat) (rc : Nat) (hL : L = #[b0, b1, b2, b3, b4, b5, b6, b7, b8, b9, b10]) (ha : a = ⟨(((((((((((a0.tmps.setIfInBounds 89 x89).setIfInBounds 90 x90).setIfInBounds 91 x91).setIfInBounds 92 x92).setIfInBounds 93 x93).setIfInBounds 94 x94).setIfInBounds 95 x95).setIfInBounds 96 x96).setIfInBounds 97 x97).setIfInBounds 98 x98).setIfInBounds 4 x4), a0.defers⟩) (hb : Below B w0 w) (cd0 : Hid (b0 = true → x89 = .agg #[.slice bo bn bc, .slice vo vn vc])) (cd1 : Hid (b1 = true → x90 = .agg #[.slice ao1 n1 c1_, .slice ao2 n2 c2_])) (cd2 : Hid (b2 = true → x91 = .bool true)) (cd3 : Hid (b3 = true → x92 = .bool true)) (cd4 : Hid (b4 = true → x93 = .agg #[.slice bo bn bc, .slice vo vn vc])) (cd5 : Hid (b5 = true → x94 = .int .i64 S)) (cd6 : Hid (b6 = true → x95 = .agg #[.slice qo qn qc, .slice ro rn rc])) (cd7 : Hid (b7 = true → x96 = .agg #[.slice bo bn bc, .slice vo vn vc])) (cd8 : Hid (b8 = true → x97 = .bool true)) (cd9 : Hid (b9 = true → x98 = .bool true)) (cd10 : Hid (b10 = true → x4 = .bool true)) (f_r : Hid (b6 = true → RdB w 0 qo qn qc ro rn rc H1 W1)) : Free21 B r q bo bn bc vo vn vc ao1 n1 c1_ ao2 n2 c2_ S H1 W1 a0 w0 L a w
set_option maxRecDepth 100000 in
set_option maxHeartbeats 8000000 in
theorem lockFree_walk (ao : Option Addr) (n c : Nat) (la : List Ac) (s0 : Int) (w : World) (hla : IsR EAc w ao n c la) (_h2 : (Lit.int .i64 s0).wf = true) :
    Calls Try.prog 11 #[.slice ao n c, .int .i64 s0] w fun e w' => e = .returned (.bool true) ∧ Below w.heap.size w w' := by
  go_enter Try.func11, Try.ntmps11
  go_upto_region 3 with (go_at_call 55; refine (known12 _).mono ?_; rintro e w1 ⟨rfl, b1⟩)
  obtain ⟨p0, hp⟩ : ∃ p0, w.heap.size = p0 := ⟨_, rfl⟩
  have HP := Lib.hid hp
  have hp0 : p0 ≤ w.heap.size := by omega
  have A := LkAt.new w1
  have B : Below p0 w (w1.alloc (.cells #[.slice none 0 0, .slice none 0 0] 96)) := by rw [← hp]; exact b1.alloc b1.size _
  have hpp : p0 ≤ w1.heap.size := by rw [← hp]; exact b1.size
  go_upto_region 4 with fail
  generalize w1.alloc (.cells #[.slice none 0 0, .slice none 0 0] 96) = u0 at A B ⊢
  obtain ⟨p, hpv⟩ : ∃ p, w1.heap.size = p := ⟨_, rfl⟩
  rw [hpv] at A hpp
  simp only [hpv]
  clear hp hpv b1
  have hln := hla.len
  have hmx := hla.max
  have hle := hla.le
  unfold maxLen at hmx
  go_wp2_with fail
  go_loopw [6] (fun zs wr => ∃ (i : Nat) (H W : List Hd), i ≤ n ∧ i ≤ 40 ∧ zs = .int .i64 (i : Nat) ∧ LkAt wr p H W ∧ Hid (Good i H W) ∧ Below p0 w wr) (fun zs _ => 40 - (intOf zs).toNat)
  case atStart => exact ⟨0, [], [], by omega, by omega, rfl, A, Lib.hid Good.start, B⟩
  case round =>
    clear A B
    obtain ⟨i, H, W, hin, hi40, rfl, A, hG, B⟩ := hrel
    by_cases hlt' : i < n ∧ i < 40
    · obtain ⟨hlt, hlt3⟩ := hlt'
      have hlti : (i : Int) < (n : Int) := by omega
      have hlt3i : (i : Int) < 40 := by omega
      obtain ⟨a, hai⟩ : ∃ a, la[i]? = some a := ⟨la[i]'(by have := hla.len; omega), List.getElem?_eq_getElem _⟩
      obtain ⟨ag, aoff, rfl, hag, hac⟩ := hla.open (by omega) (by decide)
      obtain ⟨a0_, a1_, a2_, a3_⟩ := cells_ac hac i a hai
      have hagp : ag < p0 := by rw [← HP.out]; exact hag
      rw [← B.cell (show (⟨ag, aoff + i * 4, none⟩ : Addr).block < p0 from hagp)] at a0_
      rw [← B.cell (show (⟨ag, aoff + i * 4 + 1, none⟩ : Addr).block < p0 from hagp)] at a1_
      rw [← B.cell (show (⟨ag, aoff + i * 4 + 2, none⟩ : Addr).block < p0 from hagp)] at a2_
      rw [← B.cell (show (⟨ag, aoff + i * 4 + 3, none⟩ : Addr).block < p0 from hagp)] at a3_
      have HD := fun w => hold_any w a
      have hsm := a.small
      obtain ⟨hd, hhd⟩ : ∃ hd, a.hd = hd := ⟨_, rfl⟩
      rw [hhd] at hsm
      simp only [hhd] at HD
      obtain ⟨k, ks, kt, kx⟩ := a
      obtain ⟨s, t, x⟩ := hd
      unfold Hd.val at HD
      simp only at HD a0_ a1_ a2_ a3_ hsm
      clear hac hai hhd
      have hGh := hG.out.lenH
      have hGw := hG.out.lenW
      go_upto_region 7 with fail
      obtain ⟨ho, hn, hc, wq, wn, wc, X, RD⟩ := A.rd
      obtain ⟨H0, hH0⟩ : ∃ z_, z_ = H := ⟨_, rfl⟩
      obtain ⟨W0, hW0⟩ : ∃ z_, z_ = W := ⟨_, rfl⟩
      obtain ⟨H1, hH1⟩ : ∃ z_, z_ = askH H ⟨s, t, x⟩ := ⟨_, rfl⟩
      obtain ⟨W1, hW1⟩ : ∃ z_, z_ = askW H W ⟨s, t, x⟩ := ⟨_, rfl⟩
      obtain ⟨ab, hab⟩ : ∃ z_, z_ = askB H ⟨s, t, x⟩ := ⟨_, rfl⟩
      have hH1h := Lib.hid hH1
      have hW1h := Lib.hid hW1
      have habh := Lib.hid hab
      rw [← hH0, ← hW0] at RD
      have HK := fun (w' : World) (hi : RdB w' 0 ho hn hc wq wn wc H0 W0) => ask_rd w' ho hn hc wq wn wc H0 W0 H1 W1 ab ⟨s, t, x⟩ hi (by rw [hH0, hH1]) (by rw [hH0, hW0, hW1]) (by rw [hH0, hab]) (by rw [hH0]; omega) (by rw [hW0]; omega)
      simp only at HK
      have hpw0 := X.lt
      have hBp := hpp
      have hagB := hagp
      have hB0 : p0 ≤ wr.heap.size := Nat.le_trans hpp (Nat.le_of_lt hpw0)
      clear hH0 hW0 hH1 hW1 hab hGh hGw
      refine region_inv (Free7 p0 p ho hn hc wq wn wc ab H0 W0 H1 W1 ag aoff n c i k ks kt kx s t x) (by kernel_rfl) (by kernel_rfl) ?_ ?_ ?_
      · exact ⟨false, false, false, false, false, false, false, false, false, false, false, u25, u26, u27, u28, u29, u30, u31, u24, u32, u33, none, 0, 0, none, 0, 0, rfl, (by simp only [Act.put, List.setIfInBounds_toArray, List.set_cons_zero, List.set_cons_succ]), Below.refl _ _, (fun h => by cases h), (fun h => by cases h), (fun h => by cases h), (fun h => by cases h), (fun h => by cases h), (fun h => by cases h), (fun h => by cases h), (fun h => by cases h), (fun h => by cases h), (fun h => by cases h), (fun h1 => X.past (Below.refl _ _).drew), (fun h1 => RD.past (Below.refl _ _).drew), (fun h => by cases h), (fun h => by cases h), (fun h => by cases h), (fun h => by cases h), (fun h => by cases h), (fun h => by cases h)⟩
      · refine ⟨?_, ?_, ?_, ?_, ?_, ?_, ?_, ?_, ?_, ?_, ?_, trivial⟩
        · rintro L a w ⟨b0, b1, b2, b3, b4, b5, b6, b7, b8, b9, b10, x25, x26, x27, x28, x29, x30, x31, x24, x32, x33, qo, qn, qc, ro, rn, rc, rfl, rfl, hb, cd0, cd1, cd2, cd3, cd4, cd5, cd6, cd7, cd8, cd9, f_v, f_ih, f_r, f_o, f_qC, f_q0, w_7_6, w_8_6⟩ hf hd
          have hf' : b0 = false := hf
          subst hf'
          clear hf hd
          try simp only [List.setIfInBounds_toArray, List.set_cons_zero, List.set_cons_succ]
          have e_v : b10 = false := by cases hq : b10 with | false => rfl | true => exact absurd (f_q0.out hq) (by simp)
          have W_v := f_v.out e_v
          obtain ⟨z0, z1⟩ := W_v.c
          intro K hK
          rw [if_pos (by rfl)]
          go_simp
          exact hK.out _ _ ⟨true, b1, b2, b3, b4, b5, b6, b7, b8, b9, b10, (.agg #[.slice ho hn hc, .slice wq wn wc]), x26, x27, x28, x29, x30, x31, x24, x32, x33, qo, qn, qc, ro, rn, rc, (by simp only [Act.put, List.setIfInBounds_toArray, List.set_cons_zero, List.set_cons_succ]), (by simp only [Act.put, List.setIfInBounds_toArray, List.set_cons_zero, List.set_cons_succ]), hb, (fun _ => rfl), cd1, cd2, cd3, cd4, cd5, cd6, cd7, cd8, cd9, f_v, f_ih, f_r, f_o, f_qC, (fun _ => rfl), w_7_6, w_8_6⟩
        · rintro L a w ⟨b0, b1, b2, b3, b4, b5, b6, b7, b8, b9, b10, x25, x26, x27, x28, x29, x30, x31, x24, x32, x33, qo, qn, qc, ro, rn, rc, rfl, rfl, hb, cd0, cd1, cd2, cd3, cd4, cd5, cd6, cd7, cd8, cd9, f_v, f_ih, f_r, f_o, f_qC, f_q0, w_7_6, w_8_6⟩ hf hd
          have hf' : b1 = false := hf
          subst hf'
          clear hf hd
          try simp only [List.setIfInBounds_toArray, List.set_cons_zero, List.set_cons_succ]
          intro K hK
          rw [if_pos (by rfl)]
          go_simp
          exact hK.out _ _ ⟨b0, true, b2, b3, b4, b5, b6, b7, b8, b9, b10, x25, (.slice (some ⟨ag, aoff, none⟩) n c), x27, x28, x29, x30, x31, x24, x32, x33, qo, qn, qc, ro, rn, rc, (by simp only [Act.put, List.setIfInBounds_toArray, List.set_cons_zero, List.set_cons_succ]), (by simp only [Act.put, List.setIfInBounds_toArray, List.set_cons_zero, List.set_cons_succ]), hb, cd0, (fun _ => rfl), cd2, cd3, cd4, cd5, cd6, cd7, cd8, cd9, f_v, f_ih, f_r, f_o, f_qC, f_q0, w_7_6, w_8_6⟩
        · rintro L a w ⟨b0, b1, b2, b3, b4, b5, b6, b7, b8, b9, b10, x25, x26, x27, x28, x29, x30, x31, x24, x32, x33, qo, qn, qc, ro, rn, rc, rfl, rfl, hb, cd0, cd1, cd2, cd3, cd4, cd5, cd6, cd7, cd8, cd9, f_v, f_ih, f_r, f_o, f_qC, f_q0, w_7_6, w_8_6⟩ hf hd
          have hf' : b2 = false := hf
          subst hf'
          clear hf hd
          try simp only [List.setIfInBounds_toArray, List.set_cons_zero, List.set_cons_succ]
          intro K hK
          rw [if_pos (by rfl)]
          go_simp
          exact hK.out _ _ ⟨b0, b1, true, b3, b4, b5, b6, b7, b8, b9, b10, x25, x26, (.int .i64 (i : Nat)), x28, x29, x30, x31, x24, x32, x33, qo, qn, qc, ro, rn, rc, (by simp only [Act.put, List.setIfInBounds_toArray, List.set_cons_zero, List.set_cons_succ]), (by simp only [Act.put, List.setIfInBounds_toArray, List.set_cons_zero, List.set_cons_succ]), hb, cd0, cd1, (fun _ => rfl), cd3, cd4, cd5, cd6, cd7, cd8, cd9, f_v, f_ih, f_r, f_o, f_qC, f_q0, w_7_6, w_8_6⟩
        · rintro L a w ⟨b0, b1, b2, b3, b4, b5, b6, b7, b8, b9, b10, x25, x26, x27, x28, x29, x30, x31, x24, x32, x33, qo, qn, qc, ro, rn, rc, rfl, rfl, hb, cd0, cd1, cd2, cd3, cd4, cd5, cd6, cd7, cd8, cd9, f_v, f_ih, f_r, f_o, f_qC, f_q0, w_7_6, w_8_6⟩ hf hd
          have hf' : b3 = false := hf
          subst hf'
          have d1 : b1 = true := hd ⟨1, .data⟩ (by simp) rfl
          subst d1
          have d2 : b2 = true := hd ⟨2, .data⟩ (by simp) rfl
          subst d2
          obtain rfl := cd1.out rfl
          obtain rfl := cd2.out rfl
          clear hf hd
          try simp only [List.setIfInBounds_toArray, List.set_cons_zero, List.set_cons_succ]
          intro K hK
          rw [if_pos (by rfl)]
          go_simp
          exact hK.out _ _ ⟨b0, true, true, true, b4, b5, b6, b7, b8, b9, b10, x25, .slice (some ⟨ag, aoff, none⟩) n c, .int .i64 (i : Nat), (.pointer (some ⟨ag, aoff + i * 4, none⟩)), x29, x30, x31, x24, x32, x33, qo, qn, qc, ro, rn, rc, (by simp only [Act.put, List.setIfInBounds_toArray, List.set_cons_zero, List.set_cons_succ]), (by simp only [Act.put, List.setIfInBounds_toArray, List.set_cons_zero, List.set_cons_succ]), hb, cd0, (fun _ => rfl), (fun _ => rfl), (fun _ => rfl), cd4, cd5, cd6, cd7, cd8, cd9, f_v, f_ih, f_r, f_o, f_qC, f_q0, w_7_6, w_8_6⟩
        · rintro L a w ⟨b0, b1, b2, b3, b4, b5, b6, b7, b8, b9, b10, x25, x26, x27, x28, x29, x30, x31, x24, x32, x33, qo, qn, qc, ro, rn, rc, rfl, rfl, hb, cd0, cd1, cd2, cd3, cd4, cd5, cd6, cd7, cd8, cd9, f_v, f_ih, f_r, f_o, f_qC, f_q0, w_7_6, w_8_6⟩ hf hd
          have hf' : b4 = false := hf
          subst hf'
          have d3 : b3 = true := hd ⟨3, .data⟩ (by simp) rfl
          subst d3
          obtain rfl := cd3.out rfl
          clear hf hd
          try simp only [List.setIfInBounds_toArray, List.set_cons_zero, List.set_cons_succ]
          have z0 := (hb.cell hagB).trans a0_
          have z1 := (hb.cell hagB).trans a1_
          have z2 := (hb.cell hagB).trans a2_
          have z3 := (hb.cell hagB).trans a3_
          intro K hK
          rw [if_pos (by rfl)]
          go_simp
          exact hK.out _ _ ⟨b0, b1, b2, true, true, b5, b6, b7, b8, b9, b10, x25, x26, x27, .pointer (some ⟨ag, aoff + i * 4, none⟩), (.agg #[.int .i64 k, .int .i64 ks, .int .i64 kt, .bool kx]), x30, x31, x24, x32, x33, qo, qn, qc, ro, rn, rc, (by simp only [Act.put, List.setIfInBounds_toArray, List.set_cons_zero, List.set_cons_succ]), (by simp only [Act.put, List.setIfInBounds_toArray, List.set_cons_zero, List.set_cons_succ]), hb, cd0, cd1, cd2, (fun _ => rfl), (fun _ => rfl), cd5, cd6, cd7, cd8, cd9, f_v, f_ih, f_r, f_o, f_qC, f_q0, w_7_6, w_8_6⟩
        · rintro L a w ⟨b0, b1, b2, b3, b4, b5, b6, b7, b8, b9, b10, x25, x26, x27, x28, x29, x30, x31, x24, x32, x33, qo, qn, qc, ro, rn, rc, rfl, rfl, hb, cd0, cd1, cd2, cd3, cd4, cd5, cd6, cd7, cd8, cd9, f_v, f_ih, f_r, f_o, f_qC, f_q0, w_7_6, w_8_6⟩ hf hd
          have hf' : b5 = false := hf
          subst hf'
          have d4 : b4 = true := hd ⟨4, .data⟩ (by simp) rfl
          subst d4
          obtain rfl := cd4.out rfl
          clear hf hd
          try simp only [List.setIfInBounds_toArray, List.set_cons_zero, List.set_cons_succ]
          intro K hK
          rw [if_pos (by rfl)]
          go_simp
          go_at_call 56
          refine (HD _).mono ?_
          rintro e w' ⟨rfl, bx⟩
          exact hK.out _ _ ⟨b0, b1, b2, b3, true, true, b6, b7, b8, b9, b10, x25, x26, x27, x28, .agg #[.int .i64 k, .int .i64 ks, .int .i64 kt, .bool kx], (.agg #[.int .i64 s, .string (bsOf t), .bool x]), x31, x24, x32, x33, qo, qn, qc, ro, rn, rc, (by simp only [Act.put, List.setIfInBounds_toArray, List.set_cons_zero, List.set_cons_succ]), (by simp only [Act.put, List.setIfInBounds_toArray, List.set_cons_zero, List.set_cons_succ]), hb.trans (bx.mono (Nat.le_trans hB0 hb.size)), cd0, cd1, cd2, cd3, (fun _ => rfl), (fun _ => rfl), cd6, cd7, cd8, cd9, (fun h1 => (f_v.out h1).past bx), (fun h1 => (f_ih.out h1).past bx), (fun h0 => (f_r.out h0).past bx), (fun h0 => (f_o.out h0).past bx), f_qC, f_q0, w_7_6, w_8_6⟩
        · rintro L a w ⟨b0, b1, b2, b3, b4, b5, b6, b7, b8, b9, b10, x25, x26, x27, x28, x29, x30, x31, x24, x32, x33, qo, qn, qc, ro, rn, rc, rfl, rfl, hb, cd0, cd1, cd2, cd3, cd4, cd5, cd6, cd7, cd8, cd9, f_v, f_ih, f_r, f_o, f_qC, f_q0, w_7_6, w_8_6⟩ hf hd
          have hf' : b6 = false := hf
          subst hf'
          have d0 : b0 = true := hd ⟨0, .data⟩ (by simp) rfl
          subst d0
          have d5 : b5 = true := hd ⟨5, .data⟩ (by simp) rfl
          subst d5
          obtain rfl := cd0.out rfl
          obtain rfl := cd5.out rfl
          clear hf hd
          try simp only [List.setIfInBounds_toArray, List.set_cons_zero, List.set_cons_succ]
          have e_ih : b10 = false := by cases hq : b10 with | false => rfl | true => exact absurd (f_qC.out hq) (by simp)
          have W_ih := f_ih.out e_ih
          intro K hK
          rw [if_pos (by rfl)]
          go_simp
          go_at_call 61
          refine (HK _ W_ih).mono ?_
          rintro e w' ⟨_, rfl, ⟨qo3, qn3, qc3, ro3, rn3, rc3, rfl, j1, j2, g1, g2⟩, bx⟩
          unfold lkV
          have r9 : RdB w' w.heap.size qo3 qn3 qc3 ro3 rn3 rc3 H1 W1 := ⟨j1, j2, g1, g2⟩
          have e_7 : b7 = false := by cases hq : b7 with | false => rfl | true => exact absurd (w_7_6.out hq) (by simp)
          subst e_7
          have e_8 : b8 = false := by cases hq : b8 with | false => rfl | true => exact absurd (w_8_6.out hq) (by simp)
          subst e_8
          exact hK.out _ _ ⟨true, b1, b2, b3, b4, true, true, false, false, b9, b10, .agg #[.slice ho hn hc, .slice wq wn wc], x26, x27, x28, x29, .agg #[.int .i64 s, .string (bsOf t), .bool x], (.tuple #[.agg #[.slice qo3 qn3 qc3, .slice ro3 rn3 rc3], .bool ab]), x24, x32, x33, qo3, qn3, qc3, ro3, rn3, rc3, (by simp only [Act.put, List.setIfInBounds_toArray, List.set_cons_zero, List.set_cons_succ]), (by simp only [Act.put, List.setIfInBounds_toArray, List.set_cons_zero, List.set_cons_succ]), hb.trans (bx.mono (Nat.le_trans hB0 hb.size)), (fun _ => rfl), cd1, cd2, cd3, cd4, (fun _ => rfl), (fun _ => rfl), (fun h => by cases h), (fun h => by cases h), cd9, (fun h1 => (f_v.out h1).past bx), (fun h1 => (f_ih.out h1).past bx), (fun _ => r9.mono (Nat.lt_of_lt_of_le hpw0 hb.size)), (fun h0 => absurd (f_qC.out h0) (by simp)), (fun _ => rfl), f_q0, (fun _ => rfl), (fun _ => rfl)⟩
        · rintro L a w ⟨b0, b1, b2, b3, b4, b5, b6, b7, b8, b9, b10, x25, x26, x27, x28, x29, x30, x31, x24, x32, x33, qo, qn, qc, ro, rn, rc, rfl, rfl, hb, cd0, cd1, cd2, cd3, cd4, cd5, cd6, cd7, cd8, cd9, f_v, f_ih, f_r, f_o, f_qC, f_q0, w_7_6, w_8_6⟩ hf hd
          have hf' : b7 = false := hf
          subst hf'
          have d6 : b6 = true := hd ⟨6, .data⟩ (by simp) rfl
          subst d6
          obtain rfl := cd6.out rfl
          clear hf hd
          have W_r := f_r.out rfl
          try simp only [List.setIfInBounds_toArray, List.set_cons_zero, List.set_cons_succ]
          intro K hK
          rw [if_pos (by rfl)]
          go_simp
          exact hK.out _ _ ⟨b0, b1, b2, b3, b4, b5, true, true, b8, b9, b10, x25, x26, x27, x28, x29, x30, .tuple #[.agg #[.slice qo qn qc, .slice ro rn rc], .bool ab], (.tuple #[.agg #[.slice qo qn qc, .slice ro rn rc], .bool ab]), x32, x33, qo, qn, qc, ro, rn, rc, (by simp only [Act.put, List.setIfInBounds_toArray, List.set_cons_zero, List.set_cons_succ]), (by simp only [Act.put, List.setIfInBounds_toArray, List.set_cons_zero, List.set_cons_succ]), hb, cd0, cd1, cd2, cd3, cd4, cd5, (fun _ => rfl), (fun _ => rfl), cd8, cd9, f_v, f_ih, f_r, f_o, f_qC, f_q0, (fun _ => rfl), (fun _ => rfl)⟩
        · rintro L a w ⟨b0, b1, b2, b3, b4, b5, b6, b7, b8, b9, b10, x25, x26, x27, x28, x29, x30, x31, x24, x32, x33, qo, qn, qc, ro, rn, rc, rfl, rfl, hb, cd0, cd1, cd2, cd3, cd4, cd5, cd6, cd7, cd8, cd9, f_v, f_ih, f_r, f_o, f_qC, f_q0, w_7_6, w_8_6⟩ hf hd
          have hf' : b8 = false := hf
          subst hf'
          have d7 : b7 = true := hd ⟨7, .data⟩ (by simp) rfl
          subst d7
          obtain rfl := cd7.out rfl
          clear hf hd
          try simp only [List.setIfInBounds_toArray, List.set_cons_zero, List.set_cons_succ]
          intro K hK
          rw [if_pos (by rfl)]
          go_simp
          exact hK.out _ _ ⟨b0, b1, b2, b3, b4, b5, b6, true, true, b9, b10, x25, x26, x27, x28, x29, x30, x31, .tuple #[.agg #[.slice qo qn qc, .slice ro rn rc], .bool ab], (.agg #[.slice qo qn qc, .slice ro rn rc]), x33, qo, qn, qc, ro, rn, rc, (by simp only [Act.put, List.setIfInBounds_toArray, List.set_cons_zero, List.set_cons_succ]), (by simp only [Act.put, List.setIfInBounds_toArray, List.set_cons_zero, List.set_cons_succ]), hb, cd0, cd1, cd2, cd3, cd4, cd5, cd6, (fun _ => rfl), (fun _ => rfl), cd9, f_v, f_ih, f_r, f_o, f_qC, f_q0, w_7_6, (fun _ => w_7_6.out rfl)⟩
        · rintro L a w ⟨b0, b1, b2, b3, b4, b5, b6, b7, b8, b9, b10, x25, x26, x27, x28, x29, x30, x31, x24, x32, x33, qo, qn, qc, ro, rn, rc, rfl, rfl, hb, cd0, cd1, cd2, cd3, cd4, cd5, cd6, cd7, cd8, cd9, f_v, f_ih, f_r, f_o, f_qC, f_q0, w_7_6, w_8_6⟩ hf hd
          have hf' : b9 = false := hf
          subst hf'
          have d7 : b7 = true := hd ⟨7, .data⟩ (by simp) rfl
          subst d7
          obtain rfl := cd7.out rfl
          clear hf hd
          try simp only [List.setIfInBounds_toArray, List.set_cons_zero, List.set_cons_succ]
          intro K hK
          rw [if_pos (by rfl)]
          go_simp
          exact hK.out _ _ ⟨b0, b1, b2, b3, b4, b5, b6, true, b8, true, b10, x25, x26, x27, x28, x29, x30, x31, .tuple #[.agg #[.slice qo qn qc, .slice ro rn rc], .bool ab], x32, (.bool ab), qo, qn, qc, ro, rn, rc, (by simp only [Act.put, List.setIfInBounds_toArray, List.set_cons_zero, List.set_cons_succ]), (by simp only [Act.put, List.setIfInBounds_toArray, List.set_cons_zero, List.set_cons_succ]), hb, cd0, cd1, cd2, cd3, cd4, cd5, cd6, (fun _ => rfl), cd8, (fun _ => rfl), f_v, f_ih, f_r, f_o, f_qC, f_q0, w_7_6, w_8_6⟩
        · rintro L a w ⟨b0, b1, b2, b3, b4, b5, b6, b7, b8, b9, b10, x25, x26, x27, x28, x29, x30, x31, x24, x32, x33, qo, qn, qc, ro, rn, rc, rfl, rfl, hb, cd0, cd1, cd2, cd3, cd4, cd5, cd6, cd7, cd8, cd9, f_v, f_ih, f_r, f_o, f_qC, f_q0, w_7_6, w_8_6⟩ hf hd
          have hf' : b10 = false := hf
          subst hf'
          have d8 : b8 = true := hd ⟨8, .data⟩ (by simp) rfl
          subst d8
          have d6 : b6 = true := hd ⟨6, .chain⟩ (by simp) rfl
          subst d6
          have d0 : b0 = true := hd ⟨0, .phase⟩ (by simp) rfl
          subst d0
          have d1 : b1 = true := hd ⟨1, .phase⟩ (by simp) rfl
          subst d1
          have d2 : b2 = true := hd ⟨2, .phase⟩ (by simp) rfl
          subst d2
          have d3 : b3 = true := hd ⟨3, .phase⟩ (by simp) rfl
          subst d3
          have d4 : b4 = true := hd ⟨4, .phase⟩ (by simp) rfl
          subst d4
          have d5 : b5 = true := hd ⟨5, .phase⟩ (by simp) rfl
          subst d5
          have d7 : b7 = true := hd ⟨7, .phase⟩ (by simp) rfl
          subst d7
          obtain rfl := cd8.out rfl
          obtain rfl := cd6.out rfl
          obtain rfl := cd0.out rfl
          obtain rfl := cd1.out rfl
          obtain rfl := cd2.out rfl
          obtain rfl := cd3.out rfl
          obtain rfl := cd4.out rfl
          obtain rfl := cd5.out rfl
          obtain rfl := cd7.out rfl
          clear hf hd
          have W_v := f_v.out rfl
          have W_ih := f_ih.out rfl
          have W_r := f_r.out rfl
          try simp only [List.setIfInBounds_toArray, List.set_cons_zero, List.set_cons_succ]
          intro K hK
          rw [if_pos (by rfl)]
          refine wp_store_lk _ _ rfl p ho hn hc wq wn wc rfl qo qn qc ro rn rc rfl (Lib.hid W_v) fun w2 h8 g8 => ?_
          have hb2 := hb.grown g8 (Nat.le_trans hB0 hb.size) (fun z hz => by cases hz; exact hBp)
          exact hK.out _ _ ⟨true, true, true, true, true, true, true, true, true, b9, true, .agg #[.slice ho hn hc, .slice wq wn wc], .slice (some ⟨ag, aoff, none⟩) n c, .int .i64 (i : Nat), .pointer (some ⟨ag, aoff + i * 4, none⟩), .agg #[.int .i64 k, .int .i64 ks, .int .i64 kt, .bool kx], .agg #[.int .i64 s, .string (bsOf t), .bool x], .tuple #[.agg #[.slice qo qn qc, .slice ro rn rc], .bool ab], .tuple #[.agg #[.slice qo qn qc, .slice ro rn rc], .bool ab], .agg #[.slice qo qn qc, .slice ro rn rc], x33, qo, qn, qc, ro, rn, rc, (by simp only [Act.put, List.setIfInBounds_toArray, List.set_cons_zero, List.set_cons_succ]), (by simp only [Act.put, List.setIfInBounds_toArray, List.set_cons_zero, List.set_cons_succ]), hb2, (fun _ => rfl), (fun _ => rfl), (fun _ => rfl), (fun _ => rfl), (fun _ => rfl), (fun _ => rfl), (fun _ => rfl), (fun _ => rfl), (fun _ => rfl), cd9, (fun h => by cases h), (fun h => by cases h), (fun h0 => ((f_r.out h0)).far g8 (((f_r.out h0)).ap (Nat.lt_succ_self p))), (fun _ => h8), (fun _ => rfl), (fun _ => rfl), (fun _ => rfl), (fun _ => rfl)⟩
      · rintro act V ⟨b0, b1, b2, b3, b4, b5, b6, b7, b8, b9, b10, x25, x26, x27, x28, x29, x30, x31, x24, x32, x33, qo, qn, qc, ro, rn, rc, hL, rfl, hb, cd0, cd1, cd2, cd3, cd4, cd5, cd6, cd7, cd8, cd9, f_v, f_ih, f_r, f_o, f_qC, f_q0, w_7_6, w_8_6⟩
        have hL' : [true, true, true, true, true, true, true, true, true, true, true] = [b0, b1, b2, b3, b4, b5, b6, b7, b8, b9, b10] := congrArg Array.toList hL
        simp only [List.cons.injEq, and_true] at hL'
        obtain ⟨rfl, rfl, rfl, rfl, rfl, rfl, rfl, rfl, rfl, rfl, rfl⟩ := hL'
        obtain rfl := cd0.out rfl
        obtain rfl := cd1.out rfl
        obtain rfl := cd2.out rfl
        obtain rfl := cd3.out rfl
        obtain rfl := cd4.out rfl
        obtain rfl := cd5.out rfl
        obtain rfl := cd6.out rfl
        obtain rfl := cd7.out rfl
        obtain rfl := cd8.out rfl
        obtain rfl := cd9.out rfl
        have W_r := f_r.out rfl
        have W_o := f_o.out rfl
        have W_qC := f_qC.out rfl
        have W_q0 := f_q0.out rfl
        clear hL f_v f_ih f_r f_o f_qC f_q0 cd0 cd1 cd2 cd3 cd4 cd5 cd6 cd7 cd8 cd9 w_7_6 w_8_6
        simp only [List.setIfInBounds_toArray, List.set_cons_zero, List.set_cons_succ]
        have A2 := W_r.at W_o (W_r.ap (Nat.lt_succ_self p))
        rw [hH1h.out, hW1h.out] at A2
        have B2 := B.trans ((Below.refl _ _).drew.trans hb)
        have G2 : Hid (Good (i + 1) (askH H ⟨s, t, x⟩) (askW H W ⟨s, t, x⟩)) := Lib.hid (hG.out.ask hsm)
        clear hb W_r W_o W_qC W_q0 hG
        go_wp2_with fail
        go_roundw
        case rel => exact ⟨i + 1, _, _, by omega, by omega, by go_num, A2, G2, B2⟩
        case measure => simp [intOf]; omega
    · by_cases hlt : i < n
      · have hlti : (i : Int) < (n : Int) := by omega
        have hlt3i : ¬ ((i : Int) < 40) := by omega
        have HW := fun w => within12_any s0 8 w (by decide) (by decide)
        obtain ⟨S, hSd⟩ : ∃ S, wth s0 8 = S := ⟨_, rfl⟩
        simp only [hSd] at HW
        clear hSd hlt'
        go_upto_region 9 with (go_at_call 58; refine (HW _).mono ?_; rintro e w2 ⟨rfl, rfl⟩)
        clear HW
        obtain ⟨ho, hn, hc, wq, wn, wc, X, RD⟩ := A.rd
        obtain ⟨c0, c1⟩ := X.c
        have hHl := hG.out.lenH
        have hWl := hG.out.lenW
        have HA := free_any wr (lkV ho hn hc wq wn wc) H W ⟨_, _, _, _, _, _, rfl, RD.h, RD.w⟩ (by omega) (by omega) S
        unfold lkV at HA
        have hBw := Nat.le_trans hp0 B.size
        go_upto_region 10 with (go_at_call 59; refine HA.mono ?_; rintro e v4 ⟨_, rfl, ⟨bo, bn, bc, vo, vn, vc, rfl, j1, j2, g1, g2⟩, b4⟩; unfold lkV)
        have bA : Below v4.heap.size v4 (v4.alloc (.cells #[.slice bo bn bc, .slice vo vn vc] 96)) := (Below.refl _ _).alloc (Nat.le_refl _) _
        have XB : LkB (v4.alloc (.cells #[.slice bo bn bc, .slice vo vn vc] 96)) v4.heap.size bo bn bc vo vn vc 96 := heap_alloc_new v4 _
        have X4 := (X.past b4).past bA
        have RD4 := (RD.past b4).past bA
        have m1 := j1.past bA
        have m2 := j2.past bA
        have B4 := B.trans ((b4.trans (bA.mono b4.size)).mono hBw)
        have hBw4 := Nat.le_trans (Nat.le_trans hBw b4.size) bA.size
        generalize v4.alloc (.cells #[.slice bo bn bc, .slice vo vn vc] 96) = U4 at XB X4 RD4 m1 m2 B4 hBw4 ⊢
        obtain ⟨r, hr⟩ : ∃ r, v4.heap.size = r := ⟨_, rfl⟩
        rw [hr] at XB
        simp only [hr]
        clear hr bA HA j1 j2 g1 g2 b4 X RD c0 c1 A B
        have bQ : Below U4.heap.size U4 (U4.alloc (.cells #[.slice none 0 0, .slice none 0 0] 96)) := (Below.refl _ _).alloc (Nat.le_refl _) _
        have WT0 := WtAt.new U4
        have gH := RD4.h.ltB (by decide)
        have gW := RD4.w.ltB (by decide)
        have gB1 := m1.ltB (by decide)
        have gB2 := m2.ltB (by decide)
        have hpq := X4.lt
        have hrq0 := XB.lt
        have XU := X4.past bQ
        have XBU := XB.past bQ
        have RDh := (RD4.past bQ).h
        have RDw := (RD4.past bQ).w
        have RB1 := m1.past bQ
        have RB2 := m2.past bQ
        have B5 := B4.trans (bQ.mono hBw4)
        have hp0q := hBw4
        go_upto_region 11 with fail
        generalize U4.alloc (.cells #[.slice none 0 0, .slice none 0 0] 96) = U at WT0 XU XBU RDh RDw RB1 RB2 B5 ⊢
        obtain ⟨q, hq⟩ : ∃ q, U4.heap.size = q := ⟨_, rfl⟩
        rw [hq] at WT0 gH gW gB1 gB2 hpq hrq0 hp0q
        simp only [hq]
        clear hq bQ X4 RD4 XB m1 m2 B4 hBw4
        have BU : Below q U U := Below.refl _ _
        go_wp2_with fail
        go_loopw [9] (fun zs wr => ∃ j : Nat, j ≤ hn ∧ zs = .int .i64 (j : Nat) ∧ WtAt wr q (wo (H.take j) S) [] ∧ Below q U wr) (fun zs _ => hn - (intOf zs).toNat)
        case atStart => exact ⟨0, by omega, rfl, WT0, BU⟩
        case round =>
          clear WT0 BU
          obtain ⟨j, hj, rfl, WT, BQ⟩ := hrel
          have XP := (BQ.block p hpq).trans XU
          have hznl := RDh.len
          obtain ⟨cp0, cp1⟩ := LkB.c XP
          by_cases hlt : j < hn
          · have hlti : (j : Int) < (hn : Int) := by omega
            obtain ⟨y, hy⟩ : ∃ y, H[j]? = some y := ⟨H[j]'(by have := RDh.len; omega), List.getElem?_eq_getElem _⟩
            obtain ⟨rb, roff, rfl, hrb, hrc⟩ := RDh.open (by omega) (by decide)
            have hrq : rb < q := gH (by omega) _ rfl
            obtain ⟨y0_, y1_, y2_⟩ := cells_hd hrc j y hy
            rw [← BQ.cell (show (⟨rb, roff + j * 3, none⟩ : Addr).block < q from hrq)] at y0_
            rw [← BQ.cell (show (⟨rb, roff + j * 3 + 1, none⟩ : Addr).block < q from hrq)] at y1_
            rw [← BQ.cell (show (⟨rb, roff + j * 3 + 2, none⟩ : Addr).block < q from hrq)] at y2_
            have hnw := Lib.hid (wo_take (s := S) hy)
            clear hrc hy
            obtain ⟨s, t, x⟩ := y
            simp only at y0_ y1_ y2_
            by_cases hsS : s = S
            · subst hsS
              have hne : (s != s) = false := by simp
              have hnx := hnw.out
              rw [if_pos rfl, List.append_nil] at hnx
              rw [← hnx] at WT
              clear hnw hnx
              go_wp2_with fail
              go_roundw
              case rel => exact ⟨j + 1, by omega, by go_num, WT, BQ⟩
              case measure => simp [intOf]; omega
            · have hne : (s != S) = true := by simpa using hsS
              have hnx := hnw.out
              rw [if_neg hsS] at hnx
              have hnx := Lib.hid hnx
              clear hnw
              go_upto_region 15 with fail
              obtain ⟨ao1, n1, c1_, ao2, n2, c2_, XQ, T1, T2, AP0⟩ := WT
              generalize wr = W7 at XP XQ T1 T2 BQ y0_ y1_ y2_ cp0 cp1 ⊢
              obtain ⟨ML, hML⟩ : ∃ z_, z_ = wo (H.take j) S := ⟨_, rfl⟩
              rw [← hML] at T1 hnx
              obtain ⟨OL, hOL⟩ : ∃ z_, z_ = ([] : List Hd) := ⟨_, rfl⟩
              rw [← hOL] at T2
              have hOLh := Lib.hid hOL
              clear hOL
              have TM := T1
              have TO := T2
              have AP : ∀ z, Go.Proofs.Ytckfkgmlifnfkaa.blk ao1 = some z → Go.Proofs.Ytckfkgmlifnfkaa.blk ao2 ≠ some z := AP0
              have hqW := XQ.lt
              have hB0 : q ≤ W7.heap.size := Nat.le_of_lt hqW
              have hB1 : q + 1 ≤ W7.heap.size := hqW
              have hBq : q ≤ W7.heap.size := hB0
              have hpB := hpq
              have hrB := hrq
              have cp := cp0
              have hMl := TM.len
              have hMl2 : ML.length ≤ 1000 := by
                rw [hML]
                have h1 := wo_length (H.take j) S
                have h2 : (H.take j).length ≤ H.length := by rw [List.length_take]; omega
                omega
              obtain ⟨N, HN⟩ : ∃ N, n1 + 1 = N := ⟨_, rfl⟩
              have hNm : N ≤ 1000000 := by omega
              clear hML T1 T2 AP0 cp0 cp1
              refine region_inv (FreeW0 q p q ao1 n1 c1_ ao2 n2 c2_ N rb roff hn hc j s t x ML OL) (by kernel_rfl) (by kernel_rfl) ?_ ?_ ?_
              · exact ⟨false, false, false, false, false, false, false, false, false, false, false, u54, u55, u56, u57, u58, u59, u60, u61, u62, u63, 0, 0, 0, rfl, (by simp only [Act.put, List.setIfInBounds_toArray, List.set_cons_zero, List.set_cons_succ]), Below.refl _ _, (fun h => by cases h), (fun h => by cases h), (fun h => by cases h), (fun h => by cases h), (fun h => by cases h), (fun h => by cases h), (fun h => by cases h), (fun h => by cases h), (fun h => by cases h), (fun h => by cases h), (fun h1 => XQ.past (Below.refl _ _).drew), (fun h1 => TM.past (Below.refl _ _).drew), (TO.past (Below.refl _ _).drew), (fun h => by cases h), (fun h => by cases h), (fun h => by cases h), (fun h => by cases h), (fun h => by cases h), (fun h => by cases h), (fun h => by cases h), (fun h => by cases h), (fun h => by cases h)⟩
              · refine ⟨?_, ?_, ?_, ?_, ?_, ?_, ?_, ?_, ?_, ?_, ?_, trivial⟩
                · rintro L a w ⟨b0, b1, b2, b3, b4, b5, b6, b7, b8, b9, b10, x54, x55, x56, x57, x58, x59, x60, x61, x62, x63, gb, g9, c9, rfl, rfl, hb, cd0, cd1, cd2, cd3, cd4, cd5, cd6, cd7, cd8, cd9, f_q, f_m, f_ot, f_bl, f_q7, f_r, f_ap, f_o, f_q77, f_q88, f_q1, f_q1s⟩ hf hd
                  have hf' : b0 = false := hf
                  subst hf'
                  clear hf hd
                  have W_ot := f_ot.out
                  try simp only [List.setIfInBounds_toArray, List.set_cons_zero, List.set_cons_succ]
                  intro K hK
                  rw [if_pos (by rfl)]
                  go_simp
                  exact hK.out _ _ ⟨true, b1, b2, b3, b4, b5, b6, b7, b8, b9, b10, (.pointer (some ⟨q, 0, none⟩)), x55, x56, x57, x58, x59, x60, x61, x62, x63, gb, g9, c9, (by simp only [Act.put, List.setIfInBounds_toArray, List.set_cons_zero, List.set_cons_succ]), (by simp only [Act.put, List.setIfInBounds_toArray, List.set_cons_zero, List.set_cons_succ]), hb, (fun _ => rfl), cd1, cd2, cd3, cd4, cd5, cd6, cd7, cd8, cd9, f_q, f_m, f_ot, f_bl, f_q7, f_r, f_ap, f_o, f_q77, f_q88, f_q1, f_q1s⟩
                · rintro L a w ⟨b0, b1, b2, b3, b4, b5, b6, b7, b8, b9, b10, x54, x55, x56, x57, x58, x59, x60, x61, x62, x63, gb, g9, c9, rfl, rfl, hb, cd0, cd1, cd2, cd3, cd4, cd5, cd6, cd7, cd8, cd9, f_q, f_m, f_ot, f_bl, f_q7, f_r, f_ap, f_o, f_q77, f_q88, f_q1, f_q1s⟩ hf hd
                  have hf' : b1 = false := hf
                  subst hf'
                  have d0 : b0 = true := hd ⟨0, .data⟩ (by simp) rfl
                  subst d0
                  obtain rfl := cd0.out rfl
                  clear hf hd
                  have W_ot := f_ot.out
                  try simp only [List.setIfInBounds_toArray, List.set_cons_zero, List.set_cons_succ]
                  have e_q : b10 = false := by cases hq : b10 with | false => rfl | true => exact absurd (f_q1s.out hq) (by simp)
                  have W_q := f_q.out e_q
                  obtain ⟨z0, z1⟩ := W_q.c
                  intro K hK
                  rw [if_pos (by rfl)]
                  go_simp
                  exact hK.out _ _ ⟨true, true, b2, b3, b4, b5, b6, b7, b8, b9, b10, .pointer (some ⟨q, 0, none⟩), (.slice ao1 n1 c1_), x56, x57, x58, x59, x60, x61, x62, x63, gb, g9, c9, (by simp only [Act.put, List.setIfInBounds_toArray, List.set_cons_zero, List.set_cons_succ]), (by simp only [Act.put, List.setIfInBounds_toArray, List.set_cons_zero, List.set_cons_succ]), hb, (fun _ => rfl), (fun _ => rfl), cd2, cd3, cd4, cd5, cd6, cd7, cd8, cd9, f_q, f_m, f_ot, f_bl, f_q7, f_r, f_ap, f_o, f_q77, f_q88, (fun _ => rfl), (fun _ => rfl)⟩
                · rintro L a w ⟨b0, b1, b2, b3, b4, b5, b6, b7, b8, b9, b10, x54, x55, x56, x57, x58, x59, x60, x61, x62, x63, gb, g9, c9, rfl, rfl, hb, cd0, cd1, cd2, cd3, cd4, cd5, cd6, cd7, cd8, cd9, f_q, f_m, f_ot, f_bl, f_q7, f_r, f_ap, f_o, f_q77, f_q88, f_q1, f_q1s⟩ hf hd
                  have hf' : b2 = false := hf
                  subst hf'
                  clear hf hd
                  have W_ot := f_ot.out
                  try simp only [List.setIfInBounds_toArray, List.set_cons_zero, List.set_cons_succ]
                  intro K hK
                  rw [if_pos (by rfl)]
                  go_simp
                  exact hK.out _ _ ⟨b0, b1, true, b3, b4, b5, b6, b7, b8, b9, b10, x54, x55, (.pointer (some ⟨p, 0, none⟩)), x57, x58, x59, x60, x61, x62, x63, gb, g9, c9, (by simp only [Act.put, List.setIfInBounds_toArray, List.set_cons_zero, List.set_cons_succ]), (by simp only [Act.put, List.setIfInBounds_toArray, List.set_cons_zero, List.set_cons_succ]), hb, cd0, cd1, (fun _ => rfl), cd3, cd4, cd5, cd6, cd7, cd8, cd9, f_q, f_m, f_ot, f_bl, f_q7, f_r, f_ap, f_o, f_q77, f_q88, f_q1, f_q1s⟩
                · rintro L a w ⟨b0, b1, b2, b3, b4, b5, b6, b7, b8, b9, b10, x54, x55, x56, x57, x58, x59, x60, x61, x62, x63, gb, g9, c9, rfl, rfl, hb, cd0, cd1, cd2, cd3, cd4, cd5, cd6, cd7, cd8, cd9, f_q, f_m, f_ot, f_bl, f_q7, f_r, f_ap, f_o, f_q77, f_q88, f_q1, f_q1s⟩ hf hd
                  have hf' : b3 = false := hf
                  subst hf'
                  have d2 : b2 = true := hd ⟨2, .data⟩ (by simp) rfl
                  subst d2
                  obtain rfl := cd2.out rfl
                  clear hf hd
                  have W_ot := f_ot.out
                  try simp only [List.setIfInBounds_toArray, List.set_cons_zero, List.set_cons_succ]
                  have z0 := (hb.cell hpB).trans cp
                  intro K hK
                  rw [if_pos (by rfl)]
                  go_simp
                  exact hK.out _ _ ⟨b0, b1, true, true, b4, b5, b6, b7, b8, b9, b10, x54, x55, .pointer (some ⟨p, 0, none⟩), (.slice (some ⟨rb, roff, none⟩) hn hc), x58, x59, x60, x61, x62, x63, gb, g9, c9, (by simp only [Act.put, List.setIfInBounds_toArray, List.set_cons_zero, List.set_cons_succ]), (by simp only [Act.put, List.setIfInBounds_toArray, List.set_cons_zero, List.set_cons_succ]), hb, cd0, cd1, (fun _ => rfl), (fun _ => rfl), cd4, cd5, cd6, cd7, cd8, cd9, f_q, f_m, f_ot, f_bl, f_q7, f_r, f_ap, f_o, f_q77, f_q88, f_q1, f_q1s⟩
                · rintro L a w ⟨b0, b1, b2, b3, b4, b5, b6, b7, b8, b9, b10, x54, x55, x56, x57, x58, x59, x60, x61, x62, x63, gb, g9, c9, rfl, rfl, hb, cd0, cd1, cd2, cd3, cd4, cd5, cd6, cd7, cd8, cd9, f_q, f_m, f_ot, f_bl, f_q7, f_r, f_ap, f_o, f_q77, f_q88, f_q1, f_q1s⟩ hf hd
                  have hf' : b4 = false := hf
                  subst hf'
                  clear hf hd
                  have W_ot := f_ot.out
                  try simp only [List.setIfInBounds_toArray, List.set_cons_zero, List.set_cons_succ]
                  intro K hK
                  rw [if_pos (by rfl)]
                  go_simp
                  exact hK.out _ _ ⟨b0, b1, b2, b3, true, b5, b6, b7, b8, b9, b10, x54, x55, x56, x57, (.int .i64 (j : Nat)), x59, x60, x61, x62, x63, gb, g9, c9, (by simp only [Act.put, List.setIfInBounds_toArray, List.set_cons_zero, List.set_cons_succ]), (by simp only [Act.put, List.setIfInBounds_toArray, List.set_cons_zero, List.set_cons_succ]), hb, cd0, cd1, cd2, cd3, (fun _ => rfl), cd5, cd6, cd7, cd8, cd9, f_q, f_m, f_ot, f_bl, f_q7, f_r, f_ap, f_o, f_q77, f_q88, f_q1, f_q1s⟩
                · rintro L a w ⟨b0, b1, b2, b3, b4, b5, b6, b7, b8, b9, b10, x54, x55, x56, x57, x58, x59, x60, x61, x62, x63, gb, g9, c9, rfl, rfl, hb, cd0, cd1, cd2, cd3, cd4, cd5, cd6, cd7, cd8, cd9, f_q, f_m, f_ot, f_bl, f_q7, f_r, f_ap, f_o, f_q77, f_q88, f_q1, f_q1s⟩ hf hd
                  have hf' : b5 = false := hf
                  subst hf'
                  have d3 : b3 = true := hd ⟨3, .data⟩ (by simp) rfl
                  subst d3
                  have d4 : b4 = true := hd ⟨4, .data⟩ (by simp) rfl
                  subst d4
                  obtain rfl := cd3.out rfl
                  obtain rfl := cd4.out rfl
                  clear hf hd
                  have W_ot := f_ot.out
                  try simp only [List.setIfInBounds_toArray, List.set_cons_zero, List.set_cons_succ]
                  intro K hK
                  rw [if_pos (by rfl)]
                  go_simp
                  exact hK.out _ _ ⟨b0, b1, b2, true, true, true, b6, b7, b8, b9, b10, x54, x55, x56, .slice (some ⟨rb, roff, none⟩) hn hc, .int .i64 (j : Nat), (.pointer (some ⟨rb, roff + j * 3, none⟩)), x60, x61, x62, x63, gb, g9, c9, (by simp only [Act.put, List.setIfInBounds_toArray, List.set_cons_zero, List.set_cons_succ]), (by simp only [Act.put, List.setIfInBounds_toArray, List.set_cons_zero, List.set_cons_succ]), hb, cd0, cd1, cd2, (fun _ => rfl), (fun _ => rfl), (fun _ => rfl), cd6, cd7, cd8, cd9, f_q, f_m, f_ot, f_bl, f_q7, f_r, f_ap, f_o, f_q77, f_q88, f_q1, f_q1s⟩
                · rintro L a w ⟨b0, b1, b2, b3, b4, b5, b6, b7, b8, b9, b10, x54, x55, x56, x57, x58, x59, x60, x61, x62, x63, gb, g9, c9, rfl, rfl, hb, cd0, cd1, cd2, cd3, cd4, cd5, cd6, cd7, cd8, cd9, f_q, f_m, f_ot, f_bl, f_q7, f_r, f_ap, f_o, f_q77, f_q88, f_q1, f_q1s⟩ hf hd
                  have hf' : b6 = false := hf
                  subst hf'
                  have d5 : b5 = true := hd ⟨5, .data⟩ (by simp) rfl
                  subst d5
                  obtain rfl := cd5.out rfl
                  clear hf hd
                  have W_ot := f_ot.out
                  try simp only [List.setIfInBounds_toArray, List.set_cons_zero, List.set_cons_succ]
                  have z0 := (hb.cell hrB).trans y0_
                  have z1 := (hb.cell hrB).trans y1_
                  have z2 := (hb.cell hrB).trans y2_
                  intro K hK
                  rw [if_pos (by rfl)]
                  go_simp
                  exact hK.out _ _ ⟨b0, b1, b2, b3, b4, true, true, b7, b8, b9, b10, x54, x55, x56, x57, x58, .pointer (some ⟨rb, roff + j * 3, none⟩), (.agg #[.int .i64 s, .string (bsOf t), .bool x]), x61, x62, x63, gb, g9, c9, (by simp only [Act.put, List.setIfInBounds_toArray, List.set_cons_zero, List.set_cons_succ]), (by simp only [Act.put, List.setIfInBounds_toArray, List.set_cons_zero, List.set_cons_succ]), hb, cd0, cd1, cd2, cd3, cd4, (fun _ => rfl), (fun _ => rfl), cd7, cd8, cd9, f_q, f_m, f_ot, f_bl, f_q7, f_r, f_ap, f_o, f_q77, f_q88, f_q1, f_q1s⟩
                · rintro L a w ⟨b0, b1, b2, b3, b4, b5, b6, b7, b8, b9, b10, x54, x55, x56, x57, x58, x59, x60, x61, x62, x63, gb, g9, c9, rfl, rfl, hb, cd0, cd1, cd2, cd3, cd4, cd5, cd6, cd7, cd8, cd9, f_q, f_m, f_ot, f_bl, f_q7, f_r, f_ap, f_o, f_q77, f_q88, f_q1, f_q1s⟩ hf hd
                  have hf' : b7 = false := hf
                  subst hf'
                  have d6 : b6 = true := hd ⟨6, .data⟩ (by simp) rfl
                  subst d6
                  obtain rfl := cd6.out rfl
                  clear hf hd
                  have W_ot := f_ot.out
                  try simp only [List.setIfInBounds_toArray, List.set_cons_zero, List.set_cons_succ]
                  intro K hK
                  rw [if_pos (by rfl)]
                  refine wp_buildSlice_one 94 101 _ rfl (Hd.cells (⟨s, t, x⟩ : Hd)) 3 rfl rfl (by omega) (by omega) Try.underlying94 hd_inf' fun w5 hB5 bq5 sq5 => ?_
                  have bx := bq5
                  exact hK.out _ _ ⟨b0, b1, b2, b3, b4, b5, true, true, b8, b9, b10, x54, x55, x56, x57, x58, x59, .agg #[.int .i64 s, .string (bsOf t), .bool x], (.slice (some ⟨(w.heap.size), 0, none⟩) 1 1), x62, x63, w.heap.size, g9, c9, (by simp only [Act.put, List.setIfInBounds_toArray, List.set_cons_zero, List.set_cons_succ]), (by simp only [Act.put, List.setIfInBounds_toArray, List.set_cons_zero, List.set_cons_succ]), hb.trans (bx.mono (Nat.le_trans hB0 hb.size)), cd0, cd1, cd2, cd3, cd4, cd5, (fun _ => rfl), (fun _ => rfl), cd8, cd9, (fun h1 => (f_q.out h1).past bx), (fun h1 => (f_m.out h1).past bx), (f_ot.out.past bx), (fun _ _ => OwnR.ofBlk hB5 rfl rfl (by omega)), (fun _ => rfl), (fun h0 => absurd (f_q7.out h0) (by simp)), (fun h0 => absurd (f_q7.out h0) (by simp)), (fun h0 => absurd (f_q77.out h0) (by simp)), (fun _ => rfl), f_q88, f_q1, f_q1s⟩
                · rintro L a w ⟨b0, b1, b2, b3, b4, b5, b6, b7, b8, b9, b10, x54, x55, x56, x57, x58, x59, x60, x61, x62, x63, gb, g9, c9, rfl, rfl, hb, cd0, cd1, cd2, cd3, cd4, cd5, cd6, cd7, cd8, cd9, f_q, f_m, f_ot, f_bl, f_q7, f_r, f_ap, f_o, f_q77, f_q88, f_q1, f_q1s⟩ hf hd
                  have hf' : b8 = false := hf
                  subst hf'
                  have d1 : b1 = true := hd ⟨1, .data⟩ (by simp) rfl
                  subst d1
                  have d7 : b7 = true := hd ⟨7, .data⟩ (by simp) rfl
                  subst d7
                  obtain rfl := cd1.out rfl
                  obtain rfl := cd7.out rfl
                  clear hf hd
                  have W_m := f_m.out rfl
                  have W_ot := f_ot.out
                  have W_bl := f_bl.out rfl rfl
                  try simp only [List.setIfInBounds_toArray, List.set_cons_zero, List.set_cons_succ]
                  intro K hK
                  rw [if_pos (by rfl)]
                  refine wp_append_r _ _ 94 94 rfl rowTyHd rfl W_m (Nat.le_trans hB1 hb.size) _ rfl 1 [(⟨s, t, x⟩ : Hd)] (W_bl.isR.src Try.underlying94) rfl (by omega) N HN _ rfl hNm ?_
                  intro g10 c10 w2 o10 gr10 q10 bq10
                  have hb2 := hb.trans (bq10.mono (Nat.le_succ q))
                  have neq : some q ≠ Go.Proofs.Ytckfkgmlifnfkaa.blk ao1 := by have h0 := W_m.from'; intro e; have := h0 q e.symm; omega
                  have apP : ∀ z, Go.Proofs.Ytckfkgmlifnfkaa.blk ao2 = some z → z ≠ g10 := fun z hz e => by
                    subst e
                    rcases q10 with h | h
                    · exact AP z h hz
                    · have := W_ot.lt z hz; omega
                  exact hK.out _ _ ⟨b0, true, b2, b3, b4, b5, b6, true, true, b9, b10, x54, .slice ao1 n1 c1_, x56, x57, x58, x59, x60, .slice (some ⟨gb, 0, none⟩) 1 1, (.slice (some ⟨g10, 0, none⟩) N c10), x63, gb, g10, c10, (by simp only [Act.put, List.setIfInBounds_toArray, List.set_cons_zero, List.set_cons_succ]), (by simp only [Act.put, List.setIfInBounds_toArray, List.set_cons_zero, List.set_cons_succ]), hb2, cd0, (fun _ => rfl), cd2, cd3, cd4, cd5, cd6, (fun _ => rfl), (fun _ => rfl), cd9, (fun h1 => (gr10.block q ((f_q.out h1)).lt neq).trans ((f_q.out h1))), (fun h => by cases h), ((f_ot.out).grown gr10 (fun z hz e => AP z e hz)), (fun _ h => by cases h), (fun _ => rfl), (fun _ => o10), (fun _ => apP), (fun h0 => absurd (f_q88.out h0) (by simp)), f_q77, (fun _ => rfl), (fun _ => rfl), f_q1s⟩
                · rintro L a w ⟨b0, b1, b2, b3, b4, b5, b6, b7, b8, b9, b10, x54, x55, x56, x57, x58, x59, x60, x61, x62, x63, gb, g9, c9, rfl, rfl, hb, cd0, cd1, cd2, cd3, cd4, cd5, cd6, cd7, cd8, cd9, f_q, f_m, f_ot, f_bl, f_q7, f_r, f_ap, f_o, f_q77, f_q88, f_q1, f_q1s⟩ hf hd
                  have hf' : b9 = false := hf
                  subst hf'
                  have d0 : b0 = true := hd ⟨0, .phase⟩ (by simp) rfl
                  subst d0
                  have d1 : b1 = true := hd ⟨1, .phase⟩ (by simp) rfl
                  subst d1
                  have d2 : b2 = true := hd ⟨2, .phase⟩ (by simp) rfl
                  subst d2
                  have d3 : b3 = true := hd ⟨3, .phase⟩ (by simp) rfl
                  subst d3
                  have d4 : b4 = true := hd ⟨4, .phase⟩ (by simp) rfl
                  subst d4
                  have d5 : b5 = true := hd ⟨5, .phase⟩ (by simp) rfl
                  subst d5
                  have d6 : b6 = true := hd ⟨6, .phase⟩ (by simp) rfl
                  subst d6
                  have d7 : b7 = true := hd ⟨7, .phase⟩ (by simp) rfl
                  subst d7
                  have d8 : b8 = true := hd ⟨8, .phase⟩ (by simp) rfl
                  subst d8
                  obtain rfl := cd0.out rfl
                  obtain rfl := cd1.out rfl
                  obtain rfl := cd2.out rfl
                  obtain rfl := cd3.out rfl
                  obtain rfl := cd4.out rfl
                  obtain rfl := cd5.out rfl
                  obtain rfl := cd6.out rfl
                  obtain rfl := cd7.out rfl
                  obtain rfl := cd8.out rfl
                  clear hf hd
                  have W_ot := f_ot.out
                  have W_q7 := f_q7.out rfl
                  have W_r := f_r.out rfl
                  have W_ap := f_ap.out rfl
                  have W_q1 := f_q1.out rfl
                  try simp only [List.setIfInBounds_toArray, List.set_cons_zero, List.set_cons_succ]
                  intro K hK
                  rw [if_pos (by rfl)]
                  go_simp
                  exact hK.out _ _ ⟨true, true, true, true, true, true, true, true, true, true, b10, .pointer (some ⟨q, 0, none⟩), .slice ao1 n1 c1_, .pointer (some ⟨p, 0, none⟩), .slice (some ⟨rb, roff, none⟩) hn hc, .int .i64 (j : Nat), .pointer (some ⟨rb, roff + j * 3, none⟩), .agg #[.int .i64 s, .string (bsOf t), .bool x], .slice (some ⟨gb, 0, none⟩) 1 1, .slice (some ⟨g9, 0, none⟩) N c9, (.pointer (some ⟨q, 0, none⟩)), gb, g9, c9, (by simp only [Act.put, List.setIfInBounds_toArray, List.set_cons_zero, List.set_cons_succ]), (by simp only [Act.put, List.setIfInBounds_toArray, List.set_cons_zero, List.set_cons_succ]), hb, (fun _ => rfl), (fun _ => rfl), (fun _ => rfl), (fun _ => rfl), (fun _ => rfl), (fun _ => rfl), (fun _ => rfl), (fun _ => rfl), (fun _ => rfl), (fun _ => rfl), f_q, (fun h => by cases h), f_ot, (fun _ h => by cases h), f_q7, f_r, f_ap, f_o, f_q77, f_q88, f_q1, f_q1s⟩
                · rintro L a w ⟨b0, b1, b2, b3, b4, b5, b6, b7, b8, b9, b10, x54, x55, x56, x57, x58, x59, x60, x61, x62, x63, gb, g9, c9, rfl, rfl, hb, cd0, cd1, cd2, cd3, cd4, cd5, cd6, cd7, cd8, cd9, f_q, f_m, f_ot, f_bl, f_q7, f_r, f_ap, f_o, f_q77, f_q88, f_q1, f_q1s⟩ hf hd
                  have hf' : b10 = false := hf
                  subst hf'
                  have d9 : b9 = true := hd ⟨9, .data⟩ (by simp) rfl
                  subst d9
                  have d8 : b8 = true := hd ⟨8, .data⟩ (by simp) rfl
                  subst d8
                  have d0 : b0 = true := hd ⟨0, .phase⟩ (by simp) rfl
                  subst d0
                  have d1 : b1 = true := hd ⟨1, .phase⟩ (by simp) rfl
                  subst d1
                  have d2 : b2 = true := hd ⟨2, .phase⟩ (by simp) rfl
                  subst d2
                  have d3 : b3 = true := hd ⟨3, .phase⟩ (by simp) rfl
                  subst d3
                  have d4 : b4 = true := hd ⟨4, .phase⟩ (by simp) rfl
                  subst d4
                  have d5 : b5 = true := hd ⟨5, .phase⟩ (by simp) rfl
                  subst d5
                  have d6 : b6 = true := hd ⟨6, .phase⟩ (by simp) rfl
                  subst d6
                  have d7 : b7 = true := hd ⟨7, .phase⟩ (by simp) rfl
                  subst d7
                  obtain rfl := cd9.out rfl
                  obtain rfl := cd8.out rfl
                  obtain rfl := cd0.out rfl
                  obtain rfl := cd1.out rfl
                  obtain rfl := cd2.out rfl
                  obtain rfl := cd3.out rfl
                  obtain rfl := cd4.out rfl
                  obtain rfl := cd5.out rfl
                  obtain rfl := cd6.out rfl
                  obtain rfl := cd7.out rfl
                  clear hf hd
                  have W_q := f_q.out rfl
                  have W_ot := f_ot.out
                  have W_q7 := f_q7.out rfl
                  have W_r := f_r.out rfl
                  have W_ap := f_ap.out rfl
                  have W_q1 := f_q1.out rfl
                  try simp only [List.setIfInBounds_toArray, List.set_cons_zero, List.set_cons_succ]
                  intro K hK
                  rw [if_pos (by rfl)]
                  obtain ⟨z0, z1⟩ := W_q.c
                  obtain ⟨f0, f1⟩ := W_q.free
                  go_simp
                  have g8 := set1_grown w q 0 (.slice (some ⟨g9, 0, none⟩) N c9)
                  have hb2 := hb.grown g8 (Nat.le_trans hBq hb.size) (fun z hz => by cases hz; exact Nat.le_refl _)
                  have po := W_q.put0 (some ⟨g9, 0, none⟩) N c9
                  exact hK.out _ _ ⟨true, true, true, true, true, true, true, true, true, true, true, .pointer (some ⟨q, 0, none⟩), .slice ao1 n1 c1_, .pointer (some ⟨p, 0, none⟩), .slice (some ⟨rb, roff, none⟩) hn hc, .int .i64 (j : Nat), .pointer (some ⟨rb, roff + j * 3, none⟩), .agg #[.int .i64 s, .string (bsOf t), .bool x], .slice (some ⟨gb, 0, none⟩) 1 1, .slice (some ⟨g9, 0, none⟩) N c9, .pointer (some ⟨q, 0, none⟩), gb, g9, c9, (by simp only [Act.put, List.setIfInBounds_toArray, List.set_cons_zero, List.set_cons_succ]), (by simp only [Act.put, List.setIfInBounds_toArray, List.set_cons_zero, List.set_cons_succ]), hb2, (fun _ => rfl), (fun _ => rfl), (fun _ => rfl), (fun _ => rfl), (fun _ => rfl), (fun _ => rfl), (fun _ => rfl), (fun _ => rfl), (fun _ => rfl), (fun _ => rfl), (fun h => by cases h), (fun h => by cases h), ((f_ot.out).farT W_q (by decide) g8), (fun _ h => by cases h), f_q7, (fun h0 => ((f_r.out h0)).farT W_q (by decide) g8), f_ap, (fun _ => po), (fun _ => rfl), (fun _ => rfl), f_q1, (fun _ => rfl)⟩
              · rintro act V ⟨b0, b1, b2, b3, b4, b5, b6, b7, b8, b9, b10, x54, x55, x56, x57, x58, x59, x60, x61, x62, x63, gb, g9, c9, hL, rfl, hb, cd0, cd1, cd2, cd3, cd4, cd5, cd6, cd7, cd8, cd9, f_q, f_m, f_ot, f_bl, f_q7, f_r, f_ap, f_o, f_q77, f_q88, f_q1, f_q1s⟩
                have hL' : [true, true, true, true, true, true, true, true, true, true, true] = [b0, b1, b2, b3, b4, b5, b6, b7, b8, b9, b10] := congrArg Array.toList hL
                simp only [List.cons.injEq, and_true] at hL'
                obtain ⟨rfl, rfl, rfl, rfl, rfl, rfl, rfl, rfl, rfl, rfl, rfl⟩ := hL'
                obtain rfl := cd0.out rfl
                obtain rfl := cd1.out rfl
                obtain rfl := cd2.out rfl
                obtain rfl := cd3.out rfl
                obtain rfl := cd4.out rfl
                obtain rfl := cd5.out rfl
                obtain rfl := cd6.out rfl
                obtain rfl := cd7.out rfl
                obtain rfl := cd8.out rfl
                obtain rfl := cd9.out rfl
                have W_ot := f_ot.out
                have W_q7 := f_q7.out rfl
                have W_r := f_r.out rfl
                have W_ap := f_ap.out rfl
                have W_o := f_o.out rfl
                have W_q77 := f_q77.out rfl
                have W_q88 := f_q88.out rfl
                have W_q1 := f_q1.out rfl
                have W_q1s := f_q1s.out rfl
                clear hL f_q f_m f_ot f_bl f_q7 f_r f_ap f_o f_q77 f_q88 f_q1 f_q1s cd0 cd1 cd2 cd3 cd4 cd5 cd6 cd7 cd8 cd9
                simp only [List.setIfInBounds_toArray, List.set_cons_zero, List.set_cons_succ]
                have WT : WtAt V q (ML ++ [⟨s, t, x⟩]) OL := ⟨some ⟨g9, 0, none⟩, N, c9, ao2, n2, c2_, W_o, W_r, W_ot, (fun z hz e => by cases hz; exact W_ap _ e rfl)⟩
                have BV := BQ.trans (((Below.refl _ _).drew).trans hb)
                clear hb W_o W_r W_ot W_ap W_q77 W_q88 W_q7 W_q1 W_q1s
                go_wp2_with fail
                go_roundw
                case rel => exact ⟨j + 1, by omega, by go_num, by rw [hnx.out]; rw [hOLh.out] at WT; exact WT, BV⟩
                case measure => simp [intOf]; omega
          · have hlti : ¬ ((j : Int) < (hn : Int)) := by omega
            obtain rfl : j = hn := by omega
            rw [List.take_of_length_le (show H.length ≤ j by have := RDh.len; omega)] at WT
            have WT0 : WtAt wr q (wo H S) (wo (W.take 0) S) := WT
            have BU := BQ
            clear WT BQ
            go_wp2_with fail
            go_loopw [10] (fun zs wr => ∃ j : Nat, j ≤ wn ∧ zs = .int .i64 (j : Nat) ∧ WtAt wr q (wo H S) (wo (W.take j) S) ∧ Below q U wr) (fun zs _ => wn - (intOf zs).toNat)
            case atStart => exact ⟨0, by omega, rfl, WT0, BU⟩
            case round =>
              clear WT0 BU
              obtain ⟨j, hj, rfl, WT, BQ⟩ := hrel
              have XP := (BQ.block p hpq).trans XU
              have hznl := RDw.len
              obtain ⟨cp0, cp1⟩ := LkB.c XP
              by_cases hlt : j < wn
              · have hlti : (j : Int) < (wn : Int) := by omega
                obtain ⟨y, hy⟩ : ∃ y, W[j]? = some y := ⟨W[j]'(by have := RDw.len; omega), List.getElem?_eq_getElem _⟩
                obtain ⟨rb, roff, rfl, hrb, hrc⟩ := RDw.open (by omega) (by decide)
                have hrq : rb < q := gW (by omega) _ rfl
                obtain ⟨y0_, y1_, y2_⟩ := cells_hd hrc j y hy
                rw [← BQ.cell (show (⟨rb, roff + j * 3, none⟩ : Addr).block < q from hrq)] at y0_
                rw [← BQ.cell (show (⟨rb, roff + j * 3 + 1, none⟩ : Addr).block < q from hrq)] at y1_
                rw [← BQ.cell (show (⟨rb, roff + j * 3 + 2, none⟩ : Addr).block < q from hrq)] at y2_
                have hnw := Lib.hid (wo_take (s := S) hy)
                clear hrc hy
                obtain ⟨s, t, x⟩ := y
                simp only at y0_ y1_ y2_
                by_cases hsS : s = S
                · subst hsS
                  have hne : (s != s) = false := by simp
                  have hnx := hnw.out
                  rw [if_pos rfl, List.append_nil] at hnx
                  rw [← hnx] at WT
                  clear hnw hnx
                  go_wp2_with fail
                  go_roundw
                  case rel => exact ⟨j + 1, by omega, by go_num, WT, BQ⟩
                  case measure => simp [intOf]; omega
                · have hne : (s != S) = true := by simpa using hsS
                  have hnx := hnw.out
                  rw [if_neg hsS] at hnx
                  have hnx := Lib.hid hnx
                  clear hnw
                  go_upto_region 20 with fail
                  obtain ⟨ao1, n1, c1_, ao2, n2, c2_, XQ, T1, T2, AP0⟩ := WT
                  generalize wr = W7 at XP XQ T1 T2 BQ y0_ y1_ y2_ cp0 cp1 ⊢
                  obtain ⟨ML, hML⟩ : ∃ z_, z_ = wo (W.take j) S := ⟨_, rfl⟩
                  rw [← hML] at T2 hnx
                  obtain ⟨OL, hOL⟩ : ∃ z_, z_ = wo H S := ⟨_, rfl⟩
                  rw [← hOL] at T1
                  have hOLh := Lib.hid hOL
                  clear hOL
                  have TM := T2
                  have TO := T1
                  have AP : ∀ z, Go.Proofs.Ytckfkgmlifnfkaa.blk ao2 = some z → Go.Proofs.Ytckfkgmlifnfkaa.blk ao1 ≠ some z := fun z h1 h2 => AP0 z h2 h1
                  have hqW := XQ.lt
                  have hB0 : q ≤ W7.heap.size := Nat.le_of_lt hqW
                  have hB1 : q + 1 ≤ W7.heap.size := hqW
                  have hBq : q ≤ W7.heap.size := hB0
                  have hpB := hpq
                  have hrB := hrq
                  have cp := cp1
                  have hMl := TM.len
                  have hMl2 : ML.length ≤ 1000 := by
                    rw [hML]
                    have h1 := wo_length (W.take j) S
                    have h2 : (W.take j).length ≤ W.length := by rw [List.length_take]; omega
                    omega
                  obtain ⟨N, HN⟩ : ∃ N, n2 + 1 = N := ⟨_, rfl⟩
                  have hNm : N ≤ 1000000 := by omega
                  clear hML T1 T2 AP0 cp0 cp1
                  refine region_inv (FreeW1 q p q ao1 n1 c1_ ao2 n2 c2_ N rb roff wn wc j s t x ML OL) (by kernel_rfl) (by kernel_rfl) ?_ ?_ ?_
                  · exact ⟨false, false, false, false, false, false, false, false, false, false, false, u79, u80, u81, u82, u83, u84, u85, u86, u87, u88, 0, 0, 0, rfl, (by simp only [Act.put, List.setIfInBounds_toArray, List.set_cons_zero, List.set_cons_succ]), Below.refl _ _, (fun h => by cases h), (fun h => by cases h), (fun h => by cases h), (fun h => by cases h), (fun h => by cases h), (fun h => by cases h), (fun h => by cases h), (fun h => by cases h), (fun h => by cases h), (fun h => by cases h), (fun h1 => XQ.past (Below.refl _ _).drew), (fun h1 => TM.past (Below.refl _ _).drew), (TO.past (Below.refl _ _).drew), (fun h => by cases h), (fun h => by cases h), (fun h => by cases h), (fun h => by cases h), (fun h => by cases h), (fun h => by cases h), (fun h => by cases h), (fun h => by cases h), (fun h => by cases h)⟩
                  · refine ⟨?_, ?_, ?_, ?_, ?_, ?_, ?_, ?_, ?_, ?_, ?_, trivial⟩
                    · rintro L a w ⟨b0, b1, b2, b3, b4, b5, b6, b7, b8, b9, b10, x79, x80, x81, x82, x83, x84, x85, x86, x87, x88, gb, g9, c9, rfl, rfl, hb, cd0, cd1, cd2, cd3, cd4, cd5, cd6, cd7, cd8, cd9, f_q, f_m, f_ot, f_bl, f_q7, f_r, f_ap, f_o, f_q77, f_q88, f_q1, f_q1s⟩ hf hd
                      have hf' : b0 = false := hf
                      subst hf'
                      clear hf hd
                      have W_ot := f_ot.out
                      try simp only [List.setIfInBounds_toArray, List.set_cons_zero, List.set_cons_succ]
                      intro K hK
                      rw [if_pos (by rfl)]
                      go_simp
                      exact hK.out _ _ ⟨true, b1, b2, b3, b4, b5, b6, b7, b8, b9, b10, (.pointer (some ⟨q, 1, none⟩)), x80, x81, x82, x83, x84, x85, x86, x87, x88, gb, g9, c9, (by simp only [Act.put, List.setIfInBounds_toArray, List.set_cons_zero, List.set_cons_succ]), (by simp only [Act.put, List.setIfInBounds_toArray, List.set_cons_zero, List.set_cons_succ]), hb, (fun _ => rfl), cd1, cd2, cd3, cd4, cd5, cd6, cd7, cd8, cd9, f_q, f_m, f_ot, f_bl, f_q7, f_r, f_ap, f_o, f_q77, f_q88, f_q1, f_q1s⟩
                    · rintro L a w ⟨b0, b1, b2, b3, b4, b5, b6, b7, b8, b9, b10, x79, x80, x81, x82, x83, x84, x85, x86, x87, x88, gb, g9, c9, rfl, rfl, hb, cd0, cd1, cd2, cd3, cd4, cd5, cd6, cd7, cd8, cd9, f_q, f_m, f_ot, f_bl, f_q7, f_r, f_ap, f_o, f_q77, f_q88, f_q1, f_q1s⟩ hf hd
                      have hf' : b1 = false := hf
                      subst hf'
                      have d0 : b0 = true := hd ⟨0, .data⟩ (by simp) rfl
                      subst d0
                      obtain rfl := cd0.out rfl
                      clear hf hd
                      have W_ot := f_ot.out
                      try simp only [List.setIfInBounds_toArray, List.set_cons_zero, List.set_cons_succ]
                      have e_q : b10 = false := by cases hq : b10 with | false => rfl | true => exact absurd (f_q1s.out hq) (by simp)
                      have W_q := f_q.out e_q
                      obtain ⟨z0, z1⟩ := W_q.c
                      intro K hK
                      rw [if_pos (by rfl)]
                      go_simp
                      exact hK.out _ _ ⟨true, true, b2, b3, b4, b5, b6, b7, b8, b9, b10, .pointer (some ⟨q, 1, none⟩), (.slice ao2 n2 c2_), x81, x82, x83, x84, x85, x86, x87, x88, gb, g9, c9, (by simp only [Act.put, List.setIfInBounds_toArray, List.set_cons_zero, List.set_cons_succ]), (by simp only [Act.put, List.setIfInBounds_toArray, List.set_cons_zero, List.set_cons_succ]), hb, (fun _ => rfl), (fun _ => rfl), cd2, cd3, cd4, cd5, cd6, cd7, cd8, cd9, f_q, f_m, f_ot, f_bl, f_q7, f_r, f_ap, f_o, f_q77, f_q88, (fun _ => rfl), (fun _ => rfl)⟩
                    · rintro L a w ⟨b0, b1, b2, b3, b4, b5, b6, b7, b8, b9, b10, x79, x80, x81, x82, x83, x84, x85, x86, x87, x88, gb, g9, c9, rfl, rfl, hb, cd0, cd1, cd2, cd3, cd4, cd5, cd6, cd7, cd8, cd9, f_q, f_m, f_ot, f_bl, f_q7, f_r, f_ap, f_o, f_q77, f_q88, f_q1, f_q1s⟩ hf hd
                      have hf' : b2 = false := hf
                      subst hf'
                      clear hf hd
                      have W_ot := f_ot.out
                      try simp only [List.setIfInBounds_toArray, List.set_cons_zero, List.set_cons_succ]
                      intro K hK
                      rw [if_pos (by rfl)]
                      go_simp
                      exact hK.out _ _ ⟨b0, b1, true, b3, b4, b5, b6, b7, b8, b9, b10, x79, x80, (.pointer (some ⟨p, 1, none⟩)), x82, x83, x84, x85, x86, x87, x88, gb, g9, c9, (by simp only [Act.put, List.setIfInBounds_toArray, List.set_cons_zero, List.set_cons_succ]), (by simp only [Act.put, List.setIfInBounds_toArray, List.set_cons_zero, List.set_cons_succ]), hb, cd0, cd1, (fun _ => rfl), cd3, cd4, cd5, cd6, cd7, cd8, cd9, f_q, f_m, f_ot, f_bl, f_q7, f_r, f_ap, f_o, f_q77, f_q88, f_q1, f_q1s⟩
                    · rintro L a w ⟨b0, b1, b2, b3, b4, b5, b6, b7, b8, b9, b10, x79, x80, x81, x82, x83, x84, x85, x86, x87, x88, gb, g9, c9, rfl, rfl, hb, cd0, cd1, cd2, cd3, cd4, cd5, cd6, cd7, cd8, cd9, f_q, f_m, f_ot, f_bl, f_q7, f_r, f_ap, f_o, f_q77, f_q88, f_q1, f_q1s⟩ hf hd
                      have hf' : b3 = false := hf
                      subst hf'
                      have d2 : b2 = true := hd ⟨2, .data⟩ (by simp) rfl
                      subst d2
                      obtain rfl := cd2.out rfl
                      clear hf hd
                      have W_ot := f_ot.out
                      try simp only [List.setIfInBounds_toArray, List.set_cons_zero, List.set_cons_succ]
                      have z0 := (hb.cell hpB).trans cp
                      intro K hK
                      rw [if_pos (by rfl)]
                      go_simp
                      exact hK.out _ _ ⟨b0, b1, true, true, b4, b5, b6, b7, b8, b9, b10, x79, x80, .pointer (some ⟨p, 1, none⟩), (.slice (some ⟨rb, roff, none⟩) wn wc), x83, x84, x85, x86, x87, x88, gb, g9, c9, (by simp only [Act.put, List.setIfInBounds_toArray, List.set_cons_zero, List.set_cons_succ]), (by simp only [Act.put, List.setIfInBounds_toArray, List.set_cons_zero, List.set_cons_succ]), hb, cd0, cd1, (fun _ => rfl), (fun _ => rfl), cd4, cd5, cd6, cd7, cd8, cd9, f_q, f_m, f_ot, f_bl, f_q7, f_r, f_ap, f_o, f_q77, f_q88, f_q1, f_q1s⟩
                    · rintro L a w ⟨b0, b1, b2, b3, b4, b5, b6, b7, b8, b9, b10, x79, x80, x81, x82, x83, x84, x85, x86, x87, x88, gb, g9, c9, rfl, rfl, hb, cd0, cd1, cd2, cd3, cd4, cd5, cd6, cd7, cd8, cd9, f_q, f_m, f_ot, f_bl, f_q7, f_r, f_ap, f_o, f_q77, f_q88, f_q1, f_q1s⟩ hf hd
                      have hf' : b4 = false := hf
                      subst hf'
                      clear hf hd
                      have W_ot := f_ot.out
                      try simp only [List.setIfInBounds_toArray, List.set_cons_zero, List.set_cons_succ]
                      intro K hK
                      rw [if_pos (by rfl)]
                      go_simp
                      exact hK.out _ _ ⟨b0, b1, b2, b3, true, b5, b6, b7, b8, b9, b10, x79, x80, x81, x82, (.int .i64 (j : Nat)), x84, x85, x86, x87, x88, gb, g9, c9, (by simp only [Act.put, List.setIfInBounds_toArray, List.set_cons_zero, List.set_cons_succ]), (by simp only [Act.put, List.setIfInBounds_toArray, List.set_cons_zero, List.set_cons_succ]), hb, cd0, cd1, cd2, cd3, (fun _ => rfl), cd5, cd6, cd7, cd8, cd9, f_q, f_m, f_ot, f_bl, f_q7, f_r, f_ap, f_o, f_q77, f_q88, f_q1, f_q1s⟩
                    · rintro L a w ⟨b0, b1, b2, b3, b4, b5, b6, b7, b8, b9, b10, x79, x80, x81, x82, x83, x84, x85, x86, x87, x88, gb, g9, c9, rfl, rfl, hb, cd0, cd1, cd2, cd3, cd4, cd5, cd6, cd7, cd8, cd9, f_q, f_m, f_ot, f_bl, f_q7, f_r, f_ap, f_o, f_q77, f_q88, f_q1, f_q1s⟩ hf hd
                      have hf' : b5 = false := hf
                      subst hf'
                      have d3 : b3 = true := hd ⟨3, .data⟩ (by simp) rfl
                      subst d3
                      have d4 : b4 = true := hd ⟨4, .data⟩ (by simp) rfl
                      subst d4
                      obtain rfl := cd3.out rfl
                      obtain rfl := cd4.out rfl
                      clear hf hd
                      have W_ot := f_ot.out
                      try simp only [List.setIfInBounds_toArray, List.set_cons_zero, List.set_cons_succ]
                      intro K hK
                      rw [if_pos (by rfl)]
                      go_simp
                      exact hK.out _ _ ⟨b0, b1, b2, true, true, true, b6, b7, b8, b9, b10, x79, x80, x81, .slice (some ⟨rb, roff, none⟩) wn wc, .int .i64 (j : Nat), (.pointer (some ⟨rb, roff + j * 3, none⟩)), x85, x86, x87, x88, gb, g9, c9, (by simp only [Act.put, List.setIfInBounds_toArray, List.set_cons_zero, List.set_cons_succ]), (by simp only [Act.put, List.setIfInBounds_toArray, List.set_cons_zero, List.set_cons_succ]), hb, cd0, cd1, cd2, (fun _ => rfl), (fun _ => rfl), (fun _ => rfl), cd6, cd7, cd8, cd9, f_q, f_m, f_ot, f_bl, f_q7, f_r, f_ap, f_o, f_q77, f_q88, f_q1, f_q1s⟩
                    · rintro L a w ⟨b0, b1, b2, b3, b4, b5, b6, b7, b8, b9, b10, x79, x80, x81, x82, x83, x84, x85, x86, x87, x88, gb, g9, c9, rfl, rfl, hb, cd0, cd1, cd2, cd3, cd4, cd5, cd6, cd7, cd8, cd9, f_q, f_m, f_ot, f_bl, f_q7, f_r, f_ap, f_o, f_q77, f_q88, f_q1, f_q1s⟩ hf hd
                      have hf' : b6 = false := hf
                      subst hf'
                      have d5 : b5 = true := hd ⟨5, .data⟩ (by simp) rfl
                      subst d5
                      obtain rfl := cd5.out rfl
                      clear hf hd
                      have W_ot := f_ot.out
                      try simp only [List.setIfInBounds_toArray, List.set_cons_zero, List.set_cons_succ]
                      have z0 := (hb.cell hrB).trans y0_
                      have z1 := (hb.cell hrB).trans y1_
                      have z2 := (hb.cell hrB).trans y2_
                      intro K hK
                      rw [if_pos (by rfl)]
                      go_simp
                      exact hK.out _ _ ⟨b0, b1, b2, b3, b4, true, true, b7, b8, b9, b10, x79, x80, x81, x82, x83, .pointer (some ⟨rb, roff + j * 3, none⟩), (.agg #[.int .i64 s, .string (bsOf t), .bool x]), x86, x87, x88, gb, g9, c9, (by simp only [Act.put, List.setIfInBounds_toArray, List.set_cons_zero, List.set_cons_succ]), (by simp only [Act.put, List.setIfInBounds_toArray, List.set_cons_zero, List.set_cons_succ]), hb, cd0, cd1, cd2, cd3, cd4, (fun _ => rfl), (fun _ => rfl), cd7, cd8, cd9, f_q, f_m, f_ot, f_bl, f_q7, f_r, f_ap, f_o, f_q77, f_q88, f_q1, f_q1s⟩
                    · rintro L a w ⟨b0, b1, b2, b3, b4, b5, b6, b7, b8, b9, b10, x79, x80, x81, x82, x83, x84, x85, x86, x87, x88, gb, g9, c9, rfl, rfl, hb, cd0, cd1, cd2, cd3, cd4, cd5, cd6, cd7, cd8, cd9, f_q, f_m, f_ot, f_bl, f_q7, f_r, f_ap, f_o, f_q77, f_q88, f_q1, f_q1s⟩ hf hd
                      have hf' : b7 = false := hf
                      subst hf'
                      have d6 : b6 = true := hd ⟨6, .data⟩ (by simp) rfl
                      subst d6
                      obtain rfl := cd6.out rfl
                      clear hf hd
                      have W_ot := f_ot.out
                      try simp only [List.setIfInBounds_toArray, List.set_cons_zero, List.set_cons_succ]
                      intro K hK
                      rw [if_pos (by rfl)]
                      refine wp_buildSlice_one 94 101 _ rfl (Hd.cells (⟨s, t, x⟩ : Hd)) 3 rfl rfl (by omega) (by omega) Try.underlying94 hd_inf' fun w5 hB5 bq5 sq5 => ?_
                      have bx := bq5
                      exact hK.out _ _ ⟨b0, b1, b2, b3, b4, b5, true, true, b8, b9, b10, x79, x80, x81, x82, x83, x84, .agg #[.int .i64 s, .string (bsOf t), .bool x], (.slice (some ⟨(w.heap.size), 0, none⟩) 1 1), x87, x88, w.heap.size, g9, c9, (by simp only [Act.put, List.setIfInBounds_toArray, List.set_cons_zero, List.set_cons_succ]), (by simp only [Act.put, List.setIfInBounds_toArray, List.set_cons_zero, List.set_cons_succ]), hb.trans (bx.mono (Nat.le_trans hB0 hb.size)), cd0, cd1, cd2, cd3, cd4, cd5, (fun _ => rfl), (fun _ => rfl), cd8, cd9, (fun h1 => (f_q.out h1).past bx), (fun h1 => (f_m.out h1).past bx), (f_ot.out.past bx), (fun _ _ => OwnR.ofBlk hB5 rfl rfl (by omega)), (fun _ => rfl), (fun h0 => absurd (f_q7.out h0) (by simp)), (fun h0 => absurd (f_q7.out h0) (by simp)), (fun h0 => absurd (f_q77.out h0) (by simp)), (fun _ => rfl), f_q88, f_q1, f_q1s⟩
                    · rintro L a w ⟨b0, b1, b2, b3, b4, b5, b6, b7, b8, b9, b10, x79, x80, x81, x82, x83, x84, x85, x86, x87, x88, gb, g9, c9, rfl, rfl, hb, cd0, cd1, cd2, cd3, cd4, cd5, cd6, cd7, cd8, cd9, f_q, f_m, f_ot, f_bl, f_q7, f_r, f_ap, f_o, f_q77, f_q88, f_q1, f_q1s⟩ hf hd
                      have hf' : b8 = false := hf
                      subst hf'
                      have d1 : b1 = true := hd ⟨1, .data⟩ (by simp) rfl
                      subst d1
                      have d7 : b7 = true := hd ⟨7, .data⟩ (by simp) rfl
                      subst d7
                      obtain rfl := cd1.out rfl
                      obtain rfl := cd7.out rfl
                      clear hf hd
                      have W_m := f_m.out rfl
                      have W_ot := f_ot.out
                      have W_bl := f_bl.out rfl rfl
                      try simp only [List.setIfInBounds_toArray, List.set_cons_zero, List.set_cons_succ]
                      intro K hK
                      rw [if_pos (by rfl)]
                      refine wp_append_r _ _ 94 94 rfl rowTyHd rfl W_m (Nat.le_trans hB1 hb.size) _ rfl 1 [(⟨s, t, x⟩ : Hd)] (W_bl.isR.src Try.underlying94) rfl (by omega) N HN _ rfl hNm ?_
                      intro g10 c10 w2 o10 gr10 q10 bq10
                      have hb2 := hb.trans (bq10.mono (Nat.le_succ q))
                      have neq : some q ≠ Go.Proofs.Ytckfkgmlifnfkaa.blk ao2 := by have h0 := W_m.from'; intro e; have := h0 q e.symm; omega
                      have apP : ∀ z, Go.Proofs.Ytckfkgmlifnfkaa.blk ao1 = some z → z ≠ g10 := fun z hz e => by
                        subst e
                        rcases q10 with h | h
                        · exact AP z h hz
                        · have := W_ot.lt z hz; omega
                      exact hK.out _ _ ⟨b0, true, b2, b3, b4, b5, b6, true, true, b9, b10, x79, .slice ao2 n2 c2_, x81, x82, x83, x84, x85, .slice (some ⟨gb, 0, none⟩) 1 1, (.slice (some ⟨g10, 0, none⟩) N c10), x88, gb, g10, c10, (by simp only [Act.put, List.setIfInBounds_toArray, List.set_cons_zero, List.set_cons_succ]), (by simp only [Act.put, List.setIfInBounds_toArray, List.set_cons_zero, List.set_cons_succ]), hb2, cd0, (fun _ => rfl), cd2, cd3, cd4, cd5, cd6, (fun _ => rfl), (fun _ => rfl), cd9, (fun h1 => (gr10.block q ((f_q.out h1)).lt neq).trans ((f_q.out h1))), (fun h => by cases h), ((f_ot.out).grown gr10 (fun z hz e => AP z e hz)), (fun _ h => by cases h), (fun _ => rfl), (fun _ => o10), (fun _ => apP), (fun h0 => absurd (f_q88.out h0) (by simp)), f_q77, (fun _ => rfl), (fun _ => rfl), f_q1s⟩
                    · rintro L a w ⟨b0, b1, b2, b3, b4, b5, b6, b7, b8, b9, b10, x79, x80, x81, x82, x83, x84, x85, x86, x87, x88, gb, g9, c9, rfl, rfl, hb, cd0, cd1, cd2, cd3, cd4, cd5, cd6, cd7, cd8, cd9, f_q, f_m, f_ot, f_bl, f_q7, f_r, f_ap, f_o, f_q77, f_q88, f_q1, f_q1s⟩ hf hd
                      have hf' : b9 = false := hf
                      subst hf'
                      have d0 : b0 = true := hd ⟨0, .phase⟩ (by simp) rfl
                      subst d0
                      have d1 : b1 = true := hd ⟨1, .phase⟩ (by simp) rfl
                      subst d1
                      have d2 : b2 = true := hd ⟨2, .phase⟩ (by simp) rfl
                      subst d2
                      have d3 : b3 = true := hd ⟨3, .phase⟩ (by simp) rfl
                      subst d3
                      have d4 : b4 = true := hd ⟨4, .phase⟩ (by simp) rfl
                      subst d4
                      have d5 : b5 = true := hd ⟨5, .phase⟩ (by simp) rfl
                      subst d5
                      have d6 : b6 = true := hd ⟨6, .phase⟩ (by simp) rfl
                      subst d6
                      have d7 : b7 = true := hd ⟨7, .phase⟩ (by simp) rfl
                      subst d7
                      have d8 : b8 = true := hd ⟨8, .phase⟩ (by simp) rfl
                      subst d8
                      obtain rfl := cd0.out rfl
                      obtain rfl := cd1.out rfl
                      obtain rfl := cd2.out rfl
                      obtain rfl := cd3.out rfl
                      obtain rfl := cd4.out rfl
                      obtain rfl := cd5.out rfl
                      obtain rfl := cd6.out rfl
                      obtain rfl := cd7.out rfl
                      obtain rfl := cd8.out rfl
                      clear hf hd
                      have W_ot := f_ot.out
                      have W_q7 := f_q7.out rfl
                      have W_r := f_r.out rfl
                      have W_ap := f_ap.out rfl
                      have W_q1 := f_q1.out rfl
                      try simp only [List.setIfInBounds_toArray, List.set_cons_zero, List.set_cons_succ]
                      intro K hK
                      rw [if_pos (by rfl)]
                      go_simp
                      exact hK.out _ _ ⟨true, true, true, true, true, true, true, true, true, true, b10, .pointer (some ⟨q, 1, none⟩), .slice ao2 n2 c2_, .pointer (some ⟨p, 1, none⟩), .slice (some ⟨rb, roff, none⟩) wn wc, .int .i64 (j : Nat), .pointer (some ⟨rb, roff + j * 3, none⟩), .agg #[.int .i64 s, .string (bsOf t), .bool x], .slice (some ⟨gb, 0, none⟩) 1 1, .slice (some ⟨g9, 0, none⟩) N c9, (.pointer (some ⟨q, 1, none⟩)), gb, g9, c9, (by simp only [Act.put, List.setIfInBounds_toArray, List.set_cons_zero, List.set_cons_succ]), (by simp only [Act.put, List.setIfInBounds_toArray, List.set_cons_zero, List.set_cons_succ]), hb, (fun _ => rfl), (fun _ => rfl), (fun _ => rfl), (fun _ => rfl), (fun _ => rfl), (fun _ => rfl), (fun _ => rfl), (fun _ => rfl), (fun _ => rfl), (fun _ => rfl), f_q, (fun h => by cases h), f_ot, (fun _ h => by cases h), f_q7, f_r, f_ap, f_o, f_q77, f_q88, f_q1, f_q1s⟩
                    · rintro L a w ⟨b0, b1, b2, b3, b4, b5, b6, b7, b8, b9, b10, x79, x80, x81, x82, x83, x84, x85, x86, x87, x88, gb, g9, c9, rfl, rfl, hb, cd0, cd1, cd2, cd3, cd4, cd5, cd6, cd7, cd8, cd9, f_q, f_m, f_ot, f_bl, f_q7, f_r, f_ap, f_o, f_q77, f_q88, f_q1, f_q1s⟩ hf hd
                      have hf' : b10 = false := hf
                      subst hf'
                      have d9 : b9 = true := hd ⟨9, .data⟩ (by simp) rfl
                      subst d9
                      have d8 : b8 = true := hd ⟨8, .data⟩ (by simp) rfl
                      subst d8
                      have d0 : b0 = true := hd ⟨0, .phase⟩ (by simp) rfl
                      subst d0
                      have d1 : b1 = true := hd ⟨1, .phase⟩ (by simp) rfl
                      subst d1
                      have d2 : b2 = true := hd ⟨2, .phase⟩ (by simp) rfl
                      subst d2
                      have d3 : b3 = true := hd ⟨3, .phase⟩ (by simp) rfl
                      subst d3
                      have d4 : b4 = true := hd ⟨4, .phase⟩ (by simp) rfl
                      subst d4
                      have d5 : b5 = true := hd ⟨5, .phase⟩ (by simp) rfl
                      subst d5
                      have d6 : b6 = true := hd ⟨6, .phase⟩ (by simp) rfl
                      subst d6
                      have d7 : b7 = true := hd ⟨7, .phase⟩ (by simp) rfl
                      subst d7
                      obtain rfl := cd9.out rfl
                      obtain rfl := cd8.out rfl
                      obtain rfl := cd0.out rfl
                      obtain rfl := cd1.out rfl
                      obtain rfl := cd2.out rfl
                      obtain rfl := cd3.out rfl
                      obtain rfl := cd4.out rfl
                      obtain rfl := cd5.out rfl
                      obtain rfl := cd6.out rfl
                      obtain rfl := cd7.out rfl
                      clear hf hd
                      have W_q := f_q.out rfl
                      have W_ot := f_ot.out
                      have W_q7 := f_q7.out rfl
                      have W_r := f_r.out rfl
                      have W_ap := f_ap.out rfl
                      have W_q1 := f_q1.out rfl
                      try simp only [List.setIfInBounds_toArray, List.set_cons_zero, List.set_cons_succ]
                      intro K hK
                      rw [if_pos (by rfl)]
                      obtain ⟨z0, z1⟩ := W_q.c
                      obtain ⟨f0, f1⟩ := W_q.free
                      go_simp
                      have g8 := set1_grown w q 1 (.slice (some ⟨g9, 0, none⟩) N c9)
                      have hb2 := hb.grown g8 (Nat.le_trans hBq hb.size) (fun z hz => by cases hz; exact Nat.le_refl _)
                      have po := W_q.put1 (some ⟨g9, 0, none⟩) N c9
                      exact hK.out _ _ ⟨true, true, true, true, true, true, true, true, true, true, true, .pointer (some ⟨q, 1, none⟩), .slice ao2 n2 c2_, .pointer (some ⟨p, 1, none⟩), .slice (some ⟨rb, roff, none⟩) wn wc, .int .i64 (j : Nat), .pointer (some ⟨rb, roff + j * 3, none⟩), .agg #[.int .i64 s, .string (bsOf t), .bool x], .slice (some ⟨gb, 0, none⟩) 1 1, .slice (some ⟨g9, 0, none⟩) N c9, .pointer (some ⟨q, 1, none⟩), gb, g9, c9, (by simp only [Act.put, List.setIfInBounds_toArray, List.set_cons_zero, List.set_cons_succ]), (by simp only [Act.put, List.setIfInBounds_toArray, List.set_cons_zero, List.set_cons_succ]), hb2, (fun _ => rfl), (fun _ => rfl), (fun _ => rfl), (fun _ => rfl), (fun _ => rfl), (fun _ => rfl), (fun _ => rfl), (fun _ => rfl), (fun _ => rfl), (fun _ => rfl), (fun h => by cases h), (fun h => by cases h), ((f_ot.out).farT W_q (by decide) g8), (fun _ h => by cases h), f_q7, (fun h0 => ((f_r.out h0)).farT W_q (by decide) g8), f_ap, (fun _ => po), (fun _ => rfl), (fun _ => rfl), f_q1, (fun _ => rfl)⟩
                  · rintro act V ⟨b0, b1, b2, b3, b4, b5, b6, b7, b8, b9, b10, x79, x80, x81, x82, x83, x84, x85, x86, x87, x88, gb, g9, c9, hL, rfl, hb, cd0, cd1, cd2, cd3, cd4, cd5, cd6, cd7, cd8, cd9, f_q, f_m, f_ot, f_bl, f_q7, f_r, f_ap, f_o, f_q77, f_q88, f_q1, f_q1s⟩
                    have hL' : [true, true, true, true, true, true, true, true, true, true, true] = [b0, b1, b2, b3, b4, b5, b6, b7, b8, b9, b10] := congrArg Array.toList hL
                    simp only [List.cons.injEq, and_true] at hL'
                    obtain ⟨rfl, rfl, rfl, rfl, rfl, rfl, rfl, rfl, rfl, rfl, rfl⟩ := hL'
                    obtain rfl := cd0.out rfl
                    obtain rfl := cd1.out rfl
                    obtain rfl := cd2.out rfl
                    obtain rfl := cd3.out rfl
                    obtain rfl := cd4.out rfl
                    obtain rfl := cd5.out rfl
                    obtain rfl := cd6.out rfl
                    obtain rfl := cd7.out rfl
                    obtain rfl := cd8.out rfl
                    obtain rfl := cd9.out rfl
                    have W_ot := f_ot.out
                    have W_q7 := f_q7.out rfl
                    have W_r := f_r.out rfl
                    have W_ap := f_ap.out rfl
                    have W_o := f_o.out rfl
                    have W_q77 := f_q77.out rfl
                    have W_q88 := f_q88.out rfl
                    have W_q1 := f_q1.out rfl
                    have W_q1s := f_q1s.out rfl
                    clear hL f_q f_m f_ot f_bl f_q7 f_r f_ap f_o f_q77 f_q88 f_q1 f_q1s cd0 cd1 cd2 cd3 cd4 cd5 cd6 cd7 cd8 cd9
                    simp only [List.setIfInBounds_toArray, List.set_cons_zero, List.set_cons_succ]
                    have WT : WtAt V q OL (ML ++ [⟨s, t, x⟩]) := ⟨ao1, n1, c1_, some ⟨g9, 0, none⟩, N, c9, W_o, W_ot, W_r, (fun z hz e => by cases e; exact W_ap _ hz rfl)⟩
                    have BV := BQ.trans (((Below.refl _ _).drew).trans hb)
                    clear hb W_o W_r W_ot W_ap W_q77 W_q88 W_q7 W_q1 W_q1s
                    go_wp2_with fail
                    go_roundw
                    case rel => exact ⟨j + 1, by omega, by go_num, by rw [hnx.out]; rw [hOLh.out] at WT; exact WT, BV⟩
                    case measure => simp [intOf]; omega
              · have hlti : ¬ ((j : Int) < (wn : Int)) := by omega
                obtain rfl : j = wn := by omega
                rw [List.take_of_length_le (show W.length ≤ j by have := RDw.len; omega)] at WT
                obtain ⟨ao1, n1, c1_, ao2, n2, c2_, XQ, T1, T2, AP0⟩ := WT
                have XB : LkB wr r bo bn bc vo vn vc 96 := (BQ.block r hrq0).trans XBU
                have k1 := RB1.belowB BQ gB1
                have k2 := RB2.belowB BQ gB2
                have BZ := B5.trans (BQ.mono hp0q)
                go_upto_region 21 with fail
                generalize wr = W9 at XQ T1 T2 XB k1 k2 BZ ⊢
                obtain ⟨b0_, b1_⟩ := XB.c
                obtain ⟨w0_, w1_⟩ := XQ.c
                have hrB := XB.lt
                have hqB := XQ.lt
                have hZ0 : p0 ≤ W9.heap.size := Nat.le_trans hp0q (Nat.le_of_lt hqB)
                have hB0 : W9.heap.size ≤ W9.heap.size := Nat.le_refl _
                obtain ⟨H1, hH1⟩ : ∃ z_, z_ = wo H S := ⟨_, rfl⟩
                obtain ⟨W1, hW1⟩ : ∃ z_, z_ = wo W S := ⟨_, rfl⟩
                have f1 : wo H1 S = H1 := by rw [hH1, wo_wo]
                have f2 : wo W1 S = W1 := by rw [hW1, wo_wo]
                have hl1 : H1.length ≤ 100000 := by rw [hH1]; have := wo_length H S; have := hG.out.lenH; omega
                have hl2 : W1.length ≤ 100000 := by rw [hW1]; have := wo_length W S; have := hG.out.lenW; omega
                rw [← hH1] at T1 k1
                rw [← hW1] at T2 k2
                have HS1 := fun (w' : World) (hb : Below W9.heap.size W9.drew w') => same_lk1 w' bo bn bc vo vn vc ao1 n1 c1_ ao2 n2 c2_ H1 W1 (k1.drew.past hb) (k2.drew.past hb) ((T1.past (Below.refl _ _).drew).past hb).isR ((T2.past (Below.refl _ _).drew).past hb).isR
                have HS2 := fun (w' : World) (qo : Option Addr) (qn qc : Nat) (ro : Option Addr) (rn rc : Nat) (hb : Below W9.heap.size W9.drew w') (hr : RdB w' 0 qo qn qc ro rn rc H1 W1) => same_lk1 w' qo qn qc ro rn rc bo bn bc vo vn vc H1 W1 hr.h hr.w (k1.drew.past hb) (k2.drew.past hb)
                have HF := fun (w' : World) (hb : Below W9.heap.size W9.drew w') => free_any w' (lkV bo bn bc vo vn vc) H1 W1 ⟨_, _, _, _, _, _, rfl, k1.drew.past hb, k2.drew.past hb⟩ hl1 hl2 S
                unfold lkV at HF
                simp only [f1, f2] at HF
                clear f1 f2 hl1 hl2 hH1 hW1 k1 k2 T1 T2 AP0
                refine region_inv (Free21 W9.heap.size r q bo bn bc vo vn vc ao1 n1 c1_ ao2 n2 c2_ S H1 W1) (by kernel_rfl) (by kernel_rfl) ?_ ?_ ?_
                · exact ⟨false, false, false, false, false, false, false, false, false, false, false, undef, undef, undef, undef, undef, undef, undef, undef, undef, undef, .bool false, none, 0, 0, none, 0, 0, rfl, (by simp only [Act.put, List.setIfInBounds_toArray, List.set_cons_zero, List.set_cons_succ]), Below.refl _ _, (fun h => by cases h), (fun h => by cases h), (fun h => by cases h), (fun h => by cases h), (fun h => by cases h), (fun h => by cases h), (fun h => by cases h), (fun h => by cases h), (fun h => by cases h), (fun h => by cases h), (fun h => by cases h), (fun h => by cases h)⟩
                · refine ⟨?_, ?_, ?_, ?_, ?_, ?_, ?_, ?_, ?_, ?_, ?_, trivial⟩
                  · rintro L a w ⟨b0, b1, b2, b3, b4, b5, b6, b7, b8, b9, b10, x89, x90, x91, x92, x93, x94, x95, x96, x97, x98, x4, qo, qn, qc, ro, rn, rc, rfl, rfl, hb, cd0, cd1, cd2, cd3, cd4, cd5, cd6, cd7, cd8, cd9, cd10, f_r⟩ hf hd
                    have hf' : b0 = false := hf
                    subst hf'
                    clear hf hd
                    try simp only [List.setIfInBounds_toArray, List.set_cons_zero, List.set_cons_succ]
                    have z0 := (hb.cell hrB).trans b0_
                    have z1 := (hb.cell hrB).trans b1_
                    intro K hK
                    rw [if_pos (by rfl)]
                    go_simp
                    exact hK.out _ _ ⟨true, b1, b2, b3, b4, b5, b6, b7, b8, b9, b10, (.agg #[.slice bo bn bc, .slice vo vn vc]), x90, x91, x92, x93, x94, x95, x96, x97, x98, x4, qo, qn, qc, ro, rn, rc, (by simp only [Act.put, List.setIfInBounds_toArray, List.set_cons_zero, List.set_cons_succ]), (by simp only [Act.put, List.setIfInBounds_toArray, List.set_cons_zero, List.set_cons_succ]), hb, (fun _ => rfl), cd1, cd2, cd3, cd4, cd5, cd6, cd7, cd8, cd9, cd10, f_r⟩
                  · rintro L a w ⟨b0, b1, b2, b3, b4, b5, b6, b7, b8, b9, b10, x89, x90, x91, x92, x93, x94, x95, x96, x97, x98, x4, qo, qn, qc, ro, rn, rc, rfl, rfl, hb, cd0, cd1, cd2, cd3, cd4, cd5, cd6, cd7, cd8, cd9, cd10, f_r⟩ hf hd
                    have hf' : b1 = false := hf
                    subst hf'
                    clear hf hd
                    try simp only [List.setIfInBounds_toArray, List.set_cons_zero, List.set_cons_succ]
                    have z0 := (hb.cell hqB).trans w0_
                    have z1 := (hb.cell hqB).trans w1_
                    intro K hK
                    rw [if_pos (by rfl)]
                    go_simp
                    exact hK.out _ _ ⟨b0, true, b2, b3, b4, b5, b6, b7, b8, b9, b10, x89, (.agg #[.slice ao1 n1 c1_, .slice ao2 n2 c2_]), x91, x92, x93, x94, x95, x96, x97, x98, x4, qo, qn, qc, ro, rn, rc, (by simp only [Act.put, List.setIfInBounds_toArray, List.set_cons_zero, List.set_cons_succ]), (by simp only [Act.put, List.setIfInBounds_toArray, List.set_cons_zero, List.set_cons_succ]), hb, cd0, (fun _ => rfl), cd2, cd3, cd4, cd5, cd6, cd7, cd8, cd9, cd10, f_r⟩
                  · rintro L a w ⟨b0, b1, b2, b3, b4, b5, b6, b7, b8, b9, b10, x89, x90, x91, x92, x93, x94, x95, x96, x97, x98, x4, qo, qn, qc, ro, rn, rc, rfl, rfl, hb, cd0, cd1, cd2, cd3, cd4, cd5, cd6, cd7, cd8, cd9, cd10, f_r⟩ hf hd
                    have hf' : b2 = false := hf
                    subst hf'
                    have d0 : b0 = true := hd ⟨0, .data⟩ (by simp) rfl
                    subst d0
                    have d1 : b1 = true := hd ⟨1, .data⟩ (by simp) rfl
                    subst d1
                    obtain rfl := cd0.out rfl
                    obtain rfl := cd1.out rfl
                    clear hf hd
                    try simp only [List.setIfInBounds_toArray, List.set_cons_zero, List.set_cons_succ]
                    intro K hK
                    rw [if_pos (by rfl)]
                    go_simp
                    go_at_call 66
                    refine (HS1 _ hb).mono ?_
                    rintro e w' ⟨rfl, bx⟩
                    exact hK.out _ _ ⟨true, true, true, b3, b4, b5, b6, b7, b8, b9, b10, .agg #[.slice bo bn bc, .slice vo vn vc], .agg #[.slice ao1 n1 c1_, .slice ao2 n2 c2_], (.bool true), x92, x93, x94, x95, x96, x97, x98, x4, qo, qn, qc, ro, rn, rc, (by simp only [Act.put, List.setIfInBounds_toArray, List.set_cons_zero, List.set_cons_succ]), (by simp only [Act.put, List.setIfInBounds_toArray, List.set_cons_zero, List.set_cons_succ]), hb.trans (bx.mono (Nat.le_trans hB0 hb.size)), (fun _ => rfl), (fun _ => rfl), (fun _ => rfl), cd3, cd4, cd5, cd6, cd7, cd8, cd9, cd10, (fun h0 => (f_r.out h0).past bx)⟩
                  · rintro L a w ⟨b0, b1, b2, b3, b4, b5, b6, b7, b8, b9, b10, x89, x90, x91, x92, x93, x94, x95, x96, x97, x98, x4, qo, qn, qc, ro, rn, rc, rfl, rfl, hb, cd0, cd1, cd2, cd3, cd4, cd5, cd6, cd7, cd8, cd9, cd10, f_r⟩ hf hd
                    have hf' : b3 = false := hf
                    subst hf'
                    have d2 : b2 = true := hd ⟨2, .data⟩ (by simp) rfl
                    subst d2
                    obtain rfl := cd2.out rfl
                    clear hf hd
                    try simp only [List.setIfInBounds_toArray, List.set_cons_zero, List.set_cons_succ]
                    intro K hK
                    rw [if_pos (by rfl)]
                    go_simp
                    exact hK.out _ _ ⟨b0, b1, true, true, b4, b5, b6, b7, b8, b9, b10, x89, x90, .bool true, (.bool true), x93, x94, x95, x96, x97, x98, x4, qo, qn, qc, ro, rn, rc, (by simp only [Act.put, List.setIfInBounds_toArray, List.set_cons_zero, List.set_cons_succ]), (by simp only [Act.put, List.setIfInBounds_toArray, List.set_cons_zero, List.set_cons_succ]), hb, cd0, cd1, (fun _ => rfl), (fun _ => rfl), cd4, cd5, cd6, cd7, cd8, cd9, cd10, f_r⟩
                  · rintro L a w ⟨b0, b1, b2, b3, b4, b5, b6, b7, b8, b9, b10, x89, x90, x91, x92, x93, x94, x95, x96, x97, x98, x4, qo, qn, qc, ro, rn, rc, rfl, rfl, hb, cd0, cd1, cd2, cd3, cd4, cd5, cd6, cd7, cd8, cd9, cd10, f_r⟩ hf hd
                    have hf' : b4 = false := hf
                    subst hf'
                    have d3 : b3 = true := hd ⟨3, .guard⟩ (by simp) rfl
                    subst d3
                    obtain rfl := cd3.out rfl
                    clear hf hd
                    try simp only [List.setIfInBounds_toArray, List.set_cons_zero, List.set_cons_succ]
                    have z0 := (hb.cell hrB).trans b0_
                    have z1 := (hb.cell hrB).trans b1_
                    intro K hK
                    rw [if_pos (by rfl)]
                    go_simp
                    exact hK.out _ _ ⟨b0, b1, b2, true, true, b5, b6, b7, b8, b9, b10, x89, x90, x91, .bool true, (.agg #[.slice bo bn bc, .slice vo vn vc]), x94, x95, x96, x97, x98, x4, qo, qn, qc, ro, rn, rc, (by simp only [Act.put, List.setIfInBounds_toArray, List.set_cons_zero, List.set_cons_succ]), (by simp only [Act.put, List.setIfInBounds_toArray, List.set_cons_zero, List.set_cons_succ]), hb, cd0, cd1, cd2, (fun _ => rfl), (fun _ => rfl), cd5, cd6, cd7, cd8, cd9, cd10, f_r⟩
                  · rintro L a w ⟨b0, b1, b2, b3, b4, b5, b6, b7, b8, b9, b10, x89, x90, x91, x92, x93, x94, x95, x96, x97, x98, x4, qo, qn, qc, ro, rn, rc, rfl, rfl, hb, cd0, cd1, cd2, cd3, cd4, cd5, cd6, cd7, cd8, cd9, cd10, f_r⟩ hf hd
                    have hf' : b5 = false := hf
                    subst hf'
                    have d3 : b3 = true := hd ⟨3, .guard⟩ (by simp) rfl
                    subst d3
                    obtain rfl := cd3.out rfl
                    clear hf hd
                    try simp only [List.setIfInBounds_toArray, List.set_cons_zero, List.set_cons_succ]
                    intro K hK
                    rw [if_pos (by rfl)]
                    go_simp
                    exact hK.out _ _ ⟨b0, b1, b2, true, b4, true, b6, b7, b8, b9, b10, x89, x90, x91, .bool true, x93, (.int .i64 S), x95, x96, x97, x98, x4, qo, qn, qc, ro, rn, rc, (by simp only [Act.put, List.setIfInBounds_toArray, List.set_cons_zero, List.set_cons_succ]), (by simp only [Act.put, List.setIfInBounds_toArray, List.set_cons_zero, List.set_cons_succ]), hb, cd0, cd1, cd2, (fun _ => rfl), cd4, (fun _ => rfl), cd6, cd7, cd8, cd9, cd10, f_r⟩
                  · rintro L a w ⟨b0, b1, b2, b3, b4, b5, b6, b7, b8, b9, b10, x89, x90, x91, x92, x93, x94, x95, x96, x97, x98, x4, qo, qn, qc, ro, rn, rc, rfl, rfl, hb, cd0, cd1, cd2, cd3, cd4, cd5, cd6, cd7, cd8, cd9, cd10, f_r⟩ hf hd
                    have hf' : b6 = false := hf
                    subst hf'
                    have d4 : b4 = true := hd ⟨4, .data⟩ (by simp) rfl
                    subst d4
                    have d5 : b5 = true := hd ⟨5, .data⟩ (by simp) rfl
                    subst d5
                    have d3 : b3 = true := hd ⟨3, .chain⟩ (by simp) rfl
                    subst d3
                    obtain rfl := cd4.out rfl
                    obtain rfl := cd5.out rfl
                    obtain rfl := cd3.out rfl
                    clear hf hd
                    try simp only [List.setIfInBounds_toArray, List.set_cons_zero, List.set_cons_succ]
                    intro K hK
                    rw [if_pos (by rfl)]
                    go_simp
                    go_at_call 59
                    refine (HF _ hb).mono ?_
                    rintro e w' ⟨_, rfl, ⟨qo3, qn3, qc3, ro3, rn3, rc3, rfl, j1, j2, g1, g2⟩, bx⟩
                    unfold lkV
                    have r9 : RdB w' 0 qo3 qn3 qc3 ro3 rn3 rc3 H1 W1 := ⟨j1, j2, fun _ _ _ => Nat.zero_le _, fun _ _ _ => Nat.zero_le _⟩
                    exact hK.out _ _ ⟨b0, b1, b2, true, true, true, true, b7, b8, b9, b10, x89, x90, x91, .bool true, .agg #[.slice bo bn bc, .slice vo vn vc], .int .i64 S, (.agg #[.slice qo3 qn3 qc3, .slice ro3 rn3 rc3]), x96, x97, x98, x4, qo3, qn3, qc3, ro3, rn3, rc3, (by simp only [Act.put, List.setIfInBounds_toArray, List.set_cons_zero, List.set_cons_succ]), (by simp only [Act.put, List.setIfInBounds_toArray, List.set_cons_zero, List.set_cons_succ]), hb.trans (bx.mono (Nat.le_trans hB0 hb.size)), cd0, cd1, cd2, (fun _ => rfl), (fun _ => rfl), (fun _ => rfl), (fun _ => rfl), cd7, cd8, cd9, cd10, (fun _ => r9)⟩
                  · rintro L a w ⟨b0, b1, b2, b3, b4, b5, b6, b7, b8, b9, b10, x89, x90, x91, x92, x93, x94, x95, x96, x97, x98, x4, qo, qn, qc, ro, rn, rc, rfl, rfl, hb, cd0, cd1, cd2, cd3, cd4, cd5, cd6, cd7, cd8, cd9, cd10, f_r⟩ hf hd
                    have hf' : b7 = false := hf
                    subst hf'
                    have d3 : b3 = true := hd ⟨3, .guard⟩ (by simp) rfl
                    subst d3
                    obtain rfl := cd3.out rfl
                    clear hf hd
                    try simp only [List.setIfInBounds_toArray, List.set_cons_zero, List.set_cons_succ]
                    have z0 := (hb.cell hrB).trans b0_
                    have z1 := (hb.cell hrB).trans b1_
                    intro K hK
                    rw [if_pos (by rfl)]
                    go_simp
                    exact hK.out _ _ ⟨b0, b1, b2, true, b4, b5, b6, true, b8, b9, b10, x89, x90, x91, .bool true, x93, x94, x95, (.agg #[.slice bo bn bc, .slice vo vn vc]), x97, x98, x4, qo, qn, qc, ro, rn, rc, (by simp only [Act.put, List.setIfInBounds_toArray, List.set_cons_zero, List.set_cons_succ]), (by simp only [Act.put, List.setIfInBounds_toArray, List.set_cons_zero, List.set_cons_succ]), hb, cd0, cd1, cd2, (fun _ => rfl), cd4, cd5, cd6, (fun _ => rfl), cd8, cd9, cd10, f_r⟩
                  · rintro L a w ⟨b0, b1, b2, b3, b4, b5, b6, b7, b8, b9, b10, x89, x90, x91, x92, x93, x94, x95, x96, x97, x98, x4, qo, qn, qc, ro, rn, rc, rfl, rfl, hb, cd0, cd1, cd2, cd3, cd4, cd5, cd6, cd7, cd8, cd9, cd10, f_r⟩ hf hd
                    have hf' : b8 = false := hf
                    subst hf'
                    have d6 : b6 = true := hd ⟨6, .data⟩ (by simp) rfl
                    subst d6
                    have d7 : b7 = true := hd ⟨7, .data⟩ (by simp) rfl
                    subst d7
                    have d3 : b3 = true := hd ⟨3, .guard⟩ (by simp) rfl
                    subst d3
                    obtain rfl := cd6.out rfl
                    obtain rfl := cd7.out rfl
                    obtain rfl := cd3.out rfl
                    clear hf hd
                    have W_r := f_r.out rfl
                    try simp only [List.setIfInBounds_toArray, List.set_cons_zero, List.set_cons_succ]
                    intro K hK
                    rw [if_pos (by rfl)]
                    go_simp
                    go_at_call 66
                    refine (HS2 _ _ _ _ _ _ _ hb W_r).mono ?_
                    rintro e w' ⟨rfl, bx⟩
                    exact hK.out _ _ ⟨b0, b1, b2, true, b4, b5, true, true, true, b9, b10, x89, x90, x91, .bool true, x93, x94, .agg #[.slice qo qn qc, .slice ro rn rc], .agg #[.slice bo bn bc, .slice vo vn vc], (.bool true), x98, x4, qo, qn, qc, ro, rn, rc, (by simp only [Act.put, List.setIfInBounds_toArray, List.set_cons_zero, List.set_cons_succ]), (by simp only [Act.put, List.setIfInBounds_toArray, List.set_cons_zero, List.set_cons_succ]), hb.trans (bx.mono (Nat.le_trans hB0 hb.size)), cd0, cd1, cd2, (fun _ => rfl), cd4, cd5, (fun _ => rfl), (fun _ => rfl), (fun _ => rfl), cd9, cd10, (fun h0 => (f_r.out h0).past bx)⟩
                  · rintro L a w ⟨b0, b1, b2, b3, b4, b5, b6, b7, b8, b9, b10, x89, x90, x91, x92, x93, x94, x95, x96, x97, x98, x4, qo, qn, qc, ro, rn, rc, rfl, rfl, hb, cd0, cd1, cd2, cd3, cd4, cd5, cd6, cd7, cd8, cd9, cd10, f_r⟩ hf hd
                    have hf' : b9 = false := hf
                    subst hf'
                    have d3 : b3 = true := hd ⟨3, .data⟩ (by simp) rfl
                    subst d3
                    have d8 : b8 = true := hd ⟨8, .data⟩ (by simp) rfl
                    subst d8
                    obtain rfl := cd3.out rfl
                    obtain rfl := cd8.out rfl
                    clear hf hd
                    try simp only [List.setIfInBounds_toArray, List.set_cons_zero, List.set_cons_succ]
                    intro K hK
                    rw [if_pos (by rfl)]
                    go_simp
                    exact hK.out _ _ ⟨b0, b1, b2, true, b4, b5, b6, b7, true, true, b10, x89, x90, x91, .bool true, x93, x94, x95, x96, .bool true, (.bool true), x4, qo, qn, qc, ro, rn, rc, (by simp only [Act.put, List.setIfInBounds_toArray, List.set_cons_zero, List.set_cons_succ]), (by simp only [Act.put, List.setIfInBounds_toArray, List.set_cons_zero, List.set_cons_succ]), hb, cd0, cd1, cd2, (fun _ => rfl), cd4, cd5, cd6, cd7, (fun _ => rfl), (fun _ => rfl), cd10, f_r⟩
                  · rintro L a w ⟨b0, b1, b2, b3, b4, b5, b6, b7, b8, b9, b10, x89, x90, x91, x92, x93, x94, x95, x96, x97, x98, x4, qo, qn, qc, ro, rn, rc, rfl, rfl, hb, cd0, cd1, cd2, cd3, cd4, cd5, cd6, cd7, cd8, cd9, cd10, f_r⟩ hf hd
                    have hf' : b10 = false := hf
                    subst hf'
                    have d9 : b9 = true := hd ⟨9, .data⟩ (by simp) rfl
                    subst d9
                    have d8 : b8 = true := hd ⟨8, .chain⟩ (by simp) rfl
                    subst d8
                    have d0 : b0 = true := hd ⟨0, .phase⟩ (by simp) rfl
                    subst d0
                    have d1 : b1 = true := hd ⟨1, .phase⟩ (by simp) rfl
                    subst d1
                    have d2 : b2 = true := hd ⟨2, .phase⟩ (by simp) rfl
                    subst d2
                    have d3 : b3 = true := hd ⟨3, .phase⟩ (by simp) rfl
                    subst d3
                    have d4 : b4 = true := hd ⟨4, .phase⟩ (by simp) rfl
                    subst d4
                    have d5 : b5 = true := hd ⟨5, .phase⟩ (by simp) rfl
                    subst d5
                    have d6 : b6 = true := hd ⟨6, .phase⟩ (by simp) rfl
                    subst d6
                    have d7 : b7 = true := hd ⟨7, .phase⟩ (by simp) rfl
                    subst d7
                    obtain rfl := cd9.out rfl
                    obtain rfl := cd8.out rfl
                    obtain rfl := cd0.out rfl
                    obtain rfl := cd1.out rfl
                    obtain rfl := cd2.out rfl
                    obtain rfl := cd3.out rfl
                    obtain rfl := cd4.out rfl
                    obtain rfl := cd5.out rfl
                    obtain rfl := cd6.out rfl
                    obtain rfl := cd7.out rfl
                    clear hf hd
                    have W_r := f_r.out rfl
                    try simp only [List.setIfInBounds_toArray, List.set_cons_zero, List.set_cons_succ]
                    intro K hK
                    rw [if_pos (by rfl)]
                    go_simp
                    exact hK.out _ _ ⟨true, true, true, true, true, true, true, true, true, true, true, .agg #[.slice bo bn bc, .slice vo vn vc], .agg #[.slice ao1 n1 c1_, .slice ao2 n2 c2_], .bool true, .bool true, .agg #[.slice bo bn bc, .slice vo vn vc], .int .i64 S, .agg #[.slice qo qn qc, .slice ro rn rc], .agg #[.slice bo bn bc, .slice vo vn vc], .bool true, .bool true, (.bool true), qo, qn, qc, ro, rn, rc, (by simp only [Act.put, List.setIfInBounds_toArray, List.set_cons_zero, List.set_cons_succ]), (by simp only [Act.put, List.setIfInBounds_toArray, List.set_cons_zero, List.set_cons_succ]), hb, (fun _ => rfl), (fun _ => rfl), (fun _ => rfl), (fun _ => rfl), (fun _ => rfl), (fun _ => rfl), (fun _ => rfl), (fun _ => rfl), (fun _ => rfl), (fun _ => rfl), (fun _ => rfl), f_r⟩
                · rintro act V ⟨b0, b1, b2, b3, b4, b5, b6, b7, b8, b9, b10, x89, x90, x91, x92, x93, x94, x95, x96, x97, x98, x4, qo, qn, qc, ro, rn, rc, hL, rfl, hb, cd0, cd1, cd2, cd3, cd4, cd5, cd6, cd7, cd8, cd9, cd10, f_r⟩
                  have hL' : [true, true, true, true, true, true, true, true, true, true, true] = [b0, b1, b2, b3, b4, b5, b6, b7, b8, b9, b10] := congrArg Array.toList hL
                  simp only [List.cons.injEq, and_true] at hL'
                  obtain ⟨rfl, rfl, rfl, rfl, rfl, rfl, rfl, rfl, rfl, rfl, rfl⟩ := hL'
                  obtain rfl := cd0.out rfl
                  obtain rfl := cd1.out rfl
                  obtain rfl := cd2.out rfl
                  obtain rfl := cd3.out rfl
                  obtain rfl := cd4.out rfl
                  obtain rfl := cd5.out rfl
                  obtain rfl := cd6.out rfl
                  obtain rfl := cd7.out rfl
                  obtain rfl := cd8.out rfl
                  obtain rfl := cd9.out rfl
                  obtain rfl := cd10.out rfl
                  have W_r := f_r.out rfl
                  clear hL f_r cd0 cd1 cd2 cd3 cd4 cd5 cd6 cd7 cd8 cd9 cd10
                  simp only [List.setIfInBounds_toArray, List.set_cons_zero, List.set_cons_succ]
                  go_wp2_with fail
                  go_ret
                  exact ⟨rfl, by rw [HP.out]; exact BZ.trans (((Below.refl _ _).drew.trans hb).mono hZ0)⟩
      · have hlti : ¬ ((i : Int) < (n : Int)) := by omega
        have HW := fun w => within12_any s0 8 w (by decide) (by decide)
        obtain ⟨S, hSd⟩ : ∃ S, wth s0 8 = S := ⟨_, rfl⟩
        simp only [hSd] at HW
        clear hSd hlt'
        go_upto_region 9 with (go_at_call 58; refine (HW _).mono ?_; rintro e w2 ⟨rfl, rfl⟩)
        clear HW
        obtain ⟨ho, hn, hc, wq, wn, wc, X, RD⟩ := A.rd
        obtain ⟨c0, c1⟩ := X.c
        have hHl := hG.out.lenH
        have hWl := hG.out.lenW
        have HA := free_any wr (lkV ho hn hc wq wn wc) H W ⟨_, _, _, _, _, _, rfl, RD.h, RD.w⟩ (by omega) (by omega) S
        unfold lkV at HA
        have hBw := Nat.le_trans hp0 B.size
        go_upto_region 10 with (go_at_call 59; refine HA.mono ?_; rintro e v4 ⟨_, rfl, ⟨bo, bn, bc, vo, vn, vc, rfl, j1, j2, g1, g2⟩, b4⟩; unfold lkV)
        have bA : Below v4.heap.size v4 (v4.alloc (.cells #[.slice bo bn bc, .slice vo vn vc] 96)) := (Below.refl _ _).alloc (Nat.le_refl _) _
        have XB : LkB (v4.alloc (.cells #[.slice bo bn bc, .slice vo vn vc] 96)) v4.heap.size bo bn bc vo vn vc 96 := heap_alloc_new v4 _
        have X4 := (X.past b4).past bA
        have RD4 := (RD.past b4).past bA
        have m1 := j1.past bA
        have m2 := j2.past bA
        have B4 := B.trans ((b4.trans (bA.mono b4.size)).mono hBw)
        have hBw4 := Nat.le_trans (Nat.le_trans hBw b4.size) bA.size
        generalize v4.alloc (.cells #[.slice bo bn bc, .slice vo vn vc] 96) = U4 at XB X4 RD4 m1 m2 B4 hBw4 ⊢
        obtain ⟨r, hr⟩ : ∃ r, v4.heap.size = r := ⟨_, rfl⟩
        rw [hr] at XB
        simp only [hr]
        clear hr bA HA j1 j2 g1 g2 b4 X RD c0 c1 A B
        have bQ : Below U4.heap.size U4 (U4.alloc (.cells #[.slice none 0 0, .slice none 0 0] 96)) := (Below.refl _ _).alloc (Nat.le_refl _) _
        have WT0 := WtAt.new U4
        have gH := RD4.h.ltB (by decide)
        have gW := RD4.w.ltB (by decide)
        have gB1 := m1.ltB (by decide)
        have gB2 := m2.ltB (by decide)
        have hpq := X4.lt
        have hrq0 := XB.lt
        have XU := X4.past bQ
        have XBU := XB.past bQ
        have RDh := (RD4.past bQ).h
        have RDw := (RD4.past bQ).w
        have RB1 := m1.past bQ
        have RB2 := m2.past bQ
        have B5 := B4.trans (bQ.mono hBw4)
        have hp0q := hBw4
        go_upto_region 11 with fail
        generalize U4.alloc (.cells #[.slice none 0 0, .slice none 0 0] 96) = U at WT0 XU XBU RDh RDw RB1 RB2 B5 ⊢
        obtain ⟨q, hq⟩ : ∃ q, U4.heap.size = q := ⟨_, rfl⟩
        rw [hq] at WT0 gH gW gB1 gB2 hpq hrq0 hp0q
        simp only [hq]
        clear hq bQ X4 RD4 XB m1 m2 B4 hBw4
        have BU : Below q U U := Below.refl _ _
        go_wp2_with fail
        go_loopw [9] (fun zs wr => ∃ j : Nat, j ≤ hn ∧ zs = .int .i64 (j : Nat) ∧ WtAt wr q (wo (H.take j) S) [] ∧ Below q U wr) (fun zs _ => hn - (intOf zs).toNat)
        case atStart => exact ⟨0, by omega, rfl, WT0, BU⟩
        case round =>
          clear WT0 BU
          obtain ⟨j, hj, rfl, WT, BQ⟩ := hrel
          have XP := (BQ.block p hpq).trans XU
          have hznl := RDh.len
          obtain ⟨cp0, cp1⟩ := LkB.c XP
          by_cases hlt : j < hn
          · have hlti : (j : Int) < (hn : Int) := by omega
            obtain ⟨y, hy⟩ : ∃ y, H[j]? = some y := ⟨H[j]'(by have := RDh.len; omega), List.getElem?_eq_getElem _⟩
            obtain ⟨rb, roff, rfl, hrb, hrc⟩ := RDh.open (by omega) (by decide)
            have hrq : rb < q := gH (by omega) _ rfl
            obtain ⟨y0_, y1_, y2_⟩ := cells_hd hrc j y hy
            rw [← BQ.cell (show (⟨rb, roff + j * 3, none⟩ : Addr).block < q from hrq)] at y0_
            rw [← BQ.cell (show (⟨rb, roff + j * 3 + 1, none⟩ : Addr).block < q from hrq)] at y1_
            rw [← BQ.cell (show (⟨rb, roff + j * 3 + 2, none⟩ : Addr).block < q from hrq)] at y2_
            have hnw := Lib.hid (wo_take (s := S) hy)
            clear hrc hy
            obtain ⟨s, t, x⟩ := y
            simp only at y0_ y1_ y2_
            by_cases hsS : s = S
            · subst hsS
              have hne : (s != s) = false := by simp
              have hnx := hnw.out
              rw [if_pos rfl, List.append_nil] at hnx
              rw [← hnx] at WT
              clear hnw hnx
              go_wp2_with fail
              go_roundw
              case rel => exact ⟨j + 1, by omega, by go_num, WT, BQ⟩
              case measure => simp [intOf]; omega
            · have hne : (s != S) = true := by simpa using hsS
              have hnx := hnw.out
              rw [if_neg hsS] at hnx
              have hnx := Lib.hid hnx
              clear hnw
              go_upto_region 15 with fail
              obtain ⟨ao1, n1, c1_, ao2, n2, c2_, XQ, T1, T2, AP0⟩ := WT
              generalize wr = W7 at XP XQ T1 T2 BQ y0_ y1_ y2_ cp0 cp1 ⊢
              obtain ⟨ML, hML⟩ : ∃ z_, z_ = wo (H.take j) S := ⟨_, rfl⟩
              rw [← hML] at T1 hnx
              obtain ⟨OL, hOL⟩ : ∃ z_, z_ = ([] : List Hd) := ⟨_, rfl⟩
              rw [← hOL] at T2
              have hOLh := Lib.hid hOL
              clear hOL
              have TM := T1
              have TO := T2
              have AP : ∀ z, Go.Proofs.Ytckfkgmlifnfkaa.blk ao1 = some z → Go.Proofs.Ytckfkgmlifnfkaa.blk ao2 ≠ some z := AP0
              have hqW := XQ.lt
              have hB0 : q ≤ W7.heap.size := Nat.le_of_lt hqW
              have hB1 : q + 1 ≤ W7.heap.size := hqW
              have hBq : q ≤ W7.heap.size := hB0
              have hpB := hpq
              have hrB := hrq
              have cp := cp0
              have hMl := TM.len
              have hMl2 : ML.length ≤ 1000 := by
                rw [hML]
                have h1 := wo_length (H.take j) S
                have h2 : (H.take j).length ≤ H.length := by rw [List.length_take]; omega
                omega
              obtain ⟨N, HN⟩ : ∃ N, n1 + 1 = N := ⟨_, rfl⟩
              have hNm : N ≤ 1000000 := by omega
              clear hML T1 T2 AP0 cp0 cp1
              refine region_inv (FreeW0 q p q ao1 n1 c1_ ao2 n2 c2_ N rb roff hn hc j s t x ML OL) (by kernel_rfl) (by kernel_rfl) ?_ ?_ ?_
              · exact ⟨false, false, false, false, false, false, false, false, false, false, false, u54, u55, u56, u57, u58, u59, u60, u61, u62, u63, 0, 0, 0, rfl, (by simp only [Act.put, List.setIfInBounds_toArray, List.set_cons_zero, List.set_cons_succ]), Below.refl _ _, (fun h => by cases h), (fun h => by cases h), (fun h => by cases h), (fun h => by cases h), (fun h => by cases h), (fun h => by cases h), (fun h => by cases h), (fun h => by cases h), (fun h => by cases h), (fun h => by cases h), (fun h1 => XQ.past (Below.refl _ _).drew), (fun h1 => TM.past (Below.refl _ _).drew), (TO.past (Below.refl _ _).drew), (fun h => by cases h), (fun h => by cases h), (fun h => by cases h), (fun h => by cases h), (fun h => by cases h), (fun h => by cases h), (fun h => by cases h), (fun h => by cases h), (fun h => by cases h)⟩
              · refine ⟨?_, ?_, ?_, ?_, ?_, ?_, ?_, ?_, ?_, ?_, ?_, trivial⟩
                · rintro L a w ⟨b0, b1, b2, b3, b4, b5, b6, b7, b8, b9, b10, x54, x55, x56, x57, x58, x59, x60, x61, x62, x63, gb, g9, c9, rfl, rfl, hb, cd0, cd1, cd2, cd3, cd4, cd5, cd6, cd7, cd8, cd9, f_q, f_m, f_ot, f_bl, f_q7, f_r, f_ap, f_o, f_q77, f_q88, f_q1, f_q1s⟩ hf hd
                  have hf' : b0 = false := hf
                  subst hf'
                  clear hf hd
                  have W_ot := f_ot.out
                  try simp only [List.setIfInBounds_toArray, List.set_cons_zero, List.set_cons_succ]
                  intro K hK
                  rw [if_pos (by rfl)]
                  go_simp
                  exact hK.out _ _ ⟨true, b1, b2, b3, b4, b5, b6, b7, b8, b9, b10, (.pointer (some ⟨q, 0, none⟩)), x55, x56, x57, x58, x59, x60, x61, x62, x63, gb, g9, c9, (by simp only [Act.put, List.setIfInBounds_toArray, List.set_cons_zero, List.set_cons_succ]), (by simp only [Act.put, List.setIfInBounds_toArray, List.set_cons_zero, List.set_cons_succ]), hb, (fun _ => rfl), cd1, cd2, cd3, cd4, cd5, cd6, cd7, cd8, cd9, f_q, f_m, f_ot, f_bl, f_q7, f_r, f_ap, f_o, f_q77, f_q88, f_q1, f_q1s⟩
                · rintro L a w ⟨b0, b1, b2, b3, b4, b5, b6, b7, b8, b9, b10, x54, x55, x56, x57, x58, x59, x60, x61, x62, x63, gb, g9, c9, rfl, rfl, hb, cd0, cd1, cd2, cd3, cd4, cd5, cd6, cd7, cd8, cd9, f_q, f_m, f_ot, f_bl, f_q7, f_r, f_ap, f_o, f_q77, f_q88, f_q1, f_q1s⟩ hf hd
                  have hf' : b1 = false := hf
                  subst hf'
                  have d0 : b0 = true := hd ⟨0, .data⟩ (by simp) rfl
                  subst d0
                  obtain rfl := cd0.out rfl
                  clear hf hd
                  have W_ot := f_ot.out
                  try simp only [List.setIfInBounds_toArray, List.set_cons_zero, List.set_cons_succ]
                  have e_q : b10 = false := by cases hq : b10 with | false => rfl | true => exact absurd (f_q1s.out hq) (by simp)
                  have W_q := f_q.out e_q
                  obtain ⟨z0, z1⟩ := W_q.c
                  intro K hK
                  rw [if_pos (by rfl)]
                  go_simp
                  exact hK.out _ _ ⟨true, true, b2, b3, b4, b5, b6, b7, b8, b9, b10, .pointer (some ⟨q, 0, none⟩), (.slice ao1 n1 c1_), x56, x57, x58, x59, x60, x61, x62, x63, gb, g9, c9, (by simp only [Act.put, List.setIfInBounds_toArray, List.set_cons_zero, List.set_cons_succ]), (by simp only [Act.put, List.setIfInBounds_toArray, List.set_cons_zero, List.set_cons_succ]), hb, (fun _ => rfl), (fun _ => rfl), cd2, cd3, cd4, cd5, cd6, cd7, cd8, cd9, f_q, f_m, f_ot, f_bl, f_q7, f_r, f_ap, f_o, f_q77, f_q88, (fun _ => rfl), (fun _ => rfl)⟩
                · rintro L a w ⟨b0, b1, b2, b3, b4, b5, b6, b7, b8, b9, b10, x54, x55, x56, x57, x58, x59, x60, x61, x62, x63, gb, g9, c9, rfl, rfl, hb, cd0, cd1, cd2, cd3, cd4, cd5, cd6, cd7, cd8, cd9, f_q, f_m, f_ot, f_bl, f_q7, f_r, f_ap, f_o, f_q77, f_q88, f_q1, f_q1s⟩ hf hd
                  have hf' : b2 = false := hf
                  subst hf'
                  clear hf hd
                  have W_ot := f_ot.out
                  try simp only [List.setIfInBounds_toArray, List.set_cons_zero, List.set_cons_succ]
                  intro K hK
                  rw [if_pos (by rfl)]
                  go_simp
                  exact hK.out _ _ ⟨b0, b1, true, b3, b4, b5, b6, b7, b8, b9, b10, x54, x55, (.pointer (some ⟨p, 0, none⟩)), x57, x58, x59, x60, x61, x62, x63, gb, g9, c9, (by simp only [Act.put, List.setIfInBounds_toArray, List.set_cons_zero, List.set_cons_succ]), (by simp only [Act.put, List.setIfInBounds_toArray, List.set_cons_zero, List.set_cons_succ]), hb, cd0, cd1, (fun _ => rfl), cd3, cd4, cd5, cd6, cd7, cd8, cd9, f_q, f_m, f_ot, f_bl, f_q7, f_r, f_ap, f_o, f_q77, f_q88, f_q1, f_q1s⟩
                · rintro L a w ⟨b0, b1, b2, b3, b4, b5, b6, b7, b8, b9, b10, x54, x55, x56, x57, x58, x59, x60, x61, x62, x63, gb, g9, c9, rfl, rfl, hb, cd0, cd1, cd2, cd3, cd4, cd5, cd6, cd7, cd8, cd9, f_q, f_m, f_ot, f_bl, f_q7, f_r, f_ap, f_o, f_q77, f_q88, f_q1, f_q1s⟩ hf hd
                  have hf' : b3 = false := hf
                  subst hf'
                  have d2 : b2 = true := hd ⟨2, .data⟩ (by simp) rfl
                  subst d2
                  obtain rfl := cd2.out rfl
                  clear hf hd
                  have W_ot := f_ot.out
                  try simp only [List.setIfInBounds_toArray, List.set_cons_zero, List.set_cons_succ]
                  have z0 := (hb.cell hpB).trans cp
                  intro K hK
                  rw [if_pos (by rfl)]
                  go_simp
                  exact hK.out _ _ ⟨b0, b1, true, true, b4, b5, b6, b7, b8, b9, b10, x54, x55, .pointer (some ⟨p, 0, none⟩), (.slice (some ⟨rb, roff, none⟩) hn hc), x58, x59, x60, x61, x62, x63, gb, g9, c9, (by simp only [Act.put, List.setIfInBounds_toArray, List.set_cons_zero, List.set_cons_succ]), (by simp only [Act.put, List.setIfInBounds_toArray, List.set_cons_zero, List.set_cons_succ]), hb, cd0, cd1, (fun _ => rfl), (fun _ => rfl), cd4, cd5, cd6, cd7, cd8, cd9, f_q, f_m, f_ot, f_bl, f_q7, f_r, f_ap, f_o, f_q77, f_q88, f_q1, f_q1s⟩
                · rintro L a w ⟨b0, b1, b2, b3, b4, b5, b6, b7, b8, b9, b10, x54, x55, x56, x57, x58, x59, x60, x61, x62, x63, gb, g9, c9, rfl, rfl, hb, cd0, cd1, cd2, cd3, cd4, cd5, cd6, cd7, cd8, cd9, f_q, f_m, f_ot, f_bl, f_q7, f_r, f_ap, f_o, f_q77, f_q88, f_q1, f_q1s⟩ hf hd
                  have hf' : b4 = false := hf
                  subst hf'
                  clear hf hd
                  have W_ot := f_ot.out
                  try simp only [List.setIfInBounds_toArray, List.set_cons_zero, List.set_cons_succ]
                  intro K hK
                  rw [if_pos (by rfl)]
                  go_simp
                  exact hK.out _ _ ⟨b0, b1, b2, b3, true, b5, b6, b7, b8, b9, b10, x54, x55, x56, x57, (.int .i64 (j : Nat)), x59, x60, x61, x62, x63, gb, g9, c9, (by simp only [Act.put, List.setIfInBounds_toArray, List.set_cons_zero, List.set_cons_succ]), (by simp only [Act.put, List.setIfInBounds_toArray, List.set_cons_zero, List.set_cons_succ]), hb, cd0, cd1, cd2, cd3, (fun _ => rfl), cd5, cd6, cd7, cd8, cd9, f_q, f_m, f_ot, f_bl, f_q7, f_r, f_ap, f_o, f_q77, f_q88, f_q1, f_q1s⟩
                · rintro L a w ⟨b0, b1, b2, b3, b4, b5, b6, b7, b8, b9, b10, x54, x55, x56, x57, x58, x59, x60, x61, x62, x63, gb, g9, c9, rfl, rfl, hb, cd0, cd1, cd2, cd3, cd4, cd5, cd6, cd7, cd8, cd9, f_q, f_m, f_ot, f_bl, f_q7, f_r, f_ap, f_o, f_q77, f_q88, f_q1, f_q1s⟩ hf hd
                  have hf' : b5 = false := hf
                  subst hf'
                  have d3 : b3 = true := hd ⟨3, .data⟩ (by simp) rfl
                  subst d3
                  have d4 : b4 = true := hd ⟨4, .data⟩ (by simp) rfl
                  subst d4
                  obtain rfl := cd3.out rfl
                  obtain rfl := cd4.out rfl
                  clear hf hd
                  have W_ot := f_ot.out
                  try simp only [List.setIfInBounds_toArray, List.set_cons_zero, List.set_cons_succ]
                  intro K hK
                  rw [if_pos (by rfl)]
                  go_simp
                  exact hK.out _ _ ⟨b0, b1, b2, true, true, true, b6, b7, b8, b9, b10, x54, x55, x56, .slice (some ⟨rb, roff, none⟩) hn hc, .int .i64 (j : Nat), (.pointer (some ⟨rb, roff + j * 3, none⟩)), x60, x61, x62, x63, gb, g9, c9, (by simp only [Act.put, List.setIfInBounds_toArray, List.set_cons_zero, List.set_cons_succ]), (by simp only [Act.put, List.setIfInBounds_toArray, List.set_cons_zero, List.set_cons_succ]), hb, cd0, cd1, cd2, (fun _ => rfl), (fun _ => rfl), (fun _ => rfl), cd6, cd7, cd8, cd9, f_q, f_m, f_ot, f_bl, f_q7, f_r, f_ap, f_o, f_q77, f_q88, f_q1, f_q1s⟩
                · rintro L a w ⟨b0, b1, b2, b3, b4, b5, b6, b7, b8, b9, b10, x54, x55, x56, x57, x58, x59, x60, x61, x62, x63, gb, g9, c9, rfl, rfl, hb, cd0, cd1, cd2, cd3, cd4, cd5, cd6, cd7, cd8, cd9, f_q, f_m, f_ot, f_bl, f_q7, f_r, f_ap, f_o, f_q77, f_q88, f_q1, f_q1s⟩ hf hd
                  have hf' : b6 = false := hf
                  subst hf'
                  have d5 : b5 = true := hd ⟨5, .data⟩ (by simp) rfl
                  subst d5
                  obtain rfl := cd5.out rfl
                  clear hf hd
                  have W_ot := f_ot.out
                  try simp only [List.setIfInBounds_toArray, List.set_cons_zero, List.set_cons_succ]
                  have z0 := (hb.cell hrB).trans y0_
                  have z1 := (hb.cell hrB).trans y1_
                  have z2 := (hb.cell hrB).trans y2_
                  intro K hK
                  rw [if_pos (by rfl)]
                  go_simp
                  exact hK.out _ _ ⟨b0, b1, b2, b3, b4, true, true, b7, b8, b9, b10, x54, x55, x56, x57, x58, .pointer (some ⟨rb, roff + j * 3, none⟩), (.agg #[.int .i64 s, .string (bsOf t), .bool x]), x61, x62, x63, gb, g9, c9, (by simp only [Act.put, List.setIfInBounds_toArray, List.set_cons_zero, List.set_cons_succ]), (by simp only [Act.put, List.setIfInBounds_toArray, List.set_cons_zero, List.set_cons_succ]), hb, cd0, cd1, cd2, cd3, cd4, (fun _ => rfl), (fun _ => rfl), cd7, cd8, cd9, f_q, f_m, f_ot, f_bl, f_q7, f_r, f_ap, f_o, f_q77, f_q88, f_q1, f_q1s⟩
                · rintro L a w ⟨b0, b1, b2, b3, b4, b5, b6, b7, b8, b9, b10, x54, x55, x56, x57, x58, x59, x60, x61, x62, x63, gb, g9, c9, rfl, rfl, hb, cd0, cd1, cd2, cd3, cd4, cd5, cd6, cd7, cd8, cd9, f_q, f_m, f_ot, f_bl, f_q7, f_r, f_ap, f_o, f_q77, f_q88, f_q1, f_q1s⟩ hf hd
                  have hf' : b7 = false := hf
                  subst hf'
                  have d6 : b6 = true := hd ⟨6, .data⟩ (by simp) rfl
                  subst d6
                  obtain rfl := cd6.out rfl
                  clear hf hd
                  have W_ot := f_ot.out
                  try simp only [List.setIfInBounds_toArray, List.set_cons_zero, List.set_cons_succ]
                  intro K hK
                  rw [if_pos (by rfl)]
                  refine wp_buildSlice_one 94 101 _ rfl (Hd.cells (⟨s, t, x⟩ : Hd)) 3 rfl rfl (by omega) (by omega) Try.underlying94 hd_inf' fun w5 hB5 bq5 sq5 => ?_
                  have bx := bq5
                  exact hK.out _ _ ⟨b0, b1, b2, b3, b4, b5, true, true, b8, b9, b10, x54, x55, x56, x57, x58, x59, .agg #[.int .i64 s, .string (bsOf t), .bool x], (.slice (some ⟨(w.heap.size), 0, none⟩) 1 1), x62, x63, w.heap.size, g9, c9, (by simp only [Act.put, List.setIfInBounds_toArray, List.set_cons_zero, List.set_cons_succ]), (by simp only [Act.put, List.setIfInBounds_toArray, List.set_cons_zero, List.set_cons_succ]), hb.trans (bx.mono (Nat.le_trans hB0 hb.size)), cd0, cd1, cd2, cd3, cd4, cd5, (fun _ => rfl), (fun _ => rfl), cd8, cd9, (fun h1 => (f_q.out h1).past bx), (fun h1 => (f_m.out h1).past bx), (f_ot.out.past bx), (fun _ _ => OwnR.ofBlk hB5 rfl rfl (by omega)), (fun _ => rfl), (fun h0 => absurd (f_q7.out h0) (by simp)), (fun h0 => absurd (f_q7.out h0) (by simp)), (fun h0 => absurd (f_q77.out h0) (by simp)), (fun _ => rfl), f_q88, f_q1, f_q1s⟩
                · rintro L a w ⟨b0, b1, b2, b3, b4, b5, b6, b7, b8, b9, b10, x54, x55, x56, x57, x58, x59, x60, x61, x62, x63, gb, g9, c9, rfl, rfl, hb, cd0, cd1, cd2, cd3, cd4, cd5, cd6, cd7, cd8, cd9, f_q, f_m, f_ot, f_bl, f_q7, f_r, f_ap, f_o, f_q77, f_q88, f_q1, f_q1s⟩ hf hd
                  have hf' : b8 = false := hf
                  subst hf'
                  have d1 : b1 = true := hd ⟨1, .data⟩ (by simp) rfl
                  subst d1
                  have d7 : b7 = true := hd ⟨7, .data⟩ (by simp) rfl
                  subst d7
                  obtain rfl := cd1.out rfl
                  obtain rfl := cd7.out rfl
                  clear hf hd
                  have W_m := f_m.out rfl
                  have W_ot := f_ot.out
                  have W_bl := f_bl.out rfl rfl
                  try simp only [List.setIfInBounds_toArray, List.set_cons_zero, List.set_cons_succ]
                  intro K hK
                  rw [if_pos (by rfl)]
                  refine wp_append_r _ _ 94 94 rfl rowTyHd rfl W_m (Nat.le_trans hB1 hb.size) _ rfl 1 [(⟨s, t, x⟩ : Hd)] (W_bl.isR.src Try.underlying94) rfl (by omega) N HN _ rfl hNm ?_
                  intro g10 c10 w2 o10 gr10 q10 bq10
                  have hb2 := hb.trans (bq10.mono (Nat.le_succ q))
                  have neq : some q ≠ Go.Proofs.Ytckfkgmlifnfkaa.blk ao1 := by have h0 := W_m.from'; intro e; have := h0 q e.symm; omega
                  have apP : ∀ z, Go.Proofs.Ytckfkgmlifnfkaa.blk ao2 = some z → z ≠ g10 := fun z hz e => by
                    subst e
                    rcases q10 with h | h
                    · exact AP z h hz
                    · have := W_ot.lt z hz; omega
                  exact hK.out _ _ ⟨b0, true, b2, b3, b4, b5, b6, true, true, b9, b10, x54, .slice ao1 n1 c1_, x56, x57, x58, x59, x60, .slice (some ⟨gb, 0, none⟩) 1 1, (.slice (some ⟨g10, 0, none⟩) N c10), x63, gb, g10, c10, (by simp only [Act.put, List.setIfInBounds_toArray, List.set_cons_zero, List.set_cons_succ]), (by simp only [Act.put, List.setIfInBounds_toArray, List.set_cons_zero, List.set_cons_succ]), hb2, cd0, (fun _ => rfl), cd2, cd3, cd4, cd5, cd6, (fun _ => rfl), (fun _ => rfl), cd9, (fun h1 => (gr10.block q ((f_q.out h1)).lt neq).trans ((f_q.out h1))), (fun h => by cases h), ((f_ot.out).grown gr10 (fun z hz e => AP z e hz)), (fun _ h => by cases h), (fun _ => rfl), (fun _ => o10), (fun _ => apP), (fun h0 => absurd (f_q88.out h0) (by simp)), f_q77, (fun _ => rfl), (fun _ => rfl), f_q1s⟩
                · rintro L a w ⟨b0, b1, b2, b3, b4, b5, b6, b7, b8, b9, b10, x54, x55, x56, x57, x58, x59, x60, x61, x62, x63, gb, g9, c9, rfl, rfl, hb, cd0, cd1, cd2, cd3, cd4, cd5, cd6, cd7, cd8, cd9, f_q, f_m, f_ot, f_bl, f_q7, f_r, f_ap, f_o, f_q77, f_q88, f_q1, f_q1s⟩ hf hd
                  have hf' : b9 = false := hf
                  subst hf'
                  have d0 : b0 = true := hd ⟨0, .phase⟩ (by simp) rfl
                  subst d0
                  have d1 : b1 = true := hd ⟨1, .phase⟩ (by simp) rfl
                  subst d1
                  have d2 : b2 = true := hd ⟨2, .phase⟩ (by simp) rfl
                  subst d2
                  have d3 : b3 = true := hd ⟨3, .phase⟩ (by simp) rfl
                  subst d3
                  have d4 : b4 = true := hd ⟨4, .phase⟩ (by simp) rfl
                  subst d4
                  have d5 : b5 = true := hd ⟨5, .phase⟩ (by simp) rfl
                  subst d5
                  have d6 : b6 = true := hd ⟨6, .phase⟩ (by simp) rfl
                  subst d6
                  have d7 : b7 = true := hd ⟨7, .phase⟩ (by simp) rfl
                  subst d7
                  have d8 : b8 = true := hd ⟨8, .phase⟩ (by simp) rfl
                  subst d8
                  obtain rfl := cd0.out rfl
                  obtain rfl := cd1.out rfl
                  obtain rfl := cd2.out rfl
                  obtain rfl := cd3.out rfl
                  obtain rfl := cd4.out rfl
                  obtain rfl := cd5.out rfl
                  obtain rfl := cd6.out rfl
                  obtain rfl := cd7.out rfl
                  obtain rfl := cd8.out rfl
                  clear hf hd
                  have W_ot := f_ot.out
                  have W_q7 := f_q7.out rfl
                  have W_r := f_r.out rfl
                  have W_ap := f_ap.out rfl
                  have W_q1 := f_q1.out rfl
                  try simp only [List.setIfInBounds_toArray, List.set_cons_zero, List.set_cons_succ]
                  intro K hK
                  rw [if_pos (by rfl)]
                  go_simp
                  exact hK.out _ _ ⟨true, true, true, true, true, true, true, true, true, true, b10, .pointer (some ⟨q, 0, none⟩), .slice ao1 n1 c1_, .pointer (some ⟨p, 0, none⟩), .slice (some ⟨rb, roff, none⟩) hn hc, .int .i64 (j : Nat), .pointer (some ⟨rb, roff + j * 3, none⟩), .agg #[.int .i64 s, .string (bsOf t), .bool x], .slice (some ⟨gb, 0, none⟩) 1 1, .slice (some ⟨g9, 0, none⟩) N c9, (.pointer (some ⟨q, 0, none⟩)), gb, g9, c9, (by simp only [Act.put, List.setIfInBounds_toArray, List.set_cons_zero, List.set_cons_succ]), (by simp only [Act.put, List.setIfInBounds_toArray, List.set_cons_zero, List.set_cons_succ]), hb, (fun _ => rfl), (fun _ => rfl), (fun _ => rfl), (fun _ => rfl), (fun _ => rfl), (fun _ => rfl), (fun _ => rfl), (fun _ => rfl), (fun _ => rfl), (fun _ => rfl), f_q, (fun h => by cases h), f_ot, (fun _ h => by cases h), f_q7, f_r, f_ap, f_o, f_q77, f_q88, f_q1, f_q1s⟩
                · rintro L a w ⟨b0, b1, b2, b3, b4, b5, b6, b7, b8, b9, b10, x54, x55, x56, x57, x58, x59, x60, x61, x62, x63, gb, g9, c9, rfl, rfl, hb, cd0, cd1, cd2, cd3, cd4, cd5, cd6, cd7, cd8, cd9, f_q, f_m, f_ot, f_bl, f_q7, f_r, f_ap, f_o, f_q77, f_q88, f_q1, f_q1s⟩ hf hd
                  have hf' : b10 = false := hf
                  subst hf'
                  have d9 : b9 = true := hd ⟨9, .data⟩ (by simp) rfl
                  subst d9
                  have d8 : b8 = true := hd ⟨8, .data⟩ (by simp) rfl
                  subst d8
                  have d0 : b0 = true := hd ⟨0, .phase⟩ (by simp) rfl
                  subst d0
                  have d1 : b1 = true := hd ⟨1, .phase⟩ (by simp) rfl
                  subst d1
                  have d2 : b2 = true := hd ⟨2, .phase⟩ (by simp) rfl
                  subst d2
                  have d3 : b3 = true := hd ⟨3, .phase⟩ (by simp) rfl
                  subst d3
                  have d4 : b4 = true := hd ⟨4, .phase⟩ (by simp) rfl
                  subst d4
                  have d5 : b5 = true := hd ⟨5, .phase⟩ (by simp) rfl
                  subst d5
                  have d6 : b6 = true := hd ⟨6, .phase⟩ (by simp) rfl
                  subst d6
                  have d7 : b7 = true := hd ⟨7, .phase⟩ (by simp) rfl
                  subst d7
                  obtain rfl := cd9.out rfl
                  obtain rfl := cd8.out rfl
                  obtain rfl := cd0.out rfl
                  obtain rfl := cd1.out rfl
                  obtain rfl := cd2.out rfl
                  obtain rfl := cd3.out rfl
                  obtain rfl := cd4.out rfl
                  obtain rfl := cd5.out rfl
                  obtain rfl := cd6.out rfl
                  obtain rfl := cd7.out rfl
                  clear hf hd
                  have W_q := f_q.out rfl
                  have W_ot := f_ot.out
                  have W_q7 := f_q7.out rfl
                  have W_r := f_r.out rfl
                  have W_ap := f_ap.out rfl
                  have W_q1 := f_q1.out rfl
                  try simp only [List.setIfInBounds_toArray, List.set_cons_zero, List.set_cons_succ]
                  intro K hK
                  rw [if_pos (by rfl)]
                  obtain ⟨z0, z1⟩ := W_q.c
                  obtain ⟨f0, f1⟩ := W_q.free
                  go_simp
                  have g8 := set1_grown w q 0 (.slice (some ⟨g9, 0, none⟩) N c9)
                  have hb2 := hb.grown g8 (Nat.le_trans hBq hb.size) (fun z hz => by cases hz; exact Nat.le_refl _)
                  have po := W_q.put0 (some ⟨g9, 0, none⟩) N c9
                  exact hK.out _ _ ⟨true, true, true, true, true, true, true, true, true, true, true, .pointer (some ⟨q, 0, none⟩), .slice ao1 n1 c1_, .pointer (some ⟨p, 0, none⟩), .slice (some ⟨rb, roff, none⟩) hn hc, .int .i64 (j : Nat), .pointer (some ⟨rb, roff + j * 3, none⟩), .agg #[.int .i64 s, .string (bsOf t), .bool x], .slice (some ⟨gb, 0, none⟩) 1 1, .slice (some ⟨g9, 0, none⟩) N c9, .pointer (some ⟨q, 0, none⟩), gb, g9, c9, (by simp only [Act.put, List.setIfInBounds_toArray, List.set_cons_zero, List.set_cons_succ]), (by simp only [Act.put, List.setIfInBounds_toArray, List.set_cons_zero, List.set_cons_succ]), hb2, (fun _ => rfl), (fun _ => rfl), (fun _ => rfl), (fun _ => rfl), (fun _ => rfl), (fun _ => rfl), (fun _ => rfl), (fun _ => rfl), (fun _ => rfl), (fun _ => rfl), (fun h => by cases h), (fun h => by cases h), ((f_ot.out).farT W_q (by decide) g8), (fun _ h => by cases h), f_q7, (fun h0 => ((f_r.out h0)).farT W_q (by decide) g8), f_ap, (fun _ => po), (fun _ => rfl), (fun _ => rfl), f_q1, (fun _ => rfl)⟩
              · rintro act V ⟨b0, b1, b2, b3, b4, b5, b6, b7, b8, b9, b10, x54, x55, x56, x57, x58, x59, x60, x61, x62, x63, gb, g9, c9, hL, rfl, hb, cd0, cd1, cd2, cd3, cd4, cd5, cd6, cd7, cd8, cd9, f_q, f_m, f_ot, f_bl, f_q7, f_r, f_ap, f_o, f_q77, f_q88, f_q1, f_q1s⟩
                have hL' : [true, true, true, true, true, true, true, true, true, true, true] = [b0, b1, b2, b3, b4, b5, b6, b7, b8, b9, b10] := congrArg Array.toList hL
                simp only [List.cons.injEq, and_true] at hL'
                obtain ⟨rfl, rfl, rfl, rfl, rfl, rfl, rfl, rfl, rfl, rfl, rfl⟩ := hL'
                obtain rfl := cd0.out rfl
                obtain rfl := cd1.out rfl
                obtain rfl := cd2.out rfl
                obtain rfl := cd3.out rfl
                obtain rfl := cd4.out rfl
                obtain rfl := cd5.out rfl
                obtain rfl := cd6.out rfl
                obtain rfl := cd7.out rfl
                obtain rfl := cd8.out rfl
                obtain rfl := cd9.out rfl
                have W_ot := f_ot.out
                have W_q7 := f_q7.out rfl
                have W_r := f_r.out rfl
                have W_ap := f_ap.out rfl
                have W_o := f_o.out rfl
                have W_q77 := f_q77.out rfl
                have W_q88 := f_q88.out rfl
                have W_q1 := f_q1.out rfl
                have W_q1s := f_q1s.out rfl
                clear hL f_q f_m f_ot f_bl f_q7 f_r f_ap f_o f_q77 f_q88 f_q1 f_q1s cd0 cd1 cd2 cd3 cd4 cd5 cd6 cd7 cd8 cd9
                simp only [List.setIfInBounds_toArray, List.set_cons_zero, List.set_cons_succ]
                have WT : WtAt V q (ML ++ [⟨s, t, x⟩]) OL := ⟨some ⟨g9, 0, none⟩, N, c9, ao2, n2, c2_, W_o, W_r, W_ot, (fun z hz e => by cases hz; exact W_ap _ e rfl)⟩
                have BV := BQ.trans (((Below.refl _ _).drew).trans hb)
                clear hb W_o W_r W_ot W_ap W_q77 W_q88 W_q7 W_q1 W_q1s
                go_wp2_with fail
                go_roundw
                case rel => exact ⟨j + 1, by omega, by go_num, by rw [hnx.out]; rw [hOLh.out] at WT; exact WT, BV⟩
                case measure => simp [intOf]; omega
          · have hlti : ¬ ((j : Int) < (hn : Int)) := by omega
            obtain rfl : j = hn := by omega
            rw [List.take_of_length_le (show H.length ≤ j by have := RDh.len; omega)] at WT
            have WT0 : WtAt wr q (wo H S) (wo (W.take 0) S) := WT
            have BU := BQ
            clear WT BQ
            go_wp2_with fail
            go_loopw [10] (fun zs wr => ∃ j : Nat, j ≤ wn ∧ zs = .int .i64 (j : Nat) ∧ WtAt wr q (wo H S) (wo (W.take j) S) ∧ Below q U wr) (fun zs _ => wn - (intOf zs).toNat)
            case atStart => exact ⟨0, by omega, rfl, WT0, BU⟩
            case round =>
              clear WT0 BU
              obtain ⟨j, hj, rfl, WT, BQ⟩ := hrel
              have XP := (BQ.block p hpq).trans XU
              have hznl := RDw.len
              obtain ⟨cp0, cp1⟩ := LkB.c XP
              by_cases hlt : j < wn
              · have hlti : (j : Int) < (wn : Int) := by omega
                obtain ⟨y, hy⟩ : ∃ y, W[j]? = some y := ⟨W[j]'(by have := RDw.len; omega), List.getElem?_eq_getElem _⟩
                obtain ⟨rb, roff, rfl, hrb, hrc⟩ := RDw.open (by omega) (by decide)
                have hrq : rb < q := gW (by omega) _ rfl
                obtain ⟨y0_, y1_, y2_⟩ := cells_hd hrc j y hy
                rw [← BQ.cell (show (⟨rb, roff + j * 3, none⟩ : Addr).block < q from hrq)] at y0_
                rw [← BQ.cell (show (⟨rb, roff + j * 3 + 1, none⟩ : Addr).block < q from hrq)] at y1_
                rw [← BQ.cell (show (⟨rb, roff + j * 3 + 2, none⟩ : Addr).block < q from hrq)] at y2_
                have hnw := Lib.hid (wo_take (s := S) hy)
                clear hrc hy
                obtain ⟨s, t, x⟩ := y
                simp only at y0_ y1_ y2_
                by_cases hsS : s = S
                · subst hsS
                  have hne : (s != s) = false := by simp
                  have hnx := hnw.out
                  rw [if_pos rfl, List.append_nil] at hnx
                  rw [← hnx] at WT
                  clear hnw hnx
                  go_wp2_with fail
                  go_roundw
                  case rel => exact ⟨j + 1, by omega, by go_num, WT, BQ⟩
                  case measure => simp [intOf]; omega
                · have hne : (s != S) = true := by simpa using hsS
                  have hnx := hnw.out
                  rw [if_neg hsS] at hnx
                  have hnx := Lib.hid hnx
                  clear hnw
                  go_upto_region 20 with fail
                  obtain ⟨ao1, n1, c1_, ao2, n2, c2_, XQ, T1, T2, AP0⟩ := WT
                  generalize wr = W7 at XP XQ T1 T2 BQ y0_ y1_ y2_ cp0 cp1 ⊢
                  obtain ⟨ML, hML⟩ : ∃ z_, z_ = wo (W.take j) S := ⟨_, rfl⟩
                  rw [← hML] at T2 hnx
                  obtain ⟨OL, hOL⟩ : ∃ z_, z_ = wo H S := ⟨_, rfl⟩
                  rw [← hOL] at T1
                  have hOLh := Lib.hid hOL
                  clear hOL
                  have TM := T2
                  have TO := T1
                  have AP : ∀ z, Go.Proofs.Ytckfkgmlifnfkaa.blk ao2 = some z → Go.Proofs.Ytckfkgmlifnfkaa.blk ao1 ≠ some z := fun z h1 h2 => AP0 z h2 h1
                  have hqW := XQ.lt
                  have hB0 : q ≤ W7.heap.size := Nat.le_of_lt hqW
                  have hB1 : q + 1 ≤ W7.heap.size := hqW
                  have hBq : q ≤ W7.heap.size := hB0
                  have hpB := hpq
                  have hrB := hrq
                  have cp := cp1
                  have hMl := TM.len
                  have hMl2 : ML.length ≤ 1000 := by
                    rw [hML]
                    have h1 := wo_length (W.take j) S
                    have h2 : (W.take j).length ≤ W.length := by rw [List.length_take]; omega
                    omega
                  obtain ⟨N, HN⟩ : ∃ N, n2 + 1 = N := ⟨_, rfl⟩
                  have hNm : N ≤ 1000000 := by omega
                  clear hML T1 T2 AP0 cp0 cp1
                  refine region_inv (FreeW1 q p q ao1 n1 c1_ ao2 n2 c2_ N rb roff wn wc j s t x ML OL) (by kernel_rfl) (by kernel_rfl) ?_ ?_ ?_
                  · exact ⟨false, false, false, false, false, false, false, false, false, false, false, u79, u80, u81, u82, u83, u84, u85, u86, u87, u88, 0, 0, 0, rfl, (by simp only [Act.put, List.setIfInBounds_toArray, List.set_cons_zero, List.set_cons_succ]), Below.refl _ _, (fun h => by cases h), (fun h => by cases h), (fun h => by cases h), (fun h => by cases h), (fun h => by cases h), (fun h => by cases h), (fun h => by cases h), (fun h => by cases h), (fun h => by cases h), (fun h => by cases h), (fun h1 => XQ.past (Below.refl _ _).drew), (fun h1 => TM.past (Below.refl _ _).drew), (TO.past (Below.refl _ _).drew), (fun h => by cases h), (fun h => by cases h), (fun h => by cases h), (fun h => by cases h), (fun h => by cases h), (fun h => by cases h), (fun h => by cases h), (fun h => by cases h), (fun h => by cases h)⟩
                  · refine ⟨?_, ?_, ?_, ?_, ?_, ?_, ?_, ?_, ?_, ?_, ?_, trivial⟩
                    · rintro L a w ⟨b0, b1, b2, b3, b4, b5, b6, b7, b8, b9, b10, x79, x80, x81, x82, x83, x84, x85, x86, x87, x88, gb, g9, c9, rfl, rfl, hb, cd0, cd1, cd2, cd3, cd4, cd5, cd6, cd7, cd8, cd9, f_q, f_m, f_ot, f_bl, f_q7, f_r, f_ap, f_o, f_q77, f_q88, f_q1, f_q1s⟩ hf hd
                      have hf' : b0 = false := hf
                      subst hf'
                      clear hf hd
                      have W_ot := f_ot.out
                      try simp only [List.setIfInBounds_toArray, List.set_cons_zero, List.set_cons_succ]
                      intro K hK
                      rw [if_pos (by rfl)]
                      go_simp
                      exact hK.out _ _ ⟨true, b1, b2, b3, b4, b5, b6, b7, b8, b9, b10, (.pointer (some ⟨q, 1, none⟩)), x80, x81, x82, x83, x84, x85, x86, x87, x88, gb, g9, c9, (by simp only [Act.put, List.setIfInBounds_toArray, List.set_cons_zero, List.set_cons_succ]), (by simp only [Act.put, List.setIfInBounds_toArray, List.set_cons_zero, List.set_cons_succ]), hb, (fun _ => rfl), cd1, cd2, cd3, cd4, cd5, cd6, cd7, cd8, cd9, f_q, f_m, f_ot, f_bl, f_q7, f_r, f_ap, f_o, f_q77, f_q88, f_q1, f_q1s⟩
                    · rintro L a w ⟨b0, b1, b2, b3, b4, b5, b6, b7, b8, b9, b10, x79, x80, x81, x82, x83, x84, x85, x86, x87, x88, gb, g9, c9, rfl, rfl, hb, cd0, cd1, cd2, cd3, cd4, cd5, cd6, cd7, cd8, cd9, f_q, f_m, f_ot, f_bl, f_q7, f_r, f_ap, f_o, f_q77, f_q88, f_q1, f_q1s⟩ hf hd
                      have hf' : b1 = false := hf
                      subst hf'
                      have d0 : b0 = true := hd ⟨0, .data⟩ (by simp) rfl
                      subst d0
                      obtain rfl := cd0.out rfl
                      clear hf hd
                      have W_ot := f_ot.out
                      try simp only [List.setIfInBounds_toArray, List.set_cons_zero, List.set_cons_succ]
                      have e_q : b10 = false := by cases hq : b10 with | false => rfl | true => exact absurd (f_q1s.out hq) (by simp)
                      have W_q := f_q.out e_q
                      obtain ⟨z0, z1⟩ := W_q.c
                      intro K hK
                      rw [if_pos (by rfl)]
                      go_simp
                      exact hK.out _ _ ⟨true, true, b2, b3, b4, b5, b6, b7, b8, b9, b10, .pointer (some ⟨q, 1, none⟩), (.slice ao2 n2 c2_), x81, x82, x83, x84, x85, x86, x87, x88, gb, g9, c9, (by simp only [Act.put, List.setIfInBounds_toArray, List.set_cons_zero, List.set_cons_succ]), (by simp only [Act.put, List.setIfInBounds_toArray, List.set_cons_zero, List.set_cons_succ]), hb, (fun _ => rfl), (fun _ => rfl), cd2, cd3, cd4, cd5, cd6, cd7, cd8, cd9, f_q, f_m, f_ot, f_bl, f_q7, f_r, f_ap, f_o, f_q77, f_q88, (fun _ => rfl), (fun _ => rfl)⟩
                    · rintro L a w ⟨b0, b1, b2, b3, b4, b5, b6, b7, b8, b9, b10, x79, x80, x81, x82, x83, x84, x85, x86, x87, x88, gb, g9, c9, rfl, rfl, hb, cd0, cd1, cd2, cd3, cd4, cd5, cd6, cd7, cd8, cd9, f_q, f_m, f_ot, f_bl, f_q7, f_r, f_ap, f_o, f_q77, f_q88, f_q1, f_q1s⟩ hf hd
                      have hf' : b2 = false := hf
                      subst hf'
                      clear hf hd
                      have W_ot := f_ot.out
                      try simp only [List.setIfInBounds_toArray, List.set_cons_zero, List.set_cons_succ]
                      intro K hK
                      rw [if_pos (by rfl)]
                      go_simp
                      exact hK.out _ _ ⟨b0, b1, true, b3, b4, b5, b6, b7, b8, b9, b10, x79, x80, (.pointer (some ⟨p, 1, none⟩)), x82, x83, x84, x85, x86, x87, x88, gb, g9, c9, (by simp only [Act.put, List.setIfInBounds_toArray, List.set_cons_zero, List.set_cons_succ]), (by simp only [Act.put, List.setIfInBounds_toArray, List.set_cons_zero, List.set_cons_succ]), hb, cd0, cd1, (fun _ => rfl), cd3, cd4, cd5, cd6, cd7, cd8, cd9, f_q, f_m, f_ot, f_bl, f_q7, f_r, f_ap, f_o, f_q77, f_q88, f_q1, f_q1s⟩
                    · rintro L a w ⟨b0, b1, b2, b3, b4, b5, b6, b7, b8, b9, b10, x79, x80, x81, x82, x83, x84, x85, x86, x87, x88, gb, g9, c9, rfl, rfl, hb, cd0, cd1, cd2, cd3, cd4, cd5, cd6, cd7, cd8, cd9, f_q, f_m, f_ot, f_bl, f_q7, f_r, f_ap, f_o, f_q77, f_q88, f_q1, f_q1s⟩ hf hd
                      have hf' : b3 = false := hf
                      subst hf'
                      have d2 : b2 = true := hd ⟨2, .data⟩ (by simp) rfl
                      subst d2
                      obtain rfl := cd2.out rfl
                      clear hf hd
                      have W_ot := f_ot.out
                      try simp only [List.setIfInBounds_toArray, List.set_cons_zero, List.set_cons_succ]
                      have z0 := (hb.cell hpB).trans cp
                      intro K hK
                      rw [if_pos (by rfl)]
                      go_simp
                      exact hK.out _ _ ⟨b0, b1, true, true, b4, b5, b6, b7, b8, b9, b10, x79, x80, .pointer (some ⟨p, 1, none⟩), (.slice (some ⟨rb, roff, none⟩) wn wc), x83, x84, x85, x86, x87, x88, gb, g9, c9, (by simp only [Act.put, List.setIfInBounds_toArray, List.set_cons_zero, List.set_cons_succ]), (by simp only [Act.put, List.setIfInBounds_toArray, List.set_cons_zero, List.set_cons_succ]), hb, cd0, cd1, (fun _ => rfl), (fun _ => rfl), cd4, cd5, cd6, cd7, cd8, cd9, f_q, f_m, f_ot, f_bl, f_q7, f_r, f_ap, f_o, f_q77, f_q88, f_q1, f_q1s⟩
                    · rintro L a w ⟨b0, b1, b2, b3, b4, b5, b6, b7, b8, b9, b10, x79, x80, x81, x82, x83, x84, x85, x86, x87, x88, gb, g9, c9, rfl, rfl, hb, cd0, cd1, cd2, cd3, cd4, cd5, cd6, cd7, cd8, cd9, f_q, f_m, f_ot, f_bl, f_q7, f_r, f_ap, f_o, f_q77, f_q88, f_q1, f_q1s⟩ hf hd
                      have hf' : b4 = false := hf
                      subst hf'
                      clear hf hd
                      have W_ot := f_ot.out
                      try simp only [List.setIfInBounds_toArray, List.set_cons_zero, List.set_cons_succ]
                      intro K hK
                      rw [if_pos (by rfl)]
                      go_simp
                      exact hK.out _ _ ⟨b0, b1, b2, b3, true, b5, b6, b7, b8, b9, b10, x79, x80, x81, x82, (.int .i64 (j : Nat)), x84, x85, x86, x87, x88, gb, g9, c9, (by simp only [Act.put, List.setIfInBounds_toArray, List.set_cons_zero, List.set_cons_succ]), (by simp only [Act.put, List.setIfInBounds_toArray, List.set_cons_zero, List.set_cons_succ]), hb, cd0, cd1, cd2, cd3, (fun _ => rfl), cd5, cd6, cd7, cd8, cd9, f_q, f_m, f_ot, f_bl, f_q7, f_r, f_ap, f_o, f_q77, f_q88, f_q1, f_q1s⟩
                    · rintro L a w ⟨b0, b1, b2, b3, b4, b5, b6, b7, b8, b9, b10, x79, x80, x81, x82, x83, x84, x85, x86, x87, x88, gb, g9, c9, rfl, rfl, hb, cd0, cd1, cd2, cd3, cd4, cd5, cd6, cd7, cd8, cd9, f_q, f_m, f_ot, f_bl, f_q7, f_r, f_ap, f_o, f_q77, f_q88, f_q1, f_q1s⟩ hf hd
                      have hf' : b5 = false := hf
                      subst hf'
                      have d3 : b3 = true := hd ⟨3, .data⟩ (by simp) rfl
                      subst d3
                      have d4 : b4 = true := hd ⟨4, .data⟩ (by simp) rfl
                      subst d4
                      obtain rfl := cd3.out rfl
                      obtain rfl := cd4.out rfl
                      clear hf hd
                      have W_ot := f_ot.out
                      try simp only [List.setIfInBounds_toArray, List.set_cons_zero, List.set_cons_succ]
                      intro K hK
                      rw [if_pos (by rfl)]
                      go_simp
                      exact hK.out _ _ ⟨b0, b1, b2, true, true, true, b6, b7, b8, b9, b10, x79, x80, x81, .slice (some ⟨rb, roff, none⟩) wn wc, .int .i64 (j : Nat), (.pointer (some ⟨rb, roff + j * 3, none⟩)), x85, x86, x87, x88, gb, g9, c9, (by simp only [Act.put, List.setIfInBounds_toArray, List.set_cons_zero, List.set_cons_succ]), (by simp only [Act.put, List.setIfInBounds_toArray, List.set_cons_zero, List.set_cons_succ]), hb, cd0, cd1, cd2, (fun _ => rfl), (fun _ => rfl), (fun _ => rfl), cd6, cd7, cd8, cd9, f_q, f_m, f_ot, f_bl, f_q7, f_r, f_ap, f_o, f_q77, f_q88, f_q1, f_q1s⟩
                    · rintro L a w ⟨b0, b1, b2, b3, b4, b5, b6, b7, b8, b9, b10, x79, x80, x81, x82, x83, x84, x85, x86, x87, x88, gb, g9, c9, rfl, rfl, hb, cd0, cd1, cd2, cd3, cd4, cd5, cd6, cd7, cd8, cd9, f_q, f_m, f_ot, f_bl, f_q7, f_r, f_ap, f_o, f_q77, f_q88, f_q1, f_q1s⟩ hf hd
                      have hf' : b6 = false := hf
                      subst hf'
                      have d5 : b5 = true := hd ⟨5, .data⟩ (by simp) rfl
                      subst d5
                      obtain rfl := cd5.out rfl
                      clear hf hd
                      have W_ot := f_ot.out
                      try simp only [List.setIfInBounds_toArray, List.set_cons_zero, List.set_cons_succ]
                      have z0 := (hb.cell hrB).trans y0_
                      have z1 := (hb.cell hrB).trans y1_
                      have z2 := (hb.cell hrB).trans y2_
                      intro K hK
                      rw [if_pos (by rfl)]
                      go_simp
                      exact hK.out _ _ ⟨b0, b1, b2, b3, b4, true, true, b7, b8, b9, b10, x79, x80, x81, x82, x83, .pointer (some ⟨rb, roff + j * 3, none⟩), (.agg #[.int .i64 s, .string (bsOf t), .bool x]), x86, x87, x88, gb, g9, c9, (by simp only [Act.put, List.setIfInBounds_toArray, List.set_cons_zero, List.set_cons_succ]), (by simp only [Act.put, List.setIfInBounds_toArray, List.set_cons_zero, List.set_cons_succ]), hb, cd0, cd1, cd2, cd3, cd4, (fun _ => rfl), (fun _ => rfl), cd7, cd8, cd9, f_q, f_m, f_ot, f_bl, f_q7, f_r, f_ap, f_o, f_q77, f_q88, f_q1, f_q1s⟩
                    · rintro L a w ⟨b0, b1, b2, b3, b4, b5, b6, b7, b8, b9, b10, x79, x80, x81, x82, x83, x84, x85, x86, x87, x88, gb, g9, c9, rfl, rfl, hb, cd0, cd1, cd2, cd3, cd4, cd5, cd6, cd7, cd8, cd9, f_q, f_m, f_ot, f_bl, f_q7, f_r, f_ap, f_o, f_q77, f_q88, f_q1, f_q1s⟩ hf hd
                      have hf' : b7 = false := hf
                      subst hf'
                      have d6 : b6 = true := hd ⟨6, .data⟩ (by simp) rfl
                      subst d6
                      obtain rfl := cd6.out rfl
                      clear hf hd
                      have W_ot := f_ot.out
                      try simp only [List.setIfInBounds_toArray, List.set_cons_zero, List.set_cons_succ]
                      intro K hK
                      rw [if_pos (by rfl)]
                      refine wp_buildSlice_one 94 101 _ rfl (Hd.cells (⟨s, t, x⟩ : Hd)) 3 rfl rfl (by omega) (by omega) Try.underlying94 hd_inf' fun w5 hB5 bq5 sq5 => ?_
                      have bx := bq5
                      exact hK.out _ _ ⟨b0, b1, b2, b3, b4, b5, true, true, b8, b9, b10, x79, x80, x81, x82, x83, x84, .agg #[.int .i64 s, .string (bsOf t), .bool x], (.slice (some ⟨(w.heap.size), 0, none⟩) 1 1), x87, x88, w.heap.size, g9, c9, (by simp only [Act.put, List.setIfInBounds_toArray, List.set_cons_zero, List.set_cons_succ]), (by simp only [Act.put, List.setIfInBounds_toArray, List.set_cons_zero, List.set_cons_succ]), hb.trans (bx.mono (Nat.le_trans hB0 hb.size)), cd0, cd1, cd2, cd3, cd4, cd5, (fun _ => rfl), (fun _ => rfl), cd8, cd9, (fun h1 => (f_q.out h1).past bx), (fun h1 => (f_m.out h1).past bx), (f_ot.out.past bx), (fun _ _ => OwnR.ofBlk hB5 rfl rfl (by omega)), (fun _ => rfl), (fun h0 => absurd (f_q7.out h0) (by simp)), (fun h0 => absurd (f_q7.out h0) (by simp)), (fun h0 => absurd (f_q77.out h0) (by simp)), (fun _ => rfl), f_q88, f_q1, f_q1s⟩
                    · rintro L a w ⟨b0, b1, b2, b3, b4, b5, b6, b7, b8, b9, b10, x79, x80, x81, x82, x83, x84, x85, x86, x87, x88, gb, g9, c9, rfl, rfl, hb, cd0, cd1, cd2, cd3, cd4, cd5, cd6, cd7, cd8, cd9, f_q, f_m, f_ot, f_bl, f_q7, f_r, f_ap, f_o, f_q77, f_q88, f_q1, f_q1s⟩ hf hd
                      have hf' : b8 = false := hf
                      subst hf'
                      have d1 : b1 = true := hd ⟨1, .data⟩ (by simp) rfl
                      subst d1
                      have d7 : b7 = true := hd ⟨7, .data⟩ (by simp) rfl
                      subst d7
                      obtain rfl := cd1.out rfl
                      obtain rfl := cd7.out rfl
                      clear hf hd
                      have W_m := f_m.out rfl
                      have W_ot := f_ot.out
                      have W_bl := f_bl.out rfl rfl
                      try simp only [List.setIfInBounds_toArray, List.set_cons_zero, List.set_cons_succ]
                      intro K hK
                      rw [if_pos (by rfl)]
                      refine wp_append_r _ _ 94 94 rfl rowTyHd rfl W_m (Nat.le_trans hB1 hb.size) _ rfl 1 [(⟨s, t, x⟩ : Hd)] (W_bl.isR.src Try.underlying94) rfl (by omega) N HN _ rfl hNm ?_
                      intro g10 c10 w2 o10 gr10 q10 bq10
                      have hb2 := hb.trans (bq10.mono (Nat.le_succ q))
                      have neq : some q ≠ Go.Proofs.Ytckfkgmlifnfkaa.blk ao2 := by have h0 := W_m.from'; intro e; have := h0 q e.symm; omega
                      have apP : ∀ z, Go.Proofs.Ytckfkgmlifnfkaa.blk ao1 = some z → z ≠ g10 := fun z hz e => by
                        subst e
                        rcases q10 with h | h
                        · exact AP z h hz
                        · have := W_ot.lt z hz; omega
                      exact hK.out _ _ ⟨b0, true, b2, b3, b4, b5, b6, true, true, b9, b10, x79, .slice ao2 n2 c2_, x81, x82, x83, x84, x85, .slice (some ⟨gb, 0, none⟩) 1 1, (.slice (some ⟨g10, 0, none⟩) N c10), x88, gb, g10, c10, (by simp only [Act.put, List.setIfInBounds_toArray, List.set_cons_zero, List.set_cons_succ]), (by simp only [Act.put, List.setIfInBounds_toArray, List.set_cons_zero, List.set_cons_succ]), hb2, cd0, (fun _ => rfl), cd2, cd3, cd4, cd5, cd6, (fun _ => rfl), (fun _ => rfl), cd9, (fun h1 => (gr10.block q ((f_q.out h1)).lt neq).trans ((f_q.out h1))), (fun h => by cases h), ((f_ot.out).grown gr10 (fun z hz e => AP z e hz)), (fun _ h => by cases h), (fun _ => rfl), (fun _ => o10), (fun _ => apP), (fun h0 => absurd (f_q88.out h0) (by simp)), f_q77, (fun _ => rfl), (fun _ => rfl), f_q1s⟩
                    · rintro L a w ⟨b0, b1, b2, b3, b4, b5, b6, b7, b8, b9, b10, x79, x80, x81, x82, x83, x84, x85, x86, x87, x88, gb, g9, c9, rfl, rfl, hb, cd0, cd1, cd2, cd3, cd4, cd5, cd6, cd7, cd8, cd9, f_q, f_m, f_ot, f_bl, f_q7, f_r, f_ap, f_o, f_q77, f_q88, f_q1, f_q1s⟩ hf hd
                      have hf' : b9 = false := hf
                      subst hf'
                      have d0 : b0 = true := hd ⟨0, .phase⟩ (by simp) rfl
                      subst d0
                      have d1 : b1 = true := hd ⟨1, .phase⟩ (by simp) rfl
                      subst d1
                      have d2 : b2 = true := hd ⟨2, .phase⟩ (by simp) rfl
                      subst d2
                      have d3 : b3 = true := hd ⟨3, .phase⟩ (by simp) rfl
                      subst d3
                      have d4 : b4 = true := hd ⟨4, .phase⟩ (by simp) rfl
                      subst d4
                      have d5 : b5 = true := hd ⟨5, .phase⟩ (by simp) rfl
                      subst d5
                      have d6 : b6 = true := hd ⟨6, .phase⟩ (by simp) rfl
                      subst d6
                      have d7 : b7 = true := hd ⟨7, .phase⟩ (by simp) rfl
                      subst d7
                      have d8 : b8 = true := hd ⟨8, .phase⟩ (by simp) rfl
                      subst d8
                      obtain rfl := cd0.out rfl
                      obtain rfl := cd1.out rfl
                      obtain rfl := cd2.out rfl
                      obtain rfl := cd3.out rfl
                      obtain rfl := cd4.out rfl
                      obtain rfl := cd5.out rfl
                      obtain rfl := cd6.out rfl
                      obtain rfl := cd7.out rfl
                      obtain rfl := cd8.out rfl
                      clear hf hd
                      have W_ot := f_ot.out
                      have W_q7 := f_q7.out rfl
                      have W_r := f_r.out rfl
                      have W_ap := f_ap.out rfl
                      have W_q1 := f_q1.out rfl
                      try simp only [List.setIfInBounds_toArray, List.set_cons_zero, List.set_cons_succ]
                      intro K hK
                      rw [if_pos (by rfl)]
                      go_simp
                      exact hK.out _ _ ⟨true, true, true, true, true, true, true, true, true, true, b10, .pointer (some ⟨q, 1, none⟩), .slice ao2 n2 c2_, .pointer (some ⟨p, 1, none⟩), .slice (some ⟨rb, roff, none⟩) wn wc, .int .i64 (j : Nat), .pointer (some ⟨rb, roff + j * 3, none⟩), .agg #[.int .i64 s, .string (bsOf t), .bool x], .slice (some ⟨gb, 0, none⟩) 1 1, .slice (some ⟨g9, 0, none⟩) N c9, (.pointer (some ⟨q, 1, none⟩)), gb, g9, c9, (by simp only [Act.put, List.setIfInBounds_toArray, List.set_cons_zero, List.set_cons_succ]), (by simp only [Act.put, List.setIfInBounds_toArray, List.set_cons_zero, List.set_cons_succ]), hb, (fun _ => rfl), (fun _ => rfl), (fun _ => rfl), (fun _ => rfl), (fun _ => rfl), (fun _ => rfl), (fun _ => rfl), (fun _ => rfl), (fun _ => rfl), (fun _ => rfl), f_q, (fun h => by cases h), f_ot, (fun _ h => by cases h), f_q7, f_r, f_ap, f_o, f_q77, f_q88, f_q1, f_q1s⟩
                    · rintro L a w ⟨b0, b1, b2, b3, b4, b5, b6, b7, b8, b9, b10, x79, x80, x81, x82, x83, x84, x85, x86, x87, x88, gb, g9, c9, rfl, rfl, hb, cd0, cd1, cd2, cd3, cd4, cd5, cd6, cd7, cd8, cd9, f_q, f_m, f_ot, f_bl, f_q7, f_r, f_ap, f_o, f_q77, f_q88, f_q1, f_q1s⟩ hf hd
                      have hf' : b10 = false := hf
                      subst hf'
                      have d9 : b9 = true := hd ⟨9, .data⟩ (by simp) rfl
                      subst d9
                      have d8 : b8 = true := hd ⟨8, .data⟩ (by simp) rfl
                      subst d8
                      have d0 : b0 = true := hd ⟨0, .phase⟩ (by simp) rfl
                      subst d0
                      have d1 : b1 = true := hd ⟨1, .phase⟩ (by simp) rfl
                      subst d1
                      have d2 : b2 = true := hd ⟨2, .phase⟩ (by simp) rfl
                      subst d2
                      have d3 : b3 = true := hd ⟨3, .phase⟩ (by simp) rfl
                      subst d3
                      have d4 : b4 = true := hd ⟨4, .phase⟩ (by simp) rfl
                      subst d4
                      have d5 : b5 = true := hd ⟨5, .phase⟩ (by simp) rfl
                      subst d5
                      have d6 : b6 = true := hd ⟨6, .phase⟩ (by simp) rfl
                      subst d6
                      have d7 : b7 = true := hd ⟨7, .phase⟩ (by simp) rfl
                      subst d7
                      obtain rfl := cd9.out rfl
                      obtain rfl := cd8.out rfl
                      obtain rfl := cd0.out rfl
                      obtain rfl := cd1.out rfl
                      obtain rfl := cd2.out rfl
                      obtain rfl := cd3.out rfl
                      obtain rfl := cd4.out rfl
                      obtain rfl := cd5.out rfl
                      obtain rfl := cd6.out rfl
                      obtain rfl := cd7.out rfl
                      clear hf hd
                      have W_q := f_q.out rfl
                      have W_ot := f_ot.out
                      have W_q7 := f_q7.out rfl
                      have W_r := f_r.out rfl
                      have W_ap := f_ap.out rfl
                      have W_q1 := f_q1.out rfl
                      try simp only [List.setIfInBounds_toArray, List.set_cons_zero, List.set_cons_succ]
                      intro K hK
                      rw [if_pos (by rfl)]
                      obtain ⟨z0, z1⟩ := W_q.c
                      obtain ⟨f0, f1⟩ := W_q.free
                      go_simp
                      have g8 := set1_grown w q 1 (.slice (some ⟨g9, 0, none⟩) N c9)
                      have hb2 := hb.grown g8 (Nat.le_trans hBq hb.size) (fun z hz => by cases hz; exact Nat.le_refl _)
                      have po := W_q.put1 (some ⟨g9, 0, none⟩) N c9
                      exact hK.out _ _ ⟨true, true, true, true, true, true, true, true, true, true, true, .pointer (some ⟨q, 1, none⟩), .slice ao2 n2 c2_, .pointer (some ⟨p, 1, none⟩), .slice (some ⟨rb, roff, none⟩) wn wc, .int .i64 (j : Nat), .pointer (some ⟨rb, roff + j * 3, none⟩), .agg #[.int .i64 s, .string (bsOf t), .bool x], .slice (some ⟨gb, 0, none⟩) 1 1, .slice (some ⟨g9, 0, none⟩) N c9, .pointer (some ⟨q, 1, none⟩), gb, g9, c9, (by simp only [Act.put, List.setIfInBounds_toArray, List.set_cons_zero, List.set_cons_succ]), (by simp only [Act.put, List.setIfInBounds_toArray, List.set_cons_zero, List.set_cons_succ]), hb2, (fun _ => rfl), (fun _ => rfl), (fun _ => rfl), (fun _ => rfl), (fun _ => rfl), (fun _ => rfl), (fun _ => rfl), (fun _ => rfl), (fun _ => rfl), (fun _ => rfl), (fun h => by cases h), (fun h => by cases h), ((f_ot.out).farT W_q (by decide) g8), (fun _ h => by cases h), f_q7, (fun h0 => ((f_r.out h0)).farT W_q (by decide) g8), f_ap, (fun _ => po), (fun _ => rfl), (fun _ => rfl), f_q1, (fun _ => rfl)⟩
                  · rintro act V ⟨b0, b1, b2, b3, b4, b5, b6, b7, b8, b9, b10, x79, x80, x81, x82, x83, x84, x85, x86, x87, x88, gb, g9, c9, hL, rfl, hb, cd0, cd1, cd2, cd3, cd4, cd5, cd6, cd7, cd8, cd9, f_q, f_m, f_ot, f_bl, f_q7, f_r, f_ap, f_o, f_q77, f_q88, f_q1, f_q1s⟩
                    have hL' : [true, true, true, true, true, true, true, true, true, true, true] = [b0, b1, b2, b3, b4, b5, b6, b7, b8, b9, b10] := congrArg Array.toList hL
                    simp only [List.cons.injEq, and_true] at hL'
                    obtain ⟨rfl, rfl, rfl, rfl, rfl, rfl, rfl, rfl, rfl, rfl, rfl⟩ := hL'
                    obtain rfl := cd0.out rfl
                    obtain rfl := cd1.out rfl
                    obtain rfl := cd2.out rfl
                    obtain rfl := cd3.out rfl
                    obtain rfl := cd4.out rfl
                    obtain rfl := cd5.out rfl
                    obtain rfl := cd6.out rfl
                    obtain rfl := cd7.out rfl
                    obtain rfl := cd8.out rfl
                    obtain rfl := cd9.out rfl
                    have W_ot := f_ot.out
                    have W_q7 := f_q7.out rfl
                    have W_r := f_r.out rfl
                    have W_ap := f_ap.out rfl
                    have W_o := f_o.out rfl
                    have W_q77 := f_q77.out rfl
                    have W_q88 := f_q88.out rfl
                    have W_q1 := f_q1.out rfl
                    have W_q1s := f_q1s.out rfl
                    clear hL f_q f_m f_ot f_bl f_q7 f_r f_ap f_o f_q77 f_q88 f_q1 f_q1s cd0 cd1 cd2 cd3 cd4 cd5 cd6 cd7 cd8 cd9
                    simp only [List.setIfInBounds_toArray, List.set_cons_zero, List.set_cons_succ]
                    have WT : WtAt V q OL (ML ++ [⟨s, t, x⟩]) := ⟨ao1, n1, c1_, some ⟨g9, 0, none⟩, N, c9, W_o, W_ot, W_r, (fun z hz e => by cases e; exact W_ap _ hz rfl)⟩
                    have BV := BQ.trans (((Below.refl _ _).drew).trans hb)
                    clear hb W_o W_r W_ot W_ap W_q77 W_q88 W_q7 W_q1 W_q1s
                    go_wp2_with fail
                    go_roundw
                    case rel => exact ⟨j + 1, by omega, by go_num, by rw [hnx.out]; rw [hOLh.out] at WT; exact WT, BV⟩
                    case measure => simp [intOf]; omega
              · have hlti : ¬ ((j : Int) < (wn : Int)) := by omega
                obtain rfl : j = wn := by omega
                rw [List.take_of_length_le (show W.length ≤ j by have := RDw.len; omega)] at WT
                obtain ⟨ao1, n1, c1_, ao2, n2, c2_, XQ, T1, T2, AP0⟩ := WT
                have XB : LkB wr r bo bn bc vo vn vc 96 := (BQ.block r hrq0).trans XBU
                have k1 := RB1.belowB BQ gB1
                have k2 := RB2.belowB BQ gB2
                have BZ := B5.trans (BQ.mono hp0q)
                go_upto_region 21 with fail
                generalize wr = W9 at XQ T1 T2 XB k1 k2 BZ ⊢
                obtain ⟨b0_, b1_⟩ := XB.c
                obtain ⟨w0_, w1_⟩ := XQ.c
                have hrB := XB.lt
                have hqB := XQ.lt
                have hZ0 : p0 ≤ W9.heap.size := Nat.le_trans hp0q (Nat.le_of_lt hqB)
                have hB0 : W9.heap.size ≤ W9.heap.size := Nat.le_refl _
                obtain ⟨H1, hH1⟩ : ∃ z_, z_ = wo H S := ⟨_, rfl⟩
                obtain ⟨W1, hW1⟩ : ∃ z_, z_ = wo W S := ⟨_, rfl⟩
                have f1 : wo H1 S = H1 := by rw [hH1, wo_wo]
                have f2 : wo W1 S = W1 := by rw [hW1, wo_wo]
                have hl1 : H1.length ≤ 100000 := by rw [hH1]; have := wo_length H S; have := hG.out.lenH; omega
                have hl2 : W1.length ≤ 100000 := by rw [hW1]; have := wo_length W S; have := hG.out.lenW; omega
                rw [← hH1] at T1 k1
                rw [← hW1] at T2 k2
                have HS1 := fun (w' : World) (hb : Below W9.heap.size W9.drew w') => same_lk1 w' bo bn bc vo vn vc ao1 n1 c1_ ao2 n2 c2_ H1 W1 (k1.drew.past hb) (k2.drew.past hb) ((T1.past (Below.refl _ _).drew).past hb).isR ((T2.past (Below.refl _ _).drew).past hb).isR
                have HS2 := fun (w' : World) (qo : Option Addr) (qn qc : Nat) (ro : Option Addr) (rn rc : Nat) (hb : Below W9.heap.size W9.drew w') (hr : RdB w' 0 qo qn qc ro rn rc H1 W1) => same_lk1 w' qo qn qc ro rn rc bo bn bc vo vn vc H1 W1 hr.h hr.w (k1.drew.past hb) (k2.drew.past hb)
                have HF := fun (w' : World) (hb : Below W9.heap.size W9.drew w') => free_any w' (lkV bo bn bc vo vn vc) H1 W1 ⟨_, _, _, _, _, _, rfl, k1.drew.past hb, k2.drew.past hb⟩ hl1 hl2 S
                unfold lkV at HF
                simp only [f1, f2] at HF
                clear f1 f2 hl1 hl2 hH1 hW1 k1 k2 T1 T2 AP0
                refine region_inv (Free21 W9.heap.size r q bo bn bc vo vn vc ao1 n1 c1_ ao2 n2 c2_ S H1 W1) (by kernel_rfl) (by kernel_rfl) ?_ ?_ ?_
                · exact ⟨false, false, false, false, false, false, false, false, false, false, false, undef, undef, undef, undef, undef, undef, undef, undef, undef, undef, .bool false, none, 0, 0, none, 0, 0, rfl, (by simp only [Act.put, List.setIfInBounds_toArray, List.set_cons_zero, List.set_cons_succ]), Below.refl _ _, (fun h => by cases h), (fun h => by cases h), (fun h => by cases h), (fun h => by cases h), (fun h => by cases h), (fun h => by cases h), (fun h => by cases h), (fun h => by cases h), (fun h => by cases h), (fun h => by cases h), (fun h => by cases h), (fun h => by cases h)⟩
                · refine ⟨?_, ?_, ?_, ?_, ?_, ?_, ?_, ?_, ?_, ?_, ?_, trivial⟩
                  · rintro L a w ⟨b0, b1, b2, b3, b4, b5, b6, b7, b8, b9, b10, x89, x90, x91, x92, x93, x94, x95, x96, x97, x98, x4, qo, qn, qc, ro, rn, rc, rfl, rfl, hb, cd0, cd1, cd2, cd3, cd4, cd5, cd6, cd7, cd8, cd9, cd10, f_r⟩ hf hd
                    have hf' : b0 = false := hf
                    subst hf'
                    clear hf hd
                    try simp only [List.setIfInBounds_toArray, List.set_cons_zero, List.set_cons_succ]
                    have z0 := (hb.cell hrB).trans b0_
                    have z1 := (hb.cell hrB).trans b1_
                    intro K hK
                    rw [if_pos (by rfl)]
                    go_simp
                    exact hK.out _ _ ⟨true, b1, b2, b3, b4, b5, b6, b7, b8, b9, b10, (.agg #[.slice bo bn bc, .slice vo vn vc]), x90, x91, x92, x93, x94, x95, x96, x97, x98, x4, qo, qn, qc, ro, rn, rc, (by simp only [Act.put, List.setIfInBounds_toArray, List.set_cons_zero, List.set_cons_succ]), (by simp only [Act.put, List.setIfInBounds_toArray, List.set_cons_zero, List.set_cons_succ]), hb, (fun _ => rfl), cd1, cd2, cd3, cd4, cd5, cd6, cd7, cd8, cd9, cd10, f_r⟩
                  · rintro L a w ⟨b0, b1, b2, b3, b4, b5, b6, b7, b8, b9, b10, x89, x90, x91, x92, x93, x94, x95, x96, x97, x98, x4, qo, qn, qc, ro, rn, rc, rfl, rfl, hb, cd0, cd1, cd2, cd3, cd4, cd5, cd6, cd7, cd8, cd9, cd10, f_r⟩ hf hd
                    have hf' : b1 = false := hf
                    subst hf'
                    clear hf hd
                    try simp only [List.setIfInBounds_toArray, List.set_cons_zero, List.set_cons_succ]
                    have z0 := (hb.cell hqB).trans w0_
                    have z1 := (hb.cell hqB).trans w1_
                    intro K hK
                    rw [if_pos (by rfl)]
                    go_simp
                    exact hK.out _ _ ⟨b0, true, b2, b3, b4, b5, b6, b7, b8, b9, b10, x89, (.agg #[.slice ao1 n1 c1_, .slice ao2 n2 c2_]), x91, x92, x93, x94, x95, x96, x97, x98, x4, qo, qn, qc, ro, rn, rc, (by simp only [Act.put, List.setIfInBounds_toArray, List.set_cons_zero, List.set_cons_succ]), (by simp only [Act.put, List.setIfInBounds_toArray, List.set_cons_zero, List.set_cons_succ]), hb, cd0, (fun _ => rfl), cd2, cd3, cd4, cd5, cd6, cd7, cd8, cd9, cd10, f_r⟩
                  · rintro L a w ⟨b0, b1, b2, b3, b4, b5, b6, b7, b8, b9, b10, x89, x90, x91, x92, x93, x94, x95, x96, x97, x98, x4, qo, qn, qc, ro, rn, rc, rfl, rfl, hb, cd0, cd1, cd2, cd3, cd4, cd5, cd6, cd7, cd8, cd9, cd10, f_r⟩ hf hd
                    have hf' : b2 = false := hf
                    subst hf'
                    have d0 : b0 = true := hd ⟨0, .data⟩ (by simp) rfl
                    subst d0
                    have d1 : b1 = true := hd ⟨1, .data⟩ (by simp) rfl
                    subst d1
                    obtain rfl := cd0.out rfl
                    obtain rfl := cd1.out rfl
                    clear hf hd
                    try simp only [List.setIfInBounds_toArray, List.set_cons_zero, List.set_cons_succ]
                    intro K hK
                    rw [if_pos (by rfl)]
                    go_simp
                    go_at_call 66
                    refine (HS1 _ hb).mono ?_
                    rintro e w' ⟨rfl, bx⟩
                    exact hK.out _ _ ⟨true, true, true, b3, b4, b5, b6, b7, b8, b9, b10, .agg #[.slice bo bn bc, .slice vo vn vc], .agg #[.slice ao1 n1 c1_, .slice ao2 n2 c2_], (.bool true), x92, x93, x94, x95, x96, x97, x98, x4, qo, qn, qc, ro, rn, rc, (by simp only [Act.put, List.setIfInBounds_toArray, List.set_cons_zero, List.set_cons_succ]), (by simp only [Act.put, List.setIfInBounds_toArray, List.set_cons_zero, List.set_cons_succ]), hb.trans (bx.mono (Nat.le_trans hB0 hb.size)), (fun _ => rfl), (fun _ => rfl), (fun _ => rfl), cd3, cd4, cd5, cd6, cd7, cd8, cd9, cd10, (fun h0 => (f_r.out h0).past bx)⟩
                  · rintro L a w ⟨b0, b1, b2, b3, b4, b5, b6, b7, b8, b9, b10, x89, x90, x91, x92, x93, x94, x95, x96, x97, x98, x4, qo, qn, qc, ro, rn, rc, rfl, rfl, hb, cd0, cd1, cd2, cd3, cd4, cd5, cd6, cd7, cd8, cd9, cd10, f_r⟩ hf hd
                    have hf' : b3 = false := hf
                    subst hf'
                    have d2 : b2 = true := hd ⟨2, .data⟩ (by simp) rfl
                    subst d2
                    obtain rfl := cd2.out rfl
                    clear hf hd
                    try simp only [List.setIfInBounds_toArray, List.set_cons_zero, List.set_cons_succ]
                    intro K hK
                    rw [if_pos (by rfl)]
                    go_simp
                    exact hK.out _ _ ⟨b0, b1, true, true, b4, b5, b6, b7, b8, b9, b10, x89, x90, .bool true, (.bool true), x93, x94, x95, x96, x97, x98, x4, qo, qn, qc, ro, rn, rc, (by simp only [Act.put, List.setIfInBounds_toArray, List.set_cons_zero, List.set_cons_succ]), (by simp only [Act.put, List.setIfInBounds_toArray, List.set_cons_zero, List.set_cons_succ]), hb, cd0, cd1, (fun _ => rfl), (fun _ => rfl), cd4, cd5, cd6, cd7, cd8, cd9, cd10, f_r⟩
                  · rintro L a w ⟨b0, b1, b2, b3, b4, b5, b6, b7, b8, b9, b10, x89, x90, x91, x92, x93, x94, x95, x96, x97, x98, x4, qo, qn, qc, ro, rn, rc, rfl, rfl, hb, cd0, cd1, cd2, cd3, cd4, cd5, cd6, cd7, cd8, cd9, cd10, f_r⟩ hf hd
                    have hf' : b4 = false := hf
                    subst hf'
                    have d3 : b3 = true := hd ⟨3, .guard⟩ (by simp) rfl
                    subst d3
                    obtain rfl := cd3.out rfl
                    clear hf hd
                    try simp only [List.setIfInBounds_toArray, List.set_cons_zero, List.set_cons_succ]
                    have z0 := (hb.cell hrB).trans b0_
                    have z1 := (hb.cell hrB).trans b1_
                    intro K hK
                    rw [if_pos (by rfl)]
                    go_simp
                    exact hK.out _ _ ⟨b0, b1, b2, true, true, b5, b6, b7, b8, b9, b10, x89, x90, x91, .bool true, (.agg #[.slice bo bn bc, .slice vo vn vc]), x94, x95, x96, x97, x98, x4, qo, qn, qc, ro, rn, rc, (by simp only [Act.put, List.setIfInBounds_toArray, List.set_cons_zero, List.set_cons_succ]), (by simp only [Act.put, List.setIfInBounds_toArray, List.set_cons_zero, List.set_cons_succ]), hb, cd0, cd1, cd2, (fun _ => rfl), (fun _ => rfl), cd5, cd6, cd7, cd8, cd9, cd10, f_r⟩
                  · rintro L a w ⟨b0, b1, b2, b3, b4, b5, b6, b7, b8, b9, b10, x89, x90, x91, x92, x93, x94, x95, x96, x97, x98, x4, qo, qn, qc, ro, rn, rc, rfl, rfl, hb, cd0, cd1, cd2, cd3, cd4, cd5, cd6, cd7, cd8, cd9, cd10, f_r⟩ hf hd
                    have hf' : b5 = false := hf
                    subst hf'
                    have d3 : b3 = true := hd ⟨3, .guard⟩ (by simp) rfl
                    subst d3
                    obtain rfl := cd3.out rfl
                    clear hf hd
                    try simp only [List.setIfInBounds_toArray, List.set_cons_zero, List.set_cons_succ]
                    intro K hK
                    rw [if_pos (by rfl)]
                    go_simp
                    exact hK.out _ _ ⟨b0, b1, b2, true, b4, true, b6, b7, b8, b9, b10, x89, x90, x91, .bool true, x93, (.int .i64 S), x95, x96, x97, x98, x4, qo, qn, qc, ro, rn, rc, (by simp only [Act.put, List.setIfInBounds_toArray, List.set_cons_zero, List.set_cons_succ]), (by simp only [Act.put, List.setIfInBounds_toArray, List.set_cons_zero, List.set_cons_succ]), hb, cd0, cd1, cd2, (fun _ => rfl), cd4, (fun _ => rfl), cd6, cd7, cd8, cd9, cd10, f_r⟩
                  · rintro L a w ⟨b0, b1, b2, b3, b4, b5, b6, b7, b8, b9, b10, x89, x90, x91, x92, x93, x94, x95, x96, x97, x98, x4, qo, qn, qc, ro, rn, rc, rfl, rfl, hb, cd0, cd1, cd2, cd3, cd4, cd5, cd6, cd7, cd8, cd9, cd10, f_r⟩ hf hd
                    have hf' : b6 = false := hf
                    subst hf'
                    have d4 : b4 = true := hd ⟨4, .data⟩ (by simp) rfl
                    subst d4
                    have d5 : b5 = true := hd ⟨5, .data⟩ (by simp) rfl
                    subst d5
                    have d3 : b3 = true := hd ⟨3, .chain⟩ (by simp) rfl
                    subst d3
                    obtain rfl := cd4.out rfl
                    obtain rfl := cd5.out rfl
                    obtain rfl := cd3.out rfl
                    clear hf hd
                    try simp only [List.setIfInBounds_toArray, List.set_cons_zero, List.set_cons_succ]
                    intro K hK
                    rw [if_pos (by rfl)]
                    go_simp
                    go_at_call 59
                    refine (HF _ hb).mono ?_
                    rintro e w' ⟨_, rfl, ⟨qo3, qn3, qc3, ro3, rn3, rc3, rfl, j1, j2, g1, g2⟩, bx⟩
                    unfold lkV
                    have r9 : RdB w' 0 qo3 qn3 qc3 ro3 rn3 rc3 H1 W1 := ⟨j1, j2, fun _ _ _ => Nat.zero_le _, fun _ _ _ => Nat.zero_le _⟩
                    exact hK.out _ _ ⟨b0, b1, b2, true, true, true, true, b7, b8, b9, b10, x89, x90, x91, .bool true, .agg #[.slice bo bn bc, .slice vo vn vc], .int .i64 S, (.agg #[.slice qo3 qn3 qc3, .slice ro3 rn3 rc3]), x96, x97, x98, x4, qo3, qn3, qc3, ro3, rn3, rc3, (by simp only [Act.put, List.setIfInBounds_toArray, List.set_cons_zero, List.set_cons_succ]), (by simp only [Act.put, List.setIfInBounds_toArray, List.set_cons_zero, List.set_cons_succ]), hb.trans (bx.mono (Nat.le_trans hB0 hb.size)), cd0, cd1, cd2, (fun _ => rfl), (fun _ => rfl), (fun _ => rfl), (fun _ => rfl), cd7, cd8, cd9, cd10, (fun _ => r9)⟩
                  · rintro L a w ⟨b0, b1, b2, b3, b4, b5, b6, b7, b8, b9, b10, x89, x90, x91, x92, x93, x94, x95, x96, x97, x98, x4, qo, qn, qc, ro, rn, rc, rfl, rfl, hb, cd0, cd1, cd2, cd3, cd4, cd5, cd6, cd7, cd8, cd9, cd10, f_r⟩ hf hd
                    have hf' : b7 = false := hf
                    subst hf'
                    have d3 : b3 = true := hd ⟨3, .guard⟩ (by simp) rfl
                    subst d3
                    obtain rfl := cd3.out rfl
                    clear hf hd
                    try simp only [List.setIfInBounds_toArray, List.set_cons_zero, List.set_cons_succ]
                    have z0 := (hb.cell hrB).trans b0_
                    have z1 := (hb.cell hrB).trans b1_
                    intro K hK
                    rw [if_pos (by rfl)]
                    go_simp
                    exact hK.out _ _ ⟨b0, b1, b2, true, b4, b5, b6, true, b8, b9, b10, x89, x90, x91, .bool true, x93, x94, x95, (.agg #[.slice bo bn bc, .slice vo vn vc]), x97, x98, x4, qo, qn, qc, ro, rn, rc, (by simp only [Act.put, List.setIfInBounds_toArray, List.set_cons_zero, List.set_cons_succ]), (by simp only [Act.put, List.setIfInBounds_toArray, List.set_cons_zero, List.set_cons_succ]), hb, cd0, cd1, cd2, (fun _ => rfl), cd4, cd5, cd6, (fun _ => rfl), cd8, cd9, cd10, f_r⟩
                  · rintro L a w ⟨b0, b1, b2, b3, b4, b5, b6, b7, b8, b9, b10, x89, x90, x91, x92, x93, x94, x95, x96, x97, x98, x4, qo, qn, qc, ro, rn, rc, rfl, rfl, hb, cd0, cd1, cd2, cd3, cd4, cd5, cd6, cd7, cd8, cd9, cd10, f_r⟩ hf hd
                    have hf' : b8 = false := hf
                    subst hf'
                    have d6 : b6 = true := hd ⟨6, .data⟩ (by simp) rfl
                    subst d6
                    have d7 : b7 = true := hd ⟨7, .data⟩ (by simp) rfl
                    subst d7
                    have d3 : b3 = true := hd ⟨3, .guard⟩ (by simp) rfl
                    subst d3
                    obtain rfl := cd6.out rfl
                    obtain rfl := cd7.out rfl
                    obtain rfl := cd3.out rfl
                    clear hf hd
                    have W_r := f_r.out rfl
                    try simp only [List.setIfInBounds_toArray, List.set_cons_zero, List.set_cons_succ]
                    intro K hK
                    rw [if_pos (by rfl)]
                    go_simp
                    go_at_call 66
                    refine (HS2 _ _ _ _ _ _ _ hb W_r).mono ?_
                    rintro e w' ⟨rfl, bx⟩
                    exact hK.out _ _ ⟨b0, b1, b2, true, b4, b5, true, true, true, b9, b10, x89, x90, x91, .bool true, x93, x94, .agg #[.slice qo qn qc, .slice ro rn rc], .agg #[.slice bo bn bc, .slice vo vn vc], (.bool true), x98, x4, qo, qn, qc, ro, rn, rc, (by simp only [Act.put, List.setIfInBounds_toArray, List.set_cons_zero, List.set_cons_succ]), (by simp only [Act.put, List.setIfInBounds_toArray, List.set_cons_zero, List.set_cons_succ]), hb.trans (bx.mono (Nat.le_trans hB0 hb.size)), cd0, cd1, cd2, (fun _ => rfl), cd4, cd5, (fun _ => rfl), (fun _ => rfl), (fun _ => rfl), cd9, cd10, (fun h0 => (f_r.out h0).past bx)⟩
                  · rintro L a w ⟨b0, b1, b2, b3, b4, b5, b6, b7, b8, b9, b10, x89, x90, x91, x92, x93, x94, x95, x96, x97, x98, x4, qo, qn, qc, ro, rn, rc, rfl, rfl, hb, cd0, cd1, cd2, cd3, cd4, cd5, cd6, cd7, cd8, cd9, cd10, f_r⟩ hf hd
                    have hf' : b9 = false := hf
                    subst hf'
                    have d3 : b3 = true := hd ⟨3, .data⟩ (by simp) rfl
                    subst d3
                    have d8 : b8 = true := hd ⟨8, .data⟩ (by simp) rfl
                    subst d8
                    obtain rfl := cd3.out rfl
                    obtain rfl := cd8.out rfl
                    clear hf hd
                    try simp only [List.setIfInBounds_toArray, List.set_cons_zero, List.set_cons_succ]
                    intro K hK
                    rw [if_pos (by rfl)]
                    go_simp
                    exact hK.out _ _ ⟨b0, b1, b2, true, b4, b5, b6, b7, true, true, b10, x89, x90, x91, .bool true, x93, x94, x95, x96, .bool true, (.bool true), x4, qo, qn, qc, ro, rn, rc, (by simp only [Act.put, List.setIfInBounds_toArray, List.set_cons_zero, List.set_cons_succ]), (by simp only [Act.put, List.setIfInBounds_toArray, List.set_cons_zero, List.set_cons_succ]), hb, cd0, cd1, cd2, (fun _ => rfl), cd4, cd5, cd6, cd7, (fun _ => rfl), (fun _ => rfl), cd10, f_r⟩
                  · rintro L a w ⟨b0, b1, b2, b3, b4, b5, b6, b7, b8, b9, b10, x89, x90, x91, x92, x93, x94, x95, x96, x97, x98, x4, qo, qn, qc, ro, rn, rc, rfl, rfl, hb, cd0, cd1, cd2, cd3, cd4, cd5, cd6, cd7, cd8, cd9, cd10, f_r⟩ hf hd
                    have hf' : b10 = false := hf
                    subst hf'
                    have d9 : b9 = true := hd ⟨9, .data⟩ (by simp) rfl
                    subst d9
                    have d8 : b8 = true := hd ⟨8, .chain⟩ (by simp) rfl
                    subst d8
                    have d0 : b0 = true := hd ⟨0, .phase⟩ (by simp) rfl
                    subst d0
                    have d1 : b1 = true := hd ⟨1, .phase⟩ (by simp) rfl
                    subst d1
                    have d2 : b2 = true := hd ⟨2, .phase⟩ (by simp) rfl
                    subst d2
                    have d3 : b3 = true := hd ⟨3, .phase⟩ (by simp) rfl
                    subst d3
                    have d4 : b4 = true := hd ⟨4, .phase⟩ (by simp) rfl
                    subst d4
                    have d5 : b5 = true := hd ⟨5, .phase⟩ (by simp) rfl
                    subst d5
                    have d6 : b6 = true := hd ⟨6, .phase⟩ (by simp) rfl
                    subst d6
                    have d7 : b7 = true := hd ⟨7, .phase⟩ (by simp) rfl
                    subst d7
                    obtain rfl := cd9.out rfl
                    obtain rfl := cd8.out rfl
                    obtain rfl := cd0.out rfl
                    obtain rfl := cd1.out rfl
                    obtain rfl := cd2.out rfl
                    obtain rfl := cd3.out rfl
                    obtain rfl := cd4.out rfl
                    obtain rfl := cd5.out rfl
                    obtain rfl := cd6.out rfl
                    obtain rfl := cd7.out rfl
                    clear hf hd
                    have W_r := f_r.out rfl
                    try simp only [List.setIfInBounds_toArray, List.set_cons_zero, List.set_cons_succ]
                    intro K hK
                    rw [if_pos (by rfl)]
                    go_simp
                    exact hK.out _ _ ⟨true, true, true, true, true, true, true, true, true, true, true, .agg #[.slice bo bn bc, .slice vo vn vc], .agg #[.slice ao1 n1 c1_, .slice ao2 n2 c2_], .bool true, .bool true, .agg #[.slice bo bn bc, .slice vo vn vc], .int .i64 S, .agg #[.slice qo qn qc, .slice ro rn rc], .agg #[.slice bo bn bc, .slice vo vn vc], .bool true, .bool true, (.bool true), qo, qn, qc, ro, rn, rc, (by simp only [Act.put, List.setIfInBounds_toArray, List.set_cons_zero, List.set_cons_succ]), (by simp only [Act.put, List.setIfInBounds_toArray, List.set_cons_zero, List.set_cons_succ]), hb, (fun _ => rfl), (fun _ => rfl), (fun _ => rfl), (fun _ => rfl), (fun _ => rfl), (fun _ => rfl), (fun _ => rfl), (fun _ => rfl), (fun _ => rfl), (fun _ => rfl), (fun _ => rfl), f_r⟩
                · rintro act V ⟨b0, b1, b2, b3, b4, b5, b6, b7, b8, b9, b10, x89, x90, x91, x92, x93, x94, x95, x96, x97, x98, x4, qo, qn, qc, ro, rn, rc, hL, rfl, hb, cd0, cd1, cd2, cd3, cd4, cd5, cd6, cd7, cd8, cd9, cd10, f_r⟩
                  have hL' : [true, true, true, true, true, true, true, true, true, true, true] = [b0, b1, b2, b3, b4, b5, b6, b7, b8, b9, b10] := congrArg Array.toList hL
                  simp only [List.cons.injEq, and_true] at hL'
                  obtain ⟨rfl, rfl, rfl, rfl, rfl, rfl, rfl, rfl, rfl, rfl, rfl⟩ := hL'
                  obtain rfl := cd0.out rfl
                  obtain rfl := cd1.out rfl
                  obtain rfl := cd2.out rfl
                  obtain rfl := cd3.out rfl
                  obtain rfl := cd4.out rfl
                  obtain rfl := cd5.out rfl
                  obtain rfl := cd6.out rfl
                  obtain rfl := cd7.out rfl
                  obtain rfl := cd8.out rfl
                  obtain rfl := cd9.out rfl
                  obtain rfl := cd10.out rfl
                  have W_r := f_r.out rfl
                  clear hL f_r cd0 cd1 cd2 cd3 cd4 cd5 cd6 cd7 cd8 cd9 cd10
                  simp only [List.setIfInBounds_toArray, List.set_cons_zero, List.set_cons_succ]
                  go_wp2_with fail
                  go_ret
                  exact ⟨rfl, by rw [HP.out]; exact BZ.trans (((Below.refl _ _).drew.trans hb).mono hZ0)⟩
end Go.Proofs.Ytckfkgmlifnfkaa
