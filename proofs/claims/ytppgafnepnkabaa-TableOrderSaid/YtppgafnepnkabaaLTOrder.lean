/-
  TableOrder, walked (by gen_torder.py).
-/
import Derived.Test.YtppgafnepnkabaaTakeU
import Derived.Test.YtppgafnepnkabaaRCmpT
import Derived.Test.YtppgafnepnkabaaEI
import Derived.Test.YtppgafnepnkabaaOpenBo
namespace Go.Proofs.Ytppgafnepnkabaa
open Go.RowKit
set_option linter.unusedSimpArgs false
theorem IsT.drew {w : World} {B : Nat} {co : Option Addr} {cn cc : Nat} {cs : List Co} {ro : Option Addr} {rn rc : Nat} {rs : List (List V)} (h : IsT w B co cn cc cs ro rn rc rs) : IsT w.drew B co cn cc cs ro rn rc rs := h.past (Below.refl _ _).drew
/-- What stands while the region's operations come up. -/
inductive TOrder11 (B : Nat) (gs : Nat) (NM : List UInt8) (g : Nat) (N : Nat) (cg : Nat) (KI : Nat) (only : Bool) (nb : Nat) (noff : Nat) (nl : Nat) (nc : Nat) (j : Nat) (x : Int) (F : List Co) (a0 : Act) (w0 : World) (L : Array Bool) (a : Act) (w : World) : Prop
  | mk (b0 b1 b2 b3 b4 b5 b6 : Bool) (x37 x38 x39 x40 x41 x42 x11 : Value) (ra : Option Addr) (rca : Nat) (hL : L = #[b0, b1, b2, b3, b4, b5, b6]) (ha : a = ⟨(((((((a0.tmps.setIfInBounds 37 x37).setIfInBounds 38 x38).setIfInBounds 39 x39).setIfInBounds 40 x40).setIfInBounds 41 x41).setIfInBounds 42 x42).setIfInBounds 11 x11), a0.defers⟩) (hb : Below B w0 w) (cd0 : Hid (b0 = true → x37 = .agg #[.string (bsOf NM), .slice (some ⟨g, 0, none⟩) N cg, .int .i64 (KI : Nat), .bool only])) (cd1 : Hid (b1 = true → x38 = .slice (some ⟨nb, noff, none⟩) nl nc)) (cd2 : Hid (b2 = true → x39 = .int .i64 (j : Nat))) (cd3 : Hid (b3 = true → x40 = .pointer (some ⟨nb, noff + j, none⟩))) (cd4 : Hid (b4 = true → x41 = .int .i64 x)) (cd5 : Hid (b5 = true → x42 = .slice ra N rca)) (cd6 : Hid (b6 = true → x11 = .slice ra N rca)) (f_r : Hid (b5 = true → TxtR EV w 55 w0.heap.size ra N rca (fitRow F x))) (w_6_5 : Hid (b6 = true → b5 = true)) : TOrder11 B gs NM g N cg KI only nb noff nl nc j x F a0 w0 L a w
/-- What stands while the region's operations come up. -/
inductive TOrder13 (B : Nat) (gt : Nat) (gs : Nat) (NM : List UInt8) (g : Nat) (N : Nat) (cg : Nat) (KI : Nat) (only : Bool) (co : Option Addr) (cc : Nat) (ro : Option Addr) (rn : Nat) (rc : Nat) (gr : Nat) (rca : Nat) (k : Int) (m : Int) (s : ByteArray) (E : Int) (F : List Co) (rs2 : List (List V)) (a0 : Act) (w0 : World) (L : Array Bool) (a : Act) (w : World) : Prop
  | mk (b0 b1 b2 b3 b4 b5 b6 b7 b8 b9 b10 b11 b12 b13 b14 : Bool) (x54 x55 x56 x57 x58 x59 x60 x53 x61 x62 x63 x12 x13 x14 : Value) (co2 : Option Addr) (cc2 : Nat) (ro2 : Option Addr) (rn2 : Nat) (rc2 : Nat) (pa : Option Addr) (pn : Nat) (pc : Nat) (gu : Nat) (hL : L = #[b0, b1, b2, b3, b4, b5, b6, b7, b8, b9, b10, b11, b12, b13, b14]) (ha : a = ⟨((((((((((((((a0.tmps.setIfInBounds 54 x54).setIfInBounds 55 x55).setIfInBounds 56 x56).setIfInBounds 57 x57).setIfInBounds 58 x58).setIfInBounds 59 x59).setIfInBounds 60 x60).setIfInBounds 53 x53).setIfInBounds 61 x61).setIfInBounds 62 x62).setIfInBounds 63 x63).setIfInBounds 12 x12).setIfInBounds 13 x13).setIfInBounds 14 x14), a0.defers⟩) (hb : Below B w0 w) (cd0 : Hid (b0 = true → x54 = .agg #[.string (bsOf NM), .slice co N cc, .int .i64 (KI : Nat), .bool only, .slice ro rn rc])) (cd1 : Hid (b1 = true → x55 = .slice (some ⟨gr, 0, none⟩) N rca)) (cd2 : Hid (b2 = true → x56 = .pointer (some ⟨gs, 2, none⟩))) (cd3 : Hid (b3 = true → x57 = .int .i64 (KI : Nat))) (cd4 : Hid (b4 = true → x58 = .pointer (some ⟨gr, KI * 3, none⟩))) (cd5 : Hid (b5 = true → x59 = .agg #[.int .i64 k, .int .i64 m, .string s])) (cd6 : Hid (b6 = true → x60 = .tuple #[.agg #[.string (bsOf NM), .slice co2 N cc2, .int .i64 (KI : Nat), .bool only, .slice ro2 rn2 rc2], .slice pa pn pc, .int .i64 E])) (cd7 : Hid (b7 = true → x53 = .tuple #[.agg #[.string (bsOf NM), .slice co2 N cc2, .int .i64 (KI : Nat), .bool only, .slice ro2 rn2 rc2], .slice pa pn pc, .int .i64 E])) (cd8 : Hid (b8 = true → x61 = .agg #[.string (bsOf NM), .slice co2 N cc2, .int .i64 (KI : Nat), .bool only, .slice ro2 rn2 rc2])) (cd9 : Hid (b9 = true → x62 = .slice pa pn pc)) (cd10 : Hid (b10 = true → x63 = .int .i64 E)) (cd11 : Hid (b11 = true → x12 = .pointer (some ⟨gu, 0, none⟩))) (cd13 : Hid (b13 = true → x13 = .slice pa pn pc)) (cd14 : Hid (b14 = true → x14 = .int .i64 E)) (f_tt : Hid (b6 = true → IsT w w0.heap.size co2 N cc2 F ro2 rn2 rc2 rs2)) (f_st : Hid (b6 = true → b12 = false → (b11 = true → ∀ w'', w.grownBy w'' (some gu) → IsT w'' w0.heap.size co2 N cc2 F ro2 rn2 rc2 rs2))) (f_lt : Hid (b11 = true → gu < w.heap.size)) (f_z : Hid (b11 = true → b12 = false → Bk w gu (tbC [] none 0 0 0 false none 0 0) 47)) (f_lg : Hid (b11 = true → w0.heap.size ≤ gu)) (f_s : Hid (b12 = true → Bk w gu (tbC NM co2 N cc2 (KI : Nat) only ro2 rn2 rc2) 47)) (f_o12 : Hid (b12 = true → b6 = true)) (f_o12b : Hid (b12 = true → b11 = true)) (w_7_6 : Hid (b7 = true → b6 = true)) (w_8_6 : Hid (b8 = true → b6 = true)) (w_9_6 : Hid (b9 = true → b6 = true)) (w_13_6 : Hid (b13 = true → b6 = true)) : TOrder13 B gt gs NM g N cg KI only co cc ro rn rc gr rca k m s E F rs2 a0 w0 L a w
/-- What stands while the region's operations come up. -/
inductive TOrder24 (B : Nat) (gt : Nat) (gs : Nat) (N : Nat) (KI : Nat) (rb : Nat) (roff : Nat) (rn : Nat) (rc : Nat) (j : Nat) (jm : Nat) (a1 : Nat) (f1 : Nat) (c1 : Nat) (a2 : Nat) (f2 : Nat) (c2 : Nat) (k1 : Int) (m1 : Int) (s1 : ByteArray) (k2 : Int) (m2 : Int) (s2 : ByteArray) (C : Int) (a0 : Act) (w0 : World) (L : Array Bool) (a : Act) (w : World) : Prop
  | mk (b0 b1 b2 b3 b4 b5 b6 b7 b8 b9 b10 b11 b12 b13 b14 b15 b16 b17 b18 b19 b20 : Bool) (x87 x88 x89 x90 x91 x92 x93 x94 x95 x96 x97 x98 x99 x100 x101 x102 x103 x104 x105 x106 x107 : Value) (hL : L = #[b0, b1, b2, b3, b4, b5, b6, b7, b8, b9, b10, b11, b12, b13, b14, b15, b16, b17, b18, b19, b20]) (ha : a = ⟨(((((((((((((((((((((a0.tmps.setIfInBounds 87 x87).setIfInBounds 88 x88).setIfInBounds 89 x89).setIfInBounds 90 x90).setIfInBounds 91 x91).setIfInBounds 92 x92).setIfInBounds 93 x93).setIfInBounds 94 x94).setIfInBounds 95 x95).setIfInBounds 96 x96).setIfInBounds 97 x97).setIfInBounds 98 x98).setIfInBounds 99 x99).setIfInBounds 100 x100).setIfInBounds 101 x101).setIfInBounds 102 x102).setIfInBounds 103 x103).setIfInBounds 104 x104).setIfInBounds 105 x105).setIfInBounds 106 x106).setIfInBounds 107 x107), a0.defers⟩) (hb : Below B w0 w) (cd0 : Hid (b0 = true → x87 = .pointer (some ⟨gt, 4, none⟩))) (cd1 : Hid (b1 = true → x88 = .slice (some ⟨rb, roff, none⟩) rn rc)) (cd2 : Hid (b2 = true → x89 = .int .i64 (j : Nat))) (cd3 : Hid (b3 = true → x90 = .int .i64 (jm : Nat))) (cd4 : Hid (b4 = true → x91 = .pointer (some ⟨rb, roff + jm, none⟩))) (cd5 : Hid (b5 = true → x92 = .slice (some ⟨a1, f1, none⟩) N c1)) (cd6 : Hid (b6 = true → x93 = .pointer (some ⟨gs, 2, none⟩))) (cd7 : Hid (b7 = true → x94 = .int .i64 (KI : Nat))) (cd8 : Hid (b8 = true → x95 = .pointer (some ⟨a1, f1 + KI * 3, none⟩))) (cd9 : Hid (b9 = true → x96 = .agg #[.int .i64 k1, .int .i64 m1, .string s1])) (cd10 : Hid (b10 = true → x97 = .pointer (some ⟨gt, 4, none⟩))) (cd11 : Hid (b11 = true → x98 = .slice (some ⟨rb, roff, none⟩) rn rc)) (cd12 : Hid (b12 = true → x99 = .int .i64 (j : Nat))) (cd13 : Hid (b13 = true → x100 = .pointer (some ⟨rb, roff + j, none⟩))) (cd14 : Hid (b14 = true → x101 = .slice (some ⟨a2, f2, none⟩) N c2)) (cd15 : Hid (b15 = true → x102 = .pointer (some ⟨gs, 2, none⟩))) (cd16 : Hid (b16 = true → x103 = .int .i64 (KI : Nat))) (cd17 : Hid (b17 = true → x104 = .pointer (some ⟨a2, f2 + KI * 3, none⟩))) (cd18 : Hid (b18 = true → x105 = .agg #[.int .i64 k2, .int .i64 m2, .string s2])) (cd19 : Hid (b19 = true → x106 = .int .i64 C)) (cd20 : Hid (b20 = true → x107 = .bool (decide (0 ≤ C)))) : TOrder24 B gt gs N KI rb roff rn rc j jm a1 f1 c1 a2 f2 c2 k1 m1 s1 k2 m2 s2 C a0 w0 L a w
set_option maxRecDepth 100000 in
set_option maxHeartbeats 8000000 in
theorem tableOrder_walk (l : List UInt8) (ao : Option Addr) (n c : Nat) (key : Int) (only : Bool) (cs : List Co) (na : Option Addr) (nl nc : Nat) (ns : List Int) (ba : Option Addr) (bl bc' : Nat) (bs : List Bool) (w : World) (_hl : l.length ≤ maxLen) (_hkey : (Lit.int .i64 key).wf = true) (h : IsR encCo w ao n c cs) (_hcs : ∀ x ∈ cs, (Lit.int .i64 x.kind).wf = true ∧ x.name.length ≤ maxLen) (hI : IsR EI w na nl nc ns) (hIw : ∀ x ∈ ns, (Lit.int .i64 x).wf = true) (hE : IsR EBo w ba bl bc' bs) :
    Calls Try.prog 5 #[scV l ao n c key only, .slice na nl nc, .slice ba bl bc'] w (Told w true) := by
  unfold scV
  have X0 := ScB.new w l ao n c key only
  have B0 := (Below.refl w.heap.size w).alloc (Nat.le_refl _) (.cells #[.string (bsOf l), .slice ao n c, .int .i64 key, .bool only] 40)
  go_enter Try.func5, Try.ntmps5
  go_upto_region 1 with fail
  generalize w.alloc (.cells #[.string (bsOf l), .slice ao n c, .int .i64 key, .bool only] 40) = W0 at X0 B0 ⊢
  obtain ⟨p0, hp0⟩ : ∃ p0, w.heap.size = p0 := ⟨_, rfl⟩
  have HP := Lib.hid hp0
  rw [hp0] at X0 B0
  simp only [hp0]
  clear hp0
  have hW0 : p0 ≤ W0.heap.size := Nat.le_of_lt X0.lt
  go_upto_region 3 with (go_at_call 18; refine (known10 _).mono ?_; rintro e w1 ⟨rfl, b1⟩)
  have X1 := X0.past b1
  have B1 := B0.trans (b1.mono hW0)
  have hW1 := Nat.le_trans hW0 b1.size
  have h1 : IsR encCo w1 ao n c cs := h.past (by rw [HP.out]; exact B1)
  have HFw := few9_any w1 l ao n c cs key only h1
  unfold scV at HFw
  have y0 : w1.cell? ⟨p0, 0, none⟩ = some (.string (bsOf l)) := cell_blk X1 rfl
  have y1 : w1.cell? ⟨p0, 1, none⟩ = some (.slice ao n c) := cell_blk X1 rfl
  have y2 : w1.cell? ⟨p0, 2, none⟩ = some (.int .i64 key) := cell_blk X1 rfl
  have y3 : w1.cell? ⟨p0, 3, none⟩ = some (.bool only) := cell_blk X1 rfl
  cases hfw : fewS l cs
  · rw [hfw] at HFw
    go_wp2_with (go_at_call 19; refine HFw.mono ?_; rintro e w2 ⟨rfl, b2⟩)
    go_ret
    exact ⟨rfl, by rw [HP.out]; exact B1.trans (b2.mono hW1)⟩
  rw [hfw] at HFw
  have hn9 : n ≤ 9 := by
    unfold fewS at hfw
    simp only [Bool.and_eq_true, decide_eq_true_eq] at hfw
    have := h.len
    omega
  clear hfw
  go_upto_region 5 with (go_at_call 19; refine HFw.mono ?_; rintro e w2 ⟨rfl, b2⟩)
  have X2 := X1.past b2
  have B2 := B1.trans (b2.mono hW1)
  have hW2 := Nat.le_trans hW1 b2.size
  have h2 := h1.past b2
  clear y0 y1 y2 y3 HFw
  have y0 : w2.cell? ⟨p0, 0, none⟩ = some (.string (bsOf l)) := cell_blk X2 rfl
  have y1 : w2.cell? ⟨p0, 1, none⟩ = some (.slice ao n c) := cell_blk X2 rfl
  have y2 : w2.cell? ⟨p0, 2, none⟩ = some (.int .i64 key) := cell_blk X2 rfl
  have y3 : w2.cell? ⟨p0, 3, none⟩ = some (.bool only) := cell_blk X2 rfl
  have HG := good9_any w2 l ao n c cs key 3 only h2 (by omega)
  unfold GoodIs scV at HG
  have hNp := gN_pos cs
  have hKl := (gKey_lt cs key).1
  have hFl := gFin_len cs key
  have hFk := gFin_kinds cs key
  have hFn := gFin_keyN cs key
  obtain ⟨N, hN⟩ : ∃ N, gN cs = N := ⟨_, rfl⟩
  obtain ⟨KI, hKI⟩ : ∃ KI, gKey cs key = KI := ⟨_, rfl⟩
  obtain ⟨F, hF⟩ : ∃ F, gFin cs key = F := ⟨_, rfl⟩
  obtain ⟨NM, hNM⟩ : ∃ NM, gNm 3 = NM := ⟨_, rfl⟩
  simp only [hN, hKI, hF, hNM] at HG hNp hKl hFl hFk hFn
  clear hN hKI hF hNM
  go_upto_region 6 with (go_at_call 21; refine HG.mono ?_; rintro e w3 ⟨g, cg, rfl, og, b3, q3⟩)
  have hW3 := Nat.le_trans hW2 b3.size
  have B3 : Below p0 w (w3.alloc (.cells #[.string (bsOf NM), .slice (some ⟨g, 0, none⟩) N cg, .int .i64 (KI : Nat), .bool only] 40)) := (B2.trans (b3.mono hW2)).alloc hW3 _
  have XS : Bk (w3.alloc (.cells #[.string (bsOf NM), .slice (some ⟨g, 0, none⟩) N cg, .int .i64 (KI : Nat), .bool only] 40)) w3.heap.size (scC NM (some ⟨g, 0, none⟩) N cg (KI : Nat) only) 40 := Bk.new w3 _ _
  have oG := og.alloc (.cells #[.string (bsOf NM), .slice (some ⟨g, 0, none⟩) N cg, .int .i64 (KI : Nat), .bool only] 40)
  have hgl := og.lt
  have hg0 : p0 ≤ g := Nat.le_trans hW2 q3
  generalize w3.alloc (.cells #[.string (bsOf NM), .slice (some ⟨g, 0, none⟩) N cg, .int .i64 (KI : Nat), .bool only] 40) = W at B3 XS oG ⊢
  obtain ⟨gs, hgs⟩ : ∃ gs, w3.heap.size = gs := ⟨_, rfl⟩
  rw [hgs] at XS hgl hW3
  simp only [hgs]
  obtain ⟨z0, z1, z2, z3⟩ := sc_cells XS
  have hgsW : gs < W.heap.size := XS.lt
  have iG := oG.isR
  clear hgs og b3 q3 HG y0 y1 y2 y3 X2 X1 X0 B2 B1 B0 b1 b2 h2 h1 hW2 hW1 hW0
  go_upto_region 9 with fail
  have hTn : Bk (W.alloc (.cells #[.string (bsOf NM), .slice (some ⟨g, 0, none⟩) N cg, .int .i64 (KI : Nat), .bool only, .slice none 0 0] 47)) W.heap.size (tbC NM (some ⟨g, 0, none⟩) N cg (KI : Nat) only none 0 0) 47 := Bk.new W _ _
  have XS' := XS.alloc (.cells #[.string (bsOf NM), .slice (some ⟨g, 0, none⟩) N cg, .int .i64 (KI : Nat), .bool only, .slice none 0 0] 47)
  have iG' := iG.alloc (.cells #[.string (bsOf NM), .slice (some ⟨g, 0, none⟩) N cg, .int .i64 (KI : Nat), .bool only, .slice none 0 0] 47)
  have hpW : p0 ≤ W.heap.size := by omega
  have B4 := B3.alloc hpW (.cells #[.string (bsOf NM), .slice (some ⟨g, 0, none⟩) N cg, .int .i64 (KI : Nat), .bool only, .slice none 0 0] 47)
  generalize W.alloc (.cells #[.string (bsOf NM), .slice (some ⟨g, 0, none⟩) N cg, .int .i64 (KI : Nat), .bool only, .slice none 0 0] 47) = U at hTn XS' iG' B4 ⊢
  obtain ⟨gt, hgt⟩ : ∃ gt, W.heap.size = gt := ⟨_, rfl⟩
  rw [hgt] at hTn hgsW hpW
  simp only [hgt]
  have hgst : some gs ≠ some gt := by intro e; have := Option.some.inj e; omega
  have hggt : some g ≠ some gt := by intro e; have := Option.some.inj e; omega
  have hp0t : p0 ≤ gt := hpW
  have iT0 : IsT U 0 (some ⟨g, 0, none⟩) N cg F none 0 0 [] := ⟨iG', IsRR.nil U 0, fun _ _ => Nat.zero_le _⟩
  clear hgt XS iG B3 oG z0 z1 z2 z3
  go_wp2_with fail
  go_loopw [9, 10] (fun cnt i wr => ∃ (j : Nat) (co : Option Addr) (cc : Nat) (ro : Option Addr) (rn rc : Nat) (rs : List (List V)), j ≤ nl ∧ j ≤ 60 ∧ i = .int .i64 (j : Nat) ∧ cnt = .int .i64 (rn : Nat) ∧ Bk wr gs (scC NM (some ⟨g, 0, none⟩) N cg (KI : Nat) only) 40 ∧ IsR encCo wr (some ⟨g, 0, none⟩) N cg F ∧ Bk wr gt (tbC NM co N cc (KI : Nat) only ro rn rc) 47 ∧ IsT wr 0 co N cc F ro rn rc rs ∧ Fits F KI rs ∧ rn ≤ j ∧ Below p0 w wr) (fun _ i _ => nl - (intOf i).toNat)
  case atStart => exact ⟨0, _, _, _, 0, _, [], Nat.zero_le _, by omega, rfl, rfl, XS', iG', hTn, iT0, Fits.nil F KI, Nat.le_refl _, B4⟩
  case round =>
    clear XS' iG' hTn iT0 B4
    obtain ⟨j, co, cc, ro, rn, rc, rs, hj, hj60, rfl, rfl, XS0, iG0, hT0, iT, hFi, hrj, BB⟩ := hrel
    obtain ⟨z0, z1, z2, z3⟩ := sc_cells XS0
    obtain ⟨t0, t1, t2, t3, t4⟩ := tb_cells hT0
    have hpw : p0 ≤ wr.heap.size := by have := BB.size; rw [HP.out] at this; exact this
    have hgsB := XS0.lt
    have hgtB := hT0.lt
    by_cases hlt : j < nl ∧ j < 60
    · have hlti : (j : Int) < (nl : Int) := by omega
      have hlt6 : (j : Int) < 60 := by omega
      obtain ⟨x, hx⟩ : ∃ x, ns[j]? = some x := ⟨ns[j]'(by have := hI.len; omega), List.getElem?_eq_getElem _⟩
      have hxw := hIw x (List.mem_of_getElem? hx)
      obtain ⟨nb, noff, rfl, hnb, hncl⟩ := hI.open (by omega) (by decide)
      have hnbp : nb < p0 := by rw [← HP.out]; exact hnb
      have cx : wr.cell? ⟨nb, noff + j, none⟩ = some (.int .i64 x) := by
        rw [BB.cell (show nb < p0 from hnbp)]
        exact hncl j _ (by have := EI.all_get ns j 0 x hx (by decide); simpa [EI] using this)
      have hnbB : nb < wr.heap.size := by omega
      have HFit := fun (w' : World) (hb : Below wr.heap.size wr.drew w') => fit_any w' NM (some ⟨g, 0, none⟩) N cg F (KI : Nat) only (iG0.drew.past hb) (by omega) hFk x hxw
      unfold scV at HFit
      have hB0 : wr.heap.size ≤ wr.heap.size := Nat.le_refl _
      clear hncl hx
      go_upto_region 11 with fail
      refine region_inv (TOrder11 wr.heap.size gs NM g N cg KI only nb noff nl nc j x F) (by kernel_rfl) (by kernel_rfl) ?_ ?_ ?_
      · exact ⟨false, false, false, false, false, false, false, u37, u38, u39, u40, u41, u42, u11, none, 0, rfl, (by simp only [Act.put, List.setIfInBounds_toArray, List.set_cons_zero, List.set_cons_succ]), Below.refl _ _, (fun h => by cases h), (fun h => by cases h), (fun h => by cases h), (fun h => by cases h), (fun h => by cases h), (fun h => by cases h), (fun h => by cases h), (fun h => by cases h), (fun h => by cases h)⟩
      · refine ⟨?_, ?_, ?_, ?_, ?_, ?_, ?_, trivial⟩
        · rintro L a w ⟨b0, b1, b2, b3, b4, b5, b6, x37, x38, x39, x40, x41, x42, x11, ra, rca, rfl, rfl, hb, cd0, cd1, cd2, cd3, cd4, cd5, cd6, f_r, w_6_5⟩ hf hd
          have hf' : b0 = false := hf
          subst hf'
          clear hf hd
          try simp only [List.setIfInBounds_toArray, List.set_cons_zero, List.set_cons_succ]
          have z0 := (hb.cell hgsB).trans z0
          have z1 := (hb.cell hgsB).trans z1
          have z2 := (hb.cell hgsB).trans z2
          have z3 := (hb.cell hgsB).trans z3
          intro K hK
          rw [if_pos (by rfl)]
          go_simp
          exact hK.out _ _ ⟨true, b1, b2, b3, b4, b5, b6, (.agg #[.string (bsOf NM), .slice (some ⟨g, 0, none⟩) N cg, .int .i64 (KI : Nat), .bool only]), x38, x39, x40, x41, x42, x11, ra, rca, (by simp only [Act.put, List.setIfInBounds_toArray, List.set_cons_zero, List.set_cons_succ]), (by simp only [Act.put, List.setIfInBounds_toArray, List.set_cons_zero, List.set_cons_succ]), hb, (fun _ => rfl), cd1, cd2, cd3, cd4, cd5, cd6, f_r, w_6_5⟩
        · rintro L a w ⟨b0, b1, b2, b3, b4, b5, b6, x37, x38, x39, x40, x41, x42, x11, ra, rca, rfl, rfl, hb, cd0, cd1, cd2, cd3, cd4, cd5, cd6, f_r, w_6_5⟩ hf hd
          have hf' : b1 = false := hf
          subst hf'
          clear hf hd
          try simp only [List.setIfInBounds_toArray, List.set_cons_zero, List.set_cons_succ]
          intro K hK
          rw [if_pos (by rfl)]
          go_simp
          exact hK.out _ _ ⟨b0, true, b2, b3, b4, b5, b6, x37, (.slice (some ⟨nb, noff, none⟩) nl nc), x39, x40, x41, x42, x11, ra, rca, (by simp only [Act.put, List.setIfInBounds_toArray, List.set_cons_zero, List.set_cons_succ]), (by simp only [Act.put, List.setIfInBounds_toArray, List.set_cons_zero, List.set_cons_succ]), hb, cd0, (fun _ => rfl), cd2, cd3, cd4, cd5, cd6, f_r, w_6_5⟩
        · rintro L a w ⟨b0, b1, b2, b3, b4, b5, b6, x37, x38, x39, x40, x41, x42, x11, ra, rca, rfl, rfl, hb, cd0, cd1, cd2, cd3, cd4, cd5, cd6, f_r, w_6_5⟩ hf hd
          have hf' : b2 = false := hf
          subst hf'
          clear hf hd
          try simp only [List.setIfInBounds_toArray, List.set_cons_zero, List.set_cons_succ]
          intro K hK
          rw [if_pos (by rfl)]
          go_simp
          exact hK.out _ _ ⟨b0, b1, true, b3, b4, b5, b6, x37, x38, (.int .i64 (j : Nat)), x40, x41, x42, x11, ra, rca, (by simp only [Act.put, List.setIfInBounds_toArray, List.set_cons_zero, List.set_cons_succ]), (by simp only [Act.put, List.setIfInBounds_toArray, List.set_cons_zero, List.set_cons_succ]), hb, cd0, cd1, (fun _ => rfl), cd3, cd4, cd5, cd6, f_r, w_6_5⟩
        · rintro L a w ⟨b0, b1, b2, b3, b4, b5, b6, x37, x38, x39, x40, x41, x42, x11, ra, rca, rfl, rfl, hb, cd0, cd1, cd2, cd3, cd4, cd5, cd6, f_r, w_6_5⟩ hf hd
          have hf' : b3 = false := hf
          subst hf'
          have d1 : b1 = true := hd ⟨1, .data⟩ (by simp) rfl
          subst d1
          have d2 : b2 = true := hd ⟨2, .data⟩ (by simp) rfl
          subst d2
          obtain rfl := cd1.out rfl
          obtain rfl := cd2.out rfl
          clear hf hd
          try simp only [List.setIfInBounds_toArray, List.set_cons_zero, List.set_cons_succ]
          intro K hK
          rw [if_pos (by rfl)]
          go_simp
          exact hK.out _ _ ⟨b0, true, true, true, b4, b5, b6, x37, .slice (some ⟨nb, noff, none⟩) nl nc, .int .i64 (j : Nat), (.pointer (some ⟨nb, noff + j, none⟩)), x41, x42, x11, ra, rca, (by simp only [Act.put, List.setIfInBounds_toArray, List.set_cons_zero, List.set_cons_succ]), (by simp only [Act.put, List.setIfInBounds_toArray, List.set_cons_zero, List.set_cons_succ]), hb, cd0, (fun _ => rfl), (fun _ => rfl), (fun _ => rfl), cd4, cd5, cd6, f_r, w_6_5⟩
        · rintro L a w ⟨b0, b1, b2, b3, b4, b5, b6, x37, x38, x39, x40, x41, x42, x11, ra, rca, rfl, rfl, hb, cd0, cd1, cd2, cd3, cd4, cd5, cd6, f_r, w_6_5⟩ hf hd
          have hf' : b4 = false := hf
          subst hf'
          have d3 : b3 = true := hd ⟨3, .data⟩ (by simp) rfl
          subst d3
          obtain rfl := cd3.out rfl
          clear hf hd
          try simp only [List.setIfInBounds_toArray, List.set_cons_zero, List.set_cons_succ]
          have z0 := (hb.cell hnbB).trans cx
          intro K hK
          rw [if_pos (by rfl)]
          go_simp
          exact hK.out _ _ ⟨b0, b1, b2, true, true, b5, b6, x37, x38, x39, .pointer (some ⟨nb, noff + j, none⟩), (.int .i64 x), x42, x11, ra, rca, (by simp only [Act.put, List.setIfInBounds_toArray, List.set_cons_zero, List.set_cons_succ]), (by simp only [Act.put, List.setIfInBounds_toArray, List.set_cons_zero, List.set_cons_succ]), hb, cd0, cd1, cd2, (fun _ => rfl), (fun _ => rfl), cd5, cd6, f_r, w_6_5⟩
        · rintro L a w ⟨b0, b1, b2, b3, b4, b5, b6, x37, x38, x39, x40, x41, x42, x11, ra, rca, rfl, rfl, hb, cd0, cd1, cd2, cd3, cd4, cd5, cd6, f_r, w_6_5⟩ hf hd
          have hf' : b5 = false := hf
          subst hf'
          have d0 : b0 = true := hd ⟨0, .data⟩ (by simp) rfl
          subst d0
          have d4 : b4 = true := hd ⟨4, .data⟩ (by simp) rfl
          subst d4
          obtain rfl := cd0.out rfl
          obtain rfl := cd4.out rfl
          clear hf hd
          try simp only [List.setIfInBounds_toArray, List.set_cons_zero, List.set_cons_succ]
          intro K hK
          rw [if_pos (by rfl)]
          go_simp
          go_at_call 22
          refine (HFit _ hb).mono ?_
          rintro e w' ⟨ra2, rca2, rfl, oT, bx⟩
          have e_6 : b6 = false := by cases hq : b6 with | false => rfl | true => exact absurd (w_6_5.out hq) (by simp)
          subst e_6
          exact hK.out _ _ ⟨true, b1, b2, b3, true, true, false, .agg #[.string (bsOf NM), .slice (some ⟨g, 0, none⟩) N cg, .int .i64 (KI : Nat), .bool only], x38, x39, x40, .int .i64 x, (.slice ra2 N rca2), x11, ra2, rca2, (by simp only [Act.put, List.setIfInBounds_toArray, List.set_cons_zero, List.set_cons_succ]), (by simp only [Act.put, List.setIfInBounds_toArray, List.set_cons_zero, List.set_cons_succ]), hb.trans (bx.mono (Nat.le_trans hB0 hb.size)), (fun _ => rfl), cd1, cd2, cd3, (fun _ => rfl), (fun _ => rfl), (fun h => by cases h), (fun _ => oT.lower hb.size), (fun _ => rfl)⟩
        · rintro L a w ⟨b0, b1, b2, b3, b4, b5, b6, x37, x38, x39, x40, x41, x42, x11, ra, rca, rfl, rfl, hb, cd0, cd1, cd2, cd3, cd4, cd5, cd6, f_r, w_6_5⟩ hf hd
          have hf' : b6 = false := hf
          subst hf'
          have d5 : b5 = true := hd ⟨5, .data⟩ (by simp) rfl
          subst d5
          have d0 : b0 = true := hd ⟨0, .phase⟩ (by simp) rfl
          subst d0
          have d1 : b1 = true := hd ⟨1, .phase⟩ (by simp) rfl
          subst d1
          have d2 : b2 = true := hd ⟨2, .phase⟩ (by simp) rfl
          subst d2
          have d3 : b3 = true := hd ⟨3, .phase⟩ (by simp) rfl
          subst d3
          have d4 : b4 = true := hd ⟨4, .phase⟩ (by simp) rfl
          subst d4
          obtain rfl := cd5.out rfl
          obtain rfl := cd0.out rfl
          obtain rfl := cd1.out rfl
          obtain rfl := cd2.out rfl
          obtain rfl := cd3.out rfl
          obtain rfl := cd4.out rfl
          clear hf hd
          have W_r := f_r.out rfl
          try simp only [List.setIfInBounds_toArray, List.set_cons_zero, List.set_cons_succ]
          intro K hK
          rw [if_pos (by rfl)]
          go_simp
          exact hK.out _ _ ⟨true, true, true, true, true, true, true, .agg #[.string (bsOf NM), .slice (some ⟨g, 0, none⟩) N cg, .int .i64 (KI : Nat), .bool only], .slice (some ⟨nb, noff, none⟩) nl nc, .int .i64 (j : Nat), .pointer (some ⟨nb, noff + j, none⟩), .int .i64 x, .slice ra N rca, (.slice ra N rca), ra, rca, (by simp only [Act.put, List.setIfInBounds_toArray, List.set_cons_zero, List.set_cons_succ]), (by simp only [Act.put, List.setIfInBounds_toArray, List.set_cons_zero, List.set_cons_succ]), hb, (fun _ => rfl), (fun _ => rfl), (fun _ => rfl), (fun _ => rfl), (fun _ => rfl), (fun _ => rfl), (fun _ => rfl), f_r, (fun _ => rfl)⟩
      · rintro act V1 ⟨b0, b1, b2, b3, b4, b5, b6, x37, x38, x39, x40, x41, x42, x11, ra, rca, hL, rfl, hb, cd0, cd1, cd2, cd3, cd4, cd5, cd6, f_r, w_6_5⟩
        have hL' : [true, true, true, true, true, true, true] = [b0, b1, b2, b3, b4, b5, b6] := congrArg Array.toList hL
        simp only [List.cons.injEq, and_true] at hL'
        obtain ⟨rfl, rfl, rfl, rfl, rfl, rfl, rfl⟩ := hL'
        obtain rfl := cd0.out rfl
        obtain rfl := cd1.out rfl
        obtain rfl := cd2.out rfl
        obtain rfl := cd3.out rfl
        obtain rfl := cd4.out rfl
        obtain rfl := cd5.out rfl
        obtain rfl := cd6.out rfl
        have W_r := f_r.out rfl
        clear hL f_r cd0 cd1 cd2 cd3 cd4 cd5 cd6 w_6_5
        simp only [List.setIfInBounds_toArray, List.set_cons_zero, List.set_cons_succ]
        have bV1 : Below wr.heap.size wr V1 := (Below.refl _ _).drew.trans hb
        obtain ⟨gr, rfl, oR, hgr⟩ := W_r.own (by omega)
        have XS1 := XS0.past bV1
        have iG1 := iG0.past bV1
        have hT1 := hT0.past bV1
        have iT1 := iT.past bV1
        have BV1 := BB.trans (bV1.mono hpw)
        have hpV1 := Nat.le_trans hpw bV1.size
        clear hb W_r z0 z1 z2 z3 t0 t1 t2 t3 t4 cx HFit
        obtain ⟨z0, z1, z2, z3⟩ := sc_cells XS1
        obtain ⟨t0, t1, t2, t3, t4⟩ := tb_cells hT1
        have hgsB := XS1.lt
        have hgtB := hT1.lt
        have hgrB := oR.lt
        have hB0 : V1.heap.size ≤ V1.heap.size := Nat.le_refl _
        obtain ⟨xk, hxk, hxn⟩ := hFn
        have hrow := fitRow_get (n := x) hxk
        have hkof : kOf KI (fitRow F x) = fitVal x KI xk := kOf_fit hxk
        obtain ⟨v0, v1, v2⟩ := own_vcells oR KI _ hrow
        obtain ⟨vv0, hvv⟩ : ∃ v, fitVal x KI xk = v := ⟨_, rfl⟩
        rw [hvv] at v0 v1 v2 hkof
        have hlen100 : ∀ y ∈ rs, 0 < y.length ∧ y.length ≤ 100 := fun y hy => by have := hFi.len y hy; omega
        have hln := iT.rows.len
        by_cases hbl : j < bl
        · have hbli : (j : Int) < (bl : Int) := by omega
          obtain ⟨bv, hbv⟩ : ∃ bv, bs[j]? = some bv := ⟨bs[j]'(by have := hE.len; omega), List.getElem?_eq_getElem _⟩
          obtain ⟨eb, eoff, rfl, heb, hec⟩ := hE.open (by omega) (by decide)
          have ce : V1.cell? ⟨eb, eoff + j, none⟩ = some (.bool bv) := by
            rw [BV1.cell (show eb < p0 by have := HP.out; omega)]
            exact hec j _ (by have := EBo.all_get bs j 0 bv hbv (by decide); simpa [EBo] using this)
          cases bv
          · have HPt := put_any V1 NM co N cc KI only ro rn rc F (by omega) (by omega) 0 rs iT1 (some ⟨gr, 0, none⟩) N rca _ oR.isR hFi.srt (by omega) (fun y hy => (hlen100 y hy).2) (by omega)
            have HC := put_fit F hFk KI x rs (by omega)
            obtain ⟨E, hEe⟩ : ∃ E, putE F KI (fitRow F x) rs = E := ⟨_, rfl⟩
            obtain ⟨rs2, hrs2⟩ : ∃ rs2, putR F KI (fitRow F x) rs = rs2 := ⟨_, rfl⟩
            have hnx : Hid (Fits F KI rs2) := by
              show Fits F KI rs2
              rw [← hrs2]
              exact hFi.putR x
            have HEE : Hid ((E = 0 ∧ rs2.length = rn + 1) ∨ (E = 7 ∧ rs2.length = rn)) := by
              show _ ∨ _
              rw [← hEe, ← hrs2]
              rcases HC with ⟨h1, -, h3⟩ | ⟨h1, -, h3⟩
              · exact .inl ⟨h1, by rw [h3, put_len, hln]⟩
              · exact .inr ⟨h1, by rw [h3, hln]⟩
            rw [hEe, hrs2] at HPt
            unfold tbV at HPt
            clear hEe hrs2 HC hrow hkof hvv hxk
            go_upto_region 18 with (go_at_call 24; refine HPt.mono ?_; rintro e w4 ⟨co2, cc2, ro2, rn2, rc2, rfl, i2, b2⟩; unfold tbV)
            have bV3 : Below V1.heap.size V1 (w4.alloc (.cells #[.string (bsOf NM), .slice co2 N cc2, .int .i64 (KI : Nat), .bool only, .slice ro2 rn2 rc2] 47)) := b2.alloc b2.size _
            have W_s : Bk (w4.alloc (.cells #[.string (bsOf NM), .slice co2 N cc2, .int .i64 (KI : Nat), .bool only, .slice ro2 rn2 rc2] 47)) w4.heap.size (tbC NM co2 N cc2 (KI : Nat) only ro2 rn2 rc2) 47 := Bk.new w4 _ _
            have i3 := i2.past ((Below.refl w4.heap.size w4).alloc (Nat.le_refl _) (.cells #[.string (bsOf NM), .slice co2 N cc2, .int .i64 (KI : Nat), .bool only, .slice ro2 rn2 rc2] 47))
            generalize w4.alloc (.cells #[.string (bsOf NM), .slice co2 N cc2, .int .i64 (KI : Nat), .bool only, .slice ro2 rn2 rc2] 47) = V3 at bV3 W_s i3 ⊢
            obtain ⟨gu, hgu⟩ : ∃ gu, w4.heap.size = gu := ⟨_, rfl⟩
            rw [hgu] at W_s
            simp only [hgu]
            have hT3 := hT1.past bV3
            have XS3 := XS1.past bV3
            have iG3 := iG1.past bV3
            have BV3 := BV1.trans (bV3.mono hpV1)
            have hgtI : gt < V1.heap.size := hT1.lt
            obtain ⟨y0, y1, y2, y3, y4⟩ := tb_cells W_s
            clear hgu b2 i2 t0 t1 t2 t3 t4 z0 z1 z2 z3 v0 v1 v2 HPt
            have hT3h : Hid (V3.heap[gt]? = some (.cells (tbC NM co N cc (KI : Nat) only ro rn rc) 47 (0, 0))) := hT3
            have fin : ∀ W4, Hid (W4.heap[gt]? = some (.cells (tbC NM co2 N cc2 (KI : Nat) only ro2 rn2 rc2) 47 (0, 0))) → V3.grownBy W4 (some gt) → Bk W4 gs (scC NM (some ⟨g, 0, none⟩) N cg (KI : Nat) only) 40 ∧ IsR encCo W4 (some ⟨g, 0, none⟩) N cg F ∧ Bk W4 gt (tbC NM co2 N cc2 (KI : Nat) only ro2 rn2 rc2) 47 ∧ IsT W4 0 co2 N cc2 F ro2 rn2 rc2 rs2 ∧ Below p0 w W4 := fun W4 h4 g4 =>
              ⟨XS3.grown g4 hgst, iG3.grown g4 (fun a ha => by cases ha; exact hggt), h4.out, (i3.grown g4 hgtI).mono (Nat.zero_le _), BV3.grown g4 (by have := BV3.size; rw [HP.out] at this; exact this) (fun z hz => by cases hz; exact hp0t)⟩
            have FIN := Lib.hid fin
            clear fin
            have hln2 := i3.rows.len
            rcases HEE.out with ⟨rfl, he2⟩ | ⟨rfl, he2⟩
            · have hcnt : (rn : Int) + 1 = (rn2 : Int) := by omega
              go_wp2_with ((with_reducible refine wpList_store_blk (o := ⟨none, _, _, _, _, _⟩) rfl 47 (.tmp 8) (.tmp 79) rfl gt _ (tbC NM co2 N cc2 (KI : Nat) only ro2 rn2 rc2) ?_ ?_ _ hT3h 5 szTb (tbC_size ..) (tbC_size ..) (tbC_all ..) ?_); (rfl); (rfl); (intro W4 h4 g4))
              obtain ⟨f1, f2, f3, f4, f5⟩ := FIN.out W4 h4 g4
              go_roundw
              case rel => exact ⟨j + 1, co2, cc2, ro2, rn2, rc2, rs2, by omega, by omega, by go_num, by first | rfl | rw [hcnt], f1, f2, f3, f4, hnx.out, by omega, f5⟩
              case measure => simp [intOf]; omega
            · have hcnt : (rn : Int) = (rn2 : Int) := by omega
              go_wp2_with ((with_reducible refine wpList_store_blk (o := ⟨none, _, _, _, _, _⟩) rfl 47 (.tmp 8) (.tmp 79) rfl gt _ (tbC NM co2 N cc2 (KI : Nat) only ro2 rn2 rc2) ?_ ?_ _ hT3h 5 szTb (tbC_size ..) (tbC_size ..) (tbC_all ..) ?_); (rfl); (rfl); (intro W4 h4 g4))
              obtain ⟨f1, f2, f3, f4, f5⟩ := FIN.out W4 h4 g4
              go_roundw
              case rel => exact ⟨j + 1, co2, cc2, ro2, rn2, rc2, rs2, by omega, by omega, by go_num, by first | rfl | rw [hcnt], f1, f2, f3, f4, hnx.out, by omega, f5⟩
              case measure => simp [intOf]; omega
          · have HTk0 := fun (w' : World) (hb : Below V1.heap.size V1.drew w') => take_u w' NM co N cc KI only ro rn rc F (by omega) (by omega) 0 rs (iT1.drew.past hb) vv0 hFi.srt (by omega) hlen100
            obtain ⟨E, hEe⟩ : ∃ E, takeE KI vv0 rs = E := ⟨_, rfl⟩
            obtain ⟨rs2, hrs2⟩ : ∃ rs2, takeR KI vv0 rs = rs2 := ⟨_, rfl⟩
            have hnx : Hid (Fits F KI rs2) := by
              show Fits F KI rs2
              rw [← hrs2]
              unfold takeR
              split
              · exact hFi.takeN _
              · exact hFi
            have HEE : Hid ((E = 0 ∧ rs2.length + 1 = rn) ∨ (E = 2 ∧ rs2.length = rn)) := by
              show _ ∨ _
              rw [← hEe, ← hrs2]
              unfold takeE takeR
              cases hh : hasN KI vv0 rs with
              | false => right; exact ⟨rfl, hln⟩
              | true => left; exact ⟨rfl, by rw [if_pos rfl, take_len hh]; exact hln⟩
            rw [hEe, hrs2] at HTk0
            clear hEe hrs2
            obtain ⟨k, m, s⟩ := vv0
            unfold tbV at HTk0
            simp only at v0 v1 v2 HTk0
            have HTk := HTk0
            clear HTk0 hrow hkof hvv hxk hec hbv
            go_upto_region 13 with fail
            clear ce
            refine region_inv (TOrder13 V1.heap.size gt gs NM g N cg KI only co cc ro rn rc gr rca k m s E F rs2) (by kernel_rfl) (by kernel_rfl) ?_ ?_ ?_
            · exact ⟨false, false, false, false, false, false, false, false, false, false, false, false, false, false, false, u54, u55, u56, u57, u58, u59, u60, u53, u61, u62, u63, u12, u13, u14, none, 0, none, 0, 0, none, 0, 0, 0, rfl, (by simp only [Act.put, List.setIfInBounds_toArray, List.set_cons_zero, List.set_cons_succ]), Below.refl _ _, (fun h => by cases h), (fun h => by cases h), (fun h => by cases h), (fun h => by cases h), (fun h => by cases h), (fun h => by cases h), (fun h => by cases h), (fun h => by cases h), (fun h => by cases h), (fun h => by cases h), (fun h => by cases h), (fun h => by cases h), (fun h => by cases h), (fun h => by cases h), (fun h => by cases h), (fun h => by cases h), (fun h => by cases h), (fun h => by cases h), (fun h => by cases h), (fun h => by cases h), (fun h => by cases h), (fun h => by cases h), (fun h => by cases h), (fun h => by cases h), (fun h => by cases h), (fun h => by cases h)⟩
            · refine ⟨?_, ?_, ?_, ?_, ?_, ?_, ?_, ?_, ?_, ?_, ?_, ?_, ?_, ?_, ?_, trivial⟩
              · rintro L a w ⟨b0, b1, b2, b3, b4, b5, b6, b7, b8, b9, b10, b11, b12, b13, b14, x54, x55, x56, x57, x58, x59, x60, x53, x61, x62, x63, x12, x13, x14, co2, cc2, ro2, rn2, rc2, pa, pn, pc, gu, rfl, rfl, hb, cd0, cd1, cd2, cd3, cd4, cd5, cd6, cd7, cd8, cd9, cd10, cd11, cd13, cd14, f_tt, f_st, f_lt, f_z, f_lg, f_s, f_o12, f_o12b, w_7_6, w_8_6, w_9_6, w_13_6⟩ hf hd
                have hf' : b0 = false := hf
                subst hf'
                clear hf hd
                try simp only [List.setIfInBounds_toArray, List.set_cons_zero, List.set_cons_succ]
                have z0 := (hb.cell hgtB).trans t0
                have z1 := (hb.cell hgtB).trans t1
                have z2 := (hb.cell hgtB).trans t2
                have z3 := (hb.cell hgtB).trans t3
                have z4 := (hb.cell hgtB).trans t4
                intro K hK
                rw [if_pos (by rfl)]
                go_simp
                exact hK.out _ _ ⟨true, b1, b2, b3, b4, b5, b6, b7, b8, b9, b10, b11, b12, b13, b14, (.agg #[.string (bsOf NM), .slice co N cc, .int .i64 (KI : Nat), .bool only, .slice ro rn rc]), x55, x56, x57, x58, x59, x60, x53, x61, x62, x63, x12, x13, x14, co2, cc2, ro2, rn2, rc2, pa, pn, pc, gu, (by simp only [Act.put, List.setIfInBounds_toArray, List.set_cons_zero, List.set_cons_succ]), (by simp only [Act.put, List.setIfInBounds_toArray, List.set_cons_zero, List.set_cons_succ]), hb, (fun _ => rfl), cd1, cd2, cd3, cd4, cd5, cd6, cd7, cd8, cd9, cd10, cd11, cd13, cd14, f_tt, f_st, f_lt, f_z, f_lg, f_s, f_o12, f_o12b, w_7_6, w_8_6, w_9_6, w_13_6⟩
              · rintro L a w ⟨b0, b1, b2, b3, b4, b5, b6, b7, b8, b9, b10, b11, b12, b13, b14, x54, x55, x56, x57, x58, x59, x60, x53, x61, x62, x63, x12, x13, x14, co2, cc2, ro2, rn2, rc2, pa, pn, pc, gu, rfl, rfl, hb, cd0, cd1, cd2, cd3, cd4, cd5, cd6, cd7, cd8, cd9, cd10, cd11, cd13, cd14, f_tt, f_st, f_lt, f_z, f_lg, f_s, f_o12, f_o12b, w_7_6, w_8_6, w_9_6, w_13_6⟩ hf hd
                have hf' : b1 = false := hf
                subst hf'
                clear hf hd
                try simp only [List.setIfInBounds_toArray, List.set_cons_zero, List.set_cons_succ]
                intro K hK
                rw [if_pos (by rfl)]
                go_simp
                exact hK.out _ _ ⟨b0, true, b2, b3, b4, b5, b6, b7, b8, b9, b10, b11, b12, b13, b14, x54, (.slice (some ⟨gr, 0, none⟩) N rca), x56, x57, x58, x59, x60, x53, x61, x62, x63, x12, x13, x14, co2, cc2, ro2, rn2, rc2, pa, pn, pc, gu, (by simp only [Act.put, List.setIfInBounds_toArray, List.set_cons_zero, List.set_cons_succ]), (by simp only [Act.put, List.setIfInBounds_toArray, List.set_cons_zero, List.set_cons_succ]), hb, cd0, (fun _ => rfl), cd2, cd3, cd4, cd5, cd6, cd7, cd8, cd9, cd10, cd11, cd13, cd14, f_tt, f_st, f_lt, f_z, f_lg, f_s, f_o12, f_o12b, w_7_6, w_8_6, w_9_6, w_13_6⟩
              · rintro L a w ⟨b0, b1, b2, b3, b4, b5, b6, b7, b8, b9, b10, b11, b12, b13, b14, x54, x55, x56, x57, x58, x59, x60, x53, x61, x62, x63, x12, x13, x14, co2, cc2, ro2, rn2, rc2, pa, pn, pc, gu, rfl, rfl, hb, cd0, cd1, cd2, cd3, cd4, cd5, cd6, cd7, cd8, cd9, cd10, cd11, cd13, cd14, f_tt, f_st, f_lt, f_z, f_lg, f_s, f_o12, f_o12b, w_7_6, w_8_6, w_9_6, w_13_6⟩ hf hd
                have hf' : b2 = false := hf
                subst hf'
                clear hf hd
                try simp only [List.setIfInBounds_toArray, List.set_cons_zero, List.set_cons_succ]
                intro K hK
                rw [if_pos (by rfl)]
                go_simp
                exact hK.out _ _ ⟨b0, b1, true, b3, b4, b5, b6, b7, b8, b9, b10, b11, b12, b13, b14, x54, x55, (.pointer (some ⟨gs, 2, none⟩)), x57, x58, x59, x60, x53, x61, x62, x63, x12, x13, x14, co2, cc2, ro2, rn2, rc2, pa, pn, pc, gu, (by simp only [Act.put, List.setIfInBounds_toArray, List.set_cons_zero, List.set_cons_succ]), (by simp only [Act.put, List.setIfInBounds_toArray, List.set_cons_zero, List.set_cons_succ]), hb, cd0, cd1, (fun _ => rfl), cd3, cd4, cd5, cd6, cd7, cd8, cd9, cd10, cd11, cd13, cd14, f_tt, f_st, f_lt, f_z, f_lg, f_s, f_o12, f_o12b, w_7_6, w_8_6, w_9_6, w_13_6⟩
              · rintro L a w ⟨b0, b1, b2, b3, b4, b5, b6, b7, b8, b9, b10, b11, b12, b13, b14, x54, x55, x56, x57, x58, x59, x60, x53, x61, x62, x63, x12, x13, x14, co2, cc2, ro2, rn2, rc2, pa, pn, pc, gu, rfl, rfl, hb, cd0, cd1, cd2, cd3, cd4, cd5, cd6, cd7, cd8, cd9, cd10, cd11, cd13, cd14, f_tt, f_st, f_lt, f_z, f_lg, f_s, f_o12, f_o12b, w_7_6, w_8_6, w_9_6, w_13_6⟩ hf hd
                have hf' : b3 = false := hf
                subst hf'
                have d2 : b2 = true := hd ⟨2, .data⟩ (by simp) rfl
                subst d2
                obtain rfl := cd2.out rfl
                clear hf hd
                try simp only [List.setIfInBounds_toArray, List.set_cons_zero, List.set_cons_succ]
                have z0 := (hb.cell hgsB).trans z2
                intro K hK
                rw [if_pos (by rfl)]
                go_simp
                exact hK.out _ _ ⟨b0, b1, true, true, b4, b5, b6, b7, b8, b9, b10, b11, b12, b13, b14, x54, x55, .pointer (some ⟨gs, 2, none⟩), (.int .i64 (KI : Nat)), x58, x59, x60, x53, x61, x62, x63, x12, x13, x14, co2, cc2, ro2, rn2, rc2, pa, pn, pc, gu, (by simp only [Act.put, List.setIfInBounds_toArray, List.set_cons_zero, List.set_cons_succ]), (by simp only [Act.put, List.setIfInBounds_toArray, List.set_cons_zero, List.set_cons_succ]), hb, cd0, cd1, (fun _ => rfl), (fun _ => rfl), cd4, cd5, cd6, cd7, cd8, cd9, cd10, cd11, cd13, cd14, f_tt, f_st, f_lt, f_z, f_lg, f_s, f_o12, f_o12b, w_7_6, w_8_6, w_9_6, w_13_6⟩
              · rintro L a w ⟨b0, b1, b2, b3, b4, b5, b6, b7, b8, b9, b10, b11, b12, b13, b14, x54, x55, x56, x57, x58, x59, x60, x53, x61, x62, x63, x12, x13, x14, co2, cc2, ro2, rn2, rc2, pa, pn, pc, gu, rfl, rfl, hb, cd0, cd1, cd2, cd3, cd4, cd5, cd6, cd7, cd8, cd9, cd10, cd11, cd13, cd14, f_tt, f_st, f_lt, f_z, f_lg, f_s, f_o12, f_o12b, w_7_6, w_8_6, w_9_6, w_13_6⟩ hf hd
                have hf' : b4 = false := hf
                subst hf'
                have d1 : b1 = true := hd ⟨1, .data⟩ (by simp) rfl
                subst d1
                have d3 : b3 = true := hd ⟨3, .data⟩ (by simp) rfl
                subst d3
                obtain rfl := cd1.out rfl
                obtain rfl := cd3.out rfl
                clear hf hd
                try simp only [List.setIfInBounds_toArray, List.set_cons_zero, List.set_cons_succ]
                intro K hK
                rw [if_pos (by rfl)]
                go_simp
                exact hK.out _ _ ⟨b0, true, b2, true, true, b5, b6, b7, b8, b9, b10, b11, b12, b13, b14, x54, .slice (some ⟨gr, 0, none⟩) N rca, x56, .int .i64 (KI : Nat), (.pointer (some ⟨gr, KI * 3, none⟩)), x59, x60, x53, x61, x62, x63, x12, x13, x14, co2, cc2, ro2, rn2, rc2, pa, pn, pc, gu, (by simp only [Act.put, List.setIfInBounds_toArray, List.set_cons_zero, List.set_cons_succ]), (by simp only [Act.put, List.setIfInBounds_toArray, List.set_cons_zero, List.set_cons_succ]), hb, cd0, (fun _ => rfl), cd2, (fun _ => rfl), (fun _ => rfl), cd5, cd6, cd7, cd8, cd9, cd10, cd11, cd13, cd14, f_tt, f_st, f_lt, f_z, f_lg, f_s, f_o12, f_o12b, w_7_6, w_8_6, w_9_6, w_13_6⟩
              · rintro L a w ⟨b0, b1, b2, b3, b4, b5, b6, b7, b8, b9, b10, b11, b12, b13, b14, x54, x55, x56, x57, x58, x59, x60, x53, x61, x62, x63, x12, x13, x14, co2, cc2, ro2, rn2, rc2, pa, pn, pc, gu, rfl, rfl, hb, cd0, cd1, cd2, cd3, cd4, cd5, cd6, cd7, cd8, cd9, cd10, cd11, cd13, cd14, f_tt, f_st, f_lt, f_z, f_lg, f_s, f_o12, f_o12b, w_7_6, w_8_6, w_9_6, w_13_6⟩ hf hd
                have hf' : b5 = false := hf
                subst hf'
                have d4 : b4 = true := hd ⟨4, .data⟩ (by simp) rfl
                subst d4
                obtain rfl := cd4.out rfl
                clear hf hd
                try simp only [List.setIfInBounds_toArray, List.set_cons_zero, List.set_cons_succ]
                have z0 := (hb.cell hgrB).trans v0
                have z1 := (hb.cell hgrB).trans v1
                have z2 := (hb.cell hgrB).trans v2
                intro K hK
                rw [if_pos (by rfl)]
                go_simp
                exact hK.out _ _ ⟨b0, b1, b2, b3, true, true, b6, b7, b8, b9, b10, b11, b12, b13, b14, x54, x55, x56, x57, .pointer (some ⟨gr, KI * 3, none⟩), (.agg #[.int .i64 k, .int .i64 m, .string s]), x60, x53, x61, x62, x63, x12, x13, x14, co2, cc2, ro2, rn2, rc2, pa, pn, pc, gu, (by simp only [Act.put, List.setIfInBounds_toArray, List.set_cons_zero, List.set_cons_succ]), (by simp only [Act.put, List.setIfInBounds_toArray, List.set_cons_zero, List.set_cons_succ]), hb, cd0, cd1, cd2, cd3, (fun _ => rfl), (fun _ => rfl), cd6, cd7, cd8, cd9, cd10, cd11, cd13, cd14, f_tt, f_st, f_lt, f_z, f_lg, f_s, f_o12, f_o12b, w_7_6, w_8_6, w_9_6, w_13_6⟩
              · rintro L a w ⟨b0, b1, b2, b3, b4, b5, b6, b7, b8, b9, b10, b11, b12, b13, b14, x54, x55, x56, x57, x58, x59, x60, x53, x61, x62, x63, x12, x13, x14, co2, cc2, ro2, rn2, rc2, pa, pn, pc, gu, rfl, rfl, hb, cd0, cd1, cd2, cd3, cd4, cd5, cd6, cd7, cd8, cd9, cd10, cd11, cd13, cd14, f_tt, f_st, f_lt, f_z, f_lg, f_s, f_o12, f_o12b, w_7_6, w_8_6, w_9_6, w_13_6⟩ hf hd
                have hf' : b6 = false := hf
                subst hf'
                have d0 : b0 = true := hd ⟨0, .data⟩ (by simp) rfl
                subst d0
                have d5 : b5 = true := hd ⟨5, .data⟩ (by simp) rfl
                subst d5
                obtain rfl := cd0.out rfl
                obtain rfl := cd5.out rfl
                clear hf hd
                try simp only [List.setIfInBounds_toArray, List.set_cons_zero, List.set_cons_succ]
                intro K hK
                rw [if_pos (by rfl)]
                go_simp
                go_at_call 27
                refine (HTk _ hb).mono ?_
                rintro e w' ⟨co3, cc3, ro3, rn3, rc3, pa3, pn3, pc3, rfl, i1, bx⟩
                have e_7 : b7 = false := by cases hq : b7 with | false => rfl | true => exact absurd (w_7_6.out hq) (by simp)
                subst e_7
                have e_8 : b8 = false := by cases hq : b8 with | false => rfl | true => exact absurd (w_8_6.out hq) (by simp)
                subst e_8
                have e_9 : b9 = false := by cases hq : b9 with | false => rfl | true => exact absurd (w_9_6.out hq) (by simp)
                subst e_9
                have e_13 : b13 = false := by cases hq : b13 with | false => rfl | true => exact absurd (w_13_6.out hq) (by simp)
                subst e_13
                exact hK.out _ _ ⟨true, b1, b2, b3, b4, true, true, false, false, false, b10, b11, b12, false, b14, .agg #[.string (bsOf NM), .slice co N cc, .int .i64 (KI : Nat), .bool only, .slice ro rn rc], x55, x56, x57, x58, .agg #[.int .i64 k, .int .i64 m, .string s], (.tuple #[.agg #[.string (bsOf NM), .slice co3 N cc3, .int .i64 (KI : Nat), .bool only, .slice ro3 rn3 rc3], .slice pa3 pn3 pc3, .int .i64 E]), x53, x61, x62, x63, x12, x13, x14, co3, cc3, ro3, rn3, rc3, pa3, pn3, pc3, gu, (by simp only [Act.put, List.setIfInBounds_toArray, List.set_cons_zero, List.set_cons_succ]), (by simp only [Act.put, List.setIfInBounds_toArray, List.set_cons_zero, List.set_cons_succ]), hb.trans (bx.mono (Nat.le_trans hB0 hb.size)), (fun _ => rfl), cd1, cd2, cd3, cd4, (fun _ => rfl), (fun _ => rfl), (fun h => by cases h), (fun h => by cases h), (fun h => by cases h), cd10, cd11, (fun h => by cases h), cd14, (fun _ => i1.mono hb.size), (fun _ _ => fun h w'' gw => (i1.grown gw (f_lt.out h)).mono hb.size), (fun h0 => Nat.lt_of_lt_of_le (f_lt.out h0) bx.size), (fun h0 h1 => (f_z.out h0 h1).past bx), f_lg, (fun h0 => absurd (f_o12.out h0) (by simp)), (fun _ => rfl), f_o12b, (fun _ => rfl), (fun _ => rfl), (fun _ => rfl), (fun _ => rfl)⟩
              · rintro L a w ⟨b0, b1, b2, b3, b4, b5, b6, b7, b8, b9, b10, b11, b12, b13, b14, x54, x55, x56, x57, x58, x59, x60, x53, x61, x62, x63, x12, x13, x14, co2, cc2, ro2, rn2, rc2, pa, pn, pc, gu, rfl, rfl, hb, cd0, cd1, cd2, cd3, cd4, cd5, cd6, cd7, cd8, cd9, cd10, cd11, cd13, cd14, f_tt, f_st, f_lt, f_z, f_lg, f_s, f_o12, f_o12b, w_7_6, w_8_6, w_9_6, w_13_6⟩ hf hd
                have hf' : b7 = false := hf
                subst hf'
                have d6 : b6 = true := hd ⟨6, .data⟩ (by simp) rfl
                subst d6
                obtain rfl := cd6.out rfl
                clear hf hd
                have W_tt := f_tt.out rfl
                try simp only [List.setIfInBounds_toArray, List.set_cons_zero, List.set_cons_succ]
                intro K hK
                rw [if_pos (by rfl)]
                go_simp
                exact hK.out _ _ ⟨b0, b1, b2, b3, b4, b5, true, true, b8, b9, b10, b11, b12, b13, b14, x54, x55, x56, x57, x58, x59, .tuple #[.agg #[.string (bsOf NM), .slice co2 N cc2, .int .i64 (KI : Nat), .bool only, .slice ro2 rn2 rc2], .slice pa pn pc, .int .i64 E], (.tuple #[.agg #[.string (bsOf NM), .slice co2 N cc2, .int .i64 (KI : Nat), .bool only, .slice ro2 rn2 rc2], .slice pa pn pc, .int .i64 E]), x61, x62, x63, x12, x13, x14, co2, cc2, ro2, rn2, rc2, pa, pn, pc, gu, (by simp only [Act.put, List.setIfInBounds_toArray, List.set_cons_zero, List.set_cons_succ]), (by simp only [Act.put, List.setIfInBounds_toArray, List.set_cons_zero, List.set_cons_succ]), hb, cd0, cd1, cd2, cd3, cd4, cd5, (fun _ => rfl), (fun _ => rfl), cd8, cd9, cd10, cd11, cd13, cd14, f_tt, f_st, f_lt, f_z, f_lg, f_s, f_o12, f_o12b, (fun _ => rfl), (fun _ => rfl), (fun _ => rfl), (fun _ => rfl)⟩
              · rintro L a w ⟨b0, b1, b2, b3, b4, b5, b6, b7, b8, b9, b10, b11, b12, b13, b14, x54, x55, x56, x57, x58, x59, x60, x53, x61, x62, x63, x12, x13, x14, co2, cc2, ro2, rn2, rc2, pa, pn, pc, gu, rfl, rfl, hb, cd0, cd1, cd2, cd3, cd4, cd5, cd6, cd7, cd8, cd9, cd10, cd11, cd13, cd14, f_tt, f_st, f_lt, f_z, f_lg, f_s, f_o12, f_o12b, w_7_6, w_8_6, w_9_6, w_13_6⟩ hf hd
                have hf' : b8 = false := hf
                subst hf'
                have d7 : b7 = true := hd ⟨7, .data⟩ (by simp) rfl
                subst d7
                obtain rfl := cd7.out rfl
                clear hf hd
                try simp only [List.setIfInBounds_toArray, List.set_cons_zero, List.set_cons_succ]
                intro K hK
                rw [if_pos (by rfl)]
                go_simp
                exact hK.out _ _ ⟨b0, b1, b2, b3, b4, b5, b6, true, true, b9, b10, b11, b12, b13, b14, x54, x55, x56, x57, x58, x59, x60, .tuple #[.agg #[.string (bsOf NM), .slice co2 N cc2, .int .i64 (KI : Nat), .bool only, .slice ro2 rn2 rc2], .slice pa pn pc, .int .i64 E], (.agg #[.string (bsOf NM), .slice co2 N cc2, .int .i64 (KI : Nat), .bool only, .slice ro2 rn2 rc2]), x62, x63, x12, x13, x14, co2, cc2, ro2, rn2, rc2, pa, pn, pc, gu, (by simp only [Act.put, List.setIfInBounds_toArray, List.set_cons_zero, List.set_cons_succ]), (by simp only [Act.put, List.setIfInBounds_toArray, List.set_cons_zero, List.set_cons_succ]), hb, cd0, cd1, cd2, cd3, cd4, cd5, cd6, (fun _ => rfl), (fun _ => rfl), cd9, cd10, cd11, cd13, cd14, f_tt, f_st, f_lt, f_z, f_lg, f_s, f_o12, f_o12b, w_7_6, (fun _ => w_7_6.out rfl), w_9_6, w_13_6⟩
              · rintro L a w ⟨b0, b1, b2, b3, b4, b5, b6, b7, b8, b9, b10, b11, b12, b13, b14, x54, x55, x56, x57, x58, x59, x60, x53, x61, x62, x63, x12, x13, x14, co2, cc2, ro2, rn2, rc2, pa, pn, pc, gu, rfl, rfl, hb, cd0, cd1, cd2, cd3, cd4, cd5, cd6, cd7, cd8, cd9, cd10, cd11, cd13, cd14, f_tt, f_st, f_lt, f_z, f_lg, f_s, f_o12, f_o12b, w_7_6, w_8_6, w_9_6, w_13_6⟩ hf hd
                have hf' : b9 = false := hf
                subst hf'
                have d7 : b7 = true := hd ⟨7, .data⟩ (by simp) rfl
                subst d7
                obtain rfl := cd7.out rfl
                clear hf hd
                try simp only [List.setIfInBounds_toArray, List.set_cons_zero, List.set_cons_succ]
                intro K hK
                rw [if_pos (by rfl)]
                go_simp
                exact hK.out _ _ ⟨b0, b1, b2, b3, b4, b5, b6, true, b8, true, b10, b11, b12, b13, b14, x54, x55, x56, x57, x58, x59, x60, .tuple #[.agg #[.string (bsOf NM), .slice co2 N cc2, .int .i64 (KI : Nat), .bool only, .slice ro2 rn2 rc2], .slice pa pn pc, .int .i64 E], x61, (.slice pa pn pc), x63, x12, x13, x14, co2, cc2, ro2, rn2, rc2, pa, pn, pc, gu, (by simp only [Act.put, List.setIfInBounds_toArray, List.set_cons_zero, List.set_cons_succ]), (by simp only [Act.put, List.setIfInBounds_toArray, List.set_cons_zero, List.set_cons_succ]), hb, cd0, cd1, cd2, cd3, cd4, cd5, cd6, (fun _ => rfl), cd8, (fun _ => rfl), cd10, cd11, cd13, cd14, f_tt, f_st, f_lt, f_z, f_lg, f_s, f_o12, f_o12b, w_7_6, w_8_6, (fun _ => w_7_6.out rfl), w_13_6⟩
              · rintro L a w ⟨b0, b1, b2, b3, b4, b5, b6, b7, b8, b9, b10, b11, b12, b13, b14, x54, x55, x56, x57, x58, x59, x60, x53, x61, x62, x63, x12, x13, x14, co2, cc2, ro2, rn2, rc2, pa, pn, pc, gu, rfl, rfl, hb, cd0, cd1, cd2, cd3, cd4, cd5, cd6, cd7, cd8, cd9, cd10, cd11, cd13, cd14, f_tt, f_st, f_lt, f_z, f_lg, f_s, f_o12, f_o12b, w_7_6, w_8_6, w_9_6, w_13_6⟩ hf hd
                have hf' : b10 = false := hf
                subst hf'
                have d7 : b7 = true := hd ⟨7, .data⟩ (by simp) rfl
                subst d7
                obtain rfl := cd7.out rfl
                clear hf hd
                try simp only [List.setIfInBounds_toArray, List.set_cons_zero, List.set_cons_succ]
                intro K hK
                rw [if_pos (by rfl)]
                go_simp
                exact hK.out _ _ ⟨b0, b1, b2, b3, b4, b5, b6, true, b8, b9, true, b11, b12, b13, b14, x54, x55, x56, x57, x58, x59, x60, .tuple #[.agg #[.string (bsOf NM), .slice co2 N cc2, .int .i64 (KI : Nat), .bool only, .slice ro2 rn2 rc2], .slice pa pn pc, .int .i64 E], x61, x62, (.int .i64 E), x12, x13, x14, co2, cc2, ro2, rn2, rc2, pa, pn, pc, gu, (by simp only [Act.put, List.setIfInBounds_toArray, List.set_cons_zero, List.set_cons_succ]), (by simp only [Act.put, List.setIfInBounds_toArray, List.set_cons_zero, List.set_cons_succ]), hb, cd0, cd1, cd2, cd3, cd4, cd5, cd6, (fun _ => rfl), cd8, cd9, (fun _ => rfl), cd11, cd13, cd14, f_tt, f_st, f_lt, f_z, f_lg, f_s, f_o12, f_o12b, w_7_6, w_8_6, w_9_6, w_13_6⟩
              · rintro L a w ⟨b0, b1, b2, b3, b4, b5, b6, b7, b8, b9, b10, b11, b12, b13, b14, x54, x55, x56, x57, x58, x59, x60, x53, x61, x62, x63, x12, x13, x14, co2, cc2, ro2, rn2, rc2, pa, pn, pc, gu, rfl, rfl, hb, cd0, cd1, cd2, cd3, cd4, cd5, cd6, cd7, cd8, cd9, cd10, cd11, cd13, cd14, f_tt, f_st, f_lt, f_z, f_lg, f_s, f_o12, f_o12b, w_7_6, w_8_6, w_9_6, w_13_6⟩ hf hd
                have hf' : b11 = false := hf
                subst hf'
                clear hf hd
                try simp only [List.setIfInBounds_toArray, List.set_cons_zero, List.set_cons_succ]
                intro K hK
                rw [if_pos (by rfl)]
                go_simp
                have bx : Below w.heap.size w (w.alloc (.cells #[.string ⟨#[]⟩, .slice none 0 0, .int .i64 0, .bool false, .slice none 0 0] 47)) := (Below.refl _ _).alloc (Nat.le_refl _) _
                have i2 : Bk (w.alloc (.cells #[.string ⟨#[]⟩, .slice none 0 0, .int .i64 0, .bool false, .slice none 0 0] 47)) w.heap.size (tbC [] none 0 0 0 false none 0 0) 47 := Bk.new w _ _
                exact hK.out _ _ ⟨b0, b1, b2, b3, b4, b5, b6, b7, b8, b9, b10, true, b12, b13, b14, x54, x55, x56, x57, x58, x59, x60, x53, x61, x62, x63, (.pointer (some ⟨(w.heap.size), 0, none⟩)), x13, x14, co2, cc2, ro2, rn2, rc2, pa, pn, pc, w.heap.size, (by simp only [Act.put, List.setIfInBounds_toArray, List.set_cons_zero, List.set_cons_succ]), (by simp only [Act.put, List.setIfInBounds_toArray, List.set_cons_zero, List.set_cons_succ]), hb.trans (bx.mono (Nat.le_trans hB0 hb.size)), cd0, cd1, cd2, cd3, cd4, cd5, cd6, cd7, cd8, cd9, cd10, (fun _ => rfl), cd13, cd14, (fun h0 => (f_tt.out h0).past bx), (fun h0 _ _ w'' gw => (f_tt.out h0).past (below_new gw)), (fun _ => by rw [World.size_alloc]; omega), (fun _ _ => i2), (fun _ => hb.size), (fun h0 => absurd (f_o12b.out h0) (by simp)), f_o12, (fun _ => rfl), w_7_6, w_8_6, w_9_6, w_13_6⟩
              · rintro L a w ⟨b0, b1, b2, b3, b4, b5, b6, b7, b8, b9, b10, b11, b12, b13, b14, x54, x55, x56, x57, x58, x59, x60, x53, x61, x62, x63, x12, x13, x14, co2, cc2, ro2, rn2, rc2, pa, pn, pc, gu, rfl, rfl, hb, cd0, cd1, cd2, cd3, cd4, cd5, cd6, cd7, cd8, cd9, cd10, cd11, cd13, cd14, f_tt, f_st, f_lt, f_z, f_lg, f_s, f_o12, f_o12b, w_7_6, w_8_6, w_9_6, w_13_6⟩ hf hd
                have hf' : b12 = false := hf
                subst hf'
                have d11 : b11 = true := hd ⟨11, .data⟩ (by simp) rfl
                subst d11
                have d8 : b8 = true := hd ⟨8, .data⟩ (by simp) rfl
                subst d8
                have d6 : b6 = true := hd ⟨6, .chain⟩ (by simp) rfl
                subst d6
                have d0 : b0 = true := hd ⟨0, .phase⟩ (by simp) rfl
                subst d0
                have d1 : b1 = true := hd ⟨1, .phase⟩ (by simp) rfl
                subst d1
                have d2 : b2 = true := hd ⟨2, .phase⟩ (by simp) rfl
                subst d2
                have d3 : b3 = true := hd ⟨3, .phase⟩ (by simp) rfl
                subst d3
                have d4 : b4 = true := hd ⟨4, .phase⟩ (by simp) rfl
                subst d4
                have d5 : b5 = true := hd ⟨5, .phase⟩ (by simp) rfl
                subst d5
                have d7 : b7 = true := hd ⟨7, .phase⟩ (by simp) rfl
                subst d7
                obtain rfl := cd11.out rfl
                obtain rfl := cd8.out rfl
                obtain rfl := cd6.out rfl
                obtain rfl := cd0.out rfl
                obtain rfl := cd1.out rfl
                obtain rfl := cd2.out rfl
                obtain rfl := cd3.out rfl
                obtain rfl := cd4.out rfl
                obtain rfl := cd5.out rfl
                obtain rfl := cd7.out rfl
                clear hf hd
                have W_tt := f_tt.out rfl
                have W_st := f_st.out rfl rfl
                have W_lt := f_lt.out rfl
                have W_z := f_z.out rfl rfl
                have W_lg := f_lg.out rfl
                try simp only [List.setIfInBounds_toArray, List.set_cons_zero, List.set_cons_succ]
                intro K hK
                rw [if_pos (by rfl)]
                refine wp_store_blkT 47 _ _ rfl gu _ (tbC NM co2 N cc2 (KI : Nat) only ro2 rn2 rc2) rfl rfl _ (Lib.hid W_z) 5 szTb (tbC_size ..) (tbC_size ..) (tbC_all ..) fun w2 h8 g8 => ?_
                have hb2 := hb.grown g8 (Nat.le_trans hB0 hb.size) (fun z hz => by cases hz; exact Nat.le_trans hB0 W_lg)
                exact hK.out _ _ ⟨true, true, true, true, true, true, true, true, true, b9, b10, true, true, b13, b14, .agg #[.string (bsOf NM), .slice co N cc, .int .i64 (KI : Nat), .bool only, .slice ro rn rc], .slice (some ⟨gr, 0, none⟩) N rca, .pointer (some ⟨gs, 2, none⟩), .int .i64 (KI : Nat), .pointer (some ⟨gr, KI * 3, none⟩), .agg #[.int .i64 k, .int .i64 m, .string s], .tuple #[.agg #[.string (bsOf NM), .slice co2 N cc2, .int .i64 (KI : Nat), .bool only, .slice ro2 rn2 rc2], .slice pa pn pc, .int .i64 E], .tuple #[.agg #[.string (bsOf NM), .slice co2 N cc2, .int .i64 (KI : Nat), .bool only, .slice ro2 rn2 rc2], .slice pa pn pc, .int .i64 E], .agg #[.string (bsOf NM), .slice co2 N cc2, .int .i64 (KI : Nat), .bool only, .slice ro2 rn2 rc2], x62, x63, .pointer (some ⟨gu, 0, none⟩), x13, x14, co2, cc2, ro2, rn2, rc2, pa, pn, pc, gu, (by simp only [Act.put, List.setIfInBounds_toArray, List.set_cons_zero, List.set_cons_succ]), (by simp only [Act.put, List.setIfInBounds_toArray, List.set_cons_zero, List.set_cons_succ]), hb2, (fun _ => rfl), (fun _ => rfl), (fun _ => rfl), (fun _ => rfl), (fun _ => rfl), (fun _ => rfl), (fun _ => rfl), (fun _ => rfl), (fun _ => rfl), cd9, cd10, (fun _ => rfl), cd13, cd14, (fun h0 => (f_st.out h0 rfl rfl) _ g8), (fun _ h => by cases h), (fun h0 => Nat.lt_of_lt_of_le ((f_lt.out h0)) g8.size), (fun _ h => by cases h), f_lg, (fun _ => h8.out), (fun _ => rfl), (fun _ => rfl), (fun _ => rfl), (fun _ => rfl), (fun _ => rfl), (fun _ => rfl)⟩
              · rintro L a w ⟨b0, b1, b2, b3, b4, b5, b6, b7, b8, b9, b10, b11, b12, b13, b14, x54, x55, x56, x57, x58, x59, x60, x53, x61, x62, x63, x12, x13, x14, co2, cc2, ro2, rn2, rc2, pa, pn, pc, gu, rfl, rfl, hb, cd0, cd1, cd2, cd3, cd4, cd5, cd6, cd7, cd8, cd9, cd10, cd11, cd13, cd14, f_tt, f_st, f_lt, f_z, f_lg, f_s, f_o12, f_o12b, w_7_6, w_8_6, w_9_6, w_13_6⟩ hf hd
                have hf' : b13 = false := hf
                subst hf'
                have d9 : b9 = true := hd ⟨9, .data⟩ (by simp) rfl
                subst d9
                have d12 : b12 = true := hd ⟨12, .chain⟩ (by simp) rfl
                subst d12
                have d0 : b0 = true := hd ⟨0, .phase⟩ (by simp) rfl
                subst d0
                have d1 : b1 = true := hd ⟨1, .phase⟩ (by simp) rfl
                subst d1
                have d2 : b2 = true := hd ⟨2, .phase⟩ (by simp) rfl
                subst d2
                have d3 : b3 = true := hd ⟨3, .phase⟩ (by simp) rfl
                subst d3
                have d4 : b4 = true := hd ⟨4, .phase⟩ (by simp) rfl
                subst d4
                have d5 : b5 = true := hd ⟨5, .phase⟩ (by simp) rfl
                subst d5
                have d6 : b6 = true := hd ⟨6, .phase⟩ (by simp) rfl
                subst d6
                have d7 : b7 = true := hd ⟨7, .phase⟩ (by simp) rfl
                subst d7
                have d8 : b8 = true := hd ⟨8, .phase⟩ (by simp) rfl
                subst d8
                have d11 : b11 = true := hd ⟨11, .phase⟩ (by simp) rfl
                subst d11
                obtain rfl := cd9.out rfl
                obtain rfl := cd0.out rfl
                obtain rfl := cd1.out rfl
                obtain rfl := cd2.out rfl
                obtain rfl := cd3.out rfl
                obtain rfl := cd4.out rfl
                obtain rfl := cd5.out rfl
                obtain rfl := cd6.out rfl
                obtain rfl := cd7.out rfl
                obtain rfl := cd8.out rfl
                obtain rfl := cd11.out rfl
                clear hf hd
                have W_tt := f_tt.out rfl
                have W_lt := f_lt.out rfl
                have W_lg := f_lg.out rfl
                have W_s := f_s.out rfl
                have W_o12 := f_o12.out rfl
                have W_o12b := f_o12b.out rfl
                try simp only [List.setIfInBounds_toArray, List.set_cons_zero, List.set_cons_succ]
                intro K hK
                rw [if_pos (by rfl)]
                go_simp
                exact hK.out _ _ ⟨true, true, true, true, true, true, true, true, true, true, b10, true, true, true, b14, .agg #[.string (bsOf NM), .slice co N cc, .int .i64 (KI : Nat), .bool only, .slice ro rn rc], .slice (some ⟨gr, 0, none⟩) N rca, .pointer (some ⟨gs, 2, none⟩), .int .i64 (KI : Nat), .pointer (some ⟨gr, KI * 3, none⟩), .agg #[.int .i64 k, .int .i64 m, .string s], .tuple #[.agg #[.string (bsOf NM), .slice co2 N cc2, .int .i64 (KI : Nat), .bool only, .slice ro2 rn2 rc2], .slice pa pn pc, .int .i64 E], .tuple #[.agg #[.string (bsOf NM), .slice co2 N cc2, .int .i64 (KI : Nat), .bool only, .slice ro2 rn2 rc2], .slice pa pn pc, .int .i64 E], .agg #[.string (bsOf NM), .slice co2 N cc2, .int .i64 (KI : Nat), .bool only, .slice ro2 rn2 rc2], .slice pa pn pc, x63, .pointer (some ⟨gu, 0, none⟩), (.slice pa pn pc), x14, co2, cc2, ro2, rn2, rc2, pa, pn, pc, gu, (by simp only [Act.put, List.setIfInBounds_toArray, List.set_cons_zero, List.set_cons_succ]), (by simp only [Act.put, List.setIfInBounds_toArray, List.set_cons_zero, List.set_cons_succ]), hb, (fun _ => rfl), (fun _ => rfl), (fun _ => rfl), (fun _ => rfl), (fun _ => rfl), (fun _ => rfl), (fun _ => rfl), (fun _ => rfl), (fun _ => rfl), (fun _ => rfl), cd10, (fun _ => rfl), (fun _ => rfl), cd14, f_tt, (fun _ h => by cases h), f_lt, (fun _ h => by cases h), f_lg, f_s, f_o12, f_o12b, (fun _ => rfl), (fun _ => rfl), (fun _ => rfl), (fun _ => rfl)⟩
              · rintro L a w ⟨b0, b1, b2, b3, b4, b5, b6, b7, b8, b9, b10, b11, b12, b13, b14, x54, x55, x56, x57, x58, x59, x60, x53, x61, x62, x63, x12, x13, x14, co2, cc2, ro2, rn2, rc2, pa, pn, pc, gu, rfl, rfl, hb, cd0, cd1, cd2, cd3, cd4, cd5, cd6, cd7, cd8, cd9, cd10, cd11, cd13, cd14, f_tt, f_st, f_lt, f_z, f_lg, f_s, f_o12, f_o12b, w_7_6, w_8_6, w_9_6, w_13_6⟩ hf hd
                have hf' : b14 = false := hf
                subst hf'
                have d10 : b10 = true := hd ⟨10, .data⟩ (by simp) rfl
                subst d10
                have d13 : b13 = true := hd ⟨13, .chain⟩ (by simp) rfl
                subst d13
                have d0 : b0 = true := hd ⟨0, .phase⟩ (by simp) rfl
                subst d0
                have d1 : b1 = true := hd ⟨1, .phase⟩ (by simp) rfl
                subst d1
                have d2 : b2 = true := hd ⟨2, .phase⟩ (by simp) rfl
                subst d2
                have d3 : b3 = true := hd ⟨3, .phase⟩ (by simp) rfl
                subst d3
                have d4 : b4 = true := hd ⟨4, .phase⟩ (by simp) rfl
                subst d4
                have d5 : b5 = true := hd ⟨5, .phase⟩ (by simp) rfl
                subst d5
                have d6 : b6 = true := hd ⟨6, .phase⟩ (by simp) rfl
                subst d6
                have d7 : b7 = true := hd ⟨7, .phase⟩ (by simp) rfl
                subst d7
                have d8 : b8 = true := hd ⟨8, .phase⟩ (by simp) rfl
                subst d8
                have d9 : b9 = true := hd ⟨9, .phase⟩ (by simp) rfl
                subst d9
                have d11 : b11 = true := hd ⟨11, .phase⟩ (by simp) rfl
                subst d11
                have d12 : b12 = true := hd ⟨12, .phase⟩ (by simp) rfl
                subst d12
                obtain rfl := cd10.out rfl
                obtain rfl := cd13.out rfl
                obtain rfl := cd0.out rfl
                obtain rfl := cd1.out rfl
                obtain rfl := cd2.out rfl
                obtain rfl := cd3.out rfl
                obtain rfl := cd4.out rfl
                obtain rfl := cd5.out rfl
                obtain rfl := cd6.out rfl
                obtain rfl := cd7.out rfl
                obtain rfl := cd8.out rfl
                obtain rfl := cd9.out rfl
                obtain rfl := cd11.out rfl
                clear hf hd
                have W_tt := f_tt.out rfl
                have W_lt := f_lt.out rfl
                have W_lg := f_lg.out rfl
                have W_s := f_s.out rfl
                have W_o12 := f_o12.out rfl
                have W_o12b := f_o12b.out rfl
                try simp only [List.setIfInBounds_toArray, List.set_cons_zero, List.set_cons_succ]
                intro K hK
                rw [if_pos (by rfl)]
                go_simp
                exact hK.out _ _ ⟨true, true, true, true, true, true, true, true, true, true, true, true, true, true, true, .agg #[.string (bsOf NM), .slice co N cc, .int .i64 (KI : Nat), .bool only, .slice ro rn rc], .slice (some ⟨gr, 0, none⟩) N rca, .pointer (some ⟨gs, 2, none⟩), .int .i64 (KI : Nat), .pointer (some ⟨gr, KI * 3, none⟩), .agg #[.int .i64 k, .int .i64 m, .string s], .tuple #[.agg #[.string (bsOf NM), .slice co2 N cc2, .int .i64 (KI : Nat), .bool only, .slice ro2 rn2 rc2], .slice pa pn pc, .int .i64 E], .tuple #[.agg #[.string (bsOf NM), .slice co2 N cc2, .int .i64 (KI : Nat), .bool only, .slice ro2 rn2 rc2], .slice pa pn pc, .int .i64 E], .agg #[.string (bsOf NM), .slice co2 N cc2, .int .i64 (KI : Nat), .bool only, .slice ro2 rn2 rc2], .slice pa pn pc, .int .i64 E, .pointer (some ⟨gu, 0, none⟩), .slice pa pn pc, (.int .i64 E), co2, cc2, ro2, rn2, rc2, pa, pn, pc, gu, (by simp only [Act.put, List.setIfInBounds_toArray, List.set_cons_zero, List.set_cons_succ]), (by simp only [Act.put, List.setIfInBounds_toArray, List.set_cons_zero, List.set_cons_succ]), hb, (fun _ => rfl), (fun _ => rfl), (fun _ => rfl), (fun _ => rfl), (fun _ => rfl), (fun _ => rfl), (fun _ => rfl), (fun _ => rfl), (fun _ => rfl), (fun _ => rfl), (fun _ => rfl), (fun _ => rfl), (fun _ => rfl), (fun _ => rfl), f_tt, (fun _ h => by cases h), f_lt, (fun _ h => by cases h), f_lg, f_s, f_o12, f_o12b, (fun _ => rfl), (fun _ => rfl), (fun _ => rfl), (fun _ => rfl)⟩
            · rintro act V3 ⟨b0, b1, b2, b3, b4, b5, b6, b7, b8, b9, b10, b11, b12, b13, b14, x54, x55, x56, x57, x58, x59, x60, x53, x61, x62, x63, x12, x13, x14, co2, cc2, ro2, rn2, rc2, pa, pn, pc, gu, hL, rfl, hb, cd0, cd1, cd2, cd3, cd4, cd5, cd6, cd7, cd8, cd9, cd10, cd11, cd13, cd14, f_tt, f_st, f_lt, f_z, f_lg, f_s, f_o12, f_o12b, w_7_6, w_8_6, w_9_6, w_13_6⟩
              have hL' : [true, true, true, true, true, true, true, true, true, true, true, true, true, true, true] = [b0, b1, b2, b3, b4, b5, b6, b7, b8, b9, b10, b11, b12, b13, b14] := congrArg Array.toList hL
              simp only [List.cons.injEq, and_true] at hL'
              obtain ⟨rfl, rfl, rfl, rfl, rfl, rfl, rfl, rfl, rfl, rfl, rfl, rfl, rfl, rfl, rfl⟩ := hL'
              obtain rfl := cd0.out rfl
              obtain rfl := cd1.out rfl
              obtain rfl := cd2.out rfl
              obtain rfl := cd3.out rfl
              obtain rfl := cd4.out rfl
              obtain rfl := cd5.out rfl
              obtain rfl := cd6.out rfl
              obtain rfl := cd7.out rfl
              obtain rfl := cd8.out rfl
              obtain rfl := cd9.out rfl
              obtain rfl := cd10.out rfl
              obtain rfl := cd11.out rfl
              obtain rfl := cd13.out rfl
              obtain rfl := cd14.out rfl
              have W_tt := f_tt.out rfl
              have W_lt := f_lt.out rfl
              have W_lg := f_lg.out rfl
              have W_s := f_s.out rfl
              have W_o12 := f_o12.out rfl
              have W_o12b := f_o12b.out rfl
              clear hL f_tt f_st f_lt f_z f_lg f_s f_o12 f_o12b cd0 cd1 cd2 cd3 cd4 cd5 cd6 cd7 cd8 cd9 cd10 cd11 cd13 cd14 w_7_6 w_8_6 w_9_6 w_13_6
              simp only [List.setIfInBounds_toArray, List.set_cons_zero, List.set_cons_succ]
              have bV3 : Below V1.heap.size V1 V3 := (Below.refl _ _).drew.trans hb
              have hT3 := hT1.past bV3
              have XS3 := XS1.past bV3
              have iG3 := iG1.past bV3
              have i3 := W_tt
              have BV3 := BV1.trans (bV3.mono hpV1)
              have hgtI : gt < V1.drew.heap.size := hT1.lt
              obtain ⟨y0, y1, y2, y3, y4⟩ := tb_cells W_s
              clear hb W_lt W_lg W_o12 W_o12b W_tt t0 t1 t2 t3 t4 z0 z1 z2 z3 v0 v1 v2
              
              have hT3h : Hid (V3.heap[gt]? = some (.cells (tbC NM co N cc (KI : Nat) only ro rn rc) 47 (0, 0))) := hT3
              have fin : ∀ W4, Hid (W4.heap[gt]? = some (.cells (tbC NM co2 N cc2 (KI : Nat) only ro2 rn2 rc2) 47 (0, 0))) → V3.grownBy W4 (some gt) → Bk W4 gs (scC NM (some ⟨g, 0, none⟩) N cg (KI : Nat) only) 40 ∧ IsR encCo W4 (some ⟨g, 0, none⟩) N cg F ∧ Bk W4 gt (tbC NM co2 N cc2 (KI : Nat) only ro2 rn2 rc2) 47 ∧ IsT W4 0 co2 N cc2 F ro2 rn2 rc2 rs2 ∧ Below p0 w W4 := fun W4 h4 g4 =>
                ⟨XS3.grown g4 hgst, iG3.grown g4 (fun a ha => by cases ha; exact hggt), h4.out, (i3.grown g4 hgtI).mono (Nat.zero_le _), BV3.grown g4 (by have := BV3.size; rw [HP.out] at this; exact this) (fun z hz => by cases hz; exact hp0t)⟩
              have FIN := Lib.hid fin
              clear fin
              
              have hln2 := i3.rows.len
              rcases HEE.out with ⟨rfl, he2⟩ | ⟨rfl, he2⟩
              · have hcnt : (rn : Int) - 1 = (rn2 : Int) := by omega
                go_wp2_with ((with_reducible refine wpList_store_blk (o := ⟨none, _, _, _, _, _⟩) rfl 47 (.tmp 8) (.tmp 68) rfl gt _ (tbC NM co2 N cc2 (KI : Nat) only ro2 rn2 rc2) ?_ ?_ _ hT3h 5 szTb (tbC_size ..) (tbC_size ..) (tbC_all ..) ?_); (rfl); (rfl); (intro W4 h4 g4))
                obtain ⟨f1, f2, f3, f4, f5⟩ := FIN.out W4 h4 g4
                go_roundw
                case rel => exact ⟨j + 1, co2, cc2, ro2, rn2, rc2, rs2, by omega, by omega, by go_num, by first | rfl | rw [hcnt], f1, f2, f3, f4, hnx.out, by omega, f5⟩
                case measure => simp [intOf]; omega
              · have hcnt : (rn : Int) = (rn2 : Int) := by omega
                go_wp2_with ((with_reducible refine wpList_store_blk (o := ⟨none, _, _, _, _, _⟩) rfl 47 (.tmp 8) (.tmp 68) rfl gt _ (tbC NM co2 N cc2 (KI : Nat) only ro2 rn2 rc2) ?_ ?_ _ hT3h 5 szTb (tbC_size ..) (tbC_size ..) (tbC_all ..) ?_); (rfl); (rfl); (intro W4 h4 g4))
                obtain ⟨f1, f2, f3, f4, f5⟩ := FIN.out W4 h4 g4
                go_roundw
                case rel => exact ⟨j + 1, co2, cc2, ro2, rn2, rc2, rs2, by omega, by omega, by go_num, by first | rfl | rw [hcnt], f1, f2, f3, f4, hnx.out, by omega, f5⟩
                case measure => simp [intOf]; omega
        · have hbli : ¬ ((j : Int) < (bl : Int)) := by omega
          have HPt := put_any V1 NM co N cc KI only ro rn rc F (by omega) (by omega) 0 rs iT1 (some ⟨gr, 0, none⟩) N rca _ oR.isR hFi.srt (by omega) (fun y hy => (hlen100 y hy).2) (by omega)
          have HC := put_fit F hFk KI x rs (by omega)
          obtain ⟨E, hEe⟩ : ∃ E, putE F KI (fitRow F x) rs = E := ⟨_, rfl⟩
          obtain ⟨rs2, hrs2⟩ : ∃ rs2, putR F KI (fitRow F x) rs = rs2 := ⟨_, rfl⟩
          have hnx : Hid (Fits F KI rs2) := by
            show Fits F KI rs2
            rw [← hrs2]
            exact hFi.putR x
          have HEE : Hid ((E = 0 ∧ rs2.length = rn + 1) ∨ (E = 7 ∧ rs2.length = rn)) := by
            show _ ∨ _
            rw [← hEe, ← hrs2]
            rcases HC with ⟨h1, -, h3⟩ | ⟨h1, -, h3⟩
            · exact .inl ⟨h1, by rw [h3, put_len, hln]⟩
            · exact .inr ⟨h1, by rw [h3, hln]⟩
          rw [hEe, hrs2] at HPt
          unfold tbV at HPt
          clear hEe hrs2 HC hrow hkof hvv hxk
          go_upto_region 18 with (go_at_call 24; refine HPt.mono ?_; rintro e w4 ⟨co2, cc2, ro2, rn2, rc2, rfl, i2, b2⟩; unfold tbV)
          have bV3 : Below V1.heap.size V1 (w4.alloc (.cells #[.string (bsOf NM), .slice co2 N cc2, .int .i64 (KI : Nat), .bool only, .slice ro2 rn2 rc2] 47)) := b2.alloc b2.size _
          have W_s : Bk (w4.alloc (.cells #[.string (bsOf NM), .slice co2 N cc2, .int .i64 (KI : Nat), .bool only, .slice ro2 rn2 rc2] 47)) w4.heap.size (tbC NM co2 N cc2 (KI : Nat) only ro2 rn2 rc2) 47 := Bk.new w4 _ _
          have i3 := i2.past ((Below.refl w4.heap.size w4).alloc (Nat.le_refl _) (.cells #[.string (bsOf NM), .slice co2 N cc2, .int .i64 (KI : Nat), .bool only, .slice ro2 rn2 rc2] 47))
          generalize w4.alloc (.cells #[.string (bsOf NM), .slice co2 N cc2, .int .i64 (KI : Nat), .bool only, .slice ro2 rn2 rc2] 47) = V3 at bV3 W_s i3 ⊢
          obtain ⟨gu, hgu⟩ : ∃ gu, w4.heap.size = gu := ⟨_, rfl⟩
          rw [hgu] at W_s
          simp only [hgu]
          have hT3 := hT1.past bV3
          have XS3 := XS1.past bV3
          have iG3 := iG1.past bV3
          have BV3 := BV1.trans (bV3.mono hpV1)
          have hgtI : gt < V1.heap.size := hT1.lt
          obtain ⟨y0, y1, y2, y3, y4⟩ := tb_cells W_s
          clear hgu b2 i2 t0 t1 t2 t3 t4 z0 z1 z2 z3 v0 v1 v2 HPt
          have hT3h : Hid (V3.heap[gt]? = some (.cells (tbC NM co N cc (KI : Nat) only ro rn rc) 47 (0, 0))) := hT3
          have fin : ∀ W4, Hid (W4.heap[gt]? = some (.cells (tbC NM co2 N cc2 (KI : Nat) only ro2 rn2 rc2) 47 (0, 0))) → V3.grownBy W4 (some gt) → Bk W4 gs (scC NM (some ⟨g, 0, none⟩) N cg (KI : Nat) only) 40 ∧ IsR encCo W4 (some ⟨g, 0, none⟩) N cg F ∧ Bk W4 gt (tbC NM co2 N cc2 (KI : Nat) only ro2 rn2 rc2) 47 ∧ IsT W4 0 co2 N cc2 F ro2 rn2 rc2 rs2 ∧ Below p0 w W4 := fun W4 h4 g4 =>
            ⟨XS3.grown g4 hgst, iG3.grown g4 (fun a ha => by cases ha; exact hggt), h4.out, (i3.grown g4 hgtI).mono (Nat.zero_le _), BV3.grown g4 (by have := BV3.size; rw [HP.out] at this; exact this) (fun z hz => by cases hz; exact hp0t)⟩
          have FIN := Lib.hid fin
          clear fin
          have hln2 := i3.rows.len
          rcases HEE.out with ⟨rfl, he2⟩ | ⟨rfl, he2⟩
          · have hcnt : (rn : Int) + 1 = (rn2 : Int) := by omega
            go_wp2_with ((with_reducible refine wpList_store_blk (o := ⟨none, _, _, _, _, _⟩) rfl 47 (.tmp 8) (.tmp 79) rfl gt _ (tbC NM co2 N cc2 (KI : Nat) only ro2 rn2 rc2) ?_ ?_ _ hT3h 5 szTb (tbC_size ..) (tbC_size ..) (tbC_all ..) ?_); (rfl); (rfl); (intro W4 h4 g4))
            obtain ⟨f1, f2, f3, f4, f5⟩ := FIN.out W4 h4 g4
            go_roundw
            case rel => exact ⟨j + 1, co2, cc2, ro2, rn2, rc2, rs2, by omega, by omega, by go_num, by first | rfl | rw [hcnt], f1, f2, f3, f4, hnx.out, by omega, f5⟩
            case measure => simp [intOf]; omega
          · have hcnt : (rn : Int) = (rn2 : Int) := by omega
            go_wp2_with ((with_reducible refine wpList_store_blk (o := ⟨none, _, _, _, _, _⟩) rfl 47 (.tmp 8) (.tmp 79) rfl gt _ (tbC NM co2 N cc2 (KI : Nat) only ro2 rn2 rc2) ?_ ?_ _ hT3h 5 szTb (tbC_size ..) (tbC_size ..) (tbC_all ..) ?_); (rfl); (rfl); (intro W4 h4 g4))
            obtain ⟨f1, f2, f3, f4, f5⟩ := FIN.out W4 h4 g4
            go_roundw
            case rel => exact ⟨j + 1, co2, cc2, ro2, rn2, rc2, rs2, by omega, by omega, by go_num, by first | rfl | rw [hcnt], f1, f2, f3, f4, hnx.out, by omega, f5⟩
            case measure => simp [intOf]; omega
    · have hln := iT.rows.len
      by_cases hjn : j < nl
      · have hjni : (j : Int) < (nl : Int) := by omega
        have hj6 : ¬ ((j : Int) < 60) := by omega
        obtain ⟨wo, rfl⟩ : ∃ wo, wo = wr := ⟨wr, rfl⟩
        go_wp2_with fail
        go_loopw [17] (fun i wq => ∃ j : Nat, 1 ≤ j ∧ i = .int .i64 (j : Nat) ∧ Below wo.heap.size wo wq) (fun i _ => rn - (intOf i).toNat)
        case atStart => exact ⟨1, Nat.le_refl _, rfl, Below.refl _ _⟩
        case round =>
          obtain ⟨j, hj1, rfl, B5⟩ := hrel
          have hT5 := hT0.past B5
          have XS5 := XS0.past B5
          clear t0 t1 t2 t3 t4 z0 z1 z2 z3
          obtain ⟨t0, t1, t2, t3, t4⟩ := tb_cells hT5
          obtain ⟨z0, z1, z2, z3⟩ := sc_cells XS5
          have BB5 := BB.trans (B5.mono hpw)
          by_cases hj2 : j < rn
          · have hj2i : (j : Int) < (rn : Int) := by omega
            obtain ⟨jm, hjm⟩ : ∃ jm, j = jm + 1 := ⟨j - 1, by omega⟩
            have HJ : Hid (IntKind.i64.wrap ((j : Int) - 1) = (jm : Int)) := by
              show _ = _
              rw [IntWalk.i64_in _ (by omega)]
              omega
            have hjm2 : jm < j := by omega
            have hjmi : (jm : Int) < (rn : Int) := by omega
            have iT5 := iT.past B5
            obtain ⟨r1, hr1⟩ : ∃ r, rs[jm]? = some r := ⟨rs[jm]'(by omega), List.getElem?_eq_getElem _⟩
            obtain ⟨r2, hr2⟩ : ∃ r, rs[j]? = some r := ⟨rs[j]'(by omega), List.getElem?_eq_getElem _⟩
            obtain ⟨n1, e1⟩ := hFi.mem r1 (List.mem_of_getElem? hr1)
            obtain ⟨n2, e2⟩ := hFi.mem r2 (List.mem_of_getElem? hr2)
            have hlt := hFi.srt.get hr1 hr2 hjm2
            clear hjm2 hjm
            obtain ⟨xk, hxk, -⟩ := hFn
            have g1 := fitRow_get (n := n1) hxk
            have g2 := fitRow_get (n := n2) hxk
            rw [← e1] at g1
            rw [← e2] at g2
            have V1 := fit_val n1 KI xk
            have V2 := fit_val n2 KI xk
            have q1 : kOf KI r1 = fitVal n1 KI xk := by rw [e1]; exact kOf_fit hxk
            have q2 : kOf KI r2 = fitVal n2 KI xk := by rw [e2]; exact kOf_fit hxk
            rw [q1, q2] at hlt
            obtain ⟨rb, roff, hd1, rfl, hrbB, dp, i1⟩ := iT5.rows.at hr1
            obtain ⟨rb', roff', hd2, he, -, dq, i2⟩ := iT5.rows.at hr2
            simp only [Option.some.injEq, Addr.mk.injEq, and_true] at he
            obtain ⟨rfl, rfl⟩ := he
            have l1 : hd1.n = N := by rw [← i1.len, e1, fitRow_len, hFl]
            have l2 : hd2.n = N := by rw [← i2.len, e2, fitRow_len, hFl]
            obtain ⟨h1a, h1n, c1⟩ := hd1
            obtain ⟨h2a, h2n, c2⟩ := hd2
            simp only at dp dq i1 i2 l1 l2
            rw [l1] at dp i1
            rw [l2] at dq i2
            obtain ⟨a1, f1, rfl, hepB, u1⟩ := i1.open (by omega) (by decide)
            obtain ⟨a2, f2, rfl, heqB, u2⟩ := i2.open (by omega) (by decide)
            obtain ⟨ep0, ep1, ep2⟩ := cells_v u1 KI _ g1
            obtain ⟨eq0, eq1, eq2⟩ := cells_v u2 KI _ g2
            obtain ⟨C, hC⟩ : ∃ C, (fitVal n1 KI xk).cmp (fitVal n2 KI xk) = C := ⟨_, rfl⟩
            rw [hC] at hlt
            have HCm := fun w' => rcmp4_any _ _ _ _ _ _ w' V1 V2
            rw [show cmpV (fitVal n1 KI xk).k (fitVal n1 KI xk).n (fitVal n1 KI xk).s (fitVal n2 KI xk).k (fitVal n2 KI xk).n (fitVal n2 KI xk).s = C from hC] at HCm
            obtain ⟨p1, hp1⟩ : ∃ u, fitVal n1 KI xk = u := ⟨_, rfl⟩
            obtain ⟨p2, hp2⟩ : ∃ u, fitVal n2 KI xk = u := ⟨_, rfl⟩
            rw [hp1] at ep0 ep1 ep2
            rw [hp2] at eq0 eq1 eq2
            rw [hp1, hp2] at HCm
            clear hp1 hp2 q1 q2 V1 V2 g1 g2 hC
            obtain ⟨k1, m1, s1⟩ := p1
            obtain ⟨k2, m2, s2⟩ := p2
            simp only at ep0 ep1 ep2 eq0 eq1 eq2 HCm
            have hB0 : wr.heap.size ≤ wr.heap.size := Nat.le_refl _
            have hgtB5 := hT5.lt
            have hgsB5 := XS5.lt
            clear u1 u2 hr1 hr2 e1 e2 i1 i2 hxk iT5
            go_upto_region 24 with fail
            refine region_inv (TOrder24 wr.heap.size gt gs N KI rb roff rn rc j jm a1 f1 c1 a2 f2 c2 k1 m1 s1 k2 m2 s2 C) (by kernel_rfl) (by kernel_rfl) ?_ ?_ ?_
            · exact ⟨false, false, false, false, false, false, false, false, false, false, false, false, false, false, false, false, false, false, false, false, false, u87, u88, u89, u90, u91, u92, u93, u94, u95, u96, u97, u98, u99, u100, u101, u102, u103, u104, u105, u106, u107, rfl, (by simp only [Act.put, List.setIfInBounds_toArray, List.set_cons_zero, List.set_cons_succ]), Below.refl _ _, (fun h => by cases h), (fun h => by cases h), (fun h => by cases h), (fun h => by cases h), (fun h => by cases h), (fun h => by cases h), (fun h => by cases h), (fun h => by cases h), (fun h => by cases h), (fun h => by cases h), (fun h => by cases h), (fun h => by cases h), (fun h => by cases h), (fun h => by cases h), (fun h => by cases h), (fun h => by cases h), (fun h => by cases h), (fun h => by cases h), (fun h => by cases h), (fun h => by cases h), (fun h => by cases h)⟩
            · refine ⟨?_, ?_, ?_, ?_, ?_, ?_, ?_, ?_, ?_, ?_, ?_, ?_, ?_, ?_, ?_, ?_, ?_, ?_, ?_, ?_, ?_, trivial⟩
              · rintro L a w ⟨b0, b1, b2, b3, b4, b5, b6, b7, b8, b9, b10, b11, b12, b13, b14, b15, b16, b17, b18, b19, b20, x87, x88, x89, x90, x91, x92, x93, x94, x95, x96, x97, x98, x99, x100, x101, x102, x103, x104, x105, x106, x107, rfl, rfl, hb, cd0, cd1, cd2, cd3, cd4, cd5, cd6, cd7, cd8, cd9, cd10, cd11, cd12, cd13, cd14, cd15, cd16, cd17, cd18, cd19, cd20⟩ hf hd
                have hf' : b0 = false := hf
                subst hf'
                clear hf hd
                try simp only [List.setIfInBounds_toArray, List.set_cons_zero, List.set_cons_succ]
                intro K hK
                rw [if_pos (by rfl)]
                go_simp
                exact hK.out _ _ ⟨true, b1, b2, b3, b4, b5, b6, b7, b8, b9, b10, b11, b12, b13, b14, b15, b16, b17, b18, b19, b20, (.pointer (some ⟨gt, 4, none⟩)), x88, x89, x90, x91, x92, x93, x94, x95, x96, x97, x98, x99, x100, x101, x102, x103, x104, x105, x106, x107, (by simp only [Act.put, List.setIfInBounds_toArray, List.set_cons_zero, List.set_cons_succ]), (by simp only [Act.put, List.setIfInBounds_toArray, List.set_cons_zero, List.set_cons_succ]), hb, (fun _ => rfl), cd1, cd2, cd3, cd4, cd5, cd6, cd7, cd8, cd9, cd10, cd11, cd12, cd13, cd14, cd15, cd16, cd17, cd18, cd19, cd20⟩
              · rintro L a w ⟨b0, b1, b2, b3, b4, b5, b6, b7, b8, b9, b10, b11, b12, b13, b14, b15, b16, b17, b18, b19, b20, x87, x88, x89, x90, x91, x92, x93, x94, x95, x96, x97, x98, x99, x100, x101, x102, x103, x104, x105, x106, x107, rfl, rfl, hb, cd0, cd1, cd2, cd3, cd4, cd5, cd6, cd7, cd8, cd9, cd10, cd11, cd12, cd13, cd14, cd15, cd16, cd17, cd18, cd19, cd20⟩ hf hd
                have hf' : b1 = false := hf
                subst hf'
                have d0 : b0 = true := hd ⟨0, .data⟩ (by simp) rfl
                subst d0
                obtain rfl := cd0.out rfl
                clear hf hd
                try simp only [List.setIfInBounds_toArray, List.set_cons_zero, List.set_cons_succ]
                have z0 := (hb.cell hgtB5).trans t4
                intro K hK
                rw [if_pos (by rfl)]
                go_simp
                exact hK.out _ _ ⟨true, true, b2, b3, b4, b5, b6, b7, b8, b9, b10, b11, b12, b13, b14, b15, b16, b17, b18, b19, b20, .pointer (some ⟨gt, 4, none⟩), (.slice (some ⟨rb, roff, none⟩) rn rc), x89, x90, x91, x92, x93, x94, x95, x96, x97, x98, x99, x100, x101, x102, x103, x104, x105, x106, x107, (by simp only [Act.put, List.setIfInBounds_toArray, List.set_cons_zero, List.set_cons_succ]), (by simp only [Act.put, List.setIfInBounds_toArray, List.set_cons_zero, List.set_cons_succ]), hb, (fun _ => rfl), (fun _ => rfl), cd2, cd3, cd4, cd5, cd6, cd7, cd8, cd9, cd10, cd11, cd12, cd13, cd14, cd15, cd16, cd17, cd18, cd19, cd20⟩
              · rintro L a w ⟨b0, b1, b2, b3, b4, b5, b6, b7, b8, b9, b10, b11, b12, b13, b14, b15, b16, b17, b18, b19, b20, x87, x88, x89, x90, x91, x92, x93, x94, x95, x96, x97, x98, x99, x100, x101, x102, x103, x104, x105, x106, x107, rfl, rfl, hb, cd0, cd1, cd2, cd3, cd4, cd5, cd6, cd7, cd8, cd9, cd10, cd11, cd12, cd13, cd14, cd15, cd16, cd17, cd18, cd19, cd20⟩ hf hd
                have hf' : b2 = false := hf
                subst hf'
                clear hf hd
                try simp only [List.setIfInBounds_toArray, List.set_cons_zero, List.set_cons_succ]
                intro K hK
                rw [if_pos (by rfl)]
                go_simp
                exact hK.out _ _ ⟨b0, b1, true, b3, b4, b5, b6, b7, b8, b9, b10, b11, b12, b13, b14, b15, b16, b17, b18, b19, b20, x87, x88, (.int .i64 (j : Nat)), x90, x91, x92, x93, x94, x95, x96, x97, x98, x99, x100, x101, x102, x103, x104, x105, x106, x107, (by simp only [Act.put, List.setIfInBounds_toArray, List.set_cons_zero, List.set_cons_succ]), (by simp only [Act.put, List.setIfInBounds_toArray, List.set_cons_zero, List.set_cons_succ]), hb, cd0, cd1, (fun _ => rfl), cd3, cd4, cd5, cd6, cd7, cd8, cd9, cd10, cd11, cd12, cd13, cd14, cd15, cd16, cd17, cd18, cd19, cd20⟩
              · rintro L a w ⟨b0, b1, b2, b3, b4, b5, b6, b7, b8, b9, b10, b11, b12, b13, b14, b15, b16, b17, b18, b19, b20, x87, x88, x89, x90, x91, x92, x93, x94, x95, x96, x97, x98, x99, x100, x101, x102, x103, x104, x105, x106, x107, rfl, rfl, hb, cd0, cd1, cd2, cd3, cd4, cd5, cd6, cd7, cd8, cd9, cd10, cd11, cd12, cd13, cd14, cd15, cd16, cd17, cd18, cd19, cd20⟩ hf hd
                have hf' : b3 = false := hf
                subst hf'
                have d2 : b2 = true := hd ⟨2, .data⟩ (by simp) rfl
                subst d2
                obtain rfl := cd2.out rfl
                clear hf hd
                try simp only [List.setIfInBounds_toArray, List.set_cons_zero, List.set_cons_succ]
                intro K hK
                rw [if_pos (by rfl)]
                go_simp
                rw [HJ.out]
                exact hK.out _ _ ⟨b0, b1, true, true, b4, b5, b6, b7, b8, b9, b10, b11, b12, b13, b14, b15, b16, b17, b18, b19, b20, x87, x88, .int .i64 (j : Nat), (.int .i64 (jm : Nat)), x91, x92, x93, x94, x95, x96, x97, x98, x99, x100, x101, x102, x103, x104, x105, x106, x107, (by simp only [Act.put, List.setIfInBounds_toArray, List.set_cons_zero, List.set_cons_succ]), (by simp only [Act.put, List.setIfInBounds_toArray, List.set_cons_zero, List.set_cons_succ]), hb, cd0, cd1, (fun _ => rfl), (fun _ => rfl), cd4, cd5, cd6, cd7, cd8, cd9, cd10, cd11, cd12, cd13, cd14, cd15, cd16, cd17, cd18, cd19, cd20⟩
              · rintro L a w ⟨b0, b1, b2, b3, b4, b5, b6, b7, b8, b9, b10, b11, b12, b13, b14, b15, b16, b17, b18, b19, b20, x87, x88, x89, x90, x91, x92, x93, x94, x95, x96, x97, x98, x99, x100, x101, x102, x103, x104, x105, x106, x107, rfl, rfl, hb, cd0, cd1, cd2, cd3, cd4, cd5, cd6, cd7, cd8, cd9, cd10, cd11, cd12, cd13, cd14, cd15, cd16, cd17, cd18, cd19, cd20⟩ hf hd
                have hf' : b4 = false := hf
                subst hf'
                have d1 : b1 = true := hd ⟨1, .data⟩ (by simp) rfl
                subst d1
                have d3 : b3 = true := hd ⟨3, .data⟩ (by simp) rfl
                subst d3
                obtain rfl := cd1.out rfl
                obtain rfl := cd3.out rfl
                clear hf hd
                try simp only [List.setIfInBounds_toArray, List.set_cons_zero, List.set_cons_succ]
                intro K hK
                rw [if_pos (by rfl)]
                go_simp
                exact hK.out _ _ ⟨b0, true, b2, true, true, b5, b6, b7, b8, b9, b10, b11, b12, b13, b14, b15, b16, b17, b18, b19, b20, x87, .slice (some ⟨rb, roff, none⟩) rn rc, x89, .int .i64 (jm : Nat), (.pointer (some ⟨rb, roff + jm, none⟩)), x92, x93, x94, x95, x96, x97, x98, x99, x100, x101, x102, x103, x104, x105, x106, x107, (by simp only [Act.put, List.setIfInBounds_toArray, List.set_cons_zero, List.set_cons_succ]), (by simp only [Act.put, List.setIfInBounds_toArray, List.set_cons_zero, List.set_cons_succ]), hb, cd0, (fun _ => rfl), cd2, (fun _ => rfl), (fun _ => rfl), cd5, cd6, cd7, cd8, cd9, cd10, cd11, cd12, cd13, cd14, cd15, cd16, cd17, cd18, cd19, cd20⟩
              · rintro L a w ⟨b0, b1, b2, b3, b4, b5, b6, b7, b8, b9, b10, b11, b12, b13, b14, b15, b16, b17, b18, b19, b20, x87, x88, x89, x90, x91, x92, x93, x94, x95, x96, x97, x98, x99, x100, x101, x102, x103, x104, x105, x106, x107, rfl, rfl, hb, cd0, cd1, cd2, cd3, cd4, cd5, cd6, cd7, cd8, cd9, cd10, cd11, cd12, cd13, cd14, cd15, cd16, cd17, cd18, cd19, cd20⟩ hf hd
                have hf' : b5 = false := hf
                subst hf'
                have d4 : b4 = true := hd ⟨4, .data⟩ (by simp) rfl
                subst d4
                obtain rfl := cd4.out rfl
                clear hf hd
                try simp only [List.setIfInBounds_toArray, List.set_cons_zero, List.set_cons_succ]
                have z0 := (hb.cell hrbB).trans dp
                intro K hK
                rw [if_pos (by rfl)]
                go_simp
                exact hK.out _ _ ⟨b0, b1, b2, b3, true, true, b6, b7, b8, b9, b10, b11, b12, b13, b14, b15, b16, b17, b18, b19, b20, x87, x88, x89, x90, .pointer (some ⟨rb, roff + jm, none⟩), (.slice (some ⟨a1, f1, none⟩) N c1), x93, x94, x95, x96, x97, x98, x99, x100, x101, x102, x103, x104, x105, x106, x107, (by simp only [Act.put, List.setIfInBounds_toArray, List.set_cons_zero, List.set_cons_succ]), (by simp only [Act.put, List.setIfInBounds_toArray, List.set_cons_zero, List.set_cons_succ]), hb, cd0, cd1, cd2, cd3, (fun _ => rfl), (fun _ => rfl), cd6, cd7, cd8, cd9, cd10, cd11, cd12, cd13, cd14, cd15, cd16, cd17, cd18, cd19, cd20⟩
              · rintro L a w ⟨b0, b1, b2, b3, b4, b5, b6, b7, b8, b9, b10, b11, b12, b13, b14, b15, b16, b17, b18, b19, b20, x87, x88, x89, x90, x91, x92, x93, x94, x95, x96, x97, x98, x99, x100, x101, x102, x103, x104, x105, x106, x107, rfl, rfl, hb, cd0, cd1, cd2, cd3, cd4, cd5, cd6, cd7, cd8, cd9, cd10, cd11, cd12, cd13, cd14, cd15, cd16, cd17, cd18, cd19, cd20⟩ hf hd
                have hf' : b6 = false := hf
                subst hf'
                clear hf hd
                try simp only [List.setIfInBounds_toArray, List.set_cons_zero, List.set_cons_succ]
                intro K hK
                rw [if_pos (by rfl)]
                go_simp
                exact hK.out _ _ ⟨b0, b1, b2, b3, b4, b5, true, b7, b8, b9, b10, b11, b12, b13, b14, b15, b16, b17, b18, b19, b20, x87, x88, x89, x90, x91, x92, (.pointer (some ⟨gs, 2, none⟩)), x94, x95, x96, x97, x98, x99, x100, x101, x102, x103, x104, x105, x106, x107, (by simp only [Act.put, List.setIfInBounds_toArray, List.set_cons_zero, List.set_cons_succ]), (by simp only [Act.put, List.setIfInBounds_toArray, List.set_cons_zero, List.set_cons_succ]), hb, cd0, cd1, cd2, cd3, cd4, cd5, (fun _ => rfl), cd7, cd8, cd9, cd10, cd11, cd12, cd13, cd14, cd15, cd16, cd17, cd18, cd19, cd20⟩
              · rintro L a w ⟨b0, b1, b2, b3, b4, b5, b6, b7, b8, b9, b10, b11, b12, b13, b14, b15, b16, b17, b18, b19, b20, x87, x88, x89, x90, x91, x92, x93, x94, x95, x96, x97, x98, x99, x100, x101, x102, x103, x104, x105, x106, x107, rfl, rfl, hb, cd0, cd1, cd2, cd3, cd4, cd5, cd6, cd7, cd8, cd9, cd10, cd11, cd12, cd13, cd14, cd15, cd16, cd17, cd18, cd19, cd20⟩ hf hd
                have hf' : b7 = false := hf
                subst hf'
                have d6 : b6 = true := hd ⟨6, .data⟩ (by simp) rfl
                subst d6
                obtain rfl := cd6.out rfl
                clear hf hd
                try simp only [List.setIfInBounds_toArray, List.set_cons_zero, List.set_cons_succ]
                have z0 := (hb.cell hgsB5).trans z2
                intro K hK
                rw [if_pos (by rfl)]
                go_simp
                exact hK.out _ _ ⟨b0, b1, b2, b3, b4, b5, true, true, b8, b9, b10, b11, b12, b13, b14, b15, b16, b17, b18, b19, b20, x87, x88, x89, x90, x91, x92, .pointer (some ⟨gs, 2, none⟩), (.int .i64 (KI : Nat)), x95, x96, x97, x98, x99, x100, x101, x102, x103, x104, x105, x106, x107, (by simp only [Act.put, List.setIfInBounds_toArray, List.set_cons_zero, List.set_cons_succ]), (by simp only [Act.put, List.setIfInBounds_toArray, List.set_cons_zero, List.set_cons_succ]), hb, cd0, cd1, cd2, cd3, cd4, cd5, (fun _ => rfl), (fun _ => rfl), cd8, cd9, cd10, cd11, cd12, cd13, cd14, cd15, cd16, cd17, cd18, cd19, cd20⟩
              · rintro L a w ⟨b0, b1, b2, b3, b4, b5, b6, b7, b8, b9, b10, b11, b12, b13, b14, b15, b16, b17, b18, b19, b20, x87, x88, x89, x90, x91, x92, x93, x94, x95, x96, x97, x98, x99, x100, x101, x102, x103, x104, x105, x106, x107, rfl, rfl, hb, cd0, cd1, cd2, cd3, cd4, cd5, cd6, cd7, cd8, cd9, cd10, cd11, cd12, cd13, cd14, cd15, cd16, cd17, cd18, cd19, cd20⟩ hf hd
                have hf' : b8 = false := hf
                subst hf'
                have d5 : b5 = true := hd ⟨5, .data⟩ (by simp) rfl
                subst d5
                have d7 : b7 = true := hd ⟨7, .data⟩ (by simp) rfl
                subst d7
                obtain rfl := cd5.out rfl
                obtain rfl := cd7.out rfl
                clear hf hd
                try simp only [List.setIfInBounds_toArray, List.set_cons_zero, List.set_cons_succ]
                intro K hK
                rw [if_pos (by rfl)]
                go_simp
                exact hK.out _ _ ⟨b0, b1, b2, b3, b4, true, b6, true, true, b9, b10, b11, b12, b13, b14, b15, b16, b17, b18, b19, b20, x87, x88, x89, x90, x91, .slice (some ⟨a1, f1, none⟩) N c1, x93, .int .i64 (KI : Nat), (.pointer (some ⟨a1, f1 + KI * 3, none⟩)), x96, x97, x98, x99, x100, x101, x102, x103, x104, x105, x106, x107, (by simp only [Act.put, List.setIfInBounds_toArray, List.set_cons_zero, List.set_cons_succ]), (by simp only [Act.put, List.setIfInBounds_toArray, List.set_cons_zero, List.set_cons_succ]), hb, cd0, cd1, cd2, cd3, cd4, (fun _ => rfl), cd6, (fun _ => rfl), (fun _ => rfl), cd9, cd10, cd11, cd12, cd13, cd14, cd15, cd16, cd17, cd18, cd19, cd20⟩
              · rintro L a w ⟨b0, b1, b2, b3, b4, b5, b6, b7, b8, b9, b10, b11, b12, b13, b14, b15, b16, b17, b18, b19, b20, x87, x88, x89, x90, x91, x92, x93, x94, x95, x96, x97, x98, x99, x100, x101, x102, x103, x104, x105, x106, x107, rfl, rfl, hb, cd0, cd1, cd2, cd3, cd4, cd5, cd6, cd7, cd8, cd9, cd10, cd11, cd12, cd13, cd14, cd15, cd16, cd17, cd18, cd19, cd20⟩ hf hd
                have hf' : b9 = false := hf
                subst hf'
                have d8 : b8 = true := hd ⟨8, .data⟩ (by simp) rfl
                subst d8
                obtain rfl := cd8.out rfl
                clear hf hd
                try simp only [List.setIfInBounds_toArray, List.set_cons_zero, List.set_cons_succ]
                have z0 := (hb.cell hepB).trans ep0
                have z1 := (hb.cell hepB).trans ep1
                have z2 := (hb.cell hepB).trans ep2
                intro K hK
                rw [if_pos (by rfl)]
                go_simp
                exact hK.out _ _ ⟨b0, b1, b2, b3, b4, b5, b6, b7, true, true, b10, b11, b12, b13, b14, b15, b16, b17, b18, b19, b20, x87, x88, x89, x90, x91, x92, x93, x94, .pointer (some ⟨a1, f1 + KI * 3, none⟩), (.agg #[.int .i64 k1, .int .i64 m1, .string s1]), x97, x98, x99, x100, x101, x102, x103, x104, x105, x106, x107, (by simp only [Act.put, List.setIfInBounds_toArray, List.set_cons_zero, List.set_cons_succ]), (by simp only [Act.put, List.setIfInBounds_toArray, List.set_cons_zero, List.set_cons_succ]), hb, cd0, cd1, cd2, cd3, cd4, cd5, cd6, cd7, (fun _ => rfl), (fun _ => rfl), cd10, cd11, cd12, cd13, cd14, cd15, cd16, cd17, cd18, cd19, cd20⟩
              · rintro L a w ⟨b0, b1, b2, b3, b4, b5, b6, b7, b8, b9, b10, b11, b12, b13, b14, b15, b16, b17, b18, b19, b20, x87, x88, x89, x90, x91, x92, x93, x94, x95, x96, x97, x98, x99, x100, x101, x102, x103, x104, x105, x106, x107, rfl, rfl, hb, cd0, cd1, cd2, cd3, cd4, cd5, cd6, cd7, cd8, cd9, cd10, cd11, cd12, cd13, cd14, cd15, cd16, cd17, cd18, cd19, cd20⟩ hf hd
                have hf' : b10 = false := hf
                subst hf'
                clear hf hd
                try simp only [List.setIfInBounds_toArray, List.set_cons_zero, List.set_cons_succ]
                intro K hK
                rw [if_pos (by rfl)]
                go_simp
                exact hK.out _ _ ⟨b0, b1, b2, b3, b4, b5, b6, b7, b8, b9, true, b11, b12, b13, b14, b15, b16, b17, b18, b19, b20, x87, x88, x89, x90, x91, x92, x93, x94, x95, x96, (.pointer (some ⟨gt, 4, none⟩)), x98, x99, x100, x101, x102, x103, x104, x105, x106, x107, (by simp only [Act.put, List.setIfInBounds_toArray, List.set_cons_zero, List.set_cons_succ]), (by simp only [Act.put, List.setIfInBounds_toArray, List.set_cons_zero, List.set_cons_succ]), hb, cd0, cd1, cd2, cd3, cd4, cd5, cd6, cd7, cd8, cd9, (fun _ => rfl), cd11, cd12, cd13, cd14, cd15, cd16, cd17, cd18, cd19, cd20⟩
              · rintro L a w ⟨b0, b1, b2, b3, b4, b5, b6, b7, b8, b9, b10, b11, b12, b13, b14, b15, b16, b17, b18, b19, b20, x87, x88, x89, x90, x91, x92, x93, x94, x95, x96, x97, x98, x99, x100, x101, x102, x103, x104, x105, x106, x107, rfl, rfl, hb, cd0, cd1, cd2, cd3, cd4, cd5, cd6, cd7, cd8, cd9, cd10, cd11, cd12, cd13, cd14, cd15, cd16, cd17, cd18, cd19, cd20⟩ hf hd
                have hf' : b11 = false := hf
                subst hf'
                have d10 : b10 = true := hd ⟨10, .data⟩ (by simp) rfl
                subst d10
                obtain rfl := cd10.out rfl
                clear hf hd
                try simp only [List.setIfInBounds_toArray, List.set_cons_zero, List.set_cons_succ]
                have z0 := (hb.cell hgtB5).trans t4
                intro K hK
                rw [if_pos (by rfl)]
                go_simp
                exact hK.out _ _ ⟨b0, b1, b2, b3, b4, b5, b6, b7, b8, b9, true, true, b12, b13, b14, b15, b16, b17, b18, b19, b20, x87, x88, x89, x90, x91, x92, x93, x94, x95, x96, .pointer (some ⟨gt, 4, none⟩), (.slice (some ⟨rb, roff, none⟩) rn rc), x99, x100, x101, x102, x103, x104, x105, x106, x107, (by simp only [Act.put, List.setIfInBounds_toArray, List.set_cons_zero, List.set_cons_succ]), (by simp only [Act.put, List.setIfInBounds_toArray, List.set_cons_zero, List.set_cons_succ]), hb, cd0, cd1, cd2, cd3, cd4, cd5, cd6, cd7, cd8, cd9, (fun _ => rfl), (fun _ => rfl), cd12, cd13, cd14, cd15, cd16, cd17, cd18, cd19, cd20⟩
              · rintro L a w ⟨b0, b1, b2, b3, b4, b5, b6, b7, b8, b9, b10, b11, b12, b13, b14, b15, b16, b17, b18, b19, b20, x87, x88, x89, x90, x91, x92, x93, x94, x95, x96, x97, x98, x99, x100, x101, x102, x103, x104, x105, x106, x107, rfl, rfl, hb, cd0, cd1, cd2, cd3, cd4, cd5, cd6, cd7, cd8, cd9, cd10, cd11, cd12, cd13, cd14, cd15, cd16, cd17, cd18, cd19, cd20⟩ hf hd
                have hf' : b12 = false := hf
                subst hf'
                clear hf hd
                try simp only [List.setIfInBounds_toArray, List.set_cons_zero, List.set_cons_succ]
                intro K hK
                rw [if_pos (by rfl)]
                go_simp
                exact hK.out _ _ ⟨b0, b1, b2, b3, b4, b5, b6, b7, b8, b9, b10, b11, true, b13, b14, b15, b16, b17, b18, b19, b20, x87, x88, x89, x90, x91, x92, x93, x94, x95, x96, x97, x98, (.int .i64 (j : Nat)), x100, x101, x102, x103, x104, x105, x106, x107, (by simp only [Act.put, List.setIfInBounds_toArray, List.set_cons_zero, List.set_cons_succ]), (by simp only [Act.put, List.setIfInBounds_toArray, List.set_cons_zero, List.set_cons_succ]), hb, cd0, cd1, cd2, cd3, cd4, cd5, cd6, cd7, cd8, cd9, cd10, cd11, (fun _ => rfl), cd13, cd14, cd15, cd16, cd17, cd18, cd19, cd20⟩
              · rintro L a w ⟨b0, b1, b2, b3, b4, b5, b6, b7, b8, b9, b10, b11, b12, b13, b14, b15, b16, b17, b18, b19, b20, x87, x88, x89, x90, x91, x92, x93, x94, x95, x96, x97, x98, x99, x100, x101, x102, x103, x104, x105, x106, x107, rfl, rfl, hb, cd0, cd1, cd2, cd3, cd4, cd5, cd6, cd7, cd8, cd9, cd10, cd11, cd12, cd13, cd14, cd15, cd16, cd17, cd18, cd19, cd20⟩ hf hd
                have hf' : b13 = false := hf
                subst hf'
                have d11 : b11 = true := hd ⟨11, .data⟩ (by simp) rfl
                subst d11
                have d12 : b12 = true := hd ⟨12, .data⟩ (by simp) rfl
                subst d12
                obtain rfl := cd11.out rfl
                obtain rfl := cd12.out rfl
                clear hf hd
                try simp only [List.setIfInBounds_toArray, List.set_cons_zero, List.set_cons_succ]
                intro K hK
                rw [if_pos (by rfl)]
                go_simp
                exact hK.out _ _ ⟨b0, b1, b2, b3, b4, b5, b6, b7, b8, b9, b10, true, true, true, b14, b15, b16, b17, b18, b19, b20, x87, x88, x89, x90, x91, x92, x93, x94, x95, x96, x97, .slice (some ⟨rb, roff, none⟩) rn rc, .int .i64 (j : Nat), (.pointer (some ⟨rb, roff + j, none⟩)), x101, x102, x103, x104, x105, x106, x107, (by simp only [Act.put, List.setIfInBounds_toArray, List.set_cons_zero, List.set_cons_succ]), (by simp only [Act.put, List.setIfInBounds_toArray, List.set_cons_zero, List.set_cons_succ]), hb, cd0, cd1, cd2, cd3, cd4, cd5, cd6, cd7, cd8, cd9, cd10, (fun _ => rfl), (fun _ => rfl), (fun _ => rfl), cd14, cd15, cd16, cd17, cd18, cd19, cd20⟩
              · rintro L a w ⟨b0, b1, b2, b3, b4, b5, b6, b7, b8, b9, b10, b11, b12, b13, b14, b15, b16, b17, b18, b19, b20, x87, x88, x89, x90, x91, x92, x93, x94, x95, x96, x97, x98, x99, x100, x101, x102, x103, x104, x105, x106, x107, rfl, rfl, hb, cd0, cd1, cd2, cd3, cd4, cd5, cd6, cd7, cd8, cd9, cd10, cd11, cd12, cd13, cd14, cd15, cd16, cd17, cd18, cd19, cd20⟩ hf hd
                have hf' : b14 = false := hf
                subst hf'
                have d13 : b13 = true := hd ⟨13, .data⟩ (by simp) rfl
                subst d13
                obtain rfl := cd13.out rfl
                clear hf hd
                try simp only [List.setIfInBounds_toArray, List.set_cons_zero, List.set_cons_succ]
                have z0 := (hb.cell hrbB).trans dq
                intro K hK
                rw [if_pos (by rfl)]
                go_simp
                exact hK.out _ _ ⟨b0, b1, b2, b3, b4, b5, b6, b7, b8, b9, b10, b11, b12, true, true, b15, b16, b17, b18, b19, b20, x87, x88, x89, x90, x91, x92, x93, x94, x95, x96, x97, x98, x99, .pointer (some ⟨rb, roff + j, none⟩), (.slice (some ⟨a2, f2, none⟩) N c2), x102, x103, x104, x105, x106, x107, (by simp only [Act.put, List.setIfInBounds_toArray, List.set_cons_zero, List.set_cons_succ]), (by simp only [Act.put, List.setIfInBounds_toArray, List.set_cons_zero, List.set_cons_succ]), hb, cd0, cd1, cd2, cd3, cd4, cd5, cd6, cd7, cd8, cd9, cd10, cd11, cd12, (fun _ => rfl), (fun _ => rfl), cd15, cd16, cd17, cd18, cd19, cd20⟩
              · rintro L a w ⟨b0, b1, b2, b3, b4, b5, b6, b7, b8, b9, b10, b11, b12, b13, b14, b15, b16, b17, b18, b19, b20, x87, x88, x89, x90, x91, x92, x93, x94, x95, x96, x97, x98, x99, x100, x101, x102, x103, x104, x105, x106, x107, rfl, rfl, hb, cd0, cd1, cd2, cd3, cd4, cd5, cd6, cd7, cd8, cd9, cd10, cd11, cd12, cd13, cd14, cd15, cd16, cd17, cd18, cd19, cd20⟩ hf hd
                have hf' : b15 = false := hf
                subst hf'
                clear hf hd
                try simp only [List.setIfInBounds_toArray, List.set_cons_zero, List.set_cons_succ]
                intro K hK
                rw [if_pos (by rfl)]
                go_simp
                exact hK.out _ _ ⟨b0, b1, b2, b3, b4, b5, b6, b7, b8, b9, b10, b11, b12, b13, b14, true, b16, b17, b18, b19, b20, x87, x88, x89, x90, x91, x92, x93, x94, x95, x96, x97, x98, x99, x100, x101, (.pointer (some ⟨gs, 2, none⟩)), x103, x104, x105, x106, x107, (by simp only [Act.put, List.setIfInBounds_toArray, List.set_cons_zero, List.set_cons_succ]), (by simp only [Act.put, List.setIfInBounds_toArray, List.set_cons_zero, List.set_cons_succ]), hb, cd0, cd1, cd2, cd3, cd4, cd5, cd6, cd7, cd8, cd9, cd10, cd11, cd12, cd13, cd14, (fun _ => rfl), cd16, cd17, cd18, cd19, cd20⟩
              · rintro L a w ⟨b0, b1, b2, b3, b4, b5, b6, b7, b8, b9, b10, b11, b12, b13, b14, b15, b16, b17, b18, b19, b20, x87, x88, x89, x90, x91, x92, x93, x94, x95, x96, x97, x98, x99, x100, x101, x102, x103, x104, x105, x106, x107, rfl, rfl, hb, cd0, cd1, cd2, cd3, cd4, cd5, cd6, cd7, cd8, cd9, cd10, cd11, cd12, cd13, cd14, cd15, cd16, cd17, cd18, cd19, cd20⟩ hf hd
                have hf' : b16 = false := hf
                subst hf'
                have d15 : b15 = true := hd ⟨15, .data⟩ (by simp) rfl
                subst d15
                obtain rfl := cd15.out rfl
                clear hf hd
                try simp only [List.setIfInBounds_toArray, List.set_cons_zero, List.set_cons_succ]
                have z0 := (hb.cell hgsB5).trans z2
                intro K hK
                rw [if_pos (by rfl)]
                go_simp
                exact hK.out _ _ ⟨b0, b1, b2, b3, b4, b5, b6, b7, b8, b9, b10, b11, b12, b13, b14, true, true, b17, b18, b19, b20, x87, x88, x89, x90, x91, x92, x93, x94, x95, x96, x97, x98, x99, x100, x101, .pointer (some ⟨gs, 2, none⟩), (.int .i64 (KI : Nat)), x104, x105, x106, x107, (by simp only [Act.put, List.setIfInBounds_toArray, List.set_cons_zero, List.set_cons_succ]), (by simp only [Act.put, List.setIfInBounds_toArray, List.set_cons_zero, List.set_cons_succ]), hb, cd0, cd1, cd2, cd3, cd4, cd5, cd6, cd7, cd8, cd9, cd10, cd11, cd12, cd13, cd14, (fun _ => rfl), (fun _ => rfl), cd17, cd18, cd19, cd20⟩
              · rintro L a w ⟨b0, b1, b2, b3, b4, b5, b6, b7, b8, b9, b10, b11, b12, b13, b14, b15, b16, b17, b18, b19, b20, x87, x88, x89, x90, x91, x92, x93, x94, x95, x96, x97, x98, x99, x100, x101, x102, x103, x104, x105, x106, x107, rfl, rfl, hb, cd0, cd1, cd2, cd3, cd4, cd5, cd6, cd7, cd8, cd9, cd10, cd11, cd12, cd13, cd14, cd15, cd16, cd17, cd18, cd19, cd20⟩ hf hd
                have hf' : b17 = false := hf
                subst hf'
                have d14 : b14 = true := hd ⟨14, .data⟩ (by simp) rfl
                subst d14
                have d16 : b16 = true := hd ⟨16, .data⟩ (by simp) rfl
                subst d16
                obtain rfl := cd14.out rfl
                obtain rfl := cd16.out rfl
                clear hf hd
                try simp only [List.setIfInBounds_toArray, List.set_cons_zero, List.set_cons_succ]
                intro K hK
                rw [if_pos (by rfl)]
                go_simp
                exact hK.out _ _ ⟨b0, b1, b2, b3, b4, b5, b6, b7, b8, b9, b10, b11, b12, b13, true, b15, true, true, b18, b19, b20, x87, x88, x89, x90, x91, x92, x93, x94, x95, x96, x97, x98, x99, x100, .slice (some ⟨a2, f2, none⟩) N c2, x102, .int .i64 (KI : Nat), (.pointer (some ⟨a2, f2 + KI * 3, none⟩)), x105, x106, x107, (by simp only [Act.put, List.setIfInBounds_toArray, List.set_cons_zero, List.set_cons_succ]), (by simp only [Act.put, List.setIfInBounds_toArray, List.set_cons_zero, List.set_cons_succ]), hb, cd0, cd1, cd2, cd3, cd4, cd5, cd6, cd7, cd8, cd9, cd10, cd11, cd12, cd13, (fun _ => rfl), cd15, (fun _ => rfl), (fun _ => rfl), cd18, cd19, cd20⟩
              · rintro L a w ⟨b0, b1, b2, b3, b4, b5, b6, b7, b8, b9, b10, b11, b12, b13, b14, b15, b16, b17, b18, b19, b20, x87, x88, x89, x90, x91, x92, x93, x94, x95, x96, x97, x98, x99, x100, x101, x102, x103, x104, x105, x106, x107, rfl, rfl, hb, cd0, cd1, cd2, cd3, cd4, cd5, cd6, cd7, cd8, cd9, cd10, cd11, cd12, cd13, cd14, cd15, cd16, cd17, cd18, cd19, cd20⟩ hf hd
                have hf' : b18 = false := hf
                subst hf'
                have d17 : b17 = true := hd ⟨17, .data⟩ (by simp) rfl
                subst d17
                obtain rfl := cd17.out rfl
                clear hf hd
                try simp only [List.setIfInBounds_toArray, List.set_cons_zero, List.set_cons_succ]
                have z0 := (hb.cell heqB).trans eq0
                have z1 := (hb.cell heqB).trans eq1
                have z2 := (hb.cell heqB).trans eq2
                intro K hK
                rw [if_pos (by rfl)]
                go_simp
                exact hK.out _ _ ⟨b0, b1, b2, b3, b4, b5, b6, b7, b8, b9, b10, b11, b12, b13, b14, b15, b16, true, true, b19, b20, x87, x88, x89, x90, x91, x92, x93, x94, x95, x96, x97, x98, x99, x100, x101, x102, x103, .pointer (some ⟨a2, f2 + KI * 3, none⟩), (.agg #[.int .i64 k2, .int .i64 m2, .string s2]), x106, x107, (by simp only [Act.put, List.setIfInBounds_toArray, List.set_cons_zero, List.set_cons_succ]), (by simp only [Act.put, List.setIfInBounds_toArray, List.set_cons_zero, List.set_cons_succ]), hb, cd0, cd1, cd2, cd3, cd4, cd5, cd6, cd7, cd8, cd9, cd10, cd11, cd12, cd13, cd14, cd15, cd16, (fun _ => rfl), (fun _ => rfl), cd19, cd20⟩
              · rintro L a w ⟨b0, b1, b2, b3, b4, b5, b6, b7, b8, b9, b10, b11, b12, b13, b14, b15, b16, b17, b18, b19, b20, x87, x88, x89, x90, x91, x92, x93, x94, x95, x96, x97, x98, x99, x100, x101, x102, x103, x104, x105, x106, x107, rfl, rfl, hb, cd0, cd1, cd2, cd3, cd4, cd5, cd6, cd7, cd8, cd9, cd10, cd11, cd12, cd13, cd14, cd15, cd16, cd17, cd18, cd19, cd20⟩ hf hd
                have hf' : b19 = false := hf
                subst hf'
                have d9 : b9 = true := hd ⟨9, .data⟩ (by simp) rfl
                subst d9
                have d18 : b18 = true := hd ⟨18, .data⟩ (by simp) rfl
                subst d18
                obtain rfl := cd9.out rfl
                obtain rfl := cd18.out rfl
                clear hf hd
                try simp only [List.setIfInBounds_toArray, List.set_cons_zero, List.set_cons_succ]
                intro K hK
                rw [if_pos (by rfl)]
                go_simp
                go_at_call 35
                refine (HCm _).mono ?_
                rintro e w' ⟨rfl, bx⟩
                exact hK.out _ _ ⟨b0, b1, b2, b3, b4, b5, b6, b7, b8, true, b10, b11, b12, b13, b14, b15, b16, b17, true, true, b20, x87, x88, x89, x90, x91, x92, x93, x94, x95, .agg #[.int .i64 k1, .int .i64 m1, .string s1], x97, x98, x99, x100, x101, x102, x103, x104, .agg #[.int .i64 k2, .int .i64 m2, .string s2], (.int .i64 C), x107, (by simp only [Act.put, List.setIfInBounds_toArray, List.set_cons_zero, List.set_cons_succ]), (by simp only [Act.put, List.setIfInBounds_toArray, List.set_cons_zero, List.set_cons_succ]), hb.trans (bx.mono (Nat.le_trans hB0 hb.size)), cd0, cd1, cd2, cd3, cd4, cd5, cd6, cd7, cd8, (fun _ => rfl), cd10, cd11, cd12, cd13, cd14, cd15, cd16, cd17, (fun _ => rfl), (fun _ => rfl), cd20⟩
              · rintro L a w ⟨b0, b1, b2, b3, b4, b5, b6, b7, b8, b9, b10, b11, b12, b13, b14, b15, b16, b17, b18, b19, b20, x87, x88, x89, x90, x91, x92, x93, x94, x95, x96, x97, x98, x99, x100, x101, x102, x103, x104, x105, x106, x107, rfl, rfl, hb, cd0, cd1, cd2, cd3, cd4, cd5, cd6, cd7, cd8, cd9, cd10, cd11, cd12, cd13, cd14, cd15, cd16, cd17, cd18, cd19, cd20⟩ hf hd
                have hf' : b20 = false := hf
                subst hf'
                have d19 : b19 = true := hd ⟨19, .data⟩ (by simp) rfl
                subst d19
                obtain rfl := cd19.out rfl
                clear hf hd
                try simp only [List.setIfInBounds_toArray, List.set_cons_zero, List.set_cons_succ]
                intro K hK
                rw [if_pos (by rfl)]
                go_simp
                exact hK.out _ _ ⟨b0, b1, b2, b3, b4, b5, b6, b7, b8, b9, b10, b11, b12, b13, b14, b15, b16, b17, b18, true, true, x87, x88, x89, x90, x91, x92, x93, x94, x95, x96, x97, x98, x99, x100, x101, x102, x103, x104, x105, .int .i64 C, (.bool (decide (0 ≤ C))), (by simp only [Act.put, List.setIfInBounds_toArray, List.set_cons_zero, List.set_cons_succ]), (by simp only [Act.put, List.setIfInBounds_toArray, List.set_cons_zero, List.set_cons_succ]), hb, cd0, cd1, cd2, cd3, cd4, cd5, cd6, cd7, cd8, cd9, cd10, cd11, cd12, cd13, cd14, cd15, cd16, cd17, cd18, (fun _ => rfl), (fun _ => rfl)⟩
            · rintro act V ⟨b0, b1, b2, b3, b4, b5, b6, b7, b8, b9, b10, b11, b12, b13, b14, b15, b16, b17, b18, b19, b20, x87, x88, x89, x90, x91, x92, x93, x94, x95, x96, x97, x98, x99, x100, x101, x102, x103, x104, x105, x106, x107, hL, rfl, hb, cd0, cd1, cd2, cd3, cd4, cd5, cd6, cd7, cd8, cd9, cd10, cd11, cd12, cd13, cd14, cd15, cd16, cd17, cd18, cd19, cd20⟩
              have hL' : [true, true, true, true, true, true, true, true, true, true, true, true, true, true, true, true, true, true, true, true, true] = [b0, b1, b2, b3, b4, b5, b6, b7, b8, b9, b10, b11, b12, b13, b14, b15, b16, b17, b18, b19, b20] := congrArg Array.toList hL
              simp only [List.cons.injEq, and_true] at hL'
              obtain ⟨rfl, rfl, rfl, rfl, rfl, rfl, rfl, rfl, rfl, rfl, rfl, rfl, rfl, rfl, rfl, rfl, rfl, rfl, rfl, rfl, rfl⟩ := hL'
              obtain rfl := cd0.out rfl
              obtain rfl := cd1.out rfl
              obtain rfl := cd2.out rfl
              obtain rfl := cd3.out rfl
              obtain rfl := cd4.out rfl
              obtain rfl := cd5.out rfl
              obtain rfl := cd6.out rfl
              obtain rfl := cd7.out rfl
              obtain rfl := cd8.out rfl
              obtain rfl := cd9.out rfl
              obtain rfl := cd10.out rfl
              obtain rfl := cd11.out rfl
              obtain rfl := cd12.out rfl
              obtain rfl := cd13.out rfl
              obtain rfl := cd14.out rfl
              obtain rfl := cd15.out rfl
              obtain rfl := cd16.out rfl
              obtain rfl := cd17.out rfl
              obtain rfl := cd18.out rfl
              obtain rfl := cd19.out rfl
              obtain rfl := cd20.out rfl
              clear hL cd0 cd1 cd2 cd3 cd4 cd5 cd6 cd7 cd8 cd9 cd10 cd11 cd12 cd13 cd14 cd15 cd16 cd17 cd18 cd19 cd20
              simp only [List.setIfInBounds_toArray, List.set_cons_zero, List.set_cons_succ]
              have BV2 : Below wo.heap.size wo V := B5.trans (((Below.refl _ _).drew.trans hb).mono B5.size)
              clear hb
              have hC2 : ¬ (0 ≤ C) := by omega
              go_wp2_with fail
              go_roundw
              case rel => exact ⟨j + 1, by omega, by go_num, BV2⟩
              case measure => simp [intOf]; omega
          · have hj2i : ¬ ((j : Int) < (rn : Int)) := by omega
            go_wp2_with fail
            go_ret
            exact ⟨by simp, by rw [HP.out]; exact BB5⟩
      · have hjni : ¬ ((j : Int) < (nl : Int)) := by omega
        obtain ⟨wo, rfl⟩ : ∃ wo, wo = wr := ⟨wr, rfl⟩
        go_wp2_with fail
        go_loopw [17] (fun i wq => ∃ j : Nat, 1 ≤ j ∧ i = .int .i64 (j : Nat) ∧ Below wo.heap.size wo wq) (fun i _ => rn - (intOf i).toNat)
        case atStart => exact ⟨1, Nat.le_refl _, rfl, Below.refl _ _⟩
        case round =>
          obtain ⟨j, hj1, rfl, B5⟩ := hrel
          have hT5 := hT0.past B5
          have XS5 := XS0.past B5
          clear t0 t1 t2 t3 t4 z0 z1 z2 z3
          obtain ⟨t0, t1, t2, t3, t4⟩ := tb_cells hT5
          obtain ⟨z0, z1, z2, z3⟩ := sc_cells XS5
          have BB5 := BB.trans (B5.mono hpw)
          by_cases hj2 : j < rn
          · have hj2i : (j : Int) < (rn : Int) := by omega
            obtain ⟨jm, hjm⟩ : ∃ jm, j = jm + 1 := ⟨j - 1, by omega⟩
            have HJ : Hid (IntKind.i64.wrap ((j : Int) - 1) = (jm : Int)) := by
              show _ = _
              rw [IntWalk.i64_in _ (by omega)]
              omega
            have hjm2 : jm < j := by omega
            have hjmi : (jm : Int) < (rn : Int) := by omega
            have iT5 := iT.past B5
            obtain ⟨r1, hr1⟩ : ∃ r, rs[jm]? = some r := ⟨rs[jm]'(by omega), List.getElem?_eq_getElem _⟩
            obtain ⟨r2, hr2⟩ : ∃ r, rs[j]? = some r := ⟨rs[j]'(by omega), List.getElem?_eq_getElem _⟩
            obtain ⟨n1, e1⟩ := hFi.mem r1 (List.mem_of_getElem? hr1)
            obtain ⟨n2, e2⟩ := hFi.mem r2 (List.mem_of_getElem? hr2)
            have hlt := hFi.srt.get hr1 hr2 hjm2
            clear hjm2 hjm
            obtain ⟨xk, hxk, -⟩ := hFn
            have g1 := fitRow_get (n := n1) hxk
            have g2 := fitRow_get (n := n2) hxk
            rw [← e1] at g1
            rw [← e2] at g2
            have V1 := fit_val n1 KI xk
            have V2 := fit_val n2 KI xk
            have q1 : kOf KI r1 = fitVal n1 KI xk := by rw [e1]; exact kOf_fit hxk
            have q2 : kOf KI r2 = fitVal n2 KI xk := by rw [e2]; exact kOf_fit hxk
            rw [q1, q2] at hlt
            obtain ⟨rb, roff, hd1, rfl, hrbB, dp, i1⟩ := iT5.rows.at hr1
            obtain ⟨rb', roff', hd2, he, -, dq, i2⟩ := iT5.rows.at hr2
            simp only [Option.some.injEq, Addr.mk.injEq, and_true] at he
            obtain ⟨rfl, rfl⟩ := he
            have l1 : hd1.n = N := by rw [← i1.len, e1, fitRow_len, hFl]
            have l2 : hd2.n = N := by rw [← i2.len, e2, fitRow_len, hFl]
            obtain ⟨h1a, h1n, c1⟩ := hd1
            obtain ⟨h2a, h2n, c2⟩ := hd2
            simp only at dp dq i1 i2 l1 l2
            rw [l1] at dp i1
            rw [l2] at dq i2
            obtain ⟨a1, f1, rfl, hepB, u1⟩ := i1.open (by omega) (by decide)
            obtain ⟨a2, f2, rfl, heqB, u2⟩ := i2.open (by omega) (by decide)
            obtain ⟨ep0, ep1, ep2⟩ := cells_v u1 KI _ g1
            obtain ⟨eq0, eq1, eq2⟩ := cells_v u2 KI _ g2
            obtain ⟨C, hC⟩ : ∃ C, (fitVal n1 KI xk).cmp (fitVal n2 KI xk) = C := ⟨_, rfl⟩
            rw [hC] at hlt
            have HCm := fun w' => rcmp4_any _ _ _ _ _ _ w' V1 V2
            rw [show cmpV (fitVal n1 KI xk).k (fitVal n1 KI xk).n (fitVal n1 KI xk).s (fitVal n2 KI xk).k (fitVal n2 KI xk).n (fitVal n2 KI xk).s = C from hC] at HCm
            obtain ⟨p1, hp1⟩ : ∃ u, fitVal n1 KI xk = u := ⟨_, rfl⟩
            obtain ⟨p2, hp2⟩ : ∃ u, fitVal n2 KI xk = u := ⟨_, rfl⟩
            rw [hp1] at ep0 ep1 ep2
            rw [hp2] at eq0 eq1 eq2
            rw [hp1, hp2] at HCm
            clear hp1 hp2 q1 q2 V1 V2 g1 g2 hC
            obtain ⟨k1, m1, s1⟩ := p1
            obtain ⟨k2, m2, s2⟩ := p2
            simp only at ep0 ep1 ep2 eq0 eq1 eq2 HCm
            have hB0 : wr.heap.size ≤ wr.heap.size := Nat.le_refl _
            have hgtB5 := hT5.lt
            have hgsB5 := XS5.lt
            clear u1 u2 hr1 hr2 e1 e2 i1 i2 hxk iT5
            go_upto_region 24 with fail
            refine region_inv (TOrder24 wr.heap.size gt gs N KI rb roff rn rc j jm a1 f1 c1 a2 f2 c2 k1 m1 s1 k2 m2 s2 C) (by kernel_rfl) (by kernel_rfl) ?_ ?_ ?_
            · exact ⟨false, false, false, false, false, false, false, false, false, false, false, false, false, false, false, false, false, false, false, false, false, u87, u88, u89, u90, u91, u92, u93, u94, u95, u96, u97, u98, u99, u100, u101, u102, u103, u104, u105, u106, u107, rfl, (by simp only [Act.put, List.setIfInBounds_toArray, List.set_cons_zero, List.set_cons_succ]), Below.refl _ _, (fun h => by cases h), (fun h => by cases h), (fun h => by cases h), (fun h => by cases h), (fun h => by cases h), (fun h => by cases h), (fun h => by cases h), (fun h => by cases h), (fun h => by cases h), (fun h => by cases h), (fun h => by cases h), (fun h => by cases h), (fun h => by cases h), (fun h => by cases h), (fun h => by cases h), (fun h => by cases h), (fun h => by cases h), (fun h => by cases h), (fun h => by cases h), (fun h => by cases h), (fun h => by cases h)⟩
            · refine ⟨?_, ?_, ?_, ?_, ?_, ?_, ?_, ?_, ?_, ?_, ?_, ?_, ?_, ?_, ?_, ?_, ?_, ?_, ?_, ?_, ?_, trivial⟩
              · rintro L a w ⟨b0, b1, b2, b3, b4, b5, b6, b7, b8, b9, b10, b11, b12, b13, b14, b15, b16, b17, b18, b19, b20, x87, x88, x89, x90, x91, x92, x93, x94, x95, x96, x97, x98, x99, x100, x101, x102, x103, x104, x105, x106, x107, rfl, rfl, hb, cd0, cd1, cd2, cd3, cd4, cd5, cd6, cd7, cd8, cd9, cd10, cd11, cd12, cd13, cd14, cd15, cd16, cd17, cd18, cd19, cd20⟩ hf hd
                have hf' : b0 = false := hf
                subst hf'
                clear hf hd
                try simp only [List.setIfInBounds_toArray, List.set_cons_zero, List.set_cons_succ]
                intro K hK
                rw [if_pos (by rfl)]
                go_simp
                exact hK.out _ _ ⟨true, b1, b2, b3, b4, b5, b6, b7, b8, b9, b10, b11, b12, b13, b14, b15, b16, b17, b18, b19, b20, (.pointer (some ⟨gt, 4, none⟩)), x88, x89, x90, x91, x92, x93, x94, x95, x96, x97, x98, x99, x100, x101, x102, x103, x104, x105, x106, x107, (by simp only [Act.put, List.setIfInBounds_toArray, List.set_cons_zero, List.set_cons_succ]), (by simp only [Act.put, List.setIfInBounds_toArray, List.set_cons_zero, List.set_cons_succ]), hb, (fun _ => rfl), cd1, cd2, cd3, cd4, cd5, cd6, cd7, cd8, cd9, cd10, cd11, cd12, cd13, cd14, cd15, cd16, cd17, cd18, cd19, cd20⟩
              · rintro L a w ⟨b0, b1, b2, b3, b4, b5, b6, b7, b8, b9, b10, b11, b12, b13, b14, b15, b16, b17, b18, b19, b20, x87, x88, x89, x90, x91, x92, x93, x94, x95, x96, x97, x98, x99, x100, x101, x102, x103, x104, x105, x106, x107, rfl, rfl, hb, cd0, cd1, cd2, cd3, cd4, cd5, cd6, cd7, cd8, cd9, cd10, cd11, cd12, cd13, cd14, cd15, cd16, cd17, cd18, cd19, cd20⟩ hf hd
                have hf' : b1 = false := hf
                subst hf'
                have d0 : b0 = true := hd ⟨0, .data⟩ (by simp) rfl
                subst d0
                obtain rfl := cd0.out rfl
                clear hf hd
                try simp only [List.setIfInBounds_toArray, List.set_cons_zero, List.set_cons_succ]
                have z0 := (hb.cell hgtB5).trans t4
                intro K hK
                rw [if_pos (by rfl)]
                go_simp
                exact hK.out _ _ ⟨true, true, b2, b3, b4, b5, b6, b7, b8, b9, b10, b11, b12, b13, b14, b15, b16, b17, b18, b19, b20, .pointer (some ⟨gt, 4, none⟩), (.slice (some ⟨rb, roff, none⟩) rn rc), x89, x90, x91, x92, x93, x94, x95, x96, x97, x98, x99, x100, x101, x102, x103, x104, x105, x106, x107, (by simp only [Act.put, List.setIfInBounds_toArray, List.set_cons_zero, List.set_cons_succ]), (by simp only [Act.put, List.setIfInBounds_toArray, List.set_cons_zero, List.set_cons_succ]), hb, (fun _ => rfl), (fun _ => rfl), cd2, cd3, cd4, cd5, cd6, cd7, cd8, cd9, cd10, cd11, cd12, cd13, cd14, cd15, cd16, cd17, cd18, cd19, cd20⟩
              · rintro L a w ⟨b0, b1, b2, b3, b4, b5, b6, b7, b8, b9, b10, b11, b12, b13, b14, b15, b16, b17, b18, b19, b20, x87, x88, x89, x90, x91, x92, x93, x94, x95, x96, x97, x98, x99, x100, x101, x102, x103, x104, x105, x106, x107, rfl, rfl, hb, cd0, cd1, cd2, cd3, cd4, cd5, cd6, cd7, cd8, cd9, cd10, cd11, cd12, cd13, cd14, cd15, cd16, cd17, cd18, cd19, cd20⟩ hf hd
                have hf' : b2 = false := hf
                subst hf'
                clear hf hd
                try simp only [List.setIfInBounds_toArray, List.set_cons_zero, List.set_cons_succ]
                intro K hK
                rw [if_pos (by rfl)]
                go_simp
                exact hK.out _ _ ⟨b0, b1, true, b3, b4, b5, b6, b7, b8, b9, b10, b11, b12, b13, b14, b15, b16, b17, b18, b19, b20, x87, x88, (.int .i64 (j : Nat)), x90, x91, x92, x93, x94, x95, x96, x97, x98, x99, x100, x101, x102, x103, x104, x105, x106, x107, (by simp only [Act.put, List.setIfInBounds_toArray, List.set_cons_zero, List.set_cons_succ]), (by simp only [Act.put, List.setIfInBounds_toArray, List.set_cons_zero, List.set_cons_succ]), hb, cd0, cd1, (fun _ => rfl), cd3, cd4, cd5, cd6, cd7, cd8, cd9, cd10, cd11, cd12, cd13, cd14, cd15, cd16, cd17, cd18, cd19, cd20⟩
              · rintro L a w ⟨b0, b1, b2, b3, b4, b5, b6, b7, b8, b9, b10, b11, b12, b13, b14, b15, b16, b17, b18, b19, b20, x87, x88, x89, x90, x91, x92, x93, x94, x95, x96, x97, x98, x99, x100, x101, x102, x103, x104, x105, x106, x107, rfl, rfl, hb, cd0, cd1, cd2, cd3, cd4, cd5, cd6, cd7, cd8, cd9, cd10, cd11, cd12, cd13, cd14, cd15, cd16, cd17, cd18, cd19, cd20⟩ hf hd
                have hf' : b3 = false := hf
                subst hf'
                have d2 : b2 = true := hd ⟨2, .data⟩ (by simp) rfl
                subst d2
                obtain rfl := cd2.out rfl
                clear hf hd
                try simp only [List.setIfInBounds_toArray, List.set_cons_zero, List.set_cons_succ]
                intro K hK
                rw [if_pos (by rfl)]
                go_simp
                rw [HJ.out]
                exact hK.out _ _ ⟨b0, b1, true, true, b4, b5, b6, b7, b8, b9, b10, b11, b12, b13, b14, b15, b16, b17, b18, b19, b20, x87, x88, .int .i64 (j : Nat), (.int .i64 (jm : Nat)), x91, x92, x93, x94, x95, x96, x97, x98, x99, x100, x101, x102, x103, x104, x105, x106, x107, (by simp only [Act.put, List.setIfInBounds_toArray, List.set_cons_zero, List.set_cons_succ]), (by simp only [Act.put, List.setIfInBounds_toArray, List.set_cons_zero, List.set_cons_succ]), hb, cd0, cd1, (fun _ => rfl), (fun _ => rfl), cd4, cd5, cd6, cd7, cd8, cd9, cd10, cd11, cd12, cd13, cd14, cd15, cd16, cd17, cd18, cd19, cd20⟩
              · rintro L a w ⟨b0, b1, b2, b3, b4, b5, b6, b7, b8, b9, b10, b11, b12, b13, b14, b15, b16, b17, b18, b19, b20, x87, x88, x89, x90, x91, x92, x93, x94, x95, x96, x97, x98, x99, x100, x101, x102, x103, x104, x105, x106, x107, rfl, rfl, hb, cd0, cd1, cd2, cd3, cd4, cd5, cd6, cd7, cd8, cd9, cd10, cd11, cd12, cd13, cd14, cd15, cd16, cd17, cd18, cd19, cd20⟩ hf hd
                have hf' : b4 = false := hf
                subst hf'
                have d1 : b1 = true := hd ⟨1, .data⟩ (by simp) rfl
                subst d1
                have d3 : b3 = true := hd ⟨3, .data⟩ (by simp) rfl
                subst d3
                obtain rfl := cd1.out rfl
                obtain rfl := cd3.out rfl
                clear hf hd
                try simp only [List.setIfInBounds_toArray, List.set_cons_zero, List.set_cons_succ]
                intro K hK
                rw [if_pos (by rfl)]
                go_simp
                exact hK.out _ _ ⟨b0, true, b2, true, true, b5, b6, b7, b8, b9, b10, b11, b12, b13, b14, b15, b16, b17, b18, b19, b20, x87, .slice (some ⟨rb, roff, none⟩) rn rc, x89, .int .i64 (jm : Nat), (.pointer (some ⟨rb, roff + jm, none⟩)), x92, x93, x94, x95, x96, x97, x98, x99, x100, x101, x102, x103, x104, x105, x106, x107, (by simp only [Act.put, List.setIfInBounds_toArray, List.set_cons_zero, List.set_cons_succ]), (by simp only [Act.put, List.setIfInBounds_toArray, List.set_cons_zero, List.set_cons_succ]), hb, cd0, (fun _ => rfl), cd2, (fun _ => rfl), (fun _ => rfl), cd5, cd6, cd7, cd8, cd9, cd10, cd11, cd12, cd13, cd14, cd15, cd16, cd17, cd18, cd19, cd20⟩
              · rintro L a w ⟨b0, b1, b2, b3, b4, b5, b6, b7, b8, b9, b10, b11, b12, b13, b14, b15, b16, b17, b18, b19, b20, x87, x88, x89, x90, x91, x92, x93, x94, x95, x96, x97, x98, x99, x100, x101, x102, x103, x104, x105, x106, x107, rfl, rfl, hb, cd0, cd1, cd2, cd3, cd4, cd5, cd6, cd7, cd8, cd9, cd10, cd11, cd12, cd13, cd14, cd15, cd16, cd17, cd18, cd19, cd20⟩ hf hd
                have hf' : b5 = false := hf
                subst hf'
                have d4 : b4 = true := hd ⟨4, .data⟩ (by simp) rfl
                subst d4
                obtain rfl := cd4.out rfl
                clear hf hd
                try simp only [List.setIfInBounds_toArray, List.set_cons_zero, List.set_cons_succ]
                have z0 := (hb.cell hrbB).trans dp
                intro K hK
                rw [if_pos (by rfl)]
                go_simp
                exact hK.out _ _ ⟨b0, b1, b2, b3, true, true, b6, b7, b8, b9, b10, b11, b12, b13, b14, b15, b16, b17, b18, b19, b20, x87, x88, x89, x90, .pointer (some ⟨rb, roff + jm, none⟩), (.slice (some ⟨a1, f1, none⟩) N c1), x93, x94, x95, x96, x97, x98, x99, x100, x101, x102, x103, x104, x105, x106, x107, (by simp only [Act.put, List.setIfInBounds_toArray, List.set_cons_zero, List.set_cons_succ]), (by simp only [Act.put, List.setIfInBounds_toArray, List.set_cons_zero, List.set_cons_succ]), hb, cd0, cd1, cd2, cd3, (fun _ => rfl), (fun _ => rfl), cd6, cd7, cd8, cd9, cd10, cd11, cd12, cd13, cd14, cd15, cd16, cd17, cd18, cd19, cd20⟩
              · rintro L a w ⟨b0, b1, b2, b3, b4, b5, b6, b7, b8, b9, b10, b11, b12, b13, b14, b15, b16, b17, b18, b19, b20, x87, x88, x89, x90, x91, x92, x93, x94, x95, x96, x97, x98, x99, x100, x101, x102, x103, x104, x105, x106, x107, rfl, rfl, hb, cd0, cd1, cd2, cd3, cd4, cd5, cd6, cd7, cd8, cd9, cd10, cd11, cd12, cd13, cd14, cd15, cd16, cd17, cd18, cd19, cd20⟩ hf hd
                have hf' : b6 = false := hf
                subst hf'
                clear hf hd
                try simp only [List.setIfInBounds_toArray, List.set_cons_zero, List.set_cons_succ]
                intro K hK
                rw [if_pos (by rfl)]
                go_simp
                exact hK.out _ _ ⟨b0, b1, b2, b3, b4, b5, true, b7, b8, b9, b10, b11, b12, b13, b14, b15, b16, b17, b18, b19, b20, x87, x88, x89, x90, x91, x92, (.pointer (some ⟨gs, 2, none⟩)), x94, x95, x96, x97, x98, x99, x100, x101, x102, x103, x104, x105, x106, x107, (by simp only [Act.put, List.setIfInBounds_toArray, List.set_cons_zero, List.set_cons_succ]), (by simp only [Act.put, List.setIfInBounds_toArray, List.set_cons_zero, List.set_cons_succ]), hb, cd0, cd1, cd2, cd3, cd4, cd5, (fun _ => rfl), cd7, cd8, cd9, cd10, cd11, cd12, cd13, cd14, cd15, cd16, cd17, cd18, cd19, cd20⟩
              · rintro L a w ⟨b0, b1, b2, b3, b4, b5, b6, b7, b8, b9, b10, b11, b12, b13, b14, b15, b16, b17, b18, b19, b20, x87, x88, x89, x90, x91, x92, x93, x94, x95, x96, x97, x98, x99, x100, x101, x102, x103, x104, x105, x106, x107, rfl, rfl, hb, cd0, cd1, cd2, cd3, cd4, cd5, cd6, cd7, cd8, cd9, cd10, cd11, cd12, cd13, cd14, cd15, cd16, cd17, cd18, cd19, cd20⟩ hf hd
                have hf' : b7 = false := hf
                subst hf'
                have d6 : b6 = true := hd ⟨6, .data⟩ (by simp) rfl
                subst d6
                obtain rfl := cd6.out rfl
                clear hf hd
                try simp only [List.setIfInBounds_toArray, List.set_cons_zero, List.set_cons_succ]
                have z0 := (hb.cell hgsB5).trans z2
                intro K hK
                rw [if_pos (by rfl)]
                go_simp
                exact hK.out _ _ ⟨b0, b1, b2, b3, b4, b5, true, true, b8, b9, b10, b11, b12, b13, b14, b15, b16, b17, b18, b19, b20, x87, x88, x89, x90, x91, x92, .pointer (some ⟨gs, 2, none⟩), (.int .i64 (KI : Nat)), x95, x96, x97, x98, x99, x100, x101, x102, x103, x104, x105, x106, x107, (by simp only [Act.put, List.setIfInBounds_toArray, List.set_cons_zero, List.set_cons_succ]), (by simp only [Act.put, List.setIfInBounds_toArray, List.set_cons_zero, List.set_cons_succ]), hb, cd0, cd1, cd2, cd3, cd4, cd5, (fun _ => rfl), (fun _ => rfl), cd8, cd9, cd10, cd11, cd12, cd13, cd14, cd15, cd16, cd17, cd18, cd19, cd20⟩
              · rintro L a w ⟨b0, b1, b2, b3, b4, b5, b6, b7, b8, b9, b10, b11, b12, b13, b14, b15, b16, b17, b18, b19, b20, x87, x88, x89, x90, x91, x92, x93, x94, x95, x96, x97, x98, x99, x100, x101, x102, x103, x104, x105, x106, x107, rfl, rfl, hb, cd0, cd1, cd2, cd3, cd4, cd5, cd6, cd7, cd8, cd9, cd10, cd11, cd12, cd13, cd14, cd15, cd16, cd17, cd18, cd19, cd20⟩ hf hd
                have hf' : b8 = false := hf
                subst hf'
                have d5 : b5 = true := hd ⟨5, .data⟩ (by simp) rfl
                subst d5
                have d7 : b7 = true := hd ⟨7, .data⟩ (by simp) rfl
                subst d7
                obtain rfl := cd5.out rfl
                obtain rfl := cd7.out rfl
                clear hf hd
                try simp only [List.setIfInBounds_toArray, List.set_cons_zero, List.set_cons_succ]
                intro K hK
                rw [if_pos (by rfl)]
                go_simp
                exact hK.out _ _ ⟨b0, b1, b2, b3, b4, true, b6, true, true, b9, b10, b11, b12, b13, b14, b15, b16, b17, b18, b19, b20, x87, x88, x89, x90, x91, .slice (some ⟨a1, f1, none⟩) N c1, x93, .int .i64 (KI : Nat), (.pointer (some ⟨a1, f1 + KI * 3, none⟩)), x96, x97, x98, x99, x100, x101, x102, x103, x104, x105, x106, x107, (by simp only [Act.put, List.setIfInBounds_toArray, List.set_cons_zero, List.set_cons_succ]), (by simp only [Act.put, List.setIfInBounds_toArray, List.set_cons_zero, List.set_cons_succ]), hb, cd0, cd1, cd2, cd3, cd4, (fun _ => rfl), cd6, (fun _ => rfl), (fun _ => rfl), cd9, cd10, cd11, cd12, cd13, cd14, cd15, cd16, cd17, cd18, cd19, cd20⟩
              · rintro L a w ⟨b0, b1, b2, b3, b4, b5, b6, b7, b8, b9, b10, b11, b12, b13, b14, b15, b16, b17, b18, b19, b20, x87, x88, x89, x90, x91, x92, x93, x94, x95, x96, x97, x98, x99, x100, x101, x102, x103, x104, x105, x106, x107, rfl, rfl, hb, cd0, cd1, cd2, cd3, cd4, cd5, cd6, cd7, cd8, cd9, cd10, cd11, cd12, cd13, cd14, cd15, cd16, cd17, cd18, cd19, cd20⟩ hf hd
                have hf' : b9 = false := hf
                subst hf'
                have d8 : b8 = true := hd ⟨8, .data⟩ (by simp) rfl
                subst d8
                obtain rfl := cd8.out rfl
                clear hf hd
                try simp only [List.setIfInBounds_toArray, List.set_cons_zero, List.set_cons_succ]
                have z0 := (hb.cell hepB).trans ep0
                have z1 := (hb.cell hepB).trans ep1
                have z2 := (hb.cell hepB).trans ep2
                intro K hK
                rw [if_pos (by rfl)]
                go_simp
                exact hK.out _ _ ⟨b0, b1, b2, b3, b4, b5, b6, b7, true, true, b10, b11, b12, b13, b14, b15, b16, b17, b18, b19, b20, x87, x88, x89, x90, x91, x92, x93, x94, .pointer (some ⟨a1, f1 + KI * 3, none⟩), (.agg #[.int .i64 k1, .int .i64 m1, .string s1]), x97, x98, x99, x100, x101, x102, x103, x104, x105, x106, x107, (by simp only [Act.put, List.setIfInBounds_toArray, List.set_cons_zero, List.set_cons_succ]), (by simp only [Act.put, List.setIfInBounds_toArray, List.set_cons_zero, List.set_cons_succ]), hb, cd0, cd1, cd2, cd3, cd4, cd5, cd6, cd7, (fun _ => rfl), (fun _ => rfl), cd10, cd11, cd12, cd13, cd14, cd15, cd16, cd17, cd18, cd19, cd20⟩
              · rintro L a w ⟨b0, b1, b2, b3, b4, b5, b6, b7, b8, b9, b10, b11, b12, b13, b14, b15, b16, b17, b18, b19, b20, x87, x88, x89, x90, x91, x92, x93, x94, x95, x96, x97, x98, x99, x100, x101, x102, x103, x104, x105, x106, x107, rfl, rfl, hb, cd0, cd1, cd2, cd3, cd4, cd5, cd6, cd7, cd8, cd9, cd10, cd11, cd12, cd13, cd14, cd15, cd16, cd17, cd18, cd19, cd20⟩ hf hd
                have hf' : b10 = false := hf
                subst hf'
                clear hf hd
                try simp only [List.setIfInBounds_toArray, List.set_cons_zero, List.set_cons_succ]
                intro K hK
                rw [if_pos (by rfl)]
                go_simp
                exact hK.out _ _ ⟨b0, b1, b2, b3, b4, b5, b6, b7, b8, b9, true, b11, b12, b13, b14, b15, b16, b17, b18, b19, b20, x87, x88, x89, x90, x91, x92, x93, x94, x95, x96, (.pointer (some ⟨gt, 4, none⟩)), x98, x99, x100, x101, x102, x103, x104, x105, x106, x107, (by simp only [Act.put, List.setIfInBounds_toArray, List.set_cons_zero, List.set_cons_succ]), (by simp only [Act.put, List.setIfInBounds_toArray, List.set_cons_zero, List.set_cons_succ]), hb, cd0, cd1, cd2, cd3, cd4, cd5, cd6, cd7, cd8, cd9, (fun _ => rfl), cd11, cd12, cd13, cd14, cd15, cd16, cd17, cd18, cd19, cd20⟩
              · rintro L a w ⟨b0, b1, b2, b3, b4, b5, b6, b7, b8, b9, b10, b11, b12, b13, b14, b15, b16, b17, b18, b19, b20, x87, x88, x89, x90, x91, x92, x93, x94, x95, x96, x97, x98, x99, x100, x101, x102, x103, x104, x105, x106, x107, rfl, rfl, hb, cd0, cd1, cd2, cd3, cd4, cd5, cd6, cd7, cd8, cd9, cd10, cd11, cd12, cd13, cd14, cd15, cd16, cd17, cd18, cd19, cd20⟩ hf hd
                have hf' : b11 = false := hf
                subst hf'
                have d10 : b10 = true := hd ⟨10, .data⟩ (by simp) rfl
                subst d10
                obtain rfl := cd10.out rfl
                clear hf hd
                try simp only [List.setIfInBounds_toArray, List.set_cons_zero, List.set_cons_succ]
                have z0 := (hb.cell hgtB5).trans t4
                intro K hK
                rw [if_pos (by rfl)]
                go_simp
                exact hK.out _ _ ⟨b0, b1, b2, b3, b4, b5, b6, b7, b8, b9, true, true, b12, b13, b14, b15, b16, b17, b18, b19, b20, x87, x88, x89, x90, x91, x92, x93, x94, x95, x96, .pointer (some ⟨gt, 4, none⟩), (.slice (some ⟨rb, roff, none⟩) rn rc), x99, x100, x101, x102, x103, x104, x105, x106, x107, (by simp only [Act.put, List.setIfInBounds_toArray, List.set_cons_zero, List.set_cons_succ]), (by simp only [Act.put, List.setIfInBounds_toArray, List.set_cons_zero, List.set_cons_succ]), hb, cd0, cd1, cd2, cd3, cd4, cd5, cd6, cd7, cd8, cd9, (fun _ => rfl), (fun _ => rfl), cd12, cd13, cd14, cd15, cd16, cd17, cd18, cd19, cd20⟩
              · rintro L a w ⟨b0, b1, b2, b3, b4, b5, b6, b7, b8, b9, b10, b11, b12, b13, b14, b15, b16, b17, b18, b19, b20, x87, x88, x89, x90, x91, x92, x93, x94, x95, x96, x97, x98, x99, x100, x101, x102, x103, x104, x105, x106, x107, rfl, rfl, hb, cd0, cd1, cd2, cd3, cd4, cd5, cd6, cd7, cd8, cd9, cd10, cd11, cd12, cd13, cd14, cd15, cd16, cd17, cd18, cd19, cd20⟩ hf hd
                have hf' : b12 = false := hf
                subst hf'
                clear hf hd
                try simp only [List.setIfInBounds_toArray, List.set_cons_zero, List.set_cons_succ]
                intro K hK
                rw [if_pos (by rfl)]
                go_simp
                exact hK.out _ _ ⟨b0, b1, b2, b3, b4, b5, b6, b7, b8, b9, b10, b11, true, b13, b14, b15, b16, b17, b18, b19, b20, x87, x88, x89, x90, x91, x92, x93, x94, x95, x96, x97, x98, (.int .i64 (j : Nat)), x100, x101, x102, x103, x104, x105, x106, x107, (by simp only [Act.put, List.setIfInBounds_toArray, List.set_cons_zero, List.set_cons_succ]), (by simp only [Act.put, List.setIfInBounds_toArray, List.set_cons_zero, List.set_cons_succ]), hb, cd0, cd1, cd2, cd3, cd4, cd5, cd6, cd7, cd8, cd9, cd10, cd11, (fun _ => rfl), cd13, cd14, cd15, cd16, cd17, cd18, cd19, cd20⟩
              · rintro L a w ⟨b0, b1, b2, b3, b4, b5, b6, b7, b8, b9, b10, b11, b12, b13, b14, b15, b16, b17, b18, b19, b20, x87, x88, x89, x90, x91, x92, x93, x94, x95, x96, x97, x98, x99, x100, x101, x102, x103, x104, x105, x106, x107, rfl, rfl, hb, cd0, cd1, cd2, cd3, cd4, cd5, cd6, cd7, cd8, cd9, cd10, cd11, cd12, cd13, cd14, cd15, cd16, cd17, cd18, cd19, cd20⟩ hf hd
                have hf' : b13 = false := hf
                subst hf'
                have d11 : b11 = true := hd ⟨11, .data⟩ (by simp) rfl
                subst d11
                have d12 : b12 = true := hd ⟨12, .data⟩ (by simp) rfl
                subst d12
                obtain rfl := cd11.out rfl
                obtain rfl := cd12.out rfl
                clear hf hd
                try simp only [List.setIfInBounds_toArray, List.set_cons_zero, List.set_cons_succ]
                intro K hK
                rw [if_pos (by rfl)]
                go_simp
                exact hK.out _ _ ⟨b0, b1, b2, b3, b4, b5, b6, b7, b8, b9, b10, true, true, true, b14, b15, b16, b17, b18, b19, b20, x87, x88, x89, x90, x91, x92, x93, x94, x95, x96, x97, .slice (some ⟨rb, roff, none⟩) rn rc, .int .i64 (j : Nat), (.pointer (some ⟨rb, roff + j, none⟩)), x101, x102, x103, x104, x105, x106, x107, (by simp only [Act.put, List.setIfInBounds_toArray, List.set_cons_zero, List.set_cons_succ]), (by simp only [Act.put, List.setIfInBounds_toArray, List.set_cons_zero, List.set_cons_succ]), hb, cd0, cd1, cd2, cd3, cd4, cd5, cd6, cd7, cd8, cd9, cd10, (fun _ => rfl), (fun _ => rfl), (fun _ => rfl), cd14, cd15, cd16, cd17, cd18, cd19, cd20⟩
              · rintro L a w ⟨b0, b1, b2, b3, b4, b5, b6, b7, b8, b9, b10, b11, b12, b13, b14, b15, b16, b17, b18, b19, b20, x87, x88, x89, x90, x91, x92, x93, x94, x95, x96, x97, x98, x99, x100, x101, x102, x103, x104, x105, x106, x107, rfl, rfl, hb, cd0, cd1, cd2, cd3, cd4, cd5, cd6, cd7, cd8, cd9, cd10, cd11, cd12, cd13, cd14, cd15, cd16, cd17, cd18, cd19, cd20⟩ hf hd
                have hf' : b14 = false := hf
                subst hf'
                have d13 : b13 = true := hd ⟨13, .data⟩ (by simp) rfl
                subst d13
                obtain rfl := cd13.out rfl
                clear hf hd
                try simp only [List.setIfInBounds_toArray, List.set_cons_zero, List.set_cons_succ]
                have z0 := (hb.cell hrbB).trans dq
                intro K hK
                rw [if_pos (by rfl)]
                go_simp
                exact hK.out _ _ ⟨b0, b1, b2, b3, b4, b5, b6, b7, b8, b9, b10, b11, b12, true, true, b15, b16, b17, b18, b19, b20, x87, x88, x89, x90, x91, x92, x93, x94, x95, x96, x97, x98, x99, .pointer (some ⟨rb, roff + j, none⟩), (.slice (some ⟨a2, f2, none⟩) N c2), x102, x103, x104, x105, x106, x107, (by simp only [Act.put, List.setIfInBounds_toArray, List.set_cons_zero, List.set_cons_succ]), (by simp only [Act.put, List.setIfInBounds_toArray, List.set_cons_zero, List.set_cons_succ]), hb, cd0, cd1, cd2, cd3, cd4, cd5, cd6, cd7, cd8, cd9, cd10, cd11, cd12, (fun _ => rfl), (fun _ => rfl), cd15, cd16, cd17, cd18, cd19, cd20⟩
              · rintro L a w ⟨b0, b1, b2, b3, b4, b5, b6, b7, b8, b9, b10, b11, b12, b13, b14, b15, b16, b17, b18, b19, b20, x87, x88, x89, x90, x91, x92, x93, x94, x95, x96, x97, x98, x99, x100, x101, x102, x103, x104, x105, x106, x107, rfl, rfl, hb, cd0, cd1, cd2, cd3, cd4, cd5, cd6, cd7, cd8, cd9, cd10, cd11, cd12, cd13, cd14, cd15, cd16, cd17, cd18, cd19, cd20⟩ hf hd
                have hf' : b15 = false := hf
                subst hf'
                clear hf hd
                try simp only [List.setIfInBounds_toArray, List.set_cons_zero, List.set_cons_succ]
                intro K hK
                rw [if_pos (by rfl)]
                go_simp
                exact hK.out _ _ ⟨b0, b1, b2, b3, b4, b5, b6, b7, b8, b9, b10, b11, b12, b13, b14, true, b16, b17, b18, b19, b20, x87, x88, x89, x90, x91, x92, x93, x94, x95, x96, x97, x98, x99, x100, x101, (.pointer (some ⟨gs, 2, none⟩)), x103, x104, x105, x106, x107, (by simp only [Act.put, List.setIfInBounds_toArray, List.set_cons_zero, List.set_cons_succ]), (by simp only [Act.put, List.setIfInBounds_toArray, List.set_cons_zero, List.set_cons_succ]), hb, cd0, cd1, cd2, cd3, cd4, cd5, cd6, cd7, cd8, cd9, cd10, cd11, cd12, cd13, cd14, (fun _ => rfl), cd16, cd17, cd18, cd19, cd20⟩
              · rintro L a w ⟨b0, b1, b2, b3, b4, b5, b6, b7, b8, b9, b10, b11, b12, b13, b14, b15, b16, b17, b18, b19, b20, x87, x88, x89, x90, x91, x92, x93, x94, x95, x96, x97, x98, x99, x100, x101, x102, x103, x104, x105, x106, x107, rfl, rfl, hb, cd0, cd1, cd2, cd3, cd4, cd5, cd6, cd7, cd8, cd9, cd10, cd11, cd12, cd13, cd14, cd15, cd16, cd17, cd18, cd19, cd20⟩ hf hd
                have hf' : b16 = false := hf
                subst hf'
                have d15 : b15 = true := hd ⟨15, .data⟩ (by simp) rfl
                subst d15
                obtain rfl := cd15.out rfl
                clear hf hd
                try simp only [List.setIfInBounds_toArray, List.set_cons_zero, List.set_cons_succ]
                have z0 := (hb.cell hgsB5).trans z2
                intro K hK
                rw [if_pos (by rfl)]
                go_simp
                exact hK.out _ _ ⟨b0, b1, b2, b3, b4, b5, b6, b7, b8, b9, b10, b11, b12, b13, b14, true, true, b17, b18, b19, b20, x87, x88, x89, x90, x91, x92, x93, x94, x95, x96, x97, x98, x99, x100, x101, .pointer (some ⟨gs, 2, none⟩), (.int .i64 (KI : Nat)), x104, x105, x106, x107, (by simp only [Act.put, List.setIfInBounds_toArray, List.set_cons_zero, List.set_cons_succ]), (by simp only [Act.put, List.setIfInBounds_toArray, List.set_cons_zero, List.set_cons_succ]), hb, cd0, cd1, cd2, cd3, cd4, cd5, cd6, cd7, cd8, cd9, cd10, cd11, cd12, cd13, cd14, (fun _ => rfl), (fun _ => rfl), cd17, cd18, cd19, cd20⟩
              · rintro L a w ⟨b0, b1, b2, b3, b4, b5, b6, b7, b8, b9, b10, b11, b12, b13, b14, b15, b16, b17, b18, b19, b20, x87, x88, x89, x90, x91, x92, x93, x94, x95, x96, x97, x98, x99, x100, x101, x102, x103, x104, x105, x106, x107, rfl, rfl, hb, cd0, cd1, cd2, cd3, cd4, cd5, cd6, cd7, cd8, cd9, cd10, cd11, cd12, cd13, cd14, cd15, cd16, cd17, cd18, cd19, cd20⟩ hf hd
                have hf' : b17 = false := hf
                subst hf'
                have d14 : b14 = true := hd ⟨14, .data⟩ (by simp) rfl
                subst d14
                have d16 : b16 = true := hd ⟨16, .data⟩ (by simp) rfl
                subst d16
                obtain rfl := cd14.out rfl
                obtain rfl := cd16.out rfl
                clear hf hd
                try simp only [List.setIfInBounds_toArray, List.set_cons_zero, List.set_cons_succ]
                intro K hK
                rw [if_pos (by rfl)]
                go_simp
                exact hK.out _ _ ⟨b0, b1, b2, b3, b4, b5, b6, b7, b8, b9, b10, b11, b12, b13, true, b15, true, true, b18, b19, b20, x87, x88, x89, x90, x91, x92, x93, x94, x95, x96, x97, x98, x99, x100, .slice (some ⟨a2, f2, none⟩) N c2, x102, .int .i64 (KI : Nat), (.pointer (some ⟨a2, f2 + KI * 3, none⟩)), x105, x106, x107, (by simp only [Act.put, List.setIfInBounds_toArray, List.set_cons_zero, List.set_cons_succ]), (by simp only [Act.put, List.setIfInBounds_toArray, List.set_cons_zero, List.set_cons_succ]), hb, cd0, cd1, cd2, cd3, cd4, cd5, cd6, cd7, cd8, cd9, cd10, cd11, cd12, cd13, (fun _ => rfl), cd15, (fun _ => rfl), (fun _ => rfl), cd18, cd19, cd20⟩
              · rintro L a w ⟨b0, b1, b2, b3, b4, b5, b6, b7, b8, b9, b10, b11, b12, b13, b14, b15, b16, b17, b18, b19, b20, x87, x88, x89, x90, x91, x92, x93, x94, x95, x96, x97, x98, x99, x100, x101, x102, x103, x104, x105, x106, x107, rfl, rfl, hb, cd0, cd1, cd2, cd3, cd4, cd5, cd6, cd7, cd8, cd9, cd10, cd11, cd12, cd13, cd14, cd15, cd16, cd17, cd18, cd19, cd20⟩ hf hd
                have hf' : b18 = false := hf
                subst hf'
                have d17 : b17 = true := hd ⟨17, .data⟩ (by simp) rfl
                subst d17
                obtain rfl := cd17.out rfl
                clear hf hd
                try simp only [List.setIfInBounds_toArray, List.set_cons_zero, List.set_cons_succ]
                have z0 := (hb.cell heqB).trans eq0
                have z1 := (hb.cell heqB).trans eq1
                have z2 := (hb.cell heqB).trans eq2
                intro K hK
                rw [if_pos (by rfl)]
                go_simp
                exact hK.out _ _ ⟨b0, b1, b2, b3, b4, b5, b6, b7, b8, b9, b10, b11, b12, b13, b14, b15, b16, true, true, b19, b20, x87, x88, x89, x90, x91, x92, x93, x94, x95, x96, x97, x98, x99, x100, x101, x102, x103, .pointer (some ⟨a2, f2 + KI * 3, none⟩), (.agg #[.int .i64 k2, .int .i64 m2, .string s2]), x106, x107, (by simp only [Act.put, List.setIfInBounds_toArray, List.set_cons_zero, List.set_cons_succ]), (by simp only [Act.put, List.setIfInBounds_toArray, List.set_cons_zero, List.set_cons_succ]), hb, cd0, cd1, cd2, cd3, cd4, cd5, cd6, cd7, cd8, cd9, cd10, cd11, cd12, cd13, cd14, cd15, cd16, (fun _ => rfl), (fun _ => rfl), cd19, cd20⟩
              · rintro L a w ⟨b0, b1, b2, b3, b4, b5, b6, b7, b8, b9, b10, b11, b12, b13, b14, b15, b16, b17, b18, b19, b20, x87, x88, x89, x90, x91, x92, x93, x94, x95, x96, x97, x98, x99, x100, x101, x102, x103, x104, x105, x106, x107, rfl, rfl, hb, cd0, cd1, cd2, cd3, cd4, cd5, cd6, cd7, cd8, cd9, cd10, cd11, cd12, cd13, cd14, cd15, cd16, cd17, cd18, cd19, cd20⟩ hf hd
                have hf' : b19 = false := hf
                subst hf'
                have d9 : b9 = true := hd ⟨9, .data⟩ (by simp) rfl
                subst d9
                have d18 : b18 = true := hd ⟨18, .data⟩ (by simp) rfl
                subst d18
                obtain rfl := cd9.out rfl
                obtain rfl := cd18.out rfl
                clear hf hd
                try simp only [List.setIfInBounds_toArray, List.set_cons_zero, List.set_cons_succ]
                intro K hK
                rw [if_pos (by rfl)]
                go_simp
                go_at_call 35
                refine (HCm _).mono ?_
                rintro e w' ⟨rfl, bx⟩
                exact hK.out _ _ ⟨b0, b1, b2, b3, b4, b5, b6, b7, b8, true, b10, b11, b12, b13, b14, b15, b16, b17, true, true, b20, x87, x88, x89, x90, x91, x92, x93, x94, x95, .agg #[.int .i64 k1, .int .i64 m1, .string s1], x97, x98, x99, x100, x101, x102, x103, x104, .agg #[.int .i64 k2, .int .i64 m2, .string s2], (.int .i64 C), x107, (by simp only [Act.put, List.setIfInBounds_toArray, List.set_cons_zero, List.set_cons_succ]), (by simp only [Act.put, List.setIfInBounds_toArray, List.set_cons_zero, List.set_cons_succ]), hb.trans (bx.mono (Nat.le_trans hB0 hb.size)), cd0, cd1, cd2, cd3, cd4, cd5, cd6, cd7, cd8, (fun _ => rfl), cd10, cd11, cd12, cd13, cd14, cd15, cd16, cd17, (fun _ => rfl), (fun _ => rfl), cd20⟩
              · rintro L a w ⟨b0, b1, b2, b3, b4, b5, b6, b7, b8, b9, b10, b11, b12, b13, b14, b15, b16, b17, b18, b19, b20, x87, x88, x89, x90, x91, x92, x93, x94, x95, x96, x97, x98, x99, x100, x101, x102, x103, x104, x105, x106, x107, rfl, rfl, hb, cd0, cd1, cd2, cd3, cd4, cd5, cd6, cd7, cd8, cd9, cd10, cd11, cd12, cd13, cd14, cd15, cd16, cd17, cd18, cd19, cd20⟩ hf hd
                have hf' : b20 = false := hf
                subst hf'
                have d19 : b19 = true := hd ⟨19, .data⟩ (by simp) rfl
                subst d19
                obtain rfl := cd19.out rfl
                clear hf hd
                try simp only [List.setIfInBounds_toArray, List.set_cons_zero, List.set_cons_succ]
                intro K hK
                rw [if_pos (by rfl)]
                go_simp
                exact hK.out _ _ ⟨b0, b1, b2, b3, b4, b5, b6, b7, b8, b9, b10, b11, b12, b13, b14, b15, b16, b17, b18, true, true, x87, x88, x89, x90, x91, x92, x93, x94, x95, x96, x97, x98, x99, x100, x101, x102, x103, x104, x105, .int .i64 C, (.bool (decide (0 ≤ C))), (by simp only [Act.put, List.setIfInBounds_toArray, List.set_cons_zero, List.set_cons_succ]), (by simp only [Act.put, List.setIfInBounds_toArray, List.set_cons_zero, List.set_cons_succ]), hb, cd0, cd1, cd2, cd3, cd4, cd5, cd6, cd7, cd8, cd9, cd10, cd11, cd12, cd13, cd14, cd15, cd16, cd17, cd18, (fun _ => rfl), (fun _ => rfl)⟩
            · rintro act V ⟨b0, b1, b2, b3, b4, b5, b6, b7, b8, b9, b10, b11, b12, b13, b14, b15, b16, b17, b18, b19, b20, x87, x88, x89, x90, x91, x92, x93, x94, x95, x96, x97, x98, x99, x100, x101, x102, x103, x104, x105, x106, x107, hL, rfl, hb, cd0, cd1, cd2, cd3, cd4, cd5, cd6, cd7, cd8, cd9, cd10, cd11, cd12, cd13, cd14, cd15, cd16, cd17, cd18, cd19, cd20⟩
              have hL' : [true, true, true, true, true, true, true, true, true, true, true, true, true, true, true, true, true, true, true, true, true] = [b0, b1, b2, b3, b4, b5, b6, b7, b8, b9, b10, b11, b12, b13, b14, b15, b16, b17, b18, b19, b20] := congrArg Array.toList hL
              simp only [List.cons.injEq, and_true] at hL'
              obtain ⟨rfl, rfl, rfl, rfl, rfl, rfl, rfl, rfl, rfl, rfl, rfl, rfl, rfl, rfl, rfl, rfl, rfl, rfl, rfl, rfl, rfl⟩ := hL'
              obtain rfl := cd0.out rfl
              obtain rfl := cd1.out rfl
              obtain rfl := cd2.out rfl
              obtain rfl := cd3.out rfl
              obtain rfl := cd4.out rfl
              obtain rfl := cd5.out rfl
              obtain rfl := cd6.out rfl
              obtain rfl := cd7.out rfl
              obtain rfl := cd8.out rfl
              obtain rfl := cd9.out rfl
              obtain rfl := cd10.out rfl
              obtain rfl := cd11.out rfl
              obtain rfl := cd12.out rfl
              obtain rfl := cd13.out rfl
              obtain rfl := cd14.out rfl
              obtain rfl := cd15.out rfl
              obtain rfl := cd16.out rfl
              obtain rfl := cd17.out rfl
              obtain rfl := cd18.out rfl
              obtain rfl := cd19.out rfl
              obtain rfl := cd20.out rfl
              clear hL cd0 cd1 cd2 cd3 cd4 cd5 cd6 cd7 cd8 cd9 cd10 cd11 cd12 cd13 cd14 cd15 cd16 cd17 cd18 cd19 cd20
              simp only [List.setIfInBounds_toArray, List.set_cons_zero, List.set_cons_succ]
              have BV2 : Below wo.heap.size wo V := B5.trans (((Below.refl _ _).drew.trans hb).mono B5.size)
              clear hb
              have hC2 : ¬ (0 ≤ C) := by omega
              go_wp2_with fail
              go_roundw
              case rel => exact ⟨j + 1, by omega, by go_num, BV2⟩
              case measure => simp [intOf]; omega
          · have hj2i : ¬ ((j : Int) < (rn : Int)) := by omega
            go_wp2_with fail
            go_ret
            exact ⟨by simp, by rw [HP.out]; exact BB5⟩
end Go.Proofs.Ytppgafnepnkabaa
