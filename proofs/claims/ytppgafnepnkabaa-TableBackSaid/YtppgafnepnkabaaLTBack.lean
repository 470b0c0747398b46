/-
  TableBack, walked (by gen_tback.py).
-/
import Derived.Test.YtppgafnepnkabaaTakeU
import Derived.Test.YtppgafnepnkabaaTabE
import Derived.Test.YtppgafnepnkabaaRSame5
import Derived.Test.YtppgafnepnkabaaBackP
import Derived.Test.YtppgafnepnkabaaEI
namespace Go.Proofs.Ytppgafnepnkabaa
open Go.RowKit
set_option linter.unusedSimpArgs false
theorem IsT.drew {w : World} {B : Nat} {co : Option Addr} {cn cc : Nat} {cs : List Co} {ro : Option Addr} {rn rc : Nat} {rs : List (List V)} (h : IsT w B co cn cc cs ro rn rc rs) : IsT w.drew B co cn cc cs ro rn rc rs := h.past (Below.refl _ _).drew
/-- A table and a row that was in it. -/
structure TkY (w : World) (B : Nat) (co : Option Addr) (cn cc : Nat) (cs : List Co) (ro : Option Addr) (rn rc : Nat) (rs : List (List V)) (gy cy : Nat) (r : List V) : Prop where
  t : IsT w B co cn cc cs ro rn rc rs
  y : OwnR EV w 55 gy cn cy r
theorem TkY.past {w w' : World} {B : Nat} {co : Option Addr} {cn cc : Nat} {cs : List Co} {ro : Option Addr} {rn rc : Nat} {rs : List (List V)} {gy cy : Nat} {r : List V} (h : TkY w B co cn cc cs ro rn rc rs gy cy r) (b : Below w.heap.size w w') : TkY w' B co cn cc cs ro rn rc rs gy cy r := ⟨h.t.past b, h.y.past b⟩
theorem kOf_own {K : Nat} {r : List V} (h : K < r.length) : r[K]? = some (kOf K r) := by
  unfold kOf
  rw [List.getD_eq_getElem?_getD, List.getElem?_eq_getElem h]
  rfl
/-- What stands while the region's operations come up. -/
inductive TBack10 (B : Nat) (gs : Nat) (NM : List UInt8) (g : Nat) (N : Nat) (cg : Nat) (KI : Nat) (only : Bool) (co : Option Addr) (cc : Nat) (ro : Option Addr) (rn : Nat) (rc : Nat) (nb : Nat) (noff : Nat) (nl : Nat) (nc : Nat) (j : Nat) (x : Int) (F : List Co) (E : Int) (rs : List (List V)) (rs2 : List (List V)) (a0 : Act) (w0 : World) (L : Array Bool) (a : Act) (w : World) : Prop
  | mk (b0 b1 b2 b3 b4 b5 b6 b7 b8 b9 b10 b11 : Bool) (x40 x41 x42 x43 x44 x45 x46 x47 x39 x48 x49 : Value) (ra : Option Addr) (rca : Nat) (co2 : Option Addr) (cc2 : Nat) (ro2 : Option Addr) (rn2 : Nat) (rc2 : Nat) (hL : L = #[b0, b1, b2, b3, b4, b5, b6, b7, b8, b9, b10, b11]) (ha : a = ⟨(((((((((((a0.tmps.setIfInBounds 40 x40).setIfInBounds 41 x41).setIfInBounds 42 x42).setIfInBounds 43 x43).setIfInBounds 44 x44).setIfInBounds 45 x45).setIfInBounds 46 x46).setIfInBounds 47 x47).setIfInBounds 39 x39).setIfInBounds 48 x48).setIfInBounds 49 x49), a0.defers⟩) (hb : Below B w0 w) (cd0 : Hid (b0 = true → x40 = .agg #[.string (bsOf NM), .slice co N cc, .int .i64 (KI : Nat), .bool only, .slice ro rn rc])) (cd1 : Hid (b1 = true → x41 = .agg #[.string (bsOf NM), .slice (some ⟨g, 0, none⟩) N cg, .int .i64 (KI : Nat), .bool only])) (cd2 : Hid (b2 = true → x42 = .slice (some ⟨nb, noff, none⟩) nl nc)) (cd3 : Hid (b3 = true → x43 = .int .i64 (j : Nat))) (cd4 : Hid (b4 = true → x44 = .pointer (some ⟨nb, noff + j, none⟩))) (cd5 : Hid (b5 = true → x45 = .int .i64 x)) (cd6 : Hid (b6 = true → x46 = .slice ra N rca)) (cd7 : Hid (b7 = true → x47 = .tuple #[.agg #[.string (bsOf NM), .slice co2 N cc2, .int .i64 (KI : Nat), .bool only, .slice ro2 rn2 rc2], .int .i64 E])) (cd8 : Hid (b8 = true → x39 = .tuple #[.agg #[.string (bsOf NM), .slice co2 N cc2, .int .i64 (KI : Nat), .bool only, .slice ro2 rn2 rc2], .int .i64 E])) (cd9 : Hid (b9 = true → x48 = .agg #[.string (bsOf NM), .slice co2 N cc2, .int .i64 (KI : Nat), .bool only, .slice ro2 rn2 rc2])) (cd10 : Hid (b10 = true → x49 = .int .i64 E)) (f_it : Hid (b7 = false → IsT w 0 co N cc F ro rn rc rs)) (f_t : Hid (b11 = false → Bk w B (tbC NM co N cc (KI : Nat) only ro rn rc) 47)) (f_o11 : Hid (b11 = true → b0 = true)) (f_o11b : Hid (b11 = true → b7 = true)) (f_r : Hid (b6 = true → b7 = false → TxtR EV w 55 w0.heap.size ra N rca (fitRow F x))) (f_tt : Hid (b7 = true → IsT w w0.heap.size co2 N cc2 F ro2 rn2 rc2 rs2)) (f_ts : Hid (b11 = true → Bk w B (tbC NM co2 N cc2 (KI : Nat) only ro2 rn2 rc2) 47)) (w_8_7 : Hid (b8 = true → b7 = true)) (w_9_7 : Hid (b9 = true → b7 = true)) : TBack10 B gs NM g N cg KI only co cc ro rn rc nb noff nl nc j x F E rs rs2 a0 w0 L a w
/-- What stands while the region's operations come up. -/
inductive TBack14 (B : Nat) (gs : Nat) (gq : Nat) (NM : List UInt8) (g : Nat) (N : Nat) (cg : Nat) (KI : Nat) (only : Bool) (co : Option Addr) (cc : Nat) (ro : Option Addr) (rn : Nat) (rc : Nat) (gr : Nat) (rca : Nat) (k : Int) (m : Int) (s : ByteArray) (xr : List V) (a0 : Act) (w0 : World) (L : Array Bool) (a : Act) (w : World) : Prop
  | mk (b0 b1 b2 b3 b4 b5 b6 b7 b8 b9 b10 b11 : Bool) (x62 x63 x64 x65 x66 x67 x68 x61 x69 x70 x13 x14 : Value) (gx : Nat) (cx : Nat) (hL : L = #[b0, b1, b2, b3, b4, b5, b6, b7, b8, b9, b10, b11]) (ha : a = ⟨((((((((((((a0.tmps.setIfInBounds 62 x62).setIfInBounds 63 x63).setIfInBounds 64 x64).setIfInBounds 65 x65).setIfInBounds 66 x66).setIfInBounds 67 x67).setIfInBounds 68 x68).setIfInBounds 61 x61).setIfInBounds 69 x69).setIfInBounds 70 x70).setIfInBounds 13 x13).setIfInBounds 14 x14), a0.defers⟩) (hb : Below B w0 w) (cd0 : Hid (b0 = true → x62 = .agg #[.string (bsOf NM), .slice co N cc, .int .i64 (KI : Nat), .bool only, .slice ro rn rc])) (cd1 : Hid (b1 = true → x63 = .slice (some ⟨gr, 0, none⟩) N rca)) (cd2 : Hid (b2 = true → x64 = .pointer (some ⟨gs, 2, none⟩))) (cd3 : Hid (b3 = true → x65 = .int .i64 (KI : Nat))) (cd4 : Hid (b4 = true → x66 = .pointer (some ⟨gr, KI * 3, none⟩))) (cd5 : Hid (b5 = true → x67 = .agg #[.int .i64 k, .int .i64 m, .string s])) (cd6 : Hid (b6 = true → x68 = .tuple #[.slice (some ⟨gx, 0, none⟩) N cx, .bool true])) (cd7 : Hid (b7 = true → x61 = .tuple #[.slice (some ⟨gx, 0, none⟩) N cx, .bool true])) (cd8 : Hid (b8 = true → x69 = .slice (some ⟨gx, 0, none⟩) N cx)) (cd9 : Hid (b9 = true → x70 = .bool true)) (cd10 : Hid (b10 = true → x13 = .slice (some ⟨gx, 0, none⟩) N cx)) (cd11 : Hid (b11 = true → x14 = .bool true)) (f_x : Hid (b6 = true → OwnR EV w 55 gx N cx xr)) (w_7_6 : Hid (b7 = true → b6 = true)) (w_8_6 : Hid (b8 = true → b6 = true)) (w_10_6 : Hid (b10 = true → b6 = true)) : TBack14 B gs gq NM g N cg KI only co cc ro rn rc gr rca k m s xr a0 w0 L a w
/-- What stands while the region's operations come up. -/
inductive TBack16 (B : Nat) (gs : Nat) (gq : Nat) (NM : List UInt8) (g : Nat) (N : Nat) (cg : Nat) (KI : Nat) (only : Bool) (co : Option Addr) (cc : Nat) (ro : Option Addr) (rn : Nat) (rc : Nat) (gr : Nat) (rca : Nat) (k : Int) (m : Int) (s : ByteArray) (xr : List V) (a0 : Act) (w0 : World) (L : Array Bool) (a : Act) (w : World) : Prop
  | mk (b0 b1 b2 b3 b4 b5 b6 b7 b8 b9 b10 b11 : Bool) (x97 x98 x99 x100 x101 x102 x103 x96 x104 x105 x15 x16 : Value) (gx : Nat) (cx : Nat) (hL : L = #[b0, b1, b2, b3, b4, b5, b6, b7, b8, b9, b10, b11]) (ha : a = ⟨((((((((((((a0.tmps.setIfInBounds 97 x97).setIfInBounds 98 x98).setIfInBounds 99 x99).setIfInBounds 100 x100).setIfInBounds 101 x101).setIfInBounds 102 x102).setIfInBounds 103 x103).setIfInBounds 96 x96).setIfInBounds 104 x104).setIfInBounds 105 x105).setIfInBounds 15 x15).setIfInBounds 16 x16), a0.defers⟩) (hb : Below B w0 w) (cd0 : Hid (b0 = true → x97 = .agg #[.string (bsOf NM), .slice co N cc, .int .i64 (KI : Nat), .bool only, .slice ro rn rc])) (cd1 : Hid (b1 = true → x98 = .slice (some ⟨gr, 0, none⟩) N rca)) (cd2 : Hid (b2 = true → x99 = .pointer (some ⟨gs, 2, none⟩))) (cd3 : Hid (b3 = true → x100 = .int .i64 (KI : Nat))) (cd4 : Hid (b4 = true → x101 = .pointer (some ⟨gr, KI * 3, none⟩))) (cd5 : Hid (b5 = true → x102 = .agg #[.int .i64 k, .int .i64 m, .string s])) (cd6 : Hid (b6 = true → x103 = .tuple #[.slice (some ⟨gx, 0, none⟩) N cx, .bool true])) (cd7 : Hid (b7 = true → x96 = .tuple #[.slice (some ⟨gx, 0, none⟩) N cx, .bool true])) (cd8 : Hid (b8 = true → x104 = .slice (some ⟨gx, 0, none⟩) N cx)) (cd9 : Hid (b9 = true → x105 = .bool true)) (cd10 : Hid (b10 = true → x15 = .slice (some ⟨gx, 0, none⟩) N cx)) (cd11 : Hid (b11 = true → x16 = .bool true)) (f_x : Hid (b6 = true → OwnR EV w 55 gx N cx xr)) (w_7_6 : Hid (b7 = true → b6 = true)) (w_8_6 : Hid (b8 = true → b6 = true)) (w_10_6 : Hid (b10 = true → b6 = true)) : TBack16 B gs gq NM g N cg KI only co cc ro rn rc gr rca k m s xr a0 w0 L a w
/-- What stands while the region's operations come up. -/
inductive TBack17 (B : Nat) (gs : Nat) (gq : Nat) (NM : List UInt8) (g : Nat) (N : Nat) (cg : Nat) (KI : Nat) (only : Bool) (co : Option Addr) (cc : Nat) (ro : Option Addr) (rn : Nat) (rc : Nat) (gr : Nat) (rca : Nat) (k : Int) (m : Int) (s : ByteArray) (F : List Co) (rs : List (List V)) (rv : List V) (a0 : Act) (w0 : World) (L : Array Bool) (a : Act) (w : World) : Prop
  | mk (b0 b1 b2 b3 b4 b5 b6 b7 b8 b9 b10 b11 b12 b13 b14 : Bool) (x107 x108 x109 x110 x111 x112 x113 x106 x114 x115 x116 x17 x18 x19 : Value) (co2 : Option Addr) (cc2 : Nat) (ro2 : Option Addr) (rn2 : Nat) (rc2 : Nat) (gy : Nat) (cy : Nat) (gu : Nat) (hL : L = #[b0, b1, b2, b3, b4, b5, b6, b7, b8, b9, b10, b11, b12, b13, b14]) (ha : a = ⟨((((((((((((((a0.tmps.setIfInBounds 107 x107).setIfInBounds 108 x108).setIfInBounds 109 x109).setIfInBounds 110 x110).setIfInBounds 111 x111).setIfInBounds 112 x112).setIfInBounds 113 x113).setIfInBounds 106 x106).setIfInBounds 114 x114).setIfInBounds 115 x115).setIfInBounds 116 x116).setIfInBounds 17 x17).setIfInBounds 18 x18).setIfInBounds 19 x19), a0.defers⟩) (hb : Below B w0 w) (cd0 : Hid (b0 = true → x107 = .agg #[.string (bsOf NM), .slice co N cc, .int .i64 (KI : Nat), .bool only, .slice ro rn rc])) (cd1 : Hid (b1 = true → x108 = .slice (some ⟨gr, 0, none⟩) N rca)) (cd2 : Hid (b2 = true → x109 = .pointer (some ⟨gs, 2, none⟩))) (cd3 : Hid (b3 = true → x110 = .int .i64 (KI : Nat))) (cd4 : Hid (b4 = true → x111 = .pointer (some ⟨gr, KI * 3, none⟩))) (cd5 : Hid (b5 = true → x112 = .agg #[.int .i64 k, .int .i64 m, .string s])) (cd6 : Hid (b6 = true → x113 = .tuple #[.agg #[.string (bsOf NM), .slice co2 N cc2, .int .i64 (KI : Nat), .bool only, .slice ro2 rn2 rc2], .slice (some ⟨gy, 0, none⟩) N cy, .int .i64 0])) (cd7 : Hid (b7 = true → x106 = .tuple #[.agg #[.string (bsOf NM), .slice co2 N cc2, .int .i64 (KI : Nat), .bool only, .slice ro2 rn2 rc2], .slice (some ⟨gy, 0, none⟩) N cy, .int .i64 0])) (cd8 : Hid (b8 = true → x114 = .agg #[.string (bsOf NM), .slice co2 N cc2, .int .i64 (KI : Nat), .bool only, .slice ro2 rn2 rc2])) (cd9 : Hid (b9 = true → x115 = .slice (some ⟨gy, 0, none⟩) N cy)) (cd10 : Hid (b10 = true → x116 = .int .i64 0)) (cd11 : Hid (b11 = true → x17 = .pointer (some ⟨gu, 0, none⟩))) (cd13 : Hid (b13 = true → x18 = .slice (some ⟨gy, 0, none⟩) N cy)) (cd14 : Hid (b14 = true → x19 = .int .i64 0)) (f_tt : Hid (b6 = true → TkY w w0.heap.size co2 N cc2 F ro2 rn2 rc2 rs gy cy rv)) (f_st : Hid (b6 = true → b12 = false → (b11 = true → ∀ w'', w.grownBy w'' (some gu) → TkY w'' w0.heap.size co2 N cc2 F ro2 rn2 rc2 rs gy cy rv))) (f_lt : Hid (b11 = true → gu < w.heap.size)) (f_z : Hid (b11 = true → b12 = false → Bk w gu (tbC [] none 0 0 0 false none 0 0) 47)) (f_lg : Hid (b11 = true → w0.heap.size ≤ gu)) (f_s : Hid (b12 = true → Bk w gu (tbC NM co2 N cc2 (KI : Nat) only ro2 rn2 rc2) 47)) (f_o12 : Hid (b12 = true → b6 = true)) (f_o12b : Hid (b12 = true → b11 = true)) (w_7_6 : Hid (b7 = true → b6 = true)) (w_8_6 : Hid (b8 = true → b6 = true)) (w_9_6 : Hid (b9 = true → b6 = true)) (w_13_6 : Hid (b13 = true → b6 = true)) : TBack17 B gs gq NM g N cg KI only co cc ro rn rc gr rca k m s F rs rv a0 w0 L a w
set_option maxRecDepth 100000 in
set_option maxHeartbeats 8000000 in
theorem tableBack_walk (l : List UInt8) (ao : Option Addr) (n c : Nat) (key : Int) (only : Bool) (cs : List Co) (na : Option Addr) (nl nc : Nat) (ns : List Int) (nn : Int) (w : World) (_hl : l.length ≤ maxLen) (_hkey : (Lit.int .i64 key).wf = true) (h : IsR encCo w ao n c cs) (_hcs : ∀ x ∈ cs, (Lit.int .i64 x.kind).wf = true ∧ x.name.length ≤ maxLen) (hI : IsR EI w na nl nc ns) (hIw : ∀ x ∈ ns, (Lit.int .i64 x).wf = true) (hnw : (Lit.int .i64 nn).wf = true) :
    Calls Try.prog 8 #[scV l ao n c key only, .slice na nl nc, .int .i64 nn] w (Told w true) := by
  unfold scV
  have X0 := ScB.new w l ao n c key only
  have B0 := (Below.refl w.heap.size w).alloc (Nat.le_refl _) (.cells #[.string (bsOf l), .slice ao n c, .int .i64 key, .bool only] 40)
  go_enter Try.func8, Try.ntmps8
  go_upto_region 1 with fail
  generalize w.alloc (.cells #[.string (bsOf l), .slice ao n c, .int .i64 key, .bool only] 40) = W0 at X0 B0 ⊢
  obtain ⟨p0, hp0⟩ : ∃ p0, w.heap.size = p0 := ⟨_, rfl⟩
  have HP := Lib.hid hp0
  rw [hp0] at X0 B0
  simp only [hp0]
  clear hp0
  have hW0 : p0 ≤ W0.heap.size := Nat.le_of_lt X0.lt
  go_upto_region 3 with (go_at_call 18; refine (known10 _).mono ?_; rintro e w1 ⟨rfl, b1⟩)
  have X1 := X0.past b1
  have B1 := B0.trans (b1.mono hW0)
  have hW1 := Nat.le_trans hW0 b1.size
  have h1 : IsR encCo w1 ao n c cs := h.past (by rw [HP.out]; exact B1)
  have HFw := few9_any w1 l ao n c cs key only h1
  unfold scV at HFw
  have y0 : w1.cell? ⟨p0, 0, none⟩ = some (.string (bsOf l)) := cell_blk X1 rfl
  have y1 : w1.cell? ⟨p0, 1, none⟩ = some (.slice ao n c) := cell_blk X1 rfl
  have y2 : w1.cell? ⟨p0, 2, none⟩ = some (.int .i64 key) := cell_blk X1 rfl
  have y3 : w1.cell? ⟨p0, 3, none⟩ = some (.bool only) := cell_blk X1 rfl
  cases hfw : fewS l cs
  · rw [hfw] at HFw
    go_wp2_with (go_at_call 19; refine HFw.mono ?_; rintro e w2 ⟨rfl, b2⟩)
    go_ret
    exact ⟨rfl, by rw [HP.out]; exact B1.trans (b2.mono hW1)⟩
  rw [hfw] at HFw
  have hn9 : n ≤ 9 := by
    unfold fewS at hfw
    simp only [Bool.and_eq_true, decide_eq_true_eq] at hfw
    have := h.len
    omega
  clear hfw
  go_upto_region 5 with (go_at_call 19; refine HFw.mono ?_; rintro e w2 ⟨rfl, b2⟩)
  have X2 := X1.past b2
  have B2 := B1.trans (b2.mono hW1)
  have hW2 := Nat.le_trans hW1 b2.size
  have h2 := h1.past b2
  clear y0 y1 y2 y3 HFw
  have y0 : w2.cell? ⟨p0, 0, none⟩ = some (.string (bsOf l)) := cell_blk X2 rfl
  have y1 : w2.cell? ⟨p0, 1, none⟩ = some (.slice ao n c) := cell_blk X2 rfl
  have y2 : w2.cell? ⟨p0, 2, none⟩ = some (.int .i64 key) := cell_blk X2 rfl
  have y3 : w2.cell? ⟨p0, 3, none⟩ = some (.bool only) := cell_blk X2 rfl
  have HG := good9_any w2 l ao n c cs key 3 only h2 (by omega)
  unfold GoodIs scV at HG
  have hNp := gN_pos cs
  have hKl := (gKey_lt cs key).1
  have hFl := gFin_len cs key
  have hFk := gFin_kinds cs key
  have hFn := gFin_keyN cs key
  obtain ⟨N, hN⟩ : ∃ N, gN cs = N := ⟨_, rfl⟩
  obtain ⟨KI, hKI⟩ : ∃ KI, gKey cs key = KI := ⟨_, rfl⟩
  obtain ⟨F, hF⟩ : ∃ F, gFin cs key = F := ⟨_, rfl⟩
  obtain ⟨NM, hNM⟩ : ∃ NM, gNm 3 = NM := ⟨_, rfl⟩
  simp only [hN, hKI, hF, hNM] at HG hNp hKl hFl hFk hFn
  clear hN hKI hF hNM
  go_upto_region 6 with (go_at_call 21; refine HG.mono ?_; rintro e w3 ⟨g, cg, rfl, og, b3, q3⟩)
  have hW3 := Nat.le_trans hW2 b3.size
  have B3 : Below p0 w (w3.alloc (.cells #[.string (bsOf NM), .slice (some ⟨g, 0, none⟩) N cg, .int .i64 (KI : Nat), .bool only] 40)) := (B2.trans (b3.mono hW2)).alloc hW3 _
  have XS : Bk (w3.alloc (.cells #[.string (bsOf NM), .slice (some ⟨g, 0, none⟩) N cg, .int .i64 (KI : Nat), .bool only] 40)) w3.heap.size (scC NM (some ⟨g, 0, none⟩) N cg (KI : Nat) only) 40 := Bk.new w3 _ _
  have oG := og.alloc (.cells #[.string (bsOf NM), .slice (some ⟨g, 0, none⟩) N cg, .int .i64 (KI : Nat), .bool only] 40)
  have hgl := og.lt
  have hg0 : p0 ≤ g := Nat.le_trans hW2 q3
  generalize w3.alloc (.cells #[.string (bsOf NM), .slice (some ⟨g, 0, none⟩) N cg, .int .i64 (KI : Nat), .bool only] 40) = W at B3 XS oG ⊢
  obtain ⟨gs, hgs⟩ : ∃ gs, w3.heap.size = gs := ⟨_, rfl⟩
  rw [hgs] at XS hgl hW3
  simp only [hgs]
  obtain ⟨z0, z1, z2, z3⟩ := sc_cells XS
  have hgsW : gs < W.heap.size := XS.lt
  have iG := oG.isR
  clear hgs og b3 q3 HG y0 y1 y2 y3 X2 X1 X0 B2 B1 B0 b1 b2 h2 h1 hW2 hW1 hW0
  go_upto_region 8 with fail
  have hTn : Bk (W.alloc (.cells #[.string (bsOf NM), .slice (some ⟨g, 0, none⟩) N cg, .int .i64 (KI : Nat), .bool only, .slice none 0 0] 47)) W.heap.size (tbC NM (some ⟨g, 0, none⟩) N cg (KI : Nat) only none 0 0) 47 := Bk.new W _ _
  have XS' := XS.alloc (.cells #[.string (bsOf NM), .slice (some ⟨g, 0, none⟩) N cg, .int .i64 (KI : Nat), .bool only, .slice none 0 0] 47)
  have iG' := iG.alloc (.cells #[.string (bsOf NM), .slice (some ⟨g, 0, none⟩) N cg, .int .i64 (KI : Nat), .bool only, .slice none 0 0] 47)
  have hpW : p0 ≤ W.heap.size := by omega
  have B4 := B3.alloc hpW (.cells #[.string (bsOf NM), .slice (some ⟨g, 0, none⟩) N cg, .int .i64 (KI : Nat), .bool only, .slice none 0 0] 47)
  generalize W.alloc (.cells #[.string (bsOf NM), .slice (some ⟨g, 0, none⟩) N cg, .int .i64 (KI : Nat), .bool only, .slice none 0 0] 47) = U at hTn XS' iG' B4 ⊢
  obtain ⟨gt, hgt⟩ : ∃ gt, W.heap.size = gt := ⟨_, rfl⟩
  rw [hgt] at hTn hgsW hpW
  simp only [hgt]
  have hggt : g < gt := by omega
  have hp0t : p0 ≤ gt := hpW
  have iT0 : IsT U 0 (some ⟨g, 0, none⟩) N cg F none 0 0 [] := ⟨iG', IsRR.nil U 0, fun _ _ => Nat.zero_le _⟩
  clear hgt XS iG B3 oG z0 z1 z2 z3
  go_wp2_with fail
  go_loopw [9] (fun i wr => ∃ (j : Nat) (co : Option Addr) (cc : Nat) (ro : Option Addr) (rn rc : Nat) (rs : List (List V)), j ≤ nl ∧ j ≤ 30 ∧ i = .int .i64 (j : Nat) ∧ Bk wr gs (scC NM (some ⟨g, 0, none⟩) N cg (KI : Nat) only) 40 ∧ IsR encCo wr (some ⟨g, 0, none⟩) N cg F ∧ Bk wr gt (tbC NM co N cc (KI : Nat) only ro rn rc) 47 ∧ IsT wr 0 co N cc F ro rn rc rs ∧ Fits F KI rs ∧ rn ≤ j ∧ Below p0 w wr) (fun i _ => nl - (intOf i).toNat)
  case atStart => exact ⟨0, _, _, _, 0, _, [], Nat.zero_le _, by omega, rfl, XS', iG', hTn, iT0, Fits.nil F KI, Nat.le_refl _, B4⟩
  case round =>
    clear XS' iG' hTn iT0 B4
    obtain ⟨j, co, cc, ro, rn, rc, rs, hj, hj60, rfl, XS0, iG0, hT0, iT, hFi, hrj, BB⟩ := hrel
    obtain ⟨z0, z1, z2, z3⟩ := sc_cells XS0
    obtain ⟨t0, t1, t2, t3, t4⟩ := tb_cells hT0
    have hpw : p0 ≤ wr.heap.size := by have := BB.size; rw [HP.out] at this; exact this
    have hgsB : gs < gt := by omega
    have hgtw := hT0.lt
    by_cases hlt : j < nl ∧ j < 30
    · have hlti : (j : Int) < (nl : Int) := by omega
      have hlt6 : (j : Int) < 30 := by omega
      obtain ⟨x, hx⟩ : ∃ x, ns[j]? = some x := ⟨ns[j]'(by have := hI.len; omega), List.getElem?_eq_getElem _⟩
      have hxw := hIw x (List.mem_of_getElem? hx)
      obtain ⟨nb, noff, rfl, hnb, hncl⟩ := hI.open (by omega) (by decide)
      have hnbp : nb < p0 := by rw [← HP.out]; exact hnb
      have cx : wr.cell? ⟨nb, noff + j, none⟩ = some (.int .i64 x) := by
        rw [BB.cell (show nb < p0 from hnbp)]
        exact hncl j _ (by have := EI.all_get ns j 0 x hx (by decide); simpa [EI] using this)
      have hnbB : nb < gt := by omega
      have iGk : ∀ w', Below gt wr.drew w' → IsR encCo w' (some ⟨g, 0, none⟩) N cg F := fun w' hb => ⟨iG0.len, iG0.le, iG0.max, iG0.nil, fun a ha k u hu => by
        have := iG0.cell a ha k u hu
        cases ha
        rw [Addr.add_lit] at this ⊢
        rw [hb.cell (show g < gt from hggt)]
        exact this⟩
      have hln := iT.rows.len
      have hlen100 : ∀ y ∈ rs, 0 < y.length ∧ y.length ≤ 100 := fun y hy => by have := hFi.len y hy; omega
      have HFit := fun (w' : World) (hb : Below gt wr.drew w') => fit_any w' NM (some ⟨g, 0, none⟩) N cg F (KI : Nat) only (iGk w' hb) (by omega) hFk x hxw
      unfold scV at HFit
      have HC := put_fit F hFk KI x rs (by omega)
      obtain ⟨E, hEe⟩ : ∃ E, putE F KI (fitRow F x) rs = E := ⟨_, rfl⟩
      obtain ⟨rs2, hrs2⟩ : ∃ rs2, putR F KI (fitRow F x) rs = rs2 := ⟨_, rfl⟩
      have hnx : Hid (Fits F KI rs2) := by
        show Fits F KI rs2
        rw [← hrs2]
        exact hFi.putR x
      have hl2 : rs2.length ≤ rn + 1 := by
        rw [← hrs2]
        rcases HC with ⟨-, -, h3⟩ | ⟨-, -, h3⟩
        · rw [h3, put_len, hln]
          omega
        · rw [h3, hln]
          omega
      have HPt0 := fun (w' : World) (hit : IsT w' 0 co N cc F ro rn rc rs) (ra : Option Addr) (rca : Nat) (hr : IsR EV w' ra N rca (fitRow F x)) => put_any w' NM co N cc KI only ro rn rc F (by omega) (by omega) 0 rs hit ra N rca _ hr hFi.srt (by omega) (fun y hy => (hlen100 y hy).2) (by omega)
      simp only [hEe, hrs2] at HPt0
      unfold tbV at HPt0
      have HPt := HPt0
      have hgtI : gt < wr.drew.heap.size := hgtw
      have hB0 : gt ≤ wr.heap.size := Nat.le_of_lt hgtw
      clear HPt0 hEe hrs2 HC
      go_upto_region 10 with fail
      clear t0 t1 t2 t3 t4
      refine region_inv (TBack10 gt gs NM g N cg KI only co cc ro rn rc nb noff nl nc j x F E rs rs2) (by kernel_rfl) (by kernel_rfl) ?_ ?_ ?_
      · exact ⟨false, false, false, false, false, false, false, false, false, false, false, false, u40, u41, u42, u43, u44, u45, u46, u47, u39, u48, u49, none, 0, none, 0, none, 0, 0, rfl, (by simp only [Act.put, List.setIfInBounds_toArray, List.set_cons_zero, List.set_cons_succ]), Below.refl _ _, (fun h => by cases h), (fun h => by cases h), (fun h => by cases h), (fun h => by cases h), (fun h => by cases h), (fun h => by cases h), (fun h => by cases h), (fun h => by cases h), (fun h => by cases h), (fun h => by cases h), (fun h => by cases h), (fun h1 => iT.drew), (fun h1 => hT0.past (Below.refl _ _).drew), (fun h => by cases h), (fun h => by cases h), (fun h => by cases h), (fun h => by cases h), (fun h => by cases h), (fun h => by cases h), (fun h => by cases h)⟩
      · refine ⟨?_, ?_, ?_, ?_, ?_, ?_, ?_, ?_, ?_, ?_, ?_, ?_, trivial⟩
        · rintro L a w ⟨b0, b1, b2, b3, b4, b5, b6, b7, b8, b9, b10, b11, x40, x41, x42, x43, x44, x45, x46, x47, x39, x48, x49, ra, rca, co2, cc2, ro2, rn2, rc2, rfl, rfl, hb, cd0, cd1, cd2, cd3, cd4, cd5, cd6, cd7, cd8, cd9, cd10, f_it, f_t, f_o11, f_o11b, f_r, f_tt, f_ts, w_8_7, w_9_7⟩ hf hd
          have hf' : b0 = false := hf
          subst hf'
          clear hf hd
          have e11 : b11 = false := by cases hq : b11 with | false => rfl | true => exact absurd (f_o11.out hq) (by simp)
          subst e11
          have W_t := f_t.out rfl
          try simp only [List.setIfInBounds_toArray, List.set_cons_zero, List.set_cons_succ]
          obtain ⟨z0, z1, z2, z3, z4⟩ := tb_cells W_t
          intro K hK
          rw [if_pos (by rfl)]
          go_simp
          exact hK.out _ _ ⟨true, b1, b2, b3, b4, b5, b6, b7, b8, b9, b10, false, (.agg #[.string (bsOf NM), .slice co N cc, .int .i64 (KI : Nat), .bool only, .slice ro rn rc]), x41, x42, x43, x44, x45, x46, x47, x39, x48, x49, ra, rca, co2, cc2, ro2, rn2, rc2, (by simp only [Act.put, List.setIfInBounds_toArray, List.set_cons_zero, List.set_cons_succ]), (by simp only [Act.put, List.setIfInBounds_toArray, List.set_cons_zero, List.set_cons_succ]), hb, (fun _ => rfl), cd1, cd2, cd3, cd4, cd5, cd6, cd7, cd8, cd9, cd10, f_it, f_t, (fun _ => rfl), f_o11b, f_r, f_tt, f_ts, w_8_7, w_9_7⟩
        · rintro L a w ⟨b0, b1, b2, b3, b4, b5, b6, b7, b8, b9, b10, b11, x40, x41, x42, x43, x44, x45, x46, x47, x39, x48, x49, ra, rca, co2, cc2, ro2, rn2, rc2, rfl, rfl, hb, cd0, cd1, cd2, cd3, cd4, cd5, cd6, cd7, cd8, cd9, cd10, f_it, f_t, f_o11, f_o11b, f_r, f_tt, f_ts, w_8_7, w_9_7⟩ hf hd
          have hf' : b1 = false := hf
          subst hf'
          clear hf hd
          try simp only [List.setIfInBounds_toArray, List.set_cons_zero, List.set_cons_succ]
          have z0 := (hb.cell hgsB).trans z0
          have z1 := (hb.cell hgsB).trans z1
          have z2 := (hb.cell hgsB).trans z2
          have z3 := (hb.cell hgsB).trans z3
          intro K hK
          rw [if_pos (by rfl)]
          go_simp
          exact hK.out _ _ ⟨b0, true, b2, b3, b4, b5, b6, b7, b8, b9, b10, b11, x40, (.agg #[.string (bsOf NM), .slice (some ⟨g, 0, none⟩) N cg, .int .i64 (KI : Nat), .bool only]), x42, x43, x44, x45, x46, x47, x39, x48, x49, ra, rca, co2, cc2, ro2, rn2, rc2, (by simp only [Act.put, List.setIfInBounds_toArray, List.set_cons_zero, List.set_cons_succ]), (by simp only [Act.put, List.setIfInBounds_toArray, List.set_cons_zero, List.set_cons_succ]), hb, cd0, (fun _ => rfl), cd2, cd3, cd4, cd5, cd6, cd7, cd8, cd9, cd10, f_it, f_t, f_o11, f_o11b, f_r, f_tt, f_ts, w_8_7, w_9_7⟩
        · rintro L a w ⟨b0, b1, b2, b3, b4, b5, b6, b7, b8, b9, b10, b11, x40, x41, x42, x43, x44, x45, x46, x47, x39, x48, x49, ra, rca, co2, cc2, ro2, rn2, rc2, rfl, rfl, hb, cd0, cd1, cd2, cd3, cd4, cd5, cd6, cd7, cd8, cd9, cd10, f_it, f_t, f_o11, f_o11b, f_r, f_tt, f_ts, w_8_7, w_9_7⟩ hf hd
          have hf' : b2 = false := hf
          subst hf'
          clear hf hd
          try simp only [List.setIfInBounds_toArray, List.set_cons_zero, List.set_cons_succ]
          intro K hK
          rw [if_pos (by rfl)]
          go_simp
          exact hK.out _ _ ⟨b0, b1, true, b3, b4, b5, b6, b7, b8, b9, b10, b11, x40, x41, (.slice (some ⟨nb, noff, none⟩) nl nc), x43, x44, x45, x46, x47, x39, x48, x49, ra, rca, co2, cc2, ro2, rn2, rc2, (by simp only [Act.put, List.setIfInBounds_toArray, List.set_cons_zero, List.set_cons_succ]), (by simp only [Act.put, List.setIfInBounds_toArray, List.set_cons_zero, List.set_cons_succ]), hb, cd0, cd1, (fun _ => rfl), cd3, cd4, cd5, cd6, cd7, cd8, cd9, cd10, f_it, f_t, f_o11, f_o11b, f_r, f_tt, f_ts, w_8_7, w_9_7⟩
        · rintro L a w ⟨b0, b1, b2, b3, b4, b5, b6, b7, b8, b9, b10, b11, x40, x41, x42, x43, x44, x45, x46, x47, x39, x48, x49, ra, rca, co2, cc2, ro2, rn2, rc2, rfl, rfl, hb, cd0, cd1, cd2, cd3, cd4, cd5, cd6, cd7, cd8, cd9, cd10, f_it, f_t, f_o11, f_o11b, f_r, f_tt, f_ts, w_8_7, w_9_7⟩ hf hd
          have hf' : b3 = false := hf
          subst hf'
          clear hf hd
          try simp only [List.setIfInBounds_toArray, List.set_cons_zero, List.set_cons_succ]
          intro K hK
          rw [if_pos (by rfl)]
          go_simp
          exact hK.out _ _ ⟨b0, b1, b2, true, b4, b5, b6, b7, b8, b9, b10, b11, x40, x41, x42, (.int .i64 (j : Nat)), x44, x45, x46, x47, x39, x48, x49, ra, rca, co2, cc2, ro2, rn2, rc2, (by simp only [Act.put, List.setIfInBounds_toArray, List.set_cons_zero, List.set_cons_succ]), (by simp only [Act.put, List.setIfInBounds_toArray, List.set_cons_zero, List.set_cons_succ]), hb, cd0, cd1, cd2, (fun _ => rfl), cd4, cd5, cd6, cd7, cd8, cd9, cd10, f_it, f_t, f_o11, f_o11b, f_r, f_tt, f_ts, w_8_7, w_9_7⟩
        · rintro L a w ⟨b0, b1, b2, b3, b4, b5, b6, b7, b8, b9, b10, b11, x40, x41, x42, x43, x44, x45, x46, x47, x39, x48, x49, ra, rca, co2, cc2, ro2, rn2, rc2, rfl, rfl, hb, cd0, cd1, cd2, cd3, cd4, cd5, cd6, cd7, cd8, cd9, cd10, f_it, f_t, f_o11, f_o11b, f_r, f_tt, f_ts, w_8_7, w_9_7⟩ hf hd
          have hf' : b4 = false := hf
          subst hf'
          have d2 : b2 = true := hd ⟨2, .data⟩ (by simp) rfl
          subst d2
          have d3 : b3 = true := hd ⟨3, .data⟩ (by simp) rfl
          subst d3
          obtain rfl := cd2.out rfl
          obtain rfl := cd3.out rfl
          clear hf hd
          try simp only [List.setIfInBounds_toArray, List.set_cons_zero, List.set_cons_succ]
          intro K hK
          rw [if_pos (by rfl)]
          go_simp
          exact hK.out _ _ ⟨b0, b1, true, true, true, b5, b6, b7, b8, b9, b10, b11, x40, x41, .slice (some ⟨nb, noff, none⟩) nl nc, .int .i64 (j : Nat), (.pointer (some ⟨nb, noff + j, none⟩)), x45, x46, x47, x39, x48, x49, ra, rca, co2, cc2, ro2, rn2, rc2, (by simp only [Act.put, List.setIfInBounds_toArray, List.set_cons_zero, List.set_cons_succ]), (by simp only [Act.put, List.setIfInBounds_toArray, List.set_cons_zero, List.set_cons_succ]), hb, cd0, cd1, (fun _ => rfl), (fun _ => rfl), (fun _ => rfl), cd5, cd6, cd7, cd8, cd9, cd10, f_it, f_t, f_o11, f_o11b, f_r, f_tt, f_ts, w_8_7, w_9_7⟩
        · rintro L a w ⟨b0, b1, b2, b3, b4, b5, b6, b7, b8, b9, b10, b11, x40, x41, x42, x43, x44, x45, x46, x47, x39, x48, x49, ra, rca, co2, cc2, ro2, rn2, rc2, rfl, rfl, hb, cd0, cd1, cd2, cd3, cd4, cd5, cd6, cd7, cd8, cd9, cd10, f_it, f_t, f_o11, f_o11b, f_r, f_tt, f_ts, w_8_7, w_9_7⟩ hf hd
          have hf' : b5 = false := hf
          subst hf'
          have d4 : b4 = true := hd ⟨4, .data⟩ (by simp) rfl
          subst d4
          obtain rfl := cd4.out rfl
          clear hf hd
          try simp only [List.setIfInBounds_toArray, List.set_cons_zero, List.set_cons_succ]
          have z0 := (hb.cell hnbB).trans cx
          intro K hK
          rw [if_pos (by rfl)]
          go_simp
          exact hK.out _ _ ⟨b0, b1, b2, b3, true, true, b6, b7, b8, b9, b10, b11, x40, x41, x42, x43, .pointer (some ⟨nb, noff + j, none⟩), (.int .i64 x), x46, x47, x39, x48, x49, ra, rca, co2, cc2, ro2, rn2, rc2, (by simp only [Act.put, List.setIfInBounds_toArray, List.set_cons_zero, List.set_cons_succ]), (by simp only [Act.put, List.setIfInBounds_toArray, List.set_cons_zero, List.set_cons_succ]), hb, cd0, cd1, cd2, cd3, (fun _ => rfl), (fun _ => rfl), cd6, cd7, cd8, cd9, cd10, f_it, f_t, f_o11, f_o11b, f_r, f_tt, f_ts, w_8_7, w_9_7⟩
        · rintro L a w ⟨b0, b1, b2, b3, b4, b5, b6, b7, b8, b9, b10, b11, x40, x41, x42, x43, x44, x45, x46, x47, x39, x48, x49, ra, rca, co2, cc2, ro2, rn2, rc2, rfl, rfl, hb, cd0, cd1, cd2, cd3, cd4, cd5, cd6, cd7, cd8, cd9, cd10, f_it, f_t, f_o11, f_o11b, f_r, f_tt, f_ts, w_8_7, w_9_7⟩ hf hd
          have hf' : b6 = false := hf
          subst hf'
          have d1 : b1 = true := hd ⟨1, .data⟩ (by simp) rfl
          subst d1
          have d5 : b5 = true := hd ⟨5, .data⟩ (by simp) rfl
          subst d5
          obtain rfl := cd1.out rfl
          obtain rfl := cd5.out rfl
          clear hf hd
          try simp only [List.setIfInBounds_toArray, List.set_cons_zero, List.set_cons_succ]
          intro K hK
          rw [if_pos (by rfl)]
          go_simp
          go_at_call 22
          refine (HFit _ hb).mono ?_
          rintro e w' ⟨ra2, rca2, rfl, oT, bx⟩
          exact hK.out _ _ ⟨b0, true, b2, b3, b4, true, true, b7, b8, b9, b10, b11, x40, .agg #[.string (bsOf NM), .slice (some ⟨g, 0, none⟩) N cg, .int .i64 (KI : Nat), .bool only], x42, x43, x44, .int .i64 x, (.slice ra2 N rca2), x47, x39, x48, x49, ra2, rca2, co2, cc2, ro2, rn2, rc2, (by simp only [Act.put, List.setIfInBounds_toArray, List.set_cons_zero, List.set_cons_succ]), (by simp only [Act.put, List.setIfInBounds_toArray, List.set_cons_zero, List.set_cons_succ]), hb.trans (bx.mono (Nat.le_trans hB0 hb.size)), cd0, (fun _ => rfl), cd2, cd3, cd4, (fun _ => rfl), (fun _ => rfl), cd7, cd8, cd9, cd10, (fun h1 => (f_it.out h1).past bx), (fun h1 => (f_t.out h1).past bx), f_o11, f_o11b, (fun _ _ => oT.lower hb.size), (fun h0 => (f_tt.out h0).past bx), (fun h0 => (f_ts.out h0).past bx), w_8_7, w_9_7⟩
        · rintro L a w ⟨b0, b1, b2, b3, b4, b5, b6, b7, b8, b9, b10, b11, x40, x41, x42, x43, x44, x45, x46, x47, x39, x48, x49, ra, rca, co2, cc2, ro2, rn2, rc2, rfl, rfl, hb, cd0, cd1, cd2, cd3, cd4, cd5, cd6, cd7, cd8, cd9, cd10, f_it, f_t, f_o11, f_o11b, f_r, f_tt, f_ts, w_8_7, w_9_7⟩ hf hd
          have hf' : b7 = false := hf
          subst hf'
          have d0 : b0 = true := hd ⟨0, .data⟩ (by simp) rfl
          subst d0
          have d6 : b6 = true := hd ⟨6, .data⟩ (by simp) rfl
          subst d6
          obtain rfl := cd0.out rfl
          obtain rfl := cd6.out rfl
          clear hf hd
          have W_it := f_it.out rfl
          have W_r := f_r.out rfl rfl
          try simp only [List.setIfInBounds_toArray, List.set_cons_zero, List.set_cons_succ]
          intro K hK
          rw [if_pos (by rfl)]
          go_simp
          go_at_call 24
          refine (HPt _ W_it _ _ W_r.isR).mono ?_
          rintro e w' ⟨co3, cc3, ro3, rn3, rc3, rfl, i1, bx⟩
          unfold tbV
          have e_8 : b8 = false := by cases hq : b8 with | false => rfl | true => exact absurd (w_8_7.out hq) (by simp)
          subst e_8
          have e_9 : b9 = false := by cases hq : b9 with | false => rfl | true => exact absurd (w_9_7.out hq) (by simp)
          subst e_9
          exact hK.out _ _ ⟨true, b1, b2, b3, b4, b5, true, true, false, false, b10, b11, .agg #[.string (bsOf NM), .slice co N cc, .int .i64 (KI : Nat), .bool only, .slice ro rn rc], x41, x42, x43, x44, x45, .slice ra N rca, (.tuple #[.agg #[.string (bsOf NM), .slice co3 N cc3, .int .i64 (KI : Nat), .bool only, .slice ro3 rn3 rc3], .int .i64 E]), x39, x48, x49, ra, rca, co3, cc3, ro3, rn3, rc3, (by simp only [Act.put, List.setIfInBounds_toArray, List.set_cons_zero, List.set_cons_succ]), (by simp only [Act.put, List.setIfInBounds_toArray, List.set_cons_zero, List.set_cons_succ]), hb.trans (bx.mono (Nat.le_trans hB0 hb.size)), (fun _ => rfl), cd1, cd2, cd3, cd4, cd5, (fun _ => rfl), (fun _ => rfl), (fun h => by cases h), (fun h => by cases h), cd10, (fun h => by cases h), (fun h1 => (f_t.out h1).past bx), f_o11, (fun _ => rfl), (fun _ h => by cases h), (fun _ => i1.mono hb.size), (fun h0 => absurd (f_o11b.out h0) (by simp)), (fun _ => rfl), (fun _ => rfl)⟩
        · rintro L a w ⟨b0, b1, b2, b3, b4, b5, b6, b7, b8, b9, b10, b11, x40, x41, x42, x43, x44, x45, x46, x47, x39, x48, x49, ra, rca, co2, cc2, ro2, rn2, rc2, rfl, rfl, hb, cd0, cd1, cd2, cd3, cd4, cd5, cd6, cd7, cd8, cd9, cd10, f_it, f_t, f_o11, f_o11b, f_r, f_tt, f_ts, w_8_7, w_9_7⟩ hf hd
          have hf' : b8 = false := hf
          subst hf'
          have d7 : b7 = true := hd ⟨7, .data⟩ (by simp) rfl
          subst d7
          obtain rfl := cd7.out rfl
          clear hf hd
          have W_tt := f_tt.out rfl
          try simp only [List.setIfInBounds_toArray, List.set_cons_zero, List.set_cons_succ]
          intro K hK
          rw [if_pos (by rfl)]
          go_simp
          exact hK.out _ _ ⟨b0, b1, b2, b3, b4, b5, b6, true, true, b9, b10, b11, x40, x41, x42, x43, x44, x45, x46, .tuple #[.agg #[.string (bsOf NM), .slice co2 N cc2, .int .i64 (KI : Nat), .bool only, .slice ro2 rn2 rc2], .int .i64 E], (.tuple #[.agg #[.string (bsOf NM), .slice co2 N cc2, .int .i64 (KI : Nat), .bool only, .slice ro2 rn2 rc2], .int .i64 E]), x48, x49, ra, rca, co2, cc2, ro2, rn2, rc2, (by simp only [Act.put, List.setIfInBounds_toArray, List.set_cons_zero, List.set_cons_succ]), (by simp only [Act.put, List.setIfInBounds_toArray, List.set_cons_zero, List.set_cons_succ]), hb, cd0, cd1, cd2, cd3, cd4, cd5, cd6, (fun _ => rfl), (fun _ => rfl), cd9, cd10, (fun h => by cases h), f_t, f_o11, f_o11b, (fun _ h => by cases h), f_tt, f_ts, (fun _ => rfl), (fun _ => rfl)⟩
        · rintro L a w ⟨b0, b1, b2, b3, b4, b5, b6, b7, b8, b9, b10, b11, x40, x41, x42, x43, x44, x45, x46, x47, x39, x48, x49, ra, rca, co2, cc2, ro2, rn2, rc2, rfl, rfl, hb, cd0, cd1, cd2, cd3, cd4, cd5, cd6, cd7, cd8, cd9, cd10, f_it, f_t, f_o11, f_o11b, f_r, f_tt, f_ts, w_8_7, w_9_7⟩ hf hd
          have hf' : b9 = false := hf
          subst hf'
          have d8 : b8 = true := hd ⟨8, .data⟩ (by simp) rfl
          subst d8
          obtain rfl := cd8.out rfl
          clear hf hd
          try simp only [List.setIfInBounds_toArray, List.set_cons_zero, List.set_cons_succ]
          intro K hK
          rw [if_pos (by rfl)]
          go_simp
          exact hK.out _ _ ⟨b0, b1, b2, b3, b4, b5, b6, b7, true, true, b10, b11, x40, x41, x42, x43, x44, x45, x46, x47, .tuple #[.agg #[.string (bsOf NM), .slice co2 N cc2, .int .i64 (KI : Nat), .bool only, .slice ro2 rn2 rc2], .int .i64 E], (.agg #[.string (bsOf NM), .slice co2 N cc2, .int .i64 (KI : Nat), .bool only, .slice ro2 rn2 rc2]), x49, ra, rca, co2, cc2, ro2, rn2, rc2, (by simp only [Act.put, List.setIfInBounds_toArray, List.set_cons_zero, List.set_cons_succ]), (by simp only [Act.put, List.setIfInBounds_toArray, List.set_cons_zero, List.set_cons_succ]), hb, cd0, cd1, cd2, cd3, cd4, cd5, cd6, cd7, (fun _ => rfl), (fun _ => rfl), cd10, f_it, f_t, f_o11, f_o11b, f_r, f_tt, f_ts, w_8_7, (fun _ => w_8_7.out rfl)⟩
        · rintro L a w ⟨b0, b1, b2, b3, b4, b5, b6, b7, b8, b9, b10, b11, x40, x41, x42, x43, x44, x45, x46, x47, x39, x48, x49, ra, rca, co2, cc2, ro2, rn2, rc2, rfl, rfl, hb, cd0, cd1, cd2, cd3, cd4, cd5, cd6, cd7, cd8, cd9, cd10, f_it, f_t, f_o11, f_o11b, f_r, f_tt, f_ts, w_8_7, w_9_7⟩ hf hd
          have hf' : b10 = false := hf
          subst hf'
          have d8 : b8 = true := hd ⟨8, .data⟩ (by simp) rfl
          subst d8
          obtain rfl := cd8.out rfl
          clear hf hd
          try simp only [List.setIfInBounds_toArray, List.set_cons_zero, List.set_cons_succ]
          intro K hK
          rw [if_pos (by rfl)]
          go_simp
          exact hK.out _ _ ⟨b0, b1, b2, b3, b4, b5, b6, b7, true, b9, true, b11, x40, x41, x42, x43, x44, x45, x46, x47, .tuple #[.agg #[.string (bsOf NM), .slice co2 N cc2, .int .i64 (KI : Nat), .bool only, .slice ro2 rn2 rc2], .int .i64 E], x48, (.int .i64 E), ra, rca, co2, cc2, ro2, rn2, rc2, (by simp only [Act.put, List.setIfInBounds_toArray, List.set_cons_zero, List.set_cons_succ]), (by simp only [Act.put, List.setIfInBounds_toArray, List.set_cons_zero, List.set_cons_succ]), hb, cd0, cd1, cd2, cd3, cd4, cd5, cd6, cd7, (fun _ => rfl), cd9, (fun _ => rfl), f_it, f_t, f_o11, f_o11b, f_r, f_tt, f_ts, w_8_7, w_9_7⟩
        · rintro L a w ⟨b0, b1, b2, b3, b4, b5, b6, b7, b8, b9, b10, b11, x40, x41, x42, x43, x44, x45, x46, x47, x39, x48, x49, ra, rca, co2, cc2, ro2, rn2, rc2, rfl, rfl, hb, cd0, cd1, cd2, cd3, cd4, cd5, cd6, cd7, cd8, cd9, cd10, f_it, f_t, f_o11, f_o11b, f_r, f_tt, f_ts, w_8_7, w_9_7⟩ hf hd
          have hf' : b11 = false := hf
          subst hf'
          have d9 : b9 = true := hd ⟨9, .data⟩ (by simp) rfl
          subst d9
          have d7 : b7 = true := hd ⟨7, .chain⟩ (by simp) rfl
          subst d7
          have d0 : b0 = true := hd ⟨0, .phase⟩ (by simp) rfl
          subst d0
          have d1 : b1 = true := hd ⟨1, .phase⟩ (by simp) rfl
          subst d1
          have d2 : b2 = true := hd ⟨2, .phase⟩ (by simp) rfl
          subst d2
          have d3 : b3 = true := hd ⟨3, .phase⟩ (by simp) rfl
          subst d3
          have d4 : b4 = true := hd ⟨4, .phase⟩ (by simp) rfl
          subst d4
          have d5 : b5 = true := hd ⟨5, .phase⟩ (by simp) rfl
          subst d5
          have d6 : b6 = true := hd ⟨6, .phase⟩ (by simp) rfl
          subst d6
          have d8 : b8 = true := hd ⟨8, .phase⟩ (by simp) rfl
          subst d8
          obtain rfl := cd9.out rfl
          obtain rfl := cd7.out rfl
          obtain rfl := cd0.out rfl
          obtain rfl := cd1.out rfl
          obtain rfl := cd2.out rfl
          obtain rfl := cd3.out rfl
          obtain rfl := cd4.out rfl
          obtain rfl := cd5.out rfl
          obtain rfl := cd6.out rfl
          obtain rfl := cd8.out rfl
          clear hf hd
          have W_t := f_t.out rfl
          have W_tt := f_tt.out rfl
          try simp only [List.setIfInBounds_toArray, List.set_cons_zero, List.set_cons_succ]
          intro K hK
          rw [if_pos (by rfl)]
          refine wp_store_blkT 47 _ _ rfl gt _ (tbC NM co2 N cc2 (KI : Nat) only ro2 rn2 rc2) rfl rfl _ (Lib.hid W_t) 5 szTb (tbC_size ..) (tbC_size ..) (tbC_all ..) fun w2 h8 g8 => ?_
          have hb2 := hb.grown g8 (Nat.le_trans hB0 hb.size) (fun z hz => by cases hz; exact Nat.le_refl _)
          exact hK.out _ _ ⟨true, true, true, true, true, true, true, true, true, true, b10, true, .agg #[.string (bsOf NM), .slice co N cc, .int .i64 (KI : Nat), .bool only, .slice ro rn rc], .agg #[.string (bsOf NM), .slice (some ⟨g, 0, none⟩) N cg, .int .i64 (KI : Nat), .bool only], .slice (some ⟨nb, noff, none⟩) nl nc, .int .i64 (j : Nat), .pointer (some ⟨nb, noff + j, none⟩), .int .i64 x, .slice ra N rca, .tuple #[.agg #[.string (bsOf NM), .slice co2 N cc2, .int .i64 (KI : Nat), .bool only, .slice ro2 rn2 rc2], .int .i64 E], .tuple #[.agg #[.string (bsOf NM), .slice co2 N cc2, .int .i64 (KI : Nat), .bool only, .slice ro2 rn2 rc2], .int .i64 E], .agg #[.string (bsOf NM), .slice co2 N cc2, .int .i64 (KI : Nat), .bool only, .slice ro2 rn2 rc2], x49, ra, rca, co2, cc2, ro2, rn2, rc2, (by simp only [Act.put, List.setIfInBounds_toArray, List.set_cons_zero, List.set_cons_succ]), (by simp only [Act.put, List.setIfInBounds_toArray, List.set_cons_zero, List.set_cons_succ]), hb2, (fun _ => rfl), (fun _ => rfl), (fun _ => rfl), (fun _ => rfl), (fun _ => rfl), (fun _ => rfl), (fun _ => rfl), (fun _ => rfl), (fun _ => rfl), (fun _ => rfl), cd10, (fun h => by cases h), (fun h => by cases h), (fun _ => rfl), (fun _ => rfl), (fun _ h => by cases h), (fun h0 => IsT.grown (f_tt.out h0) g8 hgtI), (fun _ => h8.out), (fun _ => rfl), (fun _ => rfl)⟩
      · rintro act V3 ⟨b0, b1, b2, b3, b4, b5, b6, b7, b8, b9, b10, b11, x40, x41, x42, x43, x44, x45, x46, x47, x39, x48, x49, ra, rca, co2, cc2, ro2, rn2, rc2, hL, rfl, hb, cd0, cd1, cd2, cd3, cd4, cd5, cd6, cd7, cd8, cd9, cd10, f_it, f_t, f_o11, f_o11b, f_r, f_tt, f_ts, w_8_7, w_9_7⟩
        have hL' : [true, true, true, true, true, true, true, true, true, true, true, true] = [b0, b1, b2, b3, b4, b5, b6, b7, b8, b9, b10, b11] := congrArg Array.toList hL
        simp only [List.cons.injEq, and_true] at hL'
        obtain ⟨rfl, rfl, rfl, rfl, rfl, rfl, rfl, rfl, rfl, rfl, rfl, rfl⟩ := hL'
        obtain rfl := cd0.out rfl
        obtain rfl := cd1.out rfl
        obtain rfl := cd2.out rfl
        obtain rfl := cd3.out rfl
        obtain rfl := cd4.out rfl
        obtain rfl := cd5.out rfl
        obtain rfl := cd6.out rfl
        obtain rfl := cd7.out rfl
        obtain rfl := cd8.out rfl
        obtain rfl := cd9.out rfl
        obtain rfl := cd10.out rfl
        have W_o11 := f_o11.out rfl
        have W_o11b := f_o11b.out rfl
        have W_tt := f_tt.out rfl
        have W_ts := f_ts.out rfl
        clear hL f_it f_t f_o11 f_o11b f_r f_tt f_ts cd0 cd1 cd2 cd3 cd4 cd5 cd6 cd7 cd8 cd9 cd10 w_8_7 w_9_7
        simp only [List.setIfInBounds_toArray, List.set_cons_zero, List.set_cons_succ]
        have hln2 := W_tt.rows.len
        have BV3 : Below p0 w V3 := BB.trans (((Below.refl _ _).drew.trans (hb.mono hp0t)))
        have hgt3 := W_ts.lt
        have XS3 : Bk V3 gs (scC NM (some ⟨g, 0, none⟩) N cg (KI : Nat) only) 40 := (hb.block gs hgsB).trans XS0
        have iG3 : IsR encCo V3 (some ⟨g, 0, none⟩) N cg F := iGk V3 hb
        clear hb
        go_wp2_with fail
        go_roundw
        case rel => exact ⟨j + 1, co2, cc2, ro2, rn2, rc2, rs2, by omega, by omega, by go_num, XS3, iG3, W_ts, W_tt.mono (Nat.zero_le _), hnx.out, by omega, BV3⟩
        case measure => simp [intOf]; omega
    · have hrn30 : rn ≤ 30 := by omega
      by_cases hjn : j < nl
      · have hjni : (j : Int) < (nl : Int) := by omega
        have hj6 : ¬ ((j : Int) < 30) := by omega
        have hFit := fit_any wr NM (some ⟨g, 0, none⟩) N cg F (KI : Nat) only iG0 (by omega) hFk nn hnw
        unfold scV at hFit
        go_upto_region 12 with (go_at_call 22; refine hFit.mono ?_; rintro e w5 ⟨ra, rca, rfl, oT, b5⟩)
        obtain ⟨gr, rfl, oR, hgr⟩ := oT.own (by omega)
        have B5 := BB.trans (b5.mono hpw)
        have hp5 := Nat.le_trans hpw b5.size
        have iT5 := iT.past b5
        have hT5 := hT0.past b5
        have XS5 := XS0.past b5
        have hln := iT.rows.len
        have hlen100 : ∀ y ∈ rs, 0 < y.length ∧ y.length ≤ 100 := fun y hy => by have := hFi.len y hy; omega
        have HPt := put_any w5 NM co N cc KI only ro rn rc F (by omega) (by omega) 0 rs iT5 (some ⟨gr, 0, none⟩) N rca _ oR.isR hFi.srt (by omega) (fun y hy => (hlen100 y hy).2) (by omega)
        clear t0 t1 t2 t3 t4 z0 z1 z2 z3
        obtain ⟨t0, t1, t2, t3, t4⟩ := tb_cells hT5
        unfold tbV at HPt
        obtain ⟨xk, hxk, hxn⟩ := hFn
        have hrow := fitRow_get (n := nn) hxk
        have hkof : kOf KI (fitRow F nn) = fitVal nn KI xk := kOf_fit hxk
        obtain ⟨vv0, hvv⟩ : ∃ v, fitVal nn KI xk = v := ⟨_, rfl⟩
        rw [hvv] at hrow hkof
        have hrl : (fitRow F nn).length = N := by rw [fitRow_len, hFl]
        rcases put_fit F hFk KI nn rs (by omega) with ⟨h1, h2, h3⟩ | ⟨h1, h2, h3⟩
        · rw [h1, h3] at HPt
          obtain ⟨co0, rfl⟩ : ∃ x, x = co := ⟨_, rfl⟩
          obtain ⟨cc0, rfl⟩ : ∃ x, x = cc := ⟨_, rfl⟩
          obtain ⟨ro0, rfl⟩ : ∃ x, x = ro := ⟨_, rfl⟩
          obtain ⟨rn0, rfl⟩ : ∃ x, x = rn := ⟨_, rfl⟩
          obtain ⟨rc0, rfl⟩ : ∃ x, x = rc := ⟨_, rfl⟩
          have hSp : Srt KI (putN KI (fitRow F nn) rs) := hFi.srt.put _ h2
          have hPm : ∀ y ∈ putN KI (fitRow F nn) rs, 0 < y.length ∧ y.length ≤ 100 := fun y hy => by
            rcases mem_putN hy with rfl | hy
            · omega
            · exact hlen100 y hy
          have hPl : (putN KI (fitRow F nn) rs).length = rn0 + 1 := by rw [put_len, hln]
          have hPa := has_put (key := KI) (fitRow F nn) rs
          have hPg := get_put (key := KI) (fitRow F nn) rs
          have hPt := take_put (key := KI) (fitRow F nn) rs
          have hPat := at_put (key := KI) (fitRow F nn) rs
          rw [← hPat] at hPg
          rw [hkof] at hPa hPg hPt
          obtain ⟨ps, hps⟩ : ∃ ps, putN KI (fitRow F nn) rs = ps := ⟨_, rfl⟩
          rw [hps] at HPt hSp hPm hPl hPa hPg hPt
          obtain ⟨rv, hrv⟩ : ∃ rv, fitRow F nn = rv := ⟨_, rfl⟩
          rw [hrv] at hPg hrow oR hrl
          have hRv := Lib.hid hrv
          clear hps hPat h2 h3 h1 hrv hkof
          go_upto_region 13 with (go_at_call 24; refine HPt.mono ?_; rintro e w6 ⟨co, cc, ro, rn, rc, rfl, i1, b6⟩; unfold tbV)
          have hrnE : rn = rn0 + 1 := by rw [← hPl, i1.rows.len]
          have bV2 : Below w5.heap.size w5 (w6.alloc (.cells #[.string (bsOf NM), .slice co N cc, .int .i64 (KI : Nat), .bool only, .slice ro rn rc] 47)) := b6.alloc b6.size _
          have hU2 : Bk (w6.alloc (.cells #[.string (bsOf NM), .slice co N cc, .int .i64 (KI : Nat), .bool only, .slice ro rn rc] 47)) w6.heap.size (tbC NM co N cc (KI : Nat) only ro rn rc) 47 := Bk.new w6 _ _
          have iU2 := (i1.past ((Below.refl w6.heap.size w6).alloc (Nat.le_refl _) (.cells #[.string (bsOf NM), .slice co N cc, .int .i64 (KI : Nat), .bool only, .slice ro rn rc] 47))).mono (Nat.zero_le _)
          generalize w6.alloc (.cells #[.string (bsOf NM), .slice co N cc, .int .i64 (KI : Nat), .bool only, .slice ro rn rc] 47) = V2 at bV2 hU2 iU2 ⊢
          obtain ⟨gq, hgq⟩ : ∃ gq, w6.heap.size = gq := ⟨_, rfl⟩
          rw [hgq] at hU2
          simp only [hgq]
          have XS2 := XS5.past bV2
          have hT2 := hT5.past bV2
          have iT2 := iT5.past bV2
          have oR2 := oR.past bV2
          have BV2 := B5.trans (bV2.mono hp5)
          have hpV2 := Nat.le_trans hp5 bV2.size
          have hrn0 : rs.length = rn0 := hln
          have hrn31 : rn ≤ 32 := by omega
          clear hgq b6 i1 HPt t0 t1 t2 t3 t4
          obtain ⟨z0, z1, z2, z3⟩ := sc_cells XS2
          obtain ⟨u0, u1, u2, u3, u4⟩ := tb_cells hU2
          obtain ⟨v0, v1, v2⟩ := own_vcells oR2 KI _ hrow
          have t0 : True := trivial
          have t1 : True := trivial
          have t2 : True := trivial
          have t3 : True := trivial
          have t4 : True := trivial
          have HGt0 := fun (w' : World) (hb : Below V2.heap.size V2.drew w') => get_any w' NM co N cc KI only ro rn rc F 0 ps (iU2.drew.past hb) vv0 hSp (by omega) (fun y hy => ⟨(hPm y hy).1, by have := (hPm y hy).2; omega⟩)
          have HTk0 := fun (w' : World) (hb : Below V2.heap.size V2 w') => take_any w' NM co N cc KI only ro rn rc F (by omega) (by omega) 0 ps (iU2.past hb) vv0 hSp (by omega) hPm
          obtain ⟨k, m, s⟩ := vv0
          unfold tbV at HGt0 HTk0
          simp only at v0 v1 v2 HGt0 HTk0
          have HGt : ∀ (w' : World), Below V2.heap.size V2.drew w' → Calls Try.prog 30 #[.agg #[.string (bsOf NM), .slice co N cc, .int .i64 (KI : Nat), .bool only, .slice ro rn rc], .agg #[.int .i64 k, .int .i64 m, .string s]] w' fun e w'' => ∃ g3 c3, e = .returned (.tuple #[.slice (some ⟨g3, 0, none⟩) N c3, .bool true]) ∧ OwnR EV w'' 55 g3 N c3 rv ∧ w'.heap.size ≤ g3 ∧ Below w'.heap.size w' w'' := fun w' hb => (HGt0 w' hb).mono fun e w'' ⟨_, hy, hz⟩ => by
            obtain ⟨g3, c3, rfl, o3, q3⟩ := hy rv hPa hPg
            rw [hrl] at o3 ⊢
            exact ⟨g3, c3, rfl, o3, q3, hz⟩
          have HTk2 : ∀ (w' : World), Below V2.heap.size V2 w' → Calls Try.prog 27 #[.agg #[.string (bsOf NM), .slice co N cc, .int .i64 (KI : Nat), .bool only, .slice ro rn rc], .agg #[.int .i64 k, .int .i64 m, .string s]] w' fun e w'' => ∃ co3 cc3 ro3 rn3 rc3 g3 c3, e = .returned (.tuple #[.agg #[.string (bsOf NM), .slice co3 N cc3, .int .i64 (KI : Nat), .bool only, .slice ro3 rn3 rc3], .slice (some ⟨g3, 0, none⟩) N c3, .int .i64 0]) ∧ IsT w'' w'.heap.size co3 N cc3 F ro3 rn3 rc3 rs ∧ OwnR EV w'' 55 g3 N c3 rv ∧ w'.heap.size ≤ g3 ∧ Below w'.heap.size w' w'' := fun w' hb => (HTk0 w' hb).mono fun e w'' ⟨_, hy, hz⟩ => by
            obtain ⟨co3, cc3, ro3, rn3, rc3, g3, c3, rfl, i3, o3, q3⟩ := hy rv hPa hPg
            rw [hPt] at i3
            rw [hrl] at o3 ⊢
            exact ⟨co3, cc3, ro3, rn3, rc3, g3, c3, rfl, i3, o3, q3, hz⟩
          have hgsB2 := XS2.lt
          have hgrB2 := oR2.lt
          have hgqB2 := hU2.lt
          have hgsB := hgsB2
          have hgrB := hgrB2
          have hgqB := hgqB2
          have hB0 : V2.heap.size ≤ V2.heap.size := Nat.le_refl _
          clear HGt0 HTk0 hPa hPg hPt hSp hPm hrnE
          go_upto_region 16 with fail
          refine region_inv (TBack16 V2.heap.size gs gq NM g N cg KI only co cc ro rn rc gr rca k m s rv) (by kernel_rfl) (by kernel_rfl) ?_ ?_ ?_
          · exact ⟨false, false, false, false, false, false, false, false, false, false, false, false, undef, undef, undef, undef, undef, undef, undef, undef, undef, undef, undef, undef, 0, 0, rfl, (by simp only [Act.put, List.setIfInBounds_toArray, List.set_cons_zero, List.set_cons_succ]), Below.refl _ _, (fun h => by cases h), (fun h => by cases h), (fun h => by cases h), (fun h => by cases h), (fun h => by cases h), (fun h => by cases h), (fun h => by cases h), (fun h => by cases h), (fun h => by cases h), (fun h => by cases h), (fun h => by cases h), (fun h => by cases h), (fun h => by cases h), (fun h => by cases h), (fun h => by cases h), (fun h => by cases h)⟩
          · refine ⟨?_, ?_, ?_, ?_, ?_, ?_, ?_, ?_, ?_, ?_, ?_, ?_, trivial⟩
            · rintro L a w ⟨b0, b1, b2, b3, b4, b5, b6, b7, b8, b9, b10, b11, x97, x98, x99, x100, x101, x102, x103, x96, x104, x105, x15, x16, gx, cx, rfl, rfl, hb, cd0, cd1, cd2, cd3, cd4, cd5, cd6, cd7, cd8, cd9, cd10, cd11, f_x, w_7_6, w_8_6, w_10_6⟩ hf hd
              have hf' : b0 = false := hf
              subst hf'
              clear hf hd
              try simp only [List.setIfInBounds_toArray, List.set_cons_zero, List.set_cons_succ]
              have z0 := (hb.cell hgqB).trans u0
              have z1 := (hb.cell hgqB).trans u1
              have z2 := (hb.cell hgqB).trans u2
              have z3 := (hb.cell hgqB).trans u3
              have z4 := (hb.cell hgqB).trans u4
              intro K hK
              rw [if_pos (by rfl)]
              go_simp
              exact hK.out _ _ ⟨true, b1, b2, b3, b4, b5, b6, b7, b8, b9, b10, b11, (.agg #[.string (bsOf NM), .slice co N cc, .int .i64 (KI : Nat), .bool only, .slice ro rn rc]), x98, x99, x100, x101, x102, x103, x96, x104, x105, x15, x16, gx, cx, (by simp only [Act.put, List.setIfInBounds_toArray, List.set_cons_zero, List.set_cons_succ]), (by simp only [Act.put, List.setIfInBounds_toArray, List.set_cons_zero, List.set_cons_succ]), hb, (fun _ => rfl), cd1, cd2, cd3, cd4, cd5, cd6, cd7, cd8, cd9, cd10, cd11, f_x, w_7_6, w_8_6, w_10_6⟩
            · rintro L a w ⟨b0, b1, b2, b3, b4, b5, b6, b7, b8, b9, b10, b11, x97, x98, x99, x100, x101, x102, x103, x96, x104, x105, x15, x16, gx, cx, rfl, rfl, hb, cd0, cd1, cd2, cd3, cd4, cd5, cd6, cd7, cd8, cd9, cd10, cd11, f_x, w_7_6, w_8_6, w_10_6⟩ hf hd
              have hf' : b1 = false := hf
              subst hf'
              clear hf hd
              try simp only [List.setIfInBounds_toArray, List.set_cons_zero, List.set_cons_succ]
              intro K hK
              rw [if_pos (by rfl)]
              go_simp
              exact hK.out _ _ ⟨b0, true, b2, b3, b4, b5, b6, b7, b8, b9, b10, b11, x97, (.slice (some ⟨gr, 0, none⟩) N rca), x99, x100, x101, x102, x103, x96, x104, x105, x15, x16, gx, cx, (by simp only [Act.put, List.setIfInBounds_toArray, List.set_cons_zero, List.set_cons_succ]), (by simp only [Act.put, List.setIfInBounds_toArray, List.set_cons_zero, List.set_cons_succ]), hb, cd0, (fun _ => rfl), cd2, cd3, cd4, cd5, cd6, cd7, cd8, cd9, cd10, cd11, f_x, w_7_6, w_8_6, w_10_6⟩
            · rintro L a w ⟨b0, b1, b2, b3, b4, b5, b6, b7, b8, b9, b10, b11, x97, x98, x99, x100, x101, x102, x103, x96, x104, x105, x15, x16, gx, cx, rfl, rfl, hb, cd0, cd1, cd2, cd3, cd4, cd5, cd6, cd7, cd8, cd9, cd10, cd11, f_x, w_7_6, w_8_6, w_10_6⟩ hf hd
              have hf' : b2 = false := hf
              subst hf'
              clear hf hd
              try simp only [List.setIfInBounds_toArray, List.set_cons_zero, List.set_cons_succ]
              intro K hK
              rw [if_pos (by rfl)]
              go_simp
              exact hK.out _ _ ⟨b0, b1, true, b3, b4, b5, b6, b7, b8, b9, b10, b11, x97, x98, (.pointer (some ⟨gs, 2, none⟩)), x100, x101, x102, x103, x96, x104, x105, x15, x16, gx, cx, (by simp only [Act.put, List.setIfInBounds_toArray, List.set_cons_zero, List.set_cons_succ]), (by simp only [Act.put, List.setIfInBounds_toArray, List.set_cons_zero, List.set_cons_succ]), hb, cd0, cd1, (fun _ => rfl), cd3, cd4, cd5, cd6, cd7, cd8, cd9, cd10, cd11, f_x, w_7_6, w_8_6, w_10_6⟩
            · rintro L a w ⟨b0, b1, b2, b3, b4, b5, b6, b7, b8, b9, b10, b11, x97, x98, x99, x100, x101, x102, x103, x96, x104, x105, x15, x16, gx, cx, rfl, rfl, hb, cd0, cd1, cd2, cd3, cd4, cd5, cd6, cd7, cd8, cd9, cd10, cd11, f_x, w_7_6, w_8_6, w_10_6⟩ hf hd
              have hf' : b3 = false := hf
              subst hf'
              have d2 : b2 = true := hd ⟨2, .data⟩ (by simp) rfl
              subst d2
              obtain rfl := cd2.out rfl
              clear hf hd
              try simp only [List.setIfInBounds_toArray, List.set_cons_zero, List.set_cons_succ]
              have z0 := (hb.cell hgsB).trans z2
              intro K hK
              rw [if_pos (by rfl)]
              go_simp
              exact hK.out _ _ ⟨b0, b1, true, true, b4, b5, b6, b7, b8, b9, b10, b11, x97, x98, .pointer (some ⟨gs, 2, none⟩), (.int .i64 (KI : Nat)), x101, x102, x103, x96, x104, x105, x15, x16, gx, cx, (by simp only [Act.put, List.setIfInBounds_toArray, List.set_cons_zero, List.set_cons_succ]), (by simp only [Act.put, List.setIfInBounds_toArray, List.set_cons_zero, List.set_cons_succ]), hb, cd0, cd1, (fun _ => rfl), (fun _ => rfl), cd4, cd5, cd6, cd7, cd8, cd9, cd10, cd11, f_x, w_7_6, w_8_6, w_10_6⟩
            · rintro L a w ⟨b0, b1, b2, b3, b4, b5, b6, b7, b8, b9, b10, b11, x97, x98, x99, x100, x101, x102, x103, x96, x104, x105, x15, x16, gx, cx, rfl, rfl, hb, cd0, cd1, cd2, cd3, cd4, cd5, cd6, cd7, cd8, cd9, cd10, cd11, f_x, w_7_6, w_8_6, w_10_6⟩ hf hd
              have hf' : b4 = false := hf
              subst hf'
              have d1 : b1 = true := hd ⟨1, .data⟩ (by simp) rfl
              subst d1
              have d3 : b3 = true := hd ⟨3, .data⟩ (by simp) rfl
              subst d3
              obtain rfl := cd1.out rfl
              obtain rfl := cd3.out rfl
              clear hf hd
              try simp only [List.setIfInBounds_toArray, List.set_cons_zero, List.set_cons_succ]
              intro K hK
              rw [if_pos (by rfl)]
              go_simp
              exact hK.out _ _ ⟨b0, true, b2, true, true, b5, b6, b7, b8, b9, b10, b11, x97, .slice (some ⟨gr, 0, none⟩) N rca, x99, .int .i64 (KI : Nat), (.pointer (some ⟨gr, KI * 3, none⟩)), x102, x103, x96, x104, x105, x15, x16, gx, cx, (by simp only [Act.put, List.setIfInBounds_toArray, List.set_cons_zero, List.set_cons_succ]), (by simp only [Act.put, List.setIfInBounds_toArray, List.set_cons_zero, List.set_cons_succ]), hb, cd0, (fun _ => rfl), cd2, (fun _ => rfl), (fun _ => rfl), cd5, cd6, cd7, cd8, cd9, cd10, cd11, f_x, w_7_6, w_8_6, w_10_6⟩
            · rintro L a w ⟨b0, b1, b2, b3, b4, b5, b6, b7, b8, b9, b10, b11, x97, x98, x99, x100, x101, x102, x103, x96, x104, x105, x15, x16, gx, cx, rfl, rfl, hb, cd0, cd1, cd2, cd3, cd4, cd5, cd6, cd7, cd8, cd9, cd10, cd11, f_x, w_7_6, w_8_6, w_10_6⟩ hf hd
              have hf' : b5 = false := hf
              subst hf'
              have d4 : b4 = true := hd ⟨4, .data⟩ (by simp) rfl
              subst d4
              obtain rfl := cd4.out rfl
              clear hf hd
              try simp only [List.setIfInBounds_toArray, List.set_cons_zero, List.set_cons_succ]
              have z0 := (hb.cell hgrB).trans v0
              have z1 := (hb.cell hgrB).trans v1
              have z2 := (hb.cell hgrB).trans v2
              intro K hK
              rw [if_pos (by rfl)]
              go_simp
              exact hK.out _ _ ⟨b0, b1, b2, b3, true, true, b6, b7, b8, b9, b10, b11, x97, x98, x99, x100, .pointer (some ⟨gr, KI * 3, none⟩), (.agg #[.int .i64 k, .int .i64 m, .string s]), x103, x96, x104, x105, x15, x16, gx, cx, (by simp only [Act.put, List.setIfInBounds_toArray, List.set_cons_zero, List.set_cons_succ]), (by simp only [Act.put, List.setIfInBounds_toArray, List.set_cons_zero, List.set_cons_succ]), hb, cd0, cd1, cd2, cd3, (fun _ => rfl), (fun _ => rfl), cd6, cd7, cd8, cd9, cd10, cd11, f_x, w_7_6, w_8_6, w_10_6⟩
            · rintro L a w ⟨b0, b1, b2, b3, b4, b5, b6, b7, b8, b9, b10, b11, x97, x98, x99, x100, x101, x102, x103, x96, x104, x105, x15, x16, gx, cx, rfl, rfl, hb, cd0, cd1, cd2, cd3, cd4, cd5, cd6, cd7, cd8, cd9, cd10, cd11, f_x, w_7_6, w_8_6, w_10_6⟩ hf hd
              have hf' : b6 = false := hf
              subst hf'
              have d0 : b0 = true := hd ⟨0, .data⟩ (by simp) rfl
              subst d0
              have d5 : b5 = true := hd ⟨5, .data⟩ (by simp) rfl
              subst d5
              obtain rfl := cd0.out rfl
              obtain rfl := cd5.out rfl
              clear hf hd
              try simp only [List.setIfInBounds_toArray, List.set_cons_zero, List.set_cons_succ]
              intro K hK
              rw [if_pos (by rfl)]
              go_simp
              go_at_call 30
              refine (HGt _ hb).mono ?_
              rintro e w' ⟨g3, c3, rfl, o3, q3, bx⟩
              have e_7 : b7 = false := by cases hq : b7 with | false => rfl | true => exact absurd (w_7_6.out hq) (by simp)
              subst e_7
              have e_8 : b8 = false := by cases hq : b8 with | false => rfl | true => exact absurd (w_8_6.out hq) (by simp)
              subst e_8
              have e_10 : b10 = false := by cases hq : b10 with | false => rfl | true => exact absurd (w_10_6.out hq) (by simp)
              subst e_10
              exact hK.out _ _ ⟨true, b1, b2, b3, b4, true, true, false, false, b9, false, b11, .agg #[.string (bsOf NM), .slice co N cc, .int .i64 (KI : Nat), .bool only, .slice ro rn rc], x98, x99, x100, x101, .agg #[.int .i64 k, .int .i64 m, .string s], (.tuple #[.slice (some ⟨g3, 0, none⟩) N c3, .bool true]), x96, x104, x105, x15, x16, g3, c3, (by simp only [Act.put, List.setIfInBounds_toArray, List.set_cons_zero, List.set_cons_succ]), (by simp only [Act.put, List.setIfInBounds_toArray, List.set_cons_zero, List.set_cons_succ]), hb.trans (bx.mono (Nat.le_trans hB0 hb.size)), (fun _ => rfl), cd1, cd2, cd3, cd4, (fun _ => rfl), (fun _ => rfl), (fun h => by cases h), (fun h => by cases h), cd9, (fun h => by cases h), cd11, (fun _ => o3), (fun _ => rfl), (fun _ => rfl), (fun _ => rfl)⟩
            · rintro L a w ⟨b0, b1, b2, b3, b4, b5, b6, b7, b8, b9, b10, b11, x97, x98, x99, x100, x101, x102, x103, x96, x104, x105, x15, x16, gx, cx, rfl, rfl, hb, cd0, cd1, cd2, cd3, cd4, cd5, cd6, cd7, cd8, cd9, cd10, cd11, f_x, w_7_6, w_8_6, w_10_6⟩ hf hd
              have hf' : b7 = false := hf
              subst hf'
              have d6 : b6 = true := hd ⟨6, .data⟩ (by simp) rfl
              subst d6
              obtain rfl := cd6.out rfl
              clear hf hd
              have W_x := f_x.out rfl
              try simp only [List.setIfInBounds_toArray, List.set_cons_zero, List.set_cons_succ]
              intro K hK
              rw [if_pos (by rfl)]
              go_simp
              exact hK.out _ _ ⟨b0, b1, b2, b3, b4, b5, true, true, b8, b9, b10, b11, x97, x98, x99, x100, x101, x102, .tuple #[.slice (some ⟨gx, 0, none⟩) N cx, .bool true], (.tuple #[.slice (some ⟨gx, 0, none⟩) N cx, .bool true]), x104, x105, x15, x16, gx, cx, (by simp only [Act.put, List.setIfInBounds_toArray, List.set_cons_zero, List.set_cons_succ]), (by simp only [Act.put, List.setIfInBounds_toArray, List.set_cons_zero, List.set_cons_succ]), hb, cd0, cd1, cd2, cd3, cd4, cd5, (fun _ => rfl), (fun _ => rfl), cd8, cd9, cd10, cd11, f_x, (fun _ => rfl), (fun _ => rfl), (fun _ => rfl)⟩
            · rintro L a w ⟨b0, b1, b2, b3, b4, b5, b6, b7, b8, b9, b10, b11, x97, x98, x99, x100, x101, x102, x103, x96, x104, x105, x15, x16, gx, cx, rfl, rfl, hb, cd0, cd1, cd2, cd3, cd4, cd5, cd6, cd7, cd8, cd9, cd10, cd11, f_x, w_7_6, w_8_6, w_10_6⟩ hf hd
              have hf' : b8 = false := hf
              subst hf'
              have d7 : b7 = true := hd ⟨7, .data⟩ (by simp) rfl
              subst d7
              obtain rfl := cd7.out rfl
              clear hf hd
              try simp only [List.setIfInBounds_toArray, List.set_cons_zero, List.set_cons_succ]
              intro K hK
              rw [if_pos (by rfl)]
              go_simp
              exact hK.out _ _ ⟨b0, b1, b2, b3, b4, b5, b6, true, true, b9, b10, b11, x97, x98, x99, x100, x101, x102, x103, .tuple #[.slice (some ⟨gx, 0, none⟩) N cx, .bool true], (.slice (some ⟨gx, 0, none⟩) N cx), x105, x15, x16, gx, cx, (by simp only [Act.put, List.setIfInBounds_toArray, List.set_cons_zero, List.set_cons_succ]), (by simp only [Act.put, List.setIfInBounds_toArray, List.set_cons_zero, List.set_cons_succ]), hb, cd0, cd1, cd2, cd3, cd4, cd5, cd6, (fun _ => rfl), (fun _ => rfl), cd9, cd10, cd11, f_x, w_7_6, (fun _ => w_7_6.out rfl), w_10_6⟩
            · rintro L a w ⟨b0, b1, b2, b3, b4, b5, b6, b7, b8, b9, b10, b11, x97, x98, x99, x100, x101, x102, x103, x96, x104, x105, x15, x16, gx, cx, rfl, rfl, hb, cd0, cd1, cd2, cd3, cd4, cd5, cd6, cd7, cd8, cd9, cd10, cd11, f_x, w_7_6, w_8_6, w_10_6⟩ hf hd
              have hf' : b9 = false := hf
              subst hf'
              have d7 : b7 = true := hd ⟨7, .data⟩ (by simp) rfl
              subst d7
              obtain rfl := cd7.out rfl
              clear hf hd
              try simp only [List.setIfInBounds_toArray, List.set_cons_zero, List.set_cons_succ]
              intro K hK
              rw [if_pos (by rfl)]
              go_simp
              exact hK.out _ _ ⟨b0, b1, b2, b3, b4, b5, b6, true, b8, true, b10, b11, x97, x98, x99, x100, x101, x102, x103, .tuple #[.slice (some ⟨gx, 0, none⟩) N cx, .bool true], x104, (.bool true), x15, x16, gx, cx, (by simp only [Act.put, List.setIfInBounds_toArray, List.set_cons_zero, List.set_cons_succ]), (by simp only [Act.put, List.setIfInBounds_toArray, List.set_cons_zero, List.set_cons_succ]), hb, cd0, cd1, cd2, cd3, cd4, cd5, cd6, (fun _ => rfl), cd8, (fun _ => rfl), cd10, cd11, f_x, w_7_6, w_8_6, w_10_6⟩
            · rintro L a w ⟨b0, b1, b2, b3, b4, b5, b6, b7, b8, b9, b10, b11, x97, x98, x99, x100, x101, x102, x103, x96, x104, x105, x15, x16, gx, cx, rfl, rfl, hb, cd0, cd1, cd2, cd3, cd4, cd5, cd6, cd7, cd8, cd9, cd10, cd11, f_x, w_7_6, w_8_6, w_10_6⟩ hf hd
              have hf' : b10 = false := hf
              subst hf'
              have d8 : b8 = true := hd ⟨8, .data⟩ (by simp) rfl
              subst d8
              have d6 : b6 = true := hd ⟨6, .chain⟩ (by simp) rfl
              subst d6
              have d0 : b0 = true := hd ⟨0, .phase⟩ (by simp) rfl
              subst d0
              have d1 : b1 = true := hd ⟨1, .phase⟩ (by simp) rfl
              subst d1
              have d2 : b2 = true := hd ⟨2, .phase⟩ (by simp) rfl
              subst d2
              have d3 : b3 = true := hd ⟨3, .phase⟩ (by simp) rfl
              subst d3
              have d4 : b4 = true := hd ⟨4, .phase⟩ (by simp) rfl
              subst d4
              have d5 : b5 = true := hd ⟨5, .phase⟩ (by simp) rfl
              subst d5
              have d7 : b7 = true := hd ⟨7, .phase⟩ (by simp) rfl
              subst d7
              obtain rfl := cd8.out rfl
              obtain rfl := cd6.out rfl
              obtain rfl := cd0.out rfl
              obtain rfl := cd1.out rfl
              obtain rfl := cd2.out rfl
              obtain rfl := cd3.out rfl
              obtain rfl := cd4.out rfl
              obtain rfl := cd5.out rfl
              obtain rfl := cd7.out rfl
              clear hf hd
              have W_x := f_x.out rfl
              try simp only [List.setIfInBounds_toArray, List.set_cons_zero, List.set_cons_succ]
              intro K hK
              rw [if_pos (by rfl)]
              go_simp
              exact hK.out _ _ ⟨true, true, true, true, true, true, true, true, true, b9, true, b11, .agg #[.string (bsOf NM), .slice co N cc, .int .i64 (KI : Nat), .bool only, .slice ro rn rc], .slice (some ⟨gr, 0, none⟩) N rca, .pointer (some ⟨gs, 2, none⟩), .int .i64 (KI : Nat), .pointer (some ⟨gr, KI * 3, none⟩), .agg #[.int .i64 k, .int .i64 m, .string s], .tuple #[.slice (some ⟨gx, 0, none⟩) N cx, .bool true], .tuple #[.slice (some ⟨gx, 0, none⟩) N cx, .bool true], .slice (some ⟨gx, 0, none⟩) N cx, x105, (.slice (some ⟨gx, 0, none⟩) N cx), x16, gx, cx, (by simp only [Act.put, List.setIfInBounds_toArray, List.set_cons_zero, List.set_cons_succ]), (by simp only [Act.put, List.setIfInBounds_toArray, List.set_cons_zero, List.set_cons_succ]), hb, (fun _ => rfl), (fun _ => rfl), (fun _ => rfl), (fun _ => rfl), (fun _ => rfl), (fun _ => rfl), (fun _ => rfl), (fun _ => rfl), (fun _ => rfl), cd9, (fun _ => rfl), cd11, f_x, (fun _ => rfl), (fun _ => rfl), (fun _ => rfl)⟩
            · rintro L a w ⟨b0, b1, b2, b3, b4, b5, b6, b7, b8, b9, b10, b11, x97, x98, x99, x100, x101, x102, x103, x96, x104, x105, x15, x16, gx, cx, rfl, rfl, hb, cd0, cd1, cd2, cd3, cd4, cd5, cd6, cd7, cd8, cd9, cd10, cd11, f_x, w_7_6, w_8_6, w_10_6⟩ hf hd
              have hf' : b11 = false := hf
              subst hf'
              have d9 : b9 = true := hd ⟨9, .data⟩ (by simp) rfl
              subst d9
              have d10 : b10 = true := hd ⟨10, .chain⟩ (by simp) rfl
              subst d10
              have d0 : b0 = true := hd ⟨0, .phase⟩ (by simp) rfl
              subst d0
              have d1 : b1 = true := hd ⟨1, .phase⟩ (by simp) rfl
              subst d1
              have d2 : b2 = true := hd ⟨2, .phase⟩ (by simp) rfl
              subst d2
              have d3 : b3 = true := hd ⟨3, .phase⟩ (by simp) rfl
              subst d3
              have d4 : b4 = true := hd ⟨4, .phase⟩ (by simp) rfl
              subst d4
              have d5 : b5 = true := hd ⟨5, .phase⟩ (by simp) rfl
              subst d5
              have d6 : b6 = true := hd ⟨6, .phase⟩ (by simp) rfl
              subst d6
              have d7 : b7 = true := hd ⟨7, .phase⟩ (by simp) rfl
              subst d7
              have d8 : b8 = true := hd ⟨8, .phase⟩ (by simp) rfl
              subst d8
              obtain rfl := cd9.out rfl
              obtain rfl := cd10.out rfl
              obtain rfl := cd0.out rfl
              obtain rfl := cd1.out rfl
              obtain rfl := cd2.out rfl
              obtain rfl := cd3.out rfl
              obtain rfl := cd4.out rfl
              obtain rfl := cd5.out rfl
              obtain rfl := cd6.out rfl
              obtain rfl := cd7.out rfl
              obtain rfl := cd8.out rfl
              clear hf hd
              have W_x := f_x.out rfl
              try simp only [List.setIfInBounds_toArray, List.set_cons_zero, List.set_cons_succ]
              intro K hK
              rw [if_pos (by rfl)]
              go_simp
              exact hK.out _ _ ⟨true, true, true, true, true, true, true, true, true, true, true, true, .agg #[.string (bsOf NM), .slice co N cc, .int .i64 (KI : Nat), .bool only, .slice ro rn rc], .slice (some ⟨gr, 0, none⟩) N rca, .pointer (some ⟨gs, 2, none⟩), .int .i64 (KI : Nat), .pointer (some ⟨gr, KI * 3, none⟩), .agg #[.int .i64 k, .int .i64 m, .string s], .tuple #[.slice (some ⟨gx, 0, none⟩) N cx, .bool true], .tuple #[.slice (some ⟨gx, 0, none⟩) N cx, .bool true], .slice (some ⟨gx, 0, none⟩) N cx, .bool true, .slice (some ⟨gx, 0, none⟩) N cx, (.bool true), gx, cx, (by simp only [Act.put, List.setIfInBounds_toArray, List.set_cons_zero, List.set_cons_succ]), (by simp only [Act.put, List.setIfInBounds_toArray, List.set_cons_zero, List.set_cons_succ]), hb, (fun _ => rfl), (fun _ => rfl), (fun _ => rfl), (fun _ => rfl), (fun _ => rfl), (fun _ => rfl), (fun _ => rfl), (fun _ => rfl), (fun _ => rfl), (fun _ => rfl), (fun _ => rfl), (fun _ => rfl), f_x, (fun _ => rfl), (fun _ => rfl), (fun _ => rfl)⟩
          · rintro act V5 ⟨b0, b1, b2, b3, b4, b5, b6, b7, b8, b9, b10, b11, x97, x98, x99, x100, x101, x102, x103, x96, x104, x105, x15, x16, gx, cx, hL, rfl, hb, cd0, cd1, cd2, cd3, cd4, cd5, cd6, cd7, cd8, cd9, cd10, cd11, f_x, w_7_6, w_8_6, w_10_6⟩
            have hL' : [true, true, true, true, true, true, true, true, true, true, true, true] = [b0, b1, b2, b3, b4, b5, b6, b7, b8, b9, b10, b11] := congrArg Array.toList hL
            simp only [List.cons.injEq, and_true] at hL'
            obtain ⟨rfl, rfl, rfl, rfl, rfl, rfl, rfl, rfl, rfl, rfl, rfl, rfl⟩ := hL'
            obtain rfl := cd0.out rfl
            obtain rfl := cd1.out rfl
            obtain rfl := cd2.out rfl
            obtain rfl := cd3.out rfl
            obtain rfl := cd4.out rfl
            obtain rfl := cd5.out rfl
            obtain rfl := cd6.out rfl
            obtain rfl := cd7.out rfl
            obtain rfl := cd8.out rfl
            obtain rfl := cd9.out rfl
            obtain rfl := cd10.out rfl
            obtain rfl := cd11.out rfl
            have W_x := f_x.out rfl
            clear hL f_x cd0 cd1 cd2 cd3 cd4 cd5 cd6 cd7 cd8 cd9 cd10 cd11 w_7_6 w_8_6 w_10_6
            simp only [List.setIfInBounds_toArray, List.set_cons_zero, List.set_cons_succ]
            have bV5 : Below V2.heap.size V2 V5 := (Below.refl _ _).drew.trans hb
            have BV5 := BV2.trans (bV5.mono hpV2)
            have hpV5 := Nat.le_trans hpV2 bV5.size
            clear hb z0 z1 z2 z3 v0 v1 v2 u0 u1 u2 u3 u4 t0 t1 t2 t3 t4
            obtain ⟨z0, z1, z2, z3⟩ := sc_cells (XS2.past bV5)
            obtain ⟨v0, v1, v2⟩ := own_vcells (oR2.past bV5) KI _ hrow
            obtain ⟨u0, u1, u2, u3, u4⟩ := tb_cells (hU2.past bV5)
            have hgsB : gs < V5.heap.size := Nat.lt_of_lt_of_le hgsB2 bV5.size
            have hgrB : gr < V5.heap.size := Nat.lt_of_lt_of_le hgrB2 bV5.size
            have hgqB : gq < V5.heap.size := Nat.lt_of_lt_of_le hgqB2 bV5.size
            have hB0 : V5.heap.size ≤ V5.heap.size := Nat.le_refl _
            have HTk := fun (w' : World) (hb : Below V5.heap.size V5.drew w') => HTk2 w' (bV5.trans (((Below.refl _ _).drew.trans hb).mono bV5.size))
            go_upto_region 17 with fail
            refine region_inv (TBack17 V5.heap.size gs gq NM g N cg KI only co cc ro rn rc gr rca k m s F rs rv) (by kernel_rfl) (by kernel_rfl) ?_ ?_ ?_
            · exact ⟨false, false, false, false, false, false, false, false, false, false, false, false, false, false, false, undef, undef, undef, undef, undef, undef, undef, undef, undef, undef, undef, undef, undef, undef, none, 0, none, 0, 0, 0, 0, 0, rfl, (by simp only [Act.put, List.setIfInBounds_toArray, List.set_cons_zero, List.set_cons_succ]), Below.refl _ _, (fun h => by cases h), (fun h => by cases h), (fun h => by cases h), (fun h => by cases h), (fun h => by cases h), (fun h => by cases h), (fun h => by cases h), (fun h => by cases h), (fun h => by cases h), (fun h => by cases h), (fun h => by cases h), (fun h => by cases h), (fun h => by cases h), (fun h => by cases h), (fun h => by cases h), (fun h => by cases h), (fun h => by cases h), (fun h => by cases h), (fun h => by cases h), (fun h => by cases h), (fun h => by cases h), (fun h => by cases h), (fun h => by cases h), (fun h => by cases h), (fun h => by cases h), (fun h => by cases h)⟩
            · refine ⟨?_, ?_, ?_, ?_, ?_, ?_, ?_, ?_, ?_, ?_, ?_, ?_, ?_, ?_, ?_, trivial⟩
              · rintro L a w ⟨b0, b1, b2, b3, b4, b5, b6, b7, b8, b9, b10, b11, b12, b13, b14, x107, x108, x109, x110, x111, x112, x113, x106, x114, x115, x116, x17, x18, x19, co2, cc2, ro2, rn2, rc2, gy, cy, gu, rfl, rfl, hb, cd0, cd1, cd2, cd3, cd4, cd5, cd6, cd7, cd8, cd9, cd10, cd11, cd13, cd14, f_tt, f_st, f_lt, f_z, f_lg, f_s, f_o12, f_o12b, w_7_6, w_8_6, w_9_6, w_13_6⟩ hf hd
                have hf' : b0 = false := hf
                subst hf'
                clear hf hd
                try simp only [List.setIfInBounds_toArray, List.set_cons_zero, List.set_cons_succ]
                have z0 := (hb.cell hgqB).trans u0
                have z1 := (hb.cell hgqB).trans u1
                have z2 := (hb.cell hgqB).trans u2
                have z3 := (hb.cell hgqB).trans u3
                have z4 := (hb.cell hgqB).trans u4
                intro K hK
                rw [if_pos (by rfl)]
                go_simp
                exact hK.out _ _ ⟨true, b1, b2, b3, b4, b5, b6, b7, b8, b9, b10, b11, b12, b13, b14, (.agg #[.string (bsOf NM), .slice co N cc, .int .i64 (KI : Nat), .bool only, .slice ro rn rc]), x108, x109, x110, x111, x112, x113, x106, x114, x115, x116, x17, x18, x19, co2, cc2, ro2, rn2, rc2, gy, cy, gu, (by simp only [Act.put, List.setIfInBounds_toArray, List.set_cons_zero, List.set_cons_succ]), (by simp only [Act.put, List.setIfInBounds_toArray, List.set_cons_zero, List.set_cons_succ]), hb, (fun _ => rfl), cd1, cd2, cd3, cd4, cd5, cd6, cd7, cd8, cd9, cd10, cd11, cd13, cd14, f_tt, f_st, f_lt, f_z, f_lg, f_s, f_o12, f_o12b, w_7_6, w_8_6, w_9_6, w_13_6⟩
              · rintro L a w ⟨b0, b1, b2, b3, b4, b5, b6, b7, b8, b9, b10, b11, b12, b13, b14, x107, x108, x109, x110, x111, x112, x113, x106, x114, x115, x116, x17, x18, x19, co2, cc2, ro2, rn2, rc2, gy, cy, gu, rfl, rfl, hb, cd0, cd1, cd2, cd3, cd4, cd5, cd6, cd7, cd8, cd9, cd10, cd11, cd13, cd14, f_tt, f_st, f_lt, f_z, f_lg, f_s, f_o12, f_o12b, w_7_6, w_8_6, w_9_6, w_13_6⟩ hf hd
                have hf' : b1 = false := hf
                subst hf'
                clear hf hd
                try simp only [List.setIfInBounds_toArray, List.set_cons_zero, List.set_cons_succ]
                intro K hK
                rw [if_pos (by rfl)]
                go_simp
                exact hK.out _ _ ⟨b0, true, b2, b3, b4, b5, b6, b7, b8, b9, b10, b11, b12, b13, b14, x107, (.slice (some ⟨gr, 0, none⟩) N rca), x109, x110, x111, x112, x113, x106, x114, x115, x116, x17, x18, x19, co2, cc2, ro2, rn2, rc2, gy, cy, gu, (by simp only [Act.put, List.setIfInBounds_toArray, List.set_cons_zero, List.set_cons_succ]), (by simp only [Act.put, List.setIfInBounds_toArray, List.set_cons_zero, List.set_cons_succ]), hb, cd0, (fun _ => rfl), cd2, cd3, cd4, cd5, cd6, cd7, cd8, cd9, cd10, cd11, cd13, cd14, f_tt, f_st, f_lt, f_z, f_lg, f_s, f_o12, f_o12b, w_7_6, w_8_6, w_9_6, w_13_6⟩
              · rintro L a w ⟨b0, b1, b2, b3, b4, b5, b6, b7, b8, b9, b10, b11, b12, b13, b14, x107, x108, x109, x110, x111, x112, x113, x106, x114, x115, x116, x17, x18, x19, co2, cc2, ro2, rn2, rc2, gy, cy, gu, rfl, rfl, hb, cd0, cd1, cd2, cd3, cd4, cd5, cd6, cd7, cd8, cd9, cd10, cd11, cd13, cd14, f_tt, f_st, f_lt, f_z, f_lg, f_s, f_o12, f_o12b, w_7_6, w_8_6, w_9_6, w_13_6⟩ hf hd
                have hf' : b2 = false := hf
                subst hf'
                clear hf hd
                try simp only [List.setIfInBounds_toArray, List.set_cons_zero, List.set_cons_succ]
                intro K hK
                rw [if_pos (by rfl)]
                go_simp
                exact hK.out _ _ ⟨b0, b1, true, b3, b4, b5, b6, b7, b8, b9, b10, b11, b12, b13, b14, x107, x108, (.pointer (some ⟨gs, 2, none⟩)), x110, x111, x112, x113, x106, x114, x115, x116, x17, x18, x19, co2, cc2, ro2, rn2, rc2, gy, cy, gu, (by simp only [Act.put, List.setIfInBounds_toArray, List.set_cons_zero, List.set_cons_succ]), (by simp only [Act.put, List.setIfInBounds_toArray, List.set_cons_zero, List.set_cons_succ]), hb, cd0, cd1, (fun _ => rfl), cd3, cd4, cd5, cd6, cd7, cd8, cd9, cd10, cd11, cd13, cd14, f_tt, f_st, f_lt, f_z, f_lg, f_s, f_o12, f_o12b, w_7_6, w_8_6, w_9_6, w_13_6⟩
              · rintro L a w ⟨b0, b1, b2, b3, b4, b5, b6, b7, b8, b9, b10, b11, b12, b13, b14, x107, x108, x109, x110, x111, x112, x113, x106, x114, x115, x116, x17, x18, x19, co2, cc2, ro2, rn2, rc2, gy, cy, gu, rfl, rfl, hb, cd0, cd1, cd2, cd3, cd4, cd5, cd6, cd7, cd8, cd9, cd10, cd11, cd13, cd14, f_tt, f_st, f_lt, f_z, f_lg, f_s, f_o12, f_o12b, w_7_6, w_8_6, w_9_6, w_13_6⟩ hf hd
                have hf' : b3 = false := hf
                subst hf'
                have d2 : b2 = true := hd ⟨2, .data⟩ (by simp) rfl
                subst d2
                obtain rfl := cd2.out rfl
                clear hf hd
                try simp only [List.setIfInBounds_toArray, List.set_cons_zero, List.set_cons_succ]
                have z0 := (hb.cell hgsB).trans z2
                intro K hK
                rw [if_pos (by rfl)]
                go_simp
                exact hK.out _ _ ⟨b0, b1, true, true, b4, b5, b6, b7, b8, b9, b10, b11, b12, b13, b14, x107, x108, .pointer (some ⟨gs, 2, none⟩), (.int .i64 (KI : Nat)), x111, x112, x113, x106, x114, x115, x116, x17, x18, x19, co2, cc2, ro2, rn2, rc2, gy, cy, gu, (by simp only [Act.put, List.setIfInBounds_toArray, List.set_cons_zero, List.set_cons_succ]), (by simp only [Act.put, List.setIfInBounds_toArray, List.set_cons_zero, List.set_cons_succ]), hb, cd0, cd1, (fun _ => rfl), (fun _ => rfl), cd4, cd5, cd6, cd7, cd8, cd9, cd10, cd11, cd13, cd14, f_tt, f_st, f_lt, f_z, f_lg, f_s, f_o12, f_o12b, w_7_6, w_8_6, w_9_6, w_13_6⟩
              · rintro L a w ⟨b0, b1, b2, b3, b4, b5, b6, b7, b8, b9, b10, b11, b12, b13, b14, x107, x108, x109, x110, x111, x112, x113, x106, x114, x115, x116, x17, x18, x19, co2, cc2, ro2, rn2, rc2, gy, cy, gu, rfl, rfl, hb, cd0, cd1, cd2, cd3, cd4, cd5, cd6, cd7, cd8, cd9, cd10, cd11, cd13, cd14, f_tt, f_st, f_lt, f_z, f_lg, f_s, f_o12, f_o12b, w_7_6, w_8_6, w_9_6, w_13_6⟩ hf hd
                have hf' : b4 = false := hf
                subst hf'
                have d1 : b1 = true := hd ⟨1, .data⟩ (by simp) rfl
                subst d1
                have d3 : b3 = true := hd ⟨3, .data⟩ (by simp) rfl
                subst d3
                obtain rfl := cd1.out rfl
                obtain rfl := cd3.out rfl
                clear hf hd
                try simp only [List.setIfInBounds_toArray, List.set_cons_zero, List.set_cons_succ]
                intro K hK
                rw [if_pos (by rfl)]
                go_simp
                exact hK.out _ _ ⟨b0, true, b2, true, true, b5, b6, b7, b8, b9, b10, b11, b12, b13, b14, x107, .slice (some ⟨gr, 0, none⟩) N rca, x109, .int .i64 (KI : Nat), (.pointer (some ⟨gr, KI * 3, none⟩)), x112, x113, x106, x114, x115, x116, x17, x18, x19, co2, cc2, ro2, rn2, rc2, gy, cy, gu, (by simp only [Act.put, List.setIfInBounds_toArray, List.set_cons_zero, List.set_cons_succ]), (by simp only [Act.put, List.setIfInBounds_toArray, List.set_cons_zero, List.set_cons_succ]), hb, cd0, (fun _ => rfl), cd2, (fun _ => rfl), (fun _ => rfl), cd5, cd6, cd7, cd8, cd9, cd10, cd11, cd13, cd14, f_tt, f_st, f_lt, f_z, f_lg, f_s, f_o12, f_o12b, w_7_6, w_8_6, w_9_6, w_13_6⟩
              · rintro L a w ⟨b0, b1, b2, b3, b4, b5, b6, b7, b8, b9, b10, b11, b12, b13, b14, x107, x108, x109, x110, x111, x112, x113, x106, x114, x115, x116, x17, x18, x19, co2, cc2, ro2, rn2, rc2, gy, cy, gu, rfl, rfl, hb, cd0, cd1, cd2, cd3, cd4, cd5, cd6, cd7, cd8, cd9, cd10, cd11, cd13, cd14, f_tt, f_st, f_lt, f_z, f_lg, f_s, f_o12, f_o12b, w_7_6, w_8_6, w_9_6, w_13_6⟩ hf hd
                have hf' : b5 = false := hf
                subst hf'
                have d4 : b4 = true := hd ⟨4, .data⟩ (by simp) rfl
                subst d4
                obtain rfl := cd4.out rfl
                clear hf hd
                try simp only [List.setIfInBounds_toArray, List.set_cons_zero, List.set_cons_succ]
                have z0 := (hb.cell hgrB).trans v0
                have z1 := (hb.cell hgrB).trans v1
                have z2 := (hb.cell hgrB).trans v2
                intro K hK
                rw [if_pos (by rfl)]
                go_simp
                exact hK.out _ _ ⟨b0, b1, b2, b3, true, true, b6, b7, b8, b9, b10, b11, b12, b13, b14, x107, x108, x109, x110, .pointer (some ⟨gr, KI * 3, none⟩), (.agg #[.int .i64 k, .int .i64 m, .string s]), x113, x106, x114, x115, x116, x17, x18, x19, co2, cc2, ro2, rn2, rc2, gy, cy, gu, (by simp only [Act.put, List.setIfInBounds_toArray, List.set_cons_zero, List.set_cons_succ]), (by simp only [Act.put, List.setIfInBounds_toArray, List.set_cons_zero, List.set_cons_succ]), hb, cd0, cd1, cd2, cd3, (fun _ => rfl), (fun _ => rfl), cd6, cd7, cd8, cd9, cd10, cd11, cd13, cd14, f_tt, f_st, f_lt, f_z, f_lg, f_s, f_o12, f_o12b, w_7_6, w_8_6, w_9_6, w_13_6⟩
              · rintro L a w ⟨b0, b1, b2, b3, b4, b5, b6, b7, b8, b9, b10, b11, b12, b13, b14, x107, x108, x109, x110, x111, x112, x113, x106, x114, x115, x116, x17, x18, x19, co2, cc2, ro2, rn2, rc2, gy, cy, gu, rfl, rfl, hb, cd0, cd1, cd2, cd3, cd4, cd5, cd6, cd7, cd8, cd9, cd10, cd11, cd13, cd14, f_tt, f_st, f_lt, f_z, f_lg, f_s, f_o12, f_o12b, w_7_6, w_8_6, w_9_6, w_13_6⟩ hf hd
                have hf' : b6 = false := hf
                subst hf'
                have d0 : b0 = true := hd ⟨0, .data⟩ (by simp) rfl
                subst d0
                have d5 : b5 = true := hd ⟨5, .data⟩ (by simp) rfl
                subst d5
                obtain rfl := cd0.out rfl
                obtain rfl := cd5.out rfl
                clear hf hd
                try simp only [List.setIfInBounds_toArray, List.set_cons_zero, List.set_cons_succ]
                intro K hK
                rw [if_pos (by rfl)]
                go_simp
                go_at_call 27
                refine (HTk _ hb).mono ?_
                rintro e w' ⟨co3, cc3, ro3, rn3, rc3, g3, c3, rfl, i1, o1, q1, bx⟩
                have e_7 : b7 = false := by cases hq : b7 with | false => rfl | true => exact absurd (w_7_6.out hq) (by simp)
                subst e_7
                have e_8 : b8 = false := by cases hq : b8 with | false => rfl | true => exact absurd (w_8_6.out hq) (by simp)
                subst e_8
                have e_9 : b9 = false := by cases hq : b9 with | false => rfl | true => exact absurd (w_9_6.out hq) (by simp)
                subst e_9
                have e_13 : b13 = false := by cases hq : b13 with | false => rfl | true => exact absurd (w_13_6.out hq) (by simp)
                subst e_13
                exact hK.out _ _ ⟨true, b1, b2, b3, b4, true, true, false, false, false, b10, b11, b12, false, b14, .agg #[.string (bsOf NM), .slice co N cc, .int .i64 (KI : Nat), .bool only, .slice ro rn rc], x108, x109, x110, x111, .agg #[.int .i64 k, .int .i64 m, .string s], (.tuple #[.agg #[.string (bsOf NM), .slice co3 N cc3, .int .i64 (KI : Nat), .bool only, .slice ro3 rn3 rc3], .slice (some ⟨g3, 0, none⟩) N c3, .int .i64 0]), x106, x114, x115, x116, x17, x18, x19, co3, cc3, ro3, rn3, rc3, g3, c3, gu, (by simp only [Act.put, List.setIfInBounds_toArray, List.set_cons_zero, List.set_cons_succ]), (by simp only [Act.put, List.setIfInBounds_toArray, List.set_cons_zero, List.set_cons_succ]), hb.trans (bx.mono (Nat.le_trans hB0 hb.size)), (fun _ => rfl), cd1, cd2, cd3, cd4, (fun _ => rfl), (fun _ => rfl), (fun h => by cases h), (fun h => by cases h), (fun h => by cases h), cd10, cd11, (fun h => by cases h), cd14, (fun _ => ⟨i1.mono hb.size, o1⟩), (fun _ _ => fun h w'' gw => ⟨(i1.grown gw (f_lt.out h)).mono hb.size, o1.grown gw (ne_of_ge (f_lt.out h) q1)⟩), (fun h0 => Nat.lt_of_lt_of_le (f_lt.out h0) bx.size), (fun h0 h1 => (f_z.out h0 h1).past bx), f_lg, (fun h0 => absurd (f_o12.out h0) (by simp)), (fun _ => rfl), f_o12b, (fun _ => rfl), (fun _ => rfl), (fun _ => rfl), (fun _ => rfl)⟩
              · rintro L a w ⟨b0, b1, b2, b3, b4, b5, b6, b7, b8, b9, b10, b11, b12, b13, b14, x107, x108, x109, x110, x111, x112, x113, x106, x114, x115, x116, x17, x18, x19, co2, cc2, ro2, rn2, rc2, gy, cy, gu, rfl, rfl, hb, cd0, cd1, cd2, cd3, cd4, cd5, cd6, cd7, cd8, cd9, cd10, cd11, cd13, cd14, f_tt, f_st, f_lt, f_z, f_lg, f_s, f_o12, f_o12b, w_7_6, w_8_6, w_9_6, w_13_6⟩ hf hd
                have hf' : b7 = false := hf
                subst hf'
                have d6 : b6 = true := hd ⟨6, .data⟩ (by simp) rfl
                subst d6
                obtain rfl := cd6.out rfl
                clear hf hd
                have W_tt := f_tt.out rfl
                try simp only [List.setIfInBounds_toArray, List.set_cons_zero, List.set_cons_succ]
                intro K hK
                rw [if_pos (by rfl)]
                go_simp
                exact hK.out _ _ ⟨b0, b1, b2, b3, b4, b5, true, true, b8, b9, b10, b11, b12, b13, b14, x107, x108, x109, x110, x111, x112, .tuple #[.agg #[.string (bsOf NM), .slice co2 N cc2, .int .i64 (KI : Nat), .bool only, .slice ro2 rn2 rc2], .slice (some ⟨gy, 0, none⟩) N cy, .int .i64 0], (.tuple #[.agg #[.string (bsOf NM), .slice co2 N cc2, .int .i64 (KI : Nat), .bool only, .slice ro2 rn2 rc2], .slice (some ⟨gy, 0, none⟩) N cy, .int .i64 0]), x114, x115, x116, x17, x18, x19, co2, cc2, ro2, rn2, rc2, gy, cy, gu, (by simp only [Act.put, List.setIfInBounds_toArray, List.set_cons_zero, List.set_cons_succ]), (by simp only [Act.put, List.setIfInBounds_toArray, List.set_cons_zero, List.set_cons_succ]), hb, cd0, cd1, cd2, cd3, cd4, cd5, (fun _ => rfl), (fun _ => rfl), cd8, cd9, cd10, cd11, cd13, cd14, f_tt, f_st, f_lt, f_z, f_lg, f_s, f_o12, f_o12b, (fun _ => rfl), (fun _ => rfl), (fun _ => rfl), (fun _ => rfl)⟩
              · rintro L a w ⟨b0, b1, b2, b3, b4, b5, b6, b7, b8, b9, b10, b11, b12, b13, b14, x107, x108, x109, x110, x111, x112, x113, x106, x114, x115, x116, x17, x18, x19, co2, cc2, ro2, rn2, rc2, gy, cy, gu, rfl, rfl, hb, cd0, cd1, cd2, cd3, cd4, cd5, cd6, cd7, cd8, cd9, cd10, cd11, cd13, cd14, f_tt, f_st, f_lt, f_z, f_lg, f_s, f_o12, f_o12b, w_7_6, w_8_6, w_9_6, w_13_6⟩ hf hd
                have hf' : b8 = false := hf
                subst hf'
                have d7 : b7 = true := hd ⟨7, .data⟩ (by simp) rfl
                subst d7
                obtain rfl := cd7.out rfl
                clear hf hd
                try simp only [List.setIfInBounds_toArray, List.set_cons_zero, List.set_cons_succ]
                intro K hK
                rw [if_pos (by rfl)]
                go_simp
                exact hK.out _ _ ⟨b0, b1, b2, b3, b4, b5, b6, true, true, b9, b10, b11, b12, b13, b14, x107, x108, x109, x110, x111, x112, x113, .tuple #[.agg #[.string (bsOf NM), .slice co2 N cc2, .int .i64 (KI : Nat), .bool only, .slice ro2 rn2 rc2], .slice (some ⟨gy, 0, none⟩) N cy, .int .i64 0], (.agg #[.string (bsOf NM), .slice co2 N cc2, .int .i64 (KI : Nat), .bool only, .slice ro2 rn2 rc2]), x115, x116, x17, x18, x19, co2, cc2, ro2, rn2, rc2, gy, cy, gu, (by simp only [Act.put, List.setIfInBounds_toArray, List.set_cons_zero, List.set_cons_succ]), (by simp only [Act.put, List.setIfInBounds_toArray, List.set_cons_zero, List.set_cons_succ]), hb, cd0, cd1, cd2, cd3, cd4, cd5, cd6, (fun _ => rfl), (fun _ => rfl), cd9, cd10, cd11, cd13, cd14, f_tt, f_st, f_lt, f_z, f_lg, f_s, f_o12, f_o12b, w_7_6, (fun _ => w_7_6.out rfl), w_9_6, w_13_6⟩
              · rintro L a w ⟨b0, b1, b2, b3, b4, b5, b6, b7, b8, b9, b10, b11, b12, b13, b14, x107, x108, x109, x110, x111, x112, x113, x106, x114, x115, x116, x17, x18, x19, co2, cc2, ro2, rn2, rc2, gy, cy, gu, rfl, rfl, hb, cd0, cd1, cd2, cd3, cd4, cd5, cd6, cd7, cd8, cd9, cd10, cd11, cd13, cd14, f_tt, f_st, f_lt, f_z, f_lg, f_s, f_o12, f_o12b, w_7_6, w_8_6, w_9_6, w_13_6⟩ hf hd
                have hf' : b9 = false := hf
                subst hf'
                have d7 : b7 = true := hd ⟨7, .data⟩ (by simp) rfl
                subst d7
                obtain rfl := cd7.out rfl
                clear hf hd
                try simp only [List.setIfInBounds_toArray, List.set_cons_zero, List.set_cons_succ]
                intro K hK
                rw [if_pos (by rfl)]
                go_simp
                exact hK.out _ _ ⟨b0, b1, b2, b3, b4, b5, b6, true, b8, true, b10, b11, b12, b13, b14, x107, x108, x109, x110, x111, x112, x113, .tuple #[.agg #[.string (bsOf NM), .slice co2 N cc2, .int .i64 (KI : Nat), .bool only, .slice ro2 rn2 rc2], .slice (some ⟨gy, 0, none⟩) N cy, .int .i64 0], x114, (.slice (some ⟨gy, 0, none⟩) N cy), x116, x17, x18, x19, co2, cc2, ro2, rn2, rc2, gy, cy, gu, (by simp only [Act.put, List.setIfInBounds_toArray, List.set_cons_zero, List.set_cons_succ]), (by simp only [Act.put, List.setIfInBounds_toArray, List.set_cons_zero, List.set_cons_succ]), hb, cd0, cd1, cd2, cd3, cd4, cd5, cd6, (fun _ => rfl), cd8, (fun _ => rfl), cd10, cd11, cd13, cd14, f_tt, f_st, f_lt, f_z, f_lg, f_s, f_o12, f_o12b, w_7_6, w_8_6, (fun _ => w_7_6.out rfl), w_13_6⟩
              · rintro L a w ⟨b0, b1, b2, b3, b4, b5, b6, b7, b8, b9, b10, b11, b12, b13, b14, x107, x108, x109, x110, x111, x112, x113, x106, x114, x115, x116, x17, x18, x19, co2, cc2, ro2, rn2, rc2, gy, cy, gu, rfl, rfl, hb, cd0, cd1, cd2, cd3, cd4, cd5, cd6, cd7, cd8, cd9, cd10, cd11, cd13, cd14, f_tt, f_st, f_lt, f_z, f_lg, f_s, f_o12, f_o12b, w_7_6, w_8_6, w_9_6, w_13_6⟩ hf hd
                have hf' : b10 = false := hf
                subst hf'
                have d7 : b7 = true := hd ⟨7, .data⟩ (by simp) rfl
                subst d7
                obtain rfl := cd7.out rfl
                clear hf hd
                try simp only [List.setIfInBounds_toArray, List.set_cons_zero, List.set_cons_succ]
                intro K hK
                rw [if_pos (by rfl)]
                go_simp
                exact hK.out _ _ ⟨b0, b1, b2, b3, b4, b5, b6, true, b8, b9, true, b11, b12, b13, b14, x107, x108, x109, x110, x111, x112, x113, .tuple #[.agg #[.string (bsOf NM), .slice co2 N cc2, .int .i64 (KI : Nat), .bool only, .slice ro2 rn2 rc2], .slice (some ⟨gy, 0, none⟩) N cy, .int .i64 0], x114, x115, (.int .i64 0), x17, x18, x19, co2, cc2, ro2, rn2, rc2, gy, cy, gu, (by simp only [Act.put, List.setIfInBounds_toArray, List.set_cons_zero, List.set_cons_succ]), (by simp only [Act.put, List.setIfInBounds_toArray, List.set_cons_zero, List.set_cons_succ]), hb, cd0, cd1, cd2, cd3, cd4, cd5, cd6, (fun _ => rfl), cd8, cd9, (fun _ => rfl), cd11, cd13, cd14, f_tt, f_st, f_lt, f_z, f_lg, f_s, f_o12, f_o12b, w_7_6, w_8_6, w_9_6, w_13_6⟩
              · rintro L a w ⟨b0, b1, b2, b3, b4, b5, b6, b7, b8, b9, b10, b11, b12, b13, b14, x107, x108, x109, x110, x111, x112, x113, x106, x114, x115, x116, x17, x18, x19, co2, cc2, ro2, rn2, rc2, gy, cy, gu, rfl, rfl, hb, cd0, cd1, cd2, cd3, cd4, cd5, cd6, cd7, cd8, cd9, cd10, cd11, cd13, cd14, f_tt, f_st, f_lt, f_z, f_lg, f_s, f_o12, f_o12b, w_7_6, w_8_6, w_9_6, w_13_6⟩ hf hd
                have hf' : b11 = false := hf
                subst hf'
                clear hf hd
                try simp only [List.setIfInBounds_toArray, List.set_cons_zero, List.set_cons_succ]
                intro K hK
                rw [if_pos (by rfl)]
                go_simp
                have bx : Below w.heap.size w (w.alloc (.cells #[.string ⟨#[]⟩, .slice none 0 0, .int .i64 0, .bool false, .slice none 0 0] 47)) := (Below.refl _ _).alloc (Nat.le_refl _) _
                have i2 : Bk (w.alloc (.cells #[.string ⟨#[]⟩, .slice none 0 0, .int .i64 0, .bool false, .slice none 0 0] 47)) w.heap.size (tbC [] none 0 0 0 false none 0 0) 47 := Bk.new w _ _
                exact hK.out _ _ ⟨b0, b1, b2, b3, b4, b5, b6, b7, b8, b9, b10, true, b12, b13, b14, x107, x108, x109, x110, x111, x112, x113, x106, x114, x115, x116, (.pointer (some ⟨(w.heap.size), 0, none⟩)), x18, x19, co2, cc2, ro2, rn2, rc2, gy, cy, w.heap.size, (by simp only [Act.put, List.setIfInBounds_toArray, List.set_cons_zero, List.set_cons_succ]), (by simp only [Act.put, List.setIfInBounds_toArray, List.set_cons_zero, List.set_cons_succ]), hb.trans (bx.mono (Nat.le_trans hB0 hb.size)), cd0, cd1, cd2, cd3, cd4, cd5, cd6, cd7, cd8, cd9, cd10, (fun _ => rfl), cd13, cd14, (fun h0 => (f_tt.out h0).past bx), (fun h0 _ _ w'' gw => (f_tt.out h0).past (below_new gw)), (fun _ => by rw [World.size_alloc]; omega), (fun _ _ => i2), (fun _ => hb.size), (fun h0 => absurd (f_o12b.out h0) (by simp)), f_o12, (fun _ => rfl), w_7_6, w_8_6, w_9_6, w_13_6⟩
              · rintro L a w ⟨b0, b1, b2, b3, b4, b5, b6, b7, b8, b9, b10, b11, b12, b13, b14, x107, x108, x109, x110, x111, x112, x113, x106, x114, x115, x116, x17, x18, x19, co2, cc2, ro2, rn2, rc2, gy, cy, gu, rfl, rfl, hb, cd0, cd1, cd2, cd3, cd4, cd5, cd6, cd7, cd8, cd9, cd10, cd11, cd13, cd14, f_tt, f_st, f_lt, f_z, f_lg, f_s, f_o12, f_o12b, w_7_6, w_8_6, w_9_6, w_13_6⟩ hf hd
                have hf' : b12 = false := hf
                subst hf'
                have d11 : b11 = true := hd ⟨11, .data⟩ (by simp) rfl
                subst d11
                have d8 : b8 = true := hd ⟨8, .data⟩ (by simp) rfl
                subst d8
                have d6 : b6 = true := hd ⟨6, .chain⟩ (by simp) rfl
                subst d6
                have d0 : b0 = true := hd ⟨0, .phase⟩ (by simp) rfl
                subst d0
                have d1 : b1 = true := hd ⟨1, .phase⟩ (by simp) rfl
                subst d1
                have d2 : b2 = true := hd ⟨2, .phase⟩ (by simp) rfl
                subst d2
                have d3 : b3 = true := hd ⟨3, .phase⟩ (by simp) rfl
                subst d3
                have d4 : b4 = true := hd ⟨4, .phase⟩ (by simp) rfl
                subst d4
                have d5 : b5 = true := hd ⟨5, .phase⟩ (by simp) rfl
                subst d5
                have d7 : b7 = true := hd ⟨7, .phase⟩ (by simp) rfl
                subst d7
                obtain rfl := cd11.out rfl
                obtain rfl := cd8.out rfl
                obtain rfl := cd6.out rfl
                obtain rfl := cd0.out rfl
                obtain rfl := cd1.out rfl
                obtain rfl := cd2.out rfl
                obtain rfl := cd3.out rfl
                obtain rfl := cd4.out rfl
                obtain rfl := cd5.out rfl
                obtain rfl := cd7.out rfl
                clear hf hd
                have W_tt := f_tt.out rfl
                have W_st := f_st.out rfl rfl
                have W_lt := f_lt.out rfl
                have W_z := f_z.out rfl rfl
                have W_lg := f_lg.out rfl
                try simp only [List.setIfInBounds_toArray, List.set_cons_zero, List.set_cons_succ]
                intro K hK
                rw [if_pos (by rfl)]
                refine wp_store_blkT 47 _ _ rfl gu _ (tbC NM co2 N cc2 (KI : Nat) only ro2 rn2 rc2) rfl rfl _ (Lib.hid W_z) 5 szTb (tbC_size ..) (tbC_size ..) (tbC_all ..) fun w2 h8 g8 => ?_
                have hb2 := hb.grown g8 (Nat.le_trans hB0 hb.size) (fun z hz => by cases hz; exact Nat.le_trans hB0 W_lg)
                exact hK.out _ _ ⟨true, true, true, true, true, true, true, true, true, b9, b10, true, true, b13, b14, .agg #[.string (bsOf NM), .slice co N cc, .int .i64 (KI : Nat), .bool only, .slice ro rn rc], .slice (some ⟨gr, 0, none⟩) N rca, .pointer (some ⟨gs, 2, none⟩), .int .i64 (KI : Nat), .pointer (some ⟨gr, KI * 3, none⟩), .agg #[.int .i64 k, .int .i64 m, .string s], .tuple #[.agg #[.string (bsOf NM), .slice co2 N cc2, .int .i64 (KI : Nat), .bool only, .slice ro2 rn2 rc2], .slice (some ⟨gy, 0, none⟩) N cy, .int .i64 0], .tuple #[.agg #[.string (bsOf NM), .slice co2 N cc2, .int .i64 (KI : Nat), .bool only, .slice ro2 rn2 rc2], .slice (some ⟨gy, 0, none⟩) N cy, .int .i64 0], .agg #[.string (bsOf NM), .slice co2 N cc2, .int .i64 (KI : Nat), .bool only, .slice ro2 rn2 rc2], x115, x116, .pointer (some ⟨gu, 0, none⟩), x18, x19, co2, cc2, ro2, rn2, rc2, gy, cy, gu, (by simp only [Act.put, List.setIfInBounds_toArray, List.set_cons_zero, List.set_cons_succ]), (by simp only [Act.put, List.setIfInBounds_toArray, List.set_cons_zero, List.set_cons_succ]), hb2, (fun _ => rfl), (fun _ => rfl), (fun _ => rfl), (fun _ => rfl), (fun _ => rfl), (fun _ => rfl), (fun _ => rfl), (fun _ => rfl), (fun _ => rfl), cd9, cd10, (fun _ => rfl), cd13, cd14, (fun h0 => (f_st.out h0 rfl rfl) _ g8), (fun _ h => by cases h), (fun h0 => Nat.lt_of_lt_of_le ((f_lt.out h0)) g8.size), (fun _ h => by cases h), f_lg, (fun _ => h8.out), (fun _ => rfl), (fun _ => rfl), (fun _ => rfl), (fun _ => rfl), (fun _ => rfl), (fun _ => rfl)⟩
              · rintro L a w ⟨b0, b1, b2, b3, b4, b5, b6, b7, b8, b9, b10, b11, b12, b13, b14, x107, x108, x109, x110, x111, x112, x113, x106, x114, x115, x116, x17, x18, x19, co2, cc2, ro2, rn2, rc2, gy, cy, gu, rfl, rfl, hb, cd0, cd1, cd2, cd3, cd4, cd5, cd6, cd7, cd8, cd9, cd10, cd11, cd13, cd14, f_tt, f_st, f_lt, f_z, f_lg, f_s, f_o12, f_o12b, w_7_6, w_8_6, w_9_6, w_13_6⟩ hf hd
                have hf' : b13 = false := hf
                subst hf'
                have d9 : b9 = true := hd ⟨9, .data⟩ (by simp) rfl
                subst d9
                have d12 : b12 = true := hd ⟨12, .chain⟩ (by simp) rfl
                subst d12
                have d0 : b0 = true := hd ⟨0, .phase⟩ (by simp) rfl
                subst d0
                have d1 : b1 = true := hd ⟨1, .phase⟩ (by simp) rfl
                subst d1
                have d2 : b2 = true := hd ⟨2, .phase⟩ (by simp) rfl
                subst d2
                have d3 : b3 = true := hd ⟨3, .phase⟩ (by simp) rfl
                subst d3
                have d4 : b4 = true := hd ⟨4, .phase⟩ (by simp) rfl
                subst d4
                have d5 : b5 = true := hd ⟨5, .phase⟩ (by simp) rfl
                subst d5
                have d6 : b6 = true := hd ⟨6, .phase⟩ (by simp) rfl
                subst d6
                have d7 : b7 = true := hd ⟨7, .phase⟩ (by simp) rfl
                subst d7
                have d8 : b8 = true := hd ⟨8, .phase⟩ (by simp) rfl
                subst d8
                have d11 : b11 = true := hd ⟨11, .phase⟩ (by simp) rfl
                subst d11
                obtain rfl := cd9.out rfl
                obtain rfl := cd0.out rfl
                obtain rfl := cd1.out rfl
                obtain rfl := cd2.out rfl
                obtain rfl := cd3.out rfl
                obtain rfl := cd4.out rfl
                obtain rfl := cd5.out rfl
                obtain rfl := cd6.out rfl
                obtain rfl := cd7.out rfl
                obtain rfl := cd8.out rfl
                obtain rfl := cd11.out rfl
                clear hf hd
                have W_tt := f_tt.out rfl
                have W_lt := f_lt.out rfl
                have W_lg := f_lg.out rfl
                have W_s := f_s.out rfl
                have W_o12 := f_o12.out rfl
                have W_o12b := f_o12b.out rfl
                try simp only [List.setIfInBounds_toArray, List.set_cons_zero, List.set_cons_succ]
                intro K hK
                rw [if_pos (by rfl)]
                go_simp
                exact hK.out _ _ ⟨true, true, true, true, true, true, true, true, true, true, b10, true, true, true, b14, .agg #[.string (bsOf NM), .slice co N cc, .int .i64 (KI : Nat), .bool only, .slice ro rn rc], .slice (some ⟨gr, 0, none⟩) N rca, .pointer (some ⟨gs, 2, none⟩), .int .i64 (KI : Nat), .pointer (some ⟨gr, KI * 3, none⟩), .agg #[.int .i64 k, .int .i64 m, .string s], .tuple #[.agg #[.string (bsOf NM), .slice co2 N cc2, .int .i64 (KI : Nat), .bool only, .slice ro2 rn2 rc2], .slice (some ⟨gy, 0, none⟩) N cy, .int .i64 0], .tuple #[.agg #[.string (bsOf NM), .slice co2 N cc2, .int .i64 (KI : Nat), .bool only, .slice ro2 rn2 rc2], .slice (some ⟨gy, 0, none⟩) N cy, .int .i64 0], .agg #[.string (bsOf NM), .slice co2 N cc2, .int .i64 (KI : Nat), .bool only, .slice ro2 rn2 rc2], .slice (some ⟨gy, 0, none⟩) N cy, x116, .pointer (some ⟨gu, 0, none⟩), (.slice (some ⟨gy, 0, none⟩) N cy), x19, co2, cc2, ro2, rn2, rc2, gy, cy, gu, (by simp only [Act.put, List.setIfInBounds_toArray, List.set_cons_zero, List.set_cons_succ]), (by simp only [Act.put, List.setIfInBounds_toArray, List.set_cons_zero, List.set_cons_succ]), hb, (fun _ => rfl), (fun _ => rfl), (fun _ => rfl), (fun _ => rfl), (fun _ => rfl), (fun _ => rfl), (fun _ => rfl), (fun _ => rfl), (fun _ => rfl), (fun _ => rfl), cd10, (fun _ => rfl), (fun _ => rfl), cd14, f_tt, (fun _ h => by cases h), f_lt, (fun _ h => by cases h), f_lg, f_s, f_o12, f_o12b, (fun _ => rfl), (fun _ => rfl), (fun _ => rfl), (fun _ => rfl)⟩
              · rintro L a w ⟨b0, b1, b2, b3, b4, b5, b6, b7, b8, b9, b10, b11, b12, b13, b14, x107, x108, x109, x110, x111, x112, x113, x106, x114, x115, x116, x17, x18, x19, co2, cc2, ro2, rn2, rc2, gy, cy, gu, rfl, rfl, hb, cd0, cd1, cd2, cd3, cd4, cd5, cd6, cd7, cd8, cd9, cd10, cd11, cd13, cd14, f_tt, f_st, f_lt, f_z, f_lg, f_s, f_o12, f_o12b, w_7_6, w_8_6, w_9_6, w_13_6⟩ hf hd
                have hf' : b14 = false := hf
                subst hf'
                have d10 : b10 = true := hd ⟨10, .data⟩ (by simp) rfl
                subst d10
                have d13 : b13 = true := hd ⟨13, .chain⟩ (by simp) rfl
                subst d13
                have d0 : b0 = true := hd ⟨0, .phase⟩ (by simp) rfl
                subst d0
                have d1 : b1 = true := hd ⟨1, .phase⟩ (by simp) rfl
                subst d1
                have d2 : b2 = true := hd ⟨2, .phase⟩ (by simp) rfl
                subst d2
                have d3 : b3 = true := hd ⟨3, .phase⟩ (by simp) rfl
                subst d3
                have d4 : b4 = true := hd ⟨4, .phase⟩ (by simp) rfl
                subst d4
                have d5 : b5 = true := hd ⟨5, .phase⟩ (by simp) rfl
                subst d5
                have d6 : b6 = true := hd ⟨6, .phase⟩ (by simp) rfl
                subst d6
                have d7 : b7 = true := hd ⟨7, .phase⟩ (by simp) rfl
                subst d7
                have d8 : b8 = true := hd ⟨8, .phase⟩ (by simp) rfl
                subst d8
                have d9 : b9 = true := hd ⟨9, .phase⟩ (by simp) rfl
                subst d9
                have d11 : b11 = true := hd ⟨11, .phase⟩ (by simp) rfl
                subst d11
                have d12 : b12 = true := hd ⟨12, .phase⟩ (by simp) rfl
                subst d12
                obtain rfl := cd10.out rfl
                obtain rfl := cd13.out rfl
                obtain rfl := cd0.out rfl
                obtain rfl := cd1.out rfl
                obtain rfl := cd2.out rfl
                obtain rfl := cd3.out rfl
                obtain rfl := cd4.out rfl
                obtain rfl := cd5.out rfl
                obtain rfl := cd6.out rfl
                obtain rfl := cd7.out rfl
                obtain rfl := cd8.out rfl
                obtain rfl := cd9.out rfl
                obtain rfl := cd11.out rfl
                clear hf hd
                have W_tt := f_tt.out rfl
                have W_lt := f_lt.out rfl
                have W_lg := f_lg.out rfl
                have W_s := f_s.out rfl
                have W_o12 := f_o12.out rfl
                have W_o12b := f_o12b.out rfl
                try simp only [List.setIfInBounds_toArray, List.set_cons_zero, List.set_cons_succ]
                intro K hK
                rw [if_pos (by rfl)]
                go_simp
                exact hK.out _ _ ⟨true, true, true, true, true, true, true, true, true, true, true, true, true, true, true, .agg #[.string (bsOf NM), .slice co N cc, .int .i64 (KI : Nat), .bool only, .slice ro rn rc], .slice (some ⟨gr, 0, none⟩) N rca, .pointer (some ⟨gs, 2, none⟩), .int .i64 (KI : Nat), .pointer (some ⟨gr, KI * 3, none⟩), .agg #[.int .i64 k, .int .i64 m, .string s], .tuple #[.agg #[.string (bsOf NM), .slice co2 N cc2, .int .i64 (KI : Nat), .bool only, .slice ro2 rn2 rc2], .slice (some ⟨gy, 0, none⟩) N cy, .int .i64 0], .tuple #[.agg #[.string (bsOf NM), .slice co2 N cc2, .int .i64 (KI : Nat), .bool only, .slice ro2 rn2 rc2], .slice (some ⟨gy, 0, none⟩) N cy, .int .i64 0], .agg #[.string (bsOf NM), .slice co2 N cc2, .int .i64 (KI : Nat), .bool only, .slice ro2 rn2 rc2], .slice (some ⟨gy, 0, none⟩) N cy, .int .i64 0, .pointer (some ⟨gu, 0, none⟩), .slice (some ⟨gy, 0, none⟩) N cy, (.int .i64 0), co2, cc2, ro2, rn2, rc2, gy, cy, gu, (by simp only [Act.put, List.setIfInBounds_toArray, List.set_cons_zero, List.set_cons_succ]), (by simp only [Act.put, List.setIfInBounds_toArray, List.set_cons_zero, List.set_cons_succ]), hb, (fun _ => rfl), (fun _ => rfl), (fun _ => rfl), (fun _ => rfl), (fun _ => rfl), (fun _ => rfl), (fun _ => rfl), (fun _ => rfl), (fun _ => rfl), (fun _ => rfl), (fun _ => rfl), (fun _ => rfl), (fun _ => rfl), (fun _ => rfl), f_tt, (fun _ h => by cases h), f_lt, (fun _ h => by cases h), f_lg, f_s, f_o12, f_o12b, (fun _ => rfl), (fun _ => rfl), (fun _ => rfl), (fun _ => rfl)⟩
            · rintro act V6 ⟨b0, b1, b2, b3, b4, b5, b6, b7, b8, b9, b10, b11, b12, b13, b14, x107, x108, x109, x110, x111, x112, x113, x106, x114, x115, x116, x17, x18, x19, co2, cc2, ro2, rn2, rc2, gy, cy, gu, hL, rfl, hb, cd0, cd1, cd2, cd3, cd4, cd5, cd6, cd7, cd8, cd9, cd10, cd11, cd13, cd14, f_tt, f_st, f_lt, f_z, f_lg, f_s, f_o12, f_o12b, w_7_6, w_8_6, w_9_6, w_13_6⟩
              have hL' : [true, true, true, true, true, true, true, true, true, true, true, true, true, true, true] = [b0, b1, b2, b3, b4, b5, b6, b7, b8, b9, b10, b11, b12, b13, b14] := congrArg Array.toList hL
              simp only [List.cons.injEq, and_true] at hL'
              obtain ⟨rfl, rfl, rfl, rfl, rfl, rfl, rfl, rfl, rfl, rfl, rfl, rfl, rfl, rfl, rfl⟩ := hL'
              obtain rfl := cd0.out rfl
              obtain rfl := cd1.out rfl
              obtain rfl := cd2.out rfl
              obtain rfl := cd3.out rfl
              obtain rfl := cd4.out rfl
              obtain rfl := cd5.out rfl
              obtain rfl := cd6.out rfl
              obtain rfl := cd7.out rfl
              obtain rfl := cd8.out rfl
              obtain rfl := cd9.out rfl
              obtain rfl := cd10.out rfl
              obtain rfl := cd11.out rfl
              obtain rfl := cd13.out rfl
              obtain rfl := cd14.out rfl
              have W_tt := f_tt.out rfl
              have W_lt := f_lt.out rfl
              have W_lg := f_lg.out rfl
              have W_s := f_s.out rfl
              have W_o12 := f_o12.out rfl
              have W_o12b := f_o12b.out rfl
              clear hL f_tt f_st f_lt f_z f_lg f_s f_o12 f_o12b cd0 cd1 cd2 cd3 cd4 cd5 cd6 cd7 cd8 cd9 cd10 cd11 cd13 cd14 w_7_6 w_8_6 w_9_6 w_13_6
              simp only [List.setIfInBounds_toArray, List.set_cons_zero, List.set_cons_succ]
              have bV6 : Below V5.heap.size V5 V6 := (Below.refl _ _).drew.trans hb
              have bV26 := bV5.trans (bV6.mono bV5.size)
              have BV6 := BV5.trans (bV6.mono hpV5)
              have hpV6 := Nat.le_trans hpV5 bV6.size
              have HS1 := fun (w' : World) (hb : Below V6.heap.size V6 w') => rsame_any (some ⟨gx, 0, none⟩) N cx rv (some ⟨gr, 0, none⟩) N rca rv w' ((W_x.past bV6).past hb).isR ((oR2.past bV26).past hb).isR
              have HS2 := fun (w' : World) (hb : Below V6.heap.size V6 w') => rsame_any (some ⟨gy, 0, none⟩) N cy rv (some ⟨gr, 0, none⟩) N rca rv w' (W_tt.y.past hb).isR ((oR2.past bV26).past hb).isR
              obtain rfl : rn0 = rn2 := by rw [← W_tt.t.rows.len, hrn0]
              have HS3 := fun (w' : World) (hb : Below V6.heap.size V6 w') => tsame_any w' NM F N (KI : Nat) only V5.drew.heap.size 0 co2 cc2 ro2 rn0 rc2 rs co0 cc0 ro0 rn0 rc0 rs (W_tt.t.past hb) ((iT2.past bV26).past hb) (by omega)
              simp only [(eqVs_iff rv rv).2 rfl] at HS1 HS2
              simp only [(eqRs_iff rs rs).2 rfl] at HS3
              unfold tbV at HS3
              have hV6s := W_s
              have hT6 := hT2.past bV26
              clear hb W_lt W_lg W_o12 W_o12b
              go_wp2_with (first
                | (go_at_call 29; (with_reducible refine (HS1 _ (Below.refl _ _)).mono ?_); rintro en w7 ⟨rfl, b7⟩)
                | (go_at_call 29; (with_reducible refine (HS2 _ b7).mono ?_); rintro en w8 ⟨rfl, b8⟩; have b78 := b7.trans (b8.mono b7.size); obtain ⟨y0, y1, y2, y3, y4⟩ := tb_cells (hV6s.past b78); obtain ⟨t0, t1, t2, t3, t4⟩ := tb_cells (hT6.past b78))
                | (go_at_call 26; (with_reducible refine (HS3 _ b78).mono ?_); rintro en w9 ⟨rfl, b9⟩))
              go_ret
              exact ⟨rfl, by rw [HP.out]; exact (BV6.trans (b78.mono hpV6)).trans (b9.mono (Nat.le_trans hpV6 b78.size))⟩
        · rw [h1, h3] at HPt
          obtain ⟨xr, hxr0, hxk2⟩ := has_key h2
          have hxl : xr.length = N := by rw [hFi.len xr (List.mem_of_getElem? hxr0), hFl]
          have hxr := kOf_own (K := KI) (r := xr) (by omega)
          rw [hxk2] at hxr
          rw [hkof] at hxr h2 hxr0
          clear h1 h3 hkof hxk2
          go_upto_region 13 with (go_at_call 24; refine HPt.mono ?_; rintro e w6 ⟨co1, cc1, ro1, rn1, rc1, rfl, i1, b6⟩; unfold tbV)
          have bV2 : Below w5.heap.size w5 (w6.alloc (.cells #[.string (bsOf NM), .slice co1 N cc1, .int .i64 (KI : Nat), .bool only, .slice ro1 rn1 rc1] 47)) := b6.alloc b6.size _
          generalize w6.alloc (.cells #[.string (bsOf NM), .slice co1 N cc1, .int .i64 (KI : Nat), .bool only, .slice ro1 rn1 rc1] 47) = V2 at bV2 ⊢
          have XS2 := XS5.past bV2
          have hT2 := hT5.past bV2
          have iT2 := iT5.past bV2
          have oR2 := oR.past bV2
          have BV2 := B5.trans (bV2.mono hp5)
          have hpV2 := Nat.le_trans hp5 bV2.size
          clear b6 i1 HPt t0 t1 t2 t3 t4
          obtain ⟨z0, z1, z2, z3⟩ := sc_cells XS2
          obtain ⟨t0, t1, t2, t3, t4⟩ := tb_cells hT2
          obtain ⟨v0, v1, v2⟩ := own_vcells oR2 KI _ hrow
          have u0 : True := trivial
          have u1 : True := trivial
          have u2 : True := trivial
          have u3 : True := trivial
          have u4 : True := trivial
          have HGt0 := fun (w' : World) (hb : Below V2.heap.size V2.drew w') => get_any w' NM co N cc KI only ro rn rc F 0 rs (iT2.drew.past hb) vv0 hFi.srt (by omega) (fun y hy => ⟨(hlen100 y hy).1, by have := (hlen100 y hy).2; omega⟩)
          obtain ⟨k, m, s⟩ := vv0
          unfold tbV at HGt0
          simp only at v0 v1 v2 HGt0
          have HGt : ∀ (w' : World), Below V2.heap.size V2.drew w' → Calls Try.prog 30 #[.agg #[.string (bsOf NM), .slice co N cc, .int .i64 (KI : Nat), .bool only, .slice ro rn rc], .agg #[.int .i64 k, .int .i64 m, .string s]] w' fun e w'' => ∃ g3 c3, e = .returned (.tuple #[.slice (some ⟨g3, 0, none⟩) N c3, .bool true]) ∧ OwnR EV w'' 55 g3 N c3 xr ∧ w'.heap.size ≤ g3 ∧ Below w'.heap.size w' w'' := fun w' hb => (HGt0 w' hb).mono fun e w'' ⟨_, hy, hz⟩ => by
            obtain ⟨g3, c3, rfl, o3, q3⟩ := hy xr h2 hxr0
            rw [hxl] at o3 ⊢
            exact ⟨g3, c3, rfl, o3, q3, hz⟩
          have hgsB := XS2.lt
          have hgrB := oR2.lt
          have hgqB := hT2.lt
          have hB0 : V2.heap.size ≤ V2.heap.size := Nat.le_refl _
          have hPQ : ∀ _ : Nat, p0 ≤ V2.heap.size := fun _ => hpV2
          clear HGt0 h2 hxr0
          go_upto_region 14 with fail
          refine region_inv (TBack14 V2.heap.size gs gt NM g N cg KI only co cc ro rn rc gr rca k m s xr) (by kernel_rfl) (by kernel_rfl) ?_ ?_ ?_
          · exact ⟨false, false, false, false, false, false, false, false, false, false, false, false, undef, undef, undef, undef, undef, undef, undef, undef, undef, undef, undef, undef, 0, 0, rfl, (by simp only [Act.put, List.setIfInBounds_toArray, List.set_cons_zero, List.set_cons_succ]), Below.refl _ _, (fun h => by cases h), (fun h => by cases h), (fun h => by cases h), (fun h => by cases h), (fun h => by cases h), (fun h => by cases h), (fun h => by cases h), (fun h => by cases h), (fun h => by cases h), (fun h => by cases h), (fun h => by cases h), (fun h => by cases h), (fun h => by cases h), (fun h => by cases h), (fun h => by cases h), (fun h => by cases h)⟩
          · refine ⟨?_, ?_, ?_, ?_, ?_, ?_, ?_, ?_, ?_, ?_, ?_, ?_, trivial⟩
            · rintro L a w ⟨b0, b1, b2, b3, b4, b5, b6, b7, b8, b9, b10, b11, x62, x63, x64, x65, x66, x67, x68, x61, x69, x70, x13, x14, gx, cx, rfl, rfl, hb, cd0, cd1, cd2, cd3, cd4, cd5, cd6, cd7, cd8, cd9, cd10, cd11, f_x, w_7_6, w_8_6, w_10_6⟩ hf hd
              have hf' : b0 = false := hf
              subst hf'
              clear hf hd
              try simp only [List.setIfInBounds_toArray, List.set_cons_zero, List.set_cons_succ]
              have z0 := (hb.cell hgqB).trans t0
              have z1 := (hb.cell hgqB).trans t1
              have z2 := (hb.cell hgqB).trans t2
              have z3 := (hb.cell hgqB).trans t3
              have z4 := (hb.cell hgqB).trans t4
              intro K hK
              rw [if_pos (by rfl)]
              go_simp
              exact hK.out _ _ ⟨true, b1, b2, b3, b4, b5, b6, b7, b8, b9, b10, b11, (.agg #[.string (bsOf NM), .slice co N cc, .int .i64 (KI : Nat), .bool only, .slice ro rn rc]), x63, x64, x65, x66, x67, x68, x61, x69, x70, x13, x14, gx, cx, (by simp only [Act.put, List.setIfInBounds_toArray, List.set_cons_zero, List.set_cons_succ]), (by simp only [Act.put, List.setIfInBounds_toArray, List.set_cons_zero, List.set_cons_succ]), hb, (fun _ => rfl), cd1, cd2, cd3, cd4, cd5, cd6, cd7, cd8, cd9, cd10, cd11, f_x, w_7_6, w_8_6, w_10_6⟩
            · rintro L a w ⟨b0, b1, b2, b3, b4, b5, b6, b7, b8, b9, b10, b11, x62, x63, x64, x65, x66, x67, x68, x61, x69, x70, x13, x14, gx, cx, rfl, rfl, hb, cd0, cd1, cd2, cd3, cd4, cd5, cd6, cd7, cd8, cd9, cd10, cd11, f_x, w_7_6, w_8_6, w_10_6⟩ hf hd
              have hf' : b1 = false := hf
              subst hf'
              clear hf hd
              try simp only [List.setIfInBounds_toArray, List.set_cons_zero, List.set_cons_succ]
              intro K hK
              rw [if_pos (by rfl)]
              go_simp
              exact hK.out _ _ ⟨b0, true, b2, b3, b4, b5, b6, b7, b8, b9, b10, b11, x62, (.slice (some ⟨gr, 0, none⟩) N rca), x64, x65, x66, x67, x68, x61, x69, x70, x13, x14, gx, cx, (by simp only [Act.put, List.setIfInBounds_toArray, List.set_cons_zero, List.set_cons_succ]), (by simp only [Act.put, List.setIfInBounds_toArray, List.set_cons_zero, List.set_cons_succ]), hb, cd0, (fun _ => rfl), cd2, cd3, cd4, cd5, cd6, cd7, cd8, cd9, cd10, cd11, f_x, w_7_6, w_8_6, w_10_6⟩
            · rintro L a w ⟨b0, b1, b2, b3, b4, b5, b6, b7, b8, b9, b10, b11, x62, x63, x64, x65, x66, x67, x68, x61, x69, x70, x13, x14, gx, cx, rfl, rfl, hb, cd0, cd1, cd2, cd3, cd4, cd5, cd6, cd7, cd8, cd9, cd10, cd11, f_x, w_7_6, w_8_6, w_10_6⟩ hf hd
              have hf' : b2 = false := hf
              subst hf'
              clear hf hd
              try simp only [List.setIfInBounds_toArray, List.set_cons_zero, List.set_cons_succ]
              intro K hK
              rw [if_pos (by rfl)]
              go_simp
              exact hK.out _ _ ⟨b0, b1, true, b3, b4, b5, b6, b7, b8, b9, b10, b11, x62, x63, (.pointer (some ⟨gs, 2, none⟩)), x65, x66, x67, x68, x61, x69, x70, x13, x14, gx, cx, (by simp only [Act.put, List.setIfInBounds_toArray, List.set_cons_zero, List.set_cons_succ]), (by simp only [Act.put, List.setIfInBounds_toArray, List.set_cons_zero, List.set_cons_succ]), hb, cd0, cd1, (fun _ => rfl), cd3, cd4, cd5, cd6, cd7, cd8, cd9, cd10, cd11, f_x, w_7_6, w_8_6, w_10_6⟩
            · rintro L a w ⟨b0, b1, b2, b3, b4, b5, b6, b7, b8, b9, b10, b11, x62, x63, x64, x65, x66, x67, x68, x61, x69, x70, x13, x14, gx, cx, rfl, rfl, hb, cd0, cd1, cd2, cd3, cd4, cd5, cd6, cd7, cd8, cd9, cd10, cd11, f_x, w_7_6, w_8_6, w_10_6⟩ hf hd
              have hf' : b3 = false := hf
              subst hf'
              have d2 : b2 = true := hd ⟨2, .data⟩ (by simp) rfl
              subst d2
              obtain rfl := cd2.out rfl
              clear hf hd
              try simp only [List.setIfInBounds_toArray, List.set_cons_zero, List.set_cons_succ]
              have z0 := (hb.cell hgsB).trans z2
              intro K hK
              rw [if_pos (by rfl)]
              go_simp
              exact hK.out _ _ ⟨b0, b1, true, true, b4, b5, b6, b7, b8, b9, b10, b11, x62, x63, .pointer (some ⟨gs, 2, none⟩), (.int .i64 (KI : Nat)), x66, x67, x68, x61, x69, x70, x13, x14, gx, cx, (by simp only [Act.put, List.setIfInBounds_toArray, List.set_cons_zero, List.set_cons_succ]), (by simp only [Act.put, List.setIfInBounds_toArray, List.set_cons_zero, List.set_cons_succ]), hb, cd0, cd1, (fun _ => rfl), (fun _ => rfl), cd4, cd5, cd6, cd7, cd8, cd9, cd10, cd11, f_x, w_7_6, w_8_6, w_10_6⟩
            · rintro L a w ⟨b0, b1, b2, b3, b4, b5, b6, b7, b8, b9, b10, b11, x62, x63, x64, x65, x66, x67, x68, x61, x69, x70, x13, x14, gx, cx, rfl, rfl, hb, cd0, cd1, cd2, cd3, cd4, cd5, cd6, cd7, cd8, cd9, cd10, cd11, f_x, w_7_6, w_8_6, w_10_6⟩ hf hd
              have hf' : b4 = false := hf
              subst hf'
              have d1 : b1 = true := hd ⟨1, .data⟩ (by simp) rfl
              subst d1
              have d3 : b3 = true := hd ⟨3, .data⟩ (by simp) rfl
              subst d3
              obtain rfl := cd1.out rfl
              obtain rfl := cd3.out rfl
              clear hf hd
              try simp only [List.setIfInBounds_toArray, List.set_cons_zero, List.set_cons_succ]
              intro K hK
              rw [if_pos (by rfl)]
              go_simp
              exact hK.out _ _ ⟨b0, true, b2, true, true, b5, b6, b7, b8, b9, b10, b11, x62, .slice (some ⟨gr, 0, none⟩) N rca, x64, .int .i64 (KI : Nat), (.pointer (some ⟨gr, KI * 3, none⟩)), x67, x68, x61, x69, x70, x13, x14, gx, cx, (by simp only [Act.put, List.setIfInBounds_toArray, List.set_cons_zero, List.set_cons_succ]), (by simp only [Act.put, List.setIfInBounds_toArray, List.set_cons_zero, List.set_cons_succ]), hb, cd0, (fun _ => rfl), cd2, (fun _ => rfl), (fun _ => rfl), cd5, cd6, cd7, cd8, cd9, cd10, cd11, f_x, w_7_6, w_8_6, w_10_6⟩
            · rintro L a w ⟨b0, b1, b2, b3, b4, b5, b6, b7, b8, b9, b10, b11, x62, x63, x64, x65, x66, x67, x68, x61, x69, x70, x13, x14, gx, cx, rfl, rfl, hb, cd0, cd1, cd2, cd3, cd4, cd5, cd6, cd7, cd8, cd9, cd10, cd11, f_x, w_7_6, w_8_6, w_10_6⟩ hf hd
              have hf' : b5 = false := hf
              subst hf'
              have d4 : b4 = true := hd ⟨4, .data⟩ (by simp) rfl
              subst d4
              obtain rfl := cd4.out rfl
              clear hf hd
              try simp only [List.setIfInBounds_toArray, List.set_cons_zero, List.set_cons_succ]
              have z0 := (hb.cell hgrB).trans v0
              have z1 := (hb.cell hgrB).trans v1
              have z2 := (hb.cell hgrB).trans v2
              intro K hK
              rw [if_pos (by rfl)]
              go_simp
              exact hK.out _ _ ⟨b0, b1, b2, b3, true, true, b6, b7, b8, b9, b10, b11, x62, x63, x64, x65, .pointer (some ⟨gr, KI * 3, none⟩), (.agg #[.int .i64 k, .int .i64 m, .string s]), x68, x61, x69, x70, x13, x14, gx, cx, (by simp only [Act.put, List.setIfInBounds_toArray, List.set_cons_zero, List.set_cons_succ]), (by simp only [Act.put, List.setIfInBounds_toArray, List.set_cons_zero, List.set_cons_succ]), hb, cd0, cd1, cd2, cd3, (fun _ => rfl), (fun _ => rfl), cd6, cd7, cd8, cd9, cd10, cd11, f_x, w_7_6, w_8_6, w_10_6⟩
            · rintro L a w ⟨b0, b1, b2, b3, b4, b5, b6, b7, b8, b9, b10, b11, x62, x63, x64, x65, x66, x67, x68, x61, x69, x70, x13, x14, gx, cx, rfl, rfl, hb, cd0, cd1, cd2, cd3, cd4, cd5, cd6, cd7, cd8, cd9, cd10, cd11, f_x, w_7_6, w_8_6, w_10_6⟩ hf hd
              have hf' : b6 = false := hf
              subst hf'
              have d0 : b0 = true := hd ⟨0, .data⟩ (by simp) rfl
              subst d0
              have d5 : b5 = true := hd ⟨5, .data⟩ (by simp) rfl
              subst d5
              obtain rfl := cd0.out rfl
              obtain rfl := cd5.out rfl
              clear hf hd
              try simp only [List.setIfInBounds_toArray, List.set_cons_zero, List.set_cons_succ]
              intro K hK
              rw [if_pos (by rfl)]
              go_simp
              go_at_call 30
              refine (HGt _ hb).mono ?_
              rintro e w' ⟨g3, c3, rfl, o3, q3, bx⟩
              have e_7 : b7 = false := by cases hq : b7 with | false => rfl | true => exact absurd (w_7_6.out hq) (by simp)
              subst e_7
              have e_8 : b8 = false := by cases hq : b8 with | false => rfl | true => exact absurd (w_8_6.out hq) (by simp)
              subst e_8
              have e_10 : b10 = false := by cases hq : b10 with | false => rfl | true => exact absurd (w_10_6.out hq) (by simp)
              subst e_10
              exact hK.out _ _ ⟨true, b1, b2, b3, b4, true, true, false, false, b9, false, b11, .agg #[.string (bsOf NM), .slice co N cc, .int .i64 (KI : Nat), .bool only, .slice ro rn rc], x63, x64, x65, x66, .agg #[.int .i64 k, .int .i64 m, .string s], (.tuple #[.slice (some ⟨g3, 0, none⟩) N c3, .bool true]), x61, x69, x70, x13, x14, g3, c3, (by simp only [Act.put, List.setIfInBounds_toArray, List.set_cons_zero, List.set_cons_succ]), (by simp only [Act.put, List.setIfInBounds_toArray, List.set_cons_zero, List.set_cons_succ]), hb.trans (bx.mono (Nat.le_trans hB0 hb.size)), (fun _ => rfl), cd1, cd2, cd3, cd4, (fun _ => rfl), (fun _ => rfl), (fun h => by cases h), (fun h => by cases h), cd9, (fun h => by cases h), cd11, (fun _ => o3), (fun _ => rfl), (fun _ => rfl), (fun _ => rfl)⟩
            · rintro L a w ⟨b0, b1, b2, b3, b4, b5, b6, b7, b8, b9, b10, b11, x62, x63, x64, x65, x66, x67, x68, x61, x69, x70, x13, x14, gx, cx, rfl, rfl, hb, cd0, cd1, cd2, cd3, cd4, cd5, cd6, cd7, cd8, cd9, cd10, cd11, f_x, w_7_6, w_8_6, w_10_6⟩ hf hd
              have hf' : b7 = false := hf
              subst hf'
              have d6 : b6 = true := hd ⟨6, .data⟩ (by simp) rfl
              subst d6
              obtain rfl := cd6.out rfl
              clear hf hd
              have W_x := f_x.out rfl
              try simp only [List.setIfInBounds_toArray, List.set_cons_zero, List.set_cons_succ]
              intro K hK
              rw [if_pos (by rfl)]
              go_simp
              exact hK.out _ _ ⟨b0, b1, b2, b3, b4, b5, true, true, b8, b9, b10, b11, x62, x63, x64, x65, x66, x67, .tuple #[.slice (some ⟨gx, 0, none⟩) N cx, .bool true], (.tuple #[.slice (some ⟨gx, 0, none⟩) N cx, .bool true]), x69, x70, x13, x14, gx, cx, (by simp only [Act.put, List.setIfInBounds_toArray, List.set_cons_zero, List.set_cons_succ]), (by simp only [Act.put, List.setIfInBounds_toArray, List.set_cons_zero, List.set_cons_succ]), hb, cd0, cd1, cd2, cd3, cd4, cd5, (fun _ => rfl), (fun _ => rfl), cd8, cd9, cd10, cd11, f_x, (fun _ => rfl), (fun _ => rfl), (fun _ => rfl)⟩
            · rintro L a w ⟨b0, b1, b2, b3, b4, b5, b6, b7, b8, b9, b10, b11, x62, x63, x64, x65, x66, x67, x68, x61, x69, x70, x13, x14, gx, cx, rfl, rfl, hb, cd0, cd1, cd2, cd3, cd4, cd5, cd6, cd7, cd8, cd9, cd10, cd11, f_x, w_7_6, w_8_6, w_10_6⟩ hf hd
              have hf' : b8 = false := hf
              subst hf'
              have d7 : b7 = true := hd ⟨7, .data⟩ (by simp) rfl
              subst d7
              obtain rfl := cd7.out rfl
              clear hf hd
              try simp only [List.setIfInBounds_toArray, List.set_cons_zero, List.set_cons_succ]
              intro K hK
              rw [if_pos (by rfl)]
              go_simp
              exact hK.out _ _ ⟨b0, b1, b2, b3, b4, b5, b6, true, true, b9, b10, b11, x62, x63, x64, x65, x66, x67, x68, .tuple #[.slice (some ⟨gx, 0, none⟩) N cx, .bool true], (.slice (some ⟨gx, 0, none⟩) N cx), x70, x13, x14, gx, cx, (by simp only [Act.put, List.setIfInBounds_toArray, List.set_cons_zero, List.set_cons_succ]), (by simp only [Act.put, List.setIfInBounds_toArray, List.set_cons_zero, List.set_cons_succ]), hb, cd0, cd1, cd2, cd3, cd4, cd5, cd6, (fun _ => rfl), (fun _ => rfl), cd9, cd10, cd11, f_x, w_7_6, (fun _ => w_7_6.out rfl), w_10_6⟩
            · rintro L a w ⟨b0, b1, b2, b3, b4, b5, b6, b7, b8, b9, b10, b11, x62, x63, x64, x65, x66, x67, x68, x61, x69, x70, x13, x14, gx, cx, rfl, rfl, hb, cd0, cd1, cd2, cd3, cd4, cd5, cd6, cd7, cd8, cd9, cd10, cd11, f_x, w_7_6, w_8_6, w_10_6⟩ hf hd
              have hf' : b9 = false := hf
              subst hf'
              have d7 : b7 = true := hd ⟨7, .data⟩ (by simp) rfl
              subst d7
              obtain rfl := cd7.out rfl
              clear hf hd
              try simp only [List.setIfInBounds_toArray, List.set_cons_zero, List.set_cons_succ]
              intro K hK
              rw [if_pos (by rfl)]
              go_simp
              exact hK.out _ _ ⟨b0, b1, b2, b3, b4, b5, b6, true, b8, true, b10, b11, x62, x63, x64, x65, x66, x67, x68, .tuple #[.slice (some ⟨gx, 0, none⟩) N cx, .bool true], x69, (.bool true), x13, x14, gx, cx, (by simp only [Act.put, List.setIfInBounds_toArray, List.set_cons_zero, List.set_cons_succ]), (by simp only [Act.put, List.setIfInBounds_toArray, List.set_cons_zero, List.set_cons_succ]), hb, cd0, cd1, cd2, cd3, cd4, cd5, cd6, (fun _ => rfl), cd8, (fun _ => rfl), cd10, cd11, f_x, w_7_6, w_8_6, w_10_6⟩
            · rintro L a w ⟨b0, b1, b2, b3, b4, b5, b6, b7, b8, b9, b10, b11, x62, x63, x64, x65, x66, x67, x68, x61, x69, x70, x13, x14, gx, cx, rfl, rfl, hb, cd0, cd1, cd2, cd3, cd4, cd5, cd6, cd7, cd8, cd9, cd10, cd11, f_x, w_7_6, w_8_6, w_10_6⟩ hf hd
              have hf' : b10 = false := hf
              subst hf'
              have d8 : b8 = true := hd ⟨8, .data⟩ (by simp) rfl
              subst d8
              have d6 : b6 = true := hd ⟨6, .chain⟩ (by simp) rfl
              subst d6
              have d0 : b0 = true := hd ⟨0, .phase⟩ (by simp) rfl
              subst d0
              have d1 : b1 = true := hd ⟨1, .phase⟩ (by simp) rfl
              subst d1
              have d2 : b2 = true := hd ⟨2, .phase⟩ (by simp) rfl
              subst d2
              have d3 : b3 = true := hd ⟨3, .phase⟩ (by simp) rfl
              subst d3
              have d4 : b4 = true := hd ⟨4, .phase⟩ (by simp) rfl
              subst d4
              have d5 : b5 = true := hd ⟨5, .phase⟩ (by simp) rfl
              subst d5
              have d7 : b7 = true := hd ⟨7, .phase⟩ (by simp) rfl
              subst d7
              obtain rfl := cd8.out rfl
              obtain rfl := cd6.out rfl
              obtain rfl := cd0.out rfl
              obtain rfl := cd1.out rfl
              obtain rfl := cd2.out rfl
              obtain rfl := cd3.out rfl
              obtain rfl := cd4.out rfl
              obtain rfl := cd5.out rfl
              obtain rfl := cd7.out rfl
              clear hf hd
              have W_x := f_x.out rfl
              try simp only [List.setIfInBounds_toArray, List.set_cons_zero, List.set_cons_succ]
              intro K hK
              rw [if_pos (by rfl)]
              go_simp
              exact hK.out _ _ ⟨true, true, true, true, true, true, true, true, true, b9, true, b11, .agg #[.string (bsOf NM), .slice co N cc, .int .i64 (KI : Nat), .bool only, .slice ro rn rc], .slice (some ⟨gr, 0, none⟩) N rca, .pointer (some ⟨gs, 2, none⟩), .int .i64 (KI : Nat), .pointer (some ⟨gr, KI * 3, none⟩), .agg #[.int .i64 k, .int .i64 m, .string s], .tuple #[.slice (some ⟨gx, 0, none⟩) N cx, .bool true], .tuple #[.slice (some ⟨gx, 0, none⟩) N cx, .bool true], .slice (some ⟨gx, 0, none⟩) N cx, x70, (.slice (some ⟨gx, 0, none⟩) N cx), x14, gx, cx, (by simp only [Act.put, List.setIfInBounds_toArray, List.set_cons_zero, List.set_cons_succ]), (by simp only [Act.put, List.setIfInBounds_toArray, List.set_cons_zero, List.set_cons_succ]), hb, (fun _ => rfl), (fun _ => rfl), (fun _ => rfl), (fun _ => rfl), (fun _ => rfl), (fun _ => rfl), (fun _ => rfl), (fun _ => rfl), (fun _ => rfl), cd9, (fun _ => rfl), cd11, f_x, (fun _ => rfl), (fun _ => rfl), (fun _ => rfl)⟩
            · rintro L a w ⟨b0, b1, b2, b3, b4, b5, b6, b7, b8, b9, b10, b11, x62, x63, x64, x65, x66, x67, x68, x61, x69, x70, x13, x14, gx, cx, rfl, rfl, hb, cd0, cd1, cd2, cd3, cd4, cd5, cd6, cd7, cd8, cd9, cd10, cd11, f_x, w_7_6, w_8_6, w_10_6⟩ hf hd
              have hf' : b11 = false := hf
              subst hf'
              have d9 : b9 = true := hd ⟨9, .data⟩ (by simp) rfl
              subst d9
              have d10 : b10 = true := hd ⟨10, .chain⟩ (by simp) rfl
              subst d10
              have d0 : b0 = true := hd ⟨0, .phase⟩ (by simp) rfl
              subst d0
              have d1 : b1 = true := hd ⟨1, .phase⟩ (by simp) rfl
              subst d1
              have d2 : b2 = true := hd ⟨2, .phase⟩ (by simp) rfl
              subst d2
              have d3 : b3 = true := hd ⟨3, .phase⟩ (by simp) rfl
              subst d3
              have d4 : b4 = true := hd ⟨4, .phase⟩ (by simp) rfl
              subst d4
              have d5 : b5 = true := hd ⟨5, .phase⟩ (by simp) rfl
              subst d5
              have d6 : b6 = true := hd ⟨6, .phase⟩ (by simp) rfl
              subst d6
              have d7 : b7 = true := hd ⟨7, .phase⟩ (by simp) rfl
              subst d7
              have d8 : b8 = true := hd ⟨8, .phase⟩ (by simp) rfl
              subst d8
              obtain rfl := cd9.out rfl
              obtain rfl := cd10.out rfl
              obtain rfl := cd0.out rfl
              obtain rfl := cd1.out rfl
              obtain rfl := cd2.out rfl
              obtain rfl := cd3.out rfl
              obtain rfl := cd4.out rfl
              obtain rfl := cd5.out rfl
              obtain rfl := cd6.out rfl
              obtain rfl := cd7.out rfl
              obtain rfl := cd8.out rfl
              clear hf hd
              have W_x := f_x.out rfl
              try simp only [List.setIfInBounds_toArray, List.set_cons_zero, List.set_cons_succ]
              intro K hK
              rw [if_pos (by rfl)]
              go_simp
              exact hK.out _ _ ⟨true, true, true, true, true, true, true, true, true, true, true, true, .agg #[.string (bsOf NM), .slice co N cc, .int .i64 (KI : Nat), .bool only, .slice ro rn rc], .slice (some ⟨gr, 0, none⟩) N rca, .pointer (some ⟨gs, 2, none⟩), .int .i64 (KI : Nat), .pointer (some ⟨gr, KI * 3, none⟩), .agg #[.int .i64 k, .int .i64 m, .string s], .tuple #[.slice (some ⟨gx, 0, none⟩) N cx, .bool true], .tuple #[.slice (some ⟨gx, 0, none⟩) N cx, .bool true], .slice (some ⟨gx, 0, none⟩) N cx, .bool true, .slice (some ⟨gx, 0, none⟩) N cx, (.bool true), gx, cx, (by simp only [Act.put, List.setIfInBounds_toArray, List.set_cons_zero, List.set_cons_succ]), (by simp only [Act.put, List.setIfInBounds_toArray, List.set_cons_zero, List.set_cons_succ]), hb, (fun _ => rfl), (fun _ => rfl), (fun _ => rfl), (fun _ => rfl), (fun _ => rfl), (fun _ => rfl), (fun _ => rfl), (fun _ => rfl), (fun _ => rfl), (fun _ => rfl), (fun _ => rfl), (fun _ => rfl), f_x, (fun _ => rfl), (fun _ => rfl), (fun _ => rfl)⟩
          · rintro act V5 ⟨b0, b1, b2, b3, b4, b5, b6, b7, b8, b9, b10, b11, x62, x63, x64, x65, x66, x67, x68, x61, x69, x70, x13, x14, gx, cx, hL, rfl, hb, cd0, cd1, cd2, cd3, cd4, cd5, cd6, cd7, cd8, cd9, cd10, cd11, f_x, w_7_6, w_8_6, w_10_6⟩
            have hL' : [true, true, true, true, true, true, true, true, true, true, true, true] = [b0, b1, b2, b3, b4, b5, b6, b7, b8, b9, b10, b11] := congrArg Array.toList hL
            simp only [List.cons.injEq, and_true] at hL'
            obtain ⟨rfl, rfl, rfl, rfl, rfl, rfl, rfl, rfl, rfl, rfl, rfl, rfl⟩ := hL'
            obtain rfl := cd0.out rfl
            obtain rfl := cd1.out rfl
            obtain rfl := cd2.out rfl
            obtain rfl := cd3.out rfl
            obtain rfl := cd4.out rfl
            obtain rfl := cd5.out rfl
            obtain rfl := cd6.out rfl
            obtain rfl := cd7.out rfl
            obtain rfl := cd8.out rfl
            obtain rfl := cd9.out rfl
            obtain rfl := cd10.out rfl
            obtain rfl := cd11.out rfl
            have W_x := f_x.out rfl
            clear hL f_x cd0 cd1 cd2 cd3 cd4 cd5 cd6 cd7 cd8 cd9 cd10 cd11 w_7_6 w_8_6 w_10_6
            simp only [List.setIfInBounds_toArray, List.set_cons_zero, List.set_cons_succ]
            have bV5 : Below V2.heap.size V2 V5 := (Below.refl _ _).drew.trans hb
            have XS5 := XS2.past bV5
            have oR5 := oR2.past bV5
            have BV5 := BV2.trans (bV5.mono hpV2)
            clear hb z0 z1 z2 z3 v0 v1 v2 t0 t1 t2 t3 t4 u0 u1 u2 u3 u4
            obtain ⟨z0, z1, z2, z3⟩ := sc_cells XS5
            obtain ⟨v0, v1, v2⟩ := own_vcells oR5 KI _ hrow
            obtain ⟨x0, x1, x2⟩ := own_vcells W_x KI _ hxr
            have hki : (KI : Int) < (N : Int) := by omega
            have heq := run_eql_val k m s k m s
            have hee : eqV k m s k m s = true := by simp [eqV]
            simp only [hee] at heq
            clear hee
            go_upto_region 15 with fail
            go_quiet (fail)
            go_wp2_with fail
            go_ret
            exact ⟨rfl, by rw [HP.out]; exact below_drewN BV5 _⟩
      · have hjni : ¬ ((j : Int) < (nl : Int)) := by omega
        have hFit := fit_any wr NM (some ⟨g, 0, none⟩) N cg F (KI : Nat) only iG0 (by omega) hFk nn hnw
        unfold scV at hFit
        go_upto_region 12 with (go_at_call 22; refine hFit.mono ?_; rintro e w5 ⟨ra, rca, rfl, oT, b5⟩)
        obtain ⟨gr, rfl, oR, hgr⟩ := oT.own (by omega)
        have B5 := BB.trans (b5.mono hpw)
        have hp5 := Nat.le_trans hpw b5.size
        have iT5 := iT.past b5
        have hT5 := hT0.past b5
        have XS5 := XS0.past b5
        have hln := iT.rows.len
        have hlen100 : ∀ y ∈ rs, 0 < y.length ∧ y.length ≤ 100 := fun y hy => by have := hFi.len y hy; omega
        have HPt := put_any w5 NM co N cc KI only ro rn rc F (by omega) (by omega) 0 rs iT5 (some ⟨gr, 0, none⟩) N rca _ oR.isR hFi.srt (by omega) (fun y hy => (hlen100 y hy).2) (by omega)
        clear t0 t1 t2 t3 t4 z0 z1 z2 z3
        obtain ⟨t0, t1, t2, t3, t4⟩ := tb_cells hT5
        unfold tbV at HPt
        obtain ⟨xk, hxk, hxn⟩ := hFn
        have hrow := fitRow_get (n := nn) hxk
        have hkof : kOf KI (fitRow F nn) = fitVal nn KI xk := kOf_fit hxk
        obtain ⟨vv0, hvv⟩ : ∃ v, fitVal nn KI xk = v := ⟨_, rfl⟩
        rw [hvv] at hrow hkof
        have hrl : (fitRow F nn).length = N := by rw [fitRow_len, hFl]
        rcases put_fit F hFk KI nn rs (by omega) with ⟨h1, h2, h3⟩ | ⟨h1, h2, h3⟩
        · rw [h1, h3] at HPt
          obtain ⟨co0, rfl⟩ : ∃ x, x = co := ⟨_, rfl⟩
          obtain ⟨cc0, rfl⟩ : ∃ x, x = cc := ⟨_, rfl⟩
          obtain ⟨ro0, rfl⟩ : ∃ x, x = ro := ⟨_, rfl⟩
          obtain ⟨rn0, rfl⟩ : ∃ x, x = rn := ⟨_, rfl⟩
          obtain ⟨rc0, rfl⟩ : ∃ x, x = rc := ⟨_, rfl⟩
          have hSp : Srt KI (putN KI (fitRow F nn) rs) := hFi.srt.put _ h2
          have hPm : ∀ y ∈ putN KI (fitRow F nn) rs, 0 < y.length ∧ y.length ≤ 100 := fun y hy => by
            rcases mem_putN hy with rfl | hy
            · omega
            · exact hlen100 y hy
          have hPl : (putN KI (fitRow F nn) rs).length = rn0 + 1 := by rw [put_len, hln]
          have hPa := has_put (key := KI) (fitRow F nn) rs
          have hPg := get_put (key := KI) (fitRow F nn) rs
          have hPt := take_put (key := KI) (fitRow F nn) rs
          have hPat := at_put (key := KI) (fitRow F nn) rs
          rw [← hPat] at hPg
          rw [hkof] at hPa hPg hPt
          obtain ⟨ps, hps⟩ : ∃ ps, putN KI (fitRow F nn) rs = ps := ⟨_, rfl⟩
          rw [hps] at HPt hSp hPm hPl hPa hPg hPt
          obtain ⟨rv, hrv⟩ : ∃ rv, fitRow F nn = rv := ⟨_, rfl⟩
          rw [hrv] at hPg hrow oR hrl
          have hRv := Lib.hid hrv
          clear hps hPat h2 h3 h1 hrv hkof
          go_upto_region 13 with (go_at_call 24; refine HPt.mono ?_; rintro e w6 ⟨co, cc, ro, rn, rc, rfl, i1, b6⟩; unfold tbV)
          have hrnE : rn = rn0 + 1 := by rw [← hPl, i1.rows.len]
          have bV2 : Below w5.heap.size w5 (w6.alloc (.cells #[.string (bsOf NM), .slice co N cc, .int .i64 (KI : Nat), .bool only, .slice ro rn rc] 47)) := b6.alloc b6.size _
          have hU2 : Bk (w6.alloc (.cells #[.string (bsOf NM), .slice co N cc, .int .i64 (KI : Nat), .bool only, .slice ro rn rc] 47)) w6.heap.size (tbC NM co N cc (KI : Nat) only ro rn rc) 47 := Bk.new w6 _ _
          have iU2 := (i1.past ((Below.refl w6.heap.size w6).alloc (Nat.le_refl _) (.cells #[.string (bsOf NM), .slice co N cc, .int .i64 (KI : Nat), .bool only, .slice ro rn rc] 47))).mono (Nat.zero_le _)
          generalize w6.alloc (.cells #[.string (bsOf NM), .slice co N cc, .int .i64 (KI : Nat), .bool only, .slice ro rn rc] 47) = V2 at bV2 hU2 iU2 ⊢
          obtain ⟨gq, hgq⟩ : ∃ gq, w6.heap.size = gq := ⟨_, rfl⟩
          rw [hgq] at hU2
          simp only [hgq]
          have XS2 := XS5.past bV2
          have hT2 := hT5.past bV2
          have iT2 := iT5.past bV2
          have oR2 := oR.past bV2
          have BV2 := B5.trans (bV2.mono hp5)
          have hpV2 := Nat.le_trans hp5 bV2.size
          have hrn0 : rs.length = rn0 := hln
          have hrn31 : rn ≤ 32 := by omega
          clear hgq b6 i1 HPt t0 t1 t2 t3 t4
          obtain ⟨z0, z1, z2, z3⟩ := sc_cells XS2
          obtain ⟨u0, u1, u2, u3, u4⟩ := tb_cells hU2
          obtain ⟨v0, v1, v2⟩ := own_vcells oR2 KI _ hrow
          have t0 : True := trivial
          have t1 : True := trivial
          have t2 : True := trivial
          have t3 : True := trivial
          have t4 : True := trivial
          have HGt0 := fun (w' : World) (hb : Below V2.heap.size V2.drew w') => get_any w' NM co N cc KI only ro rn rc F 0 ps (iU2.drew.past hb) vv0 hSp (by omega) (fun y hy => ⟨(hPm y hy).1, by have := (hPm y hy).2; omega⟩)
          have HTk0 := fun (w' : World) (hb : Below V2.heap.size V2 w') => take_any w' NM co N cc KI only ro rn rc F (by omega) (by omega) 0 ps (iU2.past hb) vv0 hSp (by omega) hPm
          obtain ⟨k, m, s⟩ := vv0
          unfold tbV at HGt0 HTk0
          simp only at v0 v1 v2 HGt0 HTk0
          have HGt : ∀ (w' : World), Below V2.heap.size V2.drew w' → Calls Try.prog 30 #[.agg #[.string (bsOf NM), .slice co N cc, .int .i64 (KI : Nat), .bool only, .slice ro rn rc], .agg #[.int .i64 k, .int .i64 m, .string s]] w' fun e w'' => ∃ g3 c3, e = .returned (.tuple #[.slice (some ⟨g3, 0, none⟩) N c3, .bool true]) ∧ OwnR EV w'' 55 g3 N c3 rv ∧ w'.heap.size ≤ g3 ∧ Below w'.heap.size w' w'' := fun w' hb => (HGt0 w' hb).mono fun e w'' ⟨_, hy, hz⟩ => by
            obtain ⟨g3, c3, rfl, o3, q3⟩ := hy rv hPa hPg
            rw [hrl] at o3 ⊢
            exact ⟨g3, c3, rfl, o3, q3, hz⟩
          have HTk2 : ∀ (w' : World), Below V2.heap.size V2 w' → Calls Try.prog 27 #[.agg #[.string (bsOf NM), .slice co N cc, .int .i64 (KI : Nat), .bool only, .slice ro rn rc], .agg #[.int .i64 k, .int .i64 m, .string s]] w' fun e w'' => ∃ co3 cc3 ro3 rn3 rc3 g3 c3, e = .returned (.tuple #[.agg #[.string (bsOf NM), .slice co3 N cc3, .int .i64 (KI : Nat), .bool only, .slice ro3 rn3 rc3], .slice (some ⟨g3, 0, none⟩) N c3, .int .i64 0]) ∧ IsT w'' w'.heap.size co3 N cc3 F ro3 rn3 rc3 rs ∧ OwnR EV w'' 55 g3 N c3 rv ∧ w'.heap.size ≤ g3 ∧ Below w'.heap.size w' w'' := fun w' hb => (HTk0 w' hb).mono fun e w'' ⟨_, hy, hz⟩ => by
            obtain ⟨co3, cc3, ro3, rn3, rc3, g3, c3, rfl, i3, o3, q3⟩ := hy rv hPa hPg
            rw [hPt] at i3
            rw [hrl] at o3 ⊢
            exact ⟨co3, cc3, ro3, rn3, rc3, g3, c3, rfl, i3, o3, q3, hz⟩
          have hgsB2 := XS2.lt
          have hgrB2 := oR2.lt
          have hgqB2 := hU2.lt
          have hgsB := hgsB2
          have hgrB := hgrB2
          have hgqB := hgqB2
          have hB0 : V2.heap.size ≤ V2.heap.size := Nat.le_refl _
          clear HGt0 HTk0 hPa hPg hPt hSp hPm hrnE
          go_upto_region 16 with fail
          refine region_inv (TBack16 V2.heap.size gs gq NM g N cg KI only co cc ro rn rc gr rca k m s rv) (by kernel_rfl) (by kernel_rfl) ?_ ?_ ?_
          · exact ⟨false, false, false, false, false, false, false, false, false, false, false, false, undef, undef, undef, undef, undef, undef, undef, undef, undef, undef, undef, undef, 0, 0, rfl, (by simp only [Act.put, List.setIfInBounds_toArray, List.set_cons_zero, List.set_cons_succ]), Below.refl _ _, (fun h => by cases h), (fun h => by cases h), (fun h => by cases h), (fun h => by cases h), (fun h => by cases h), (fun h => by cases h), (fun h => by cases h), (fun h => by cases h), (fun h => by cases h), (fun h => by cases h), (fun h => by cases h), (fun h => by cases h), (fun h => by cases h), (fun h => by cases h), (fun h => by cases h), (fun h => by cases h)⟩
          · refine ⟨?_, ?_, ?_, ?_, ?_, ?_, ?_, ?_, ?_, ?_, ?_, ?_, trivial⟩
            · rintro L a w ⟨b0, b1, b2, b3, b4, b5, b6, b7, b8, b9, b10, b11, x97, x98, x99, x100, x101, x102, x103, x96, x104, x105, x15, x16, gx, cx, rfl, rfl, hb, cd0, cd1, cd2, cd3, cd4, cd5, cd6, cd7, cd8, cd9, cd10, cd11, f_x, w_7_6, w_8_6, w_10_6⟩ hf hd
              have hf' : b0 = false := hf
              subst hf'
              clear hf hd
              try simp only [List.setIfInBounds_toArray, List.set_cons_zero, List.set_cons_succ]
              have z0 := (hb.cell hgqB).trans u0
              have z1 := (hb.cell hgqB).trans u1
              have z2 := (hb.cell hgqB).trans u2
              have z3 := (hb.cell hgqB).trans u3
              have z4 := (hb.cell hgqB).trans u4
              intro K hK
              rw [if_pos (by rfl)]
              go_simp
              exact hK.out _ _ ⟨true, b1, b2, b3, b4, b5, b6, b7, b8, b9, b10, b11, (.agg #[.string (bsOf NM), .slice co N cc, .int .i64 (KI : Nat), .bool only, .slice ro rn rc]), x98, x99, x100, x101, x102, x103, x96, x104, x105, x15, x16, gx, cx, (by simp only [Act.put, List.setIfInBounds_toArray, List.set_cons_zero, List.set_cons_succ]), (by simp only [Act.put, List.setIfInBounds_toArray, List.set_cons_zero, List.set_cons_succ]), hb, (fun _ => rfl), cd1, cd2, cd3, cd4, cd5, cd6, cd7, cd8, cd9, cd10, cd11, f_x, w_7_6, w_8_6, w_10_6⟩
            · rintro L a w ⟨b0, b1, b2, b3, b4, b5, b6, b7, b8, b9, b10, b11, x97, x98, x99, x100, x101, x102, x103, x96, x104, x105, x15, x16, gx, cx, rfl, rfl, hb, cd0, cd1, cd2, cd3, cd4, cd5, cd6, cd7, cd8, cd9, cd10, cd11, f_x, w_7_6, w_8_6, w_10_6⟩ hf hd
              have hf' : b1 = false := hf
              subst hf'
              clear hf hd
              try simp only [List.setIfInBounds_toArray, List.set_cons_zero, List.set_cons_succ]
              intro K hK
              rw [if_pos (by rfl)]
              go_simp
              exact hK.out _ _ ⟨b0, true, b2, b3, b4, b5, b6, b7, b8, b9, b10, b11, x97, (.slice (some ⟨gr, 0, none⟩) N rca), x99, x100, x101, x102, x103, x96, x104, x105, x15, x16, gx, cx, (by simp only [Act.put, List.setIfInBounds_toArray, List.set_cons_zero, List.set_cons_succ]), (by simp only [Act.put, List.setIfInBounds_toArray, List.set_cons_zero, List.set_cons_succ]), hb, cd0, (fun _ => rfl), cd2, cd3, cd4, cd5, cd6, cd7, cd8, cd9, cd10, cd11, f_x, w_7_6, w_8_6, w_10_6⟩
            · rintro L a w ⟨b0, b1, b2, b3, b4, b5, b6, b7, b8, b9, b10, b11, x97, x98, x99, x100, x101, x102, x103, x96, x104, x105, x15, x16, gx, cx, rfl, rfl, hb, cd0, cd1, cd2, cd3, cd4, cd5, cd6, cd7, cd8, cd9, cd10, cd11, f_x, w_7_6, w_8_6, w_10_6⟩ hf hd
              have hf' : b2 = false := hf
              subst hf'
              clear hf hd
              try simp only [List.setIfInBounds_toArray, List.set_cons_zero, List.set_cons_succ]
              intro K hK
              rw [if_pos (by rfl)]
              go_simp
              exact hK.out _ _ ⟨b0, b1, true, b3, b4, b5, b6, b7, b8, b9, b10, b11, x97, x98, (.pointer (some ⟨gs, 2, none⟩)), x100, x101, x102, x103, x96, x104, x105, x15, x16, gx, cx, (by simp only [Act.put, List.setIfInBounds_toArray, List.set_cons_zero, List.set_cons_succ]), (by simp only [Act.put, List.setIfInBounds_toArray, List.set_cons_zero, List.set_cons_succ]), hb, cd0, cd1, (fun _ => rfl), cd3, cd4, cd5, cd6, cd7, cd8, cd9, cd10, cd11, f_x, w_7_6, w_8_6, w_10_6⟩
            · rintro L a w ⟨b0, b1, b2, b3, b4, b5, b6, b7, b8, b9, b10, b11, x97, x98, x99, x100, x101, x102, x103, x96, x104, x105, x15, x16, gx, cx, rfl, rfl, hb, cd0, cd1, cd2, cd3, cd4, cd5, cd6, cd7, cd8, cd9, cd10, cd11, f_x, w_7_6, w_8_6, w_10_6⟩ hf hd
              have hf' : b3 = false := hf
              subst hf'
              have d2 : b2 = true := hd ⟨2, .data⟩ (by simp) rfl
              subst d2
              obtain rfl := cd2.out rfl
              clear hf hd
              try simp only [List.setIfInBounds_toArray, List.set_cons_zero, List.set_cons_succ]
              have z0 := (hb.cell hgsB).trans z2
              intro K hK
              rw [if_pos (by rfl)]
              go_simp
              exact hK.out _ _ ⟨b0, b1, true, true, b4, b5, b6, b7, b8, b9, b10, b11, x97, x98, .pointer (some ⟨gs, 2, none⟩), (.int .i64 (KI : Nat)), x101, x102, x103, x96, x104, x105, x15, x16, gx, cx, (by simp only [Act.put, List.setIfInBounds_toArray, List.set_cons_zero, List.set_cons_succ]), (by simp only [Act.put, List.setIfInBounds_toArray, List.set_cons_zero, List.set_cons_succ]), hb, cd0, cd1, (fun _ => rfl), (fun _ => rfl), cd4, cd5, cd6, cd7, cd8, cd9, cd10, cd11, f_x, w_7_6, w_8_6, w_10_6⟩
            · rintro L a w ⟨b0, b1, b2, b3, b4, b5, b6, b7, b8, b9, b10, b11, x97, x98, x99, x100, x101, x102, x103, x96, x104, x105, x15, x16, gx, cx, rfl, rfl, hb, cd0, cd1, cd2, cd3, cd4, cd5, cd6, cd7, cd8, cd9, cd10, cd11, f_x, w_7_6, w_8_6, w_10_6⟩ hf hd
              have hf' : b4 = false := hf
              subst hf'
              have d1 : b1 = true := hd ⟨1, .data⟩ (by simp) rfl
              subst d1
              have d3 : b3 = true := hd ⟨3, .data⟩ (by simp) rfl
              subst d3
              obtain rfl := cd1.out rfl
              obtain rfl := cd3.out rfl
              clear hf hd
              try simp only [List.setIfInBounds_toArray, List.set_cons_zero, List.set_cons_succ]
              intro K hK
              rw [if_pos (by rfl)]
              go_simp
              exact hK.out _ _ ⟨b0, true, b2, true, true, b5, b6, b7, b8, b9, b10, b11, x97, .slice (some ⟨gr, 0, none⟩) N rca, x99, .int .i64 (KI : Nat), (.pointer (some ⟨gr, KI * 3, none⟩)), x102, x103, x96, x104, x105, x15, x16, gx, cx, (by simp only [Act.put, List.setIfInBounds_toArray, List.set_cons_zero, List.set_cons_succ]), (by simp only [Act.put, List.setIfInBounds_toArray, List.set_cons_zero, List.set_cons_succ]), hb, cd0, (fun _ => rfl), cd2, (fun _ => rfl), (fun _ => rfl), cd5, cd6, cd7, cd8, cd9, cd10, cd11, f_x, w_7_6, w_8_6, w_10_6⟩
            · rintro L a w ⟨b0, b1, b2, b3, b4, b5, b6, b7, b8, b9, b10, b11, x97, x98, x99, x100, x101, x102, x103, x96, x104, x105, x15, x16, gx, cx, rfl, rfl, hb, cd0, cd1, cd2, cd3, cd4, cd5, cd6, cd7, cd8, cd9, cd10, cd11, f_x, w_7_6, w_8_6, w_10_6⟩ hf hd
              have hf' : b5 = false := hf
              subst hf'
              have d4 : b4 = true := hd ⟨4, .data⟩ (by simp) rfl
              subst d4
              obtain rfl := cd4.out rfl
              clear hf hd
              try simp only [List.setIfInBounds_toArray, List.set_cons_zero, List.set_cons_succ]
              have z0 := (hb.cell hgrB).trans v0
              have z1 := (hb.cell hgrB).trans v1
              have z2 := (hb.cell hgrB).trans v2
              intro K hK
              rw [if_pos (by rfl)]
              go_simp
              exact hK.out _ _ ⟨b0, b1, b2, b3, true, true, b6, b7, b8, b9, b10, b11, x97, x98, x99, x100, .pointer (some ⟨gr, KI * 3, none⟩), (.agg #[.int .i64 k, .int .i64 m, .string s]), x103, x96, x104, x105, x15, x16, gx, cx, (by simp only [Act.put, List.setIfInBounds_toArray, List.set_cons_zero, List.set_cons_succ]), (by simp only [Act.put, List.setIfInBounds_toArray, List.set_cons_zero, List.set_cons_succ]), hb, cd0, cd1, cd2, cd3, (fun _ => rfl), (fun _ => rfl), cd6, cd7, cd8, cd9, cd10, cd11, f_x, w_7_6, w_8_6, w_10_6⟩
            · rintro L a w ⟨b0, b1, b2, b3, b4, b5, b6, b7, b8, b9, b10, b11, x97, x98, x99, x100, x101, x102, x103, x96, x104, x105, x15, x16, gx, cx, rfl, rfl, hb, cd0, cd1, cd2, cd3, cd4, cd5, cd6, cd7, cd8, cd9, cd10, cd11, f_x, w_7_6, w_8_6, w_10_6⟩ hf hd
              have hf' : b6 = false := hf
              subst hf'
              have d0 : b0 = true := hd ⟨0, .data⟩ (by simp) rfl
              subst d0
              have d5 : b5 = true := hd ⟨5, .data⟩ (by simp) rfl
              subst d5
              obtain rfl := cd0.out rfl
              obtain rfl := cd5.out rfl
              clear hf hd
              try simp only [List.setIfInBounds_toArray, List.set_cons_zero, List.set_cons_succ]
              intro K hK
              rw [if_pos (by rfl)]
              go_simp
              go_at_call 30
              refine (HGt _ hb).mono ?_
              rintro e w' ⟨g3, c3, rfl, o3, q3, bx⟩
              have e_7 : b7 = false := by cases hq : b7 with | false => rfl | true => exact absurd (w_7_6.out hq) (by simp)
              subst e_7
              have e_8 : b8 = false := by cases hq : b8 with | false => rfl | true => exact absurd (w_8_6.out hq) (by simp)
              subst e_8
              have e_10 : b10 = false := by cases hq : b10 with | false => rfl | true => exact absurd (w_10_6.out hq) (by simp)
              subst e_10
              exact hK.out _ _ ⟨true, b1, b2, b3, b4, true, true, false, false, b9, false, b11, .agg #[.string (bsOf NM), .slice co N cc, .int .i64 (KI : Nat), .bool only, .slice ro rn rc], x98, x99, x100, x101, .agg #[.int .i64 k, .int .i64 m, .string s], (.tuple #[.slice (some ⟨g3, 0, none⟩) N c3, .bool true]), x96, x104, x105, x15, x16, g3, c3, (by simp only [Act.put, List.setIfInBounds_toArray, List.set_cons_zero, List.set_cons_succ]), (by simp only [Act.put, List.setIfInBounds_toArray, List.set_cons_zero, List.set_cons_succ]), hb.trans (bx.mono (Nat.le_trans hB0 hb.size)), (fun _ => rfl), cd1, cd2, cd3, cd4, (fun _ => rfl), (fun _ => rfl), (fun h => by cases h), (fun h => by cases h), cd9, (fun h => by cases h), cd11, (fun _ => o3), (fun _ => rfl), (fun _ => rfl), (fun _ => rfl)⟩
            · rintro L a w ⟨b0, b1, b2, b3, b4, b5, b6, b7, b8, b9, b10, b11, x97, x98, x99, x100, x101, x102, x103, x96, x104, x105, x15, x16, gx, cx, rfl, rfl, hb, cd0, cd1, cd2, cd3, cd4, cd5, cd6, cd7, cd8, cd9, cd10, cd11, f_x, w_7_6, w_8_6, w_10_6⟩ hf hd
              have hf' : b7 = false := hf
              subst hf'
              have d6 : b6 = true := hd ⟨6, .data⟩ (by simp) rfl
              subst d6
              obtain rfl := cd6.out rfl
              clear hf hd
              have W_x := f_x.out rfl
              try simp only [List.setIfInBounds_toArray, List.set_cons_zero, List.set_cons_succ]
              intro K hK
              rw [if_pos (by rfl)]
              go_simp
              exact hK.out _ _ ⟨b0, b1, b2, b3, b4, b5, true, true, b8, b9, b10, b11, x97, x98, x99, x100, x101, x102, .tuple #[.slice (some ⟨gx, 0, none⟩) N cx, .bool true], (.tuple #[.slice (some ⟨gx, 0, none⟩) N cx, .bool true]), x104, x105, x15, x16, gx, cx, (by simp only [Act.put, List.setIfInBounds_toArray, List.set_cons_zero, List.set_cons_succ]), (by simp only [Act.put, List.setIfInBounds_toArray, List.set_cons_zero, List.set_cons_succ]), hb, cd0, cd1, cd2, cd3, cd4, cd5, (fun _ => rfl), (fun _ => rfl), cd8, cd9, cd10, cd11, f_x, (fun _ => rfl), (fun _ => rfl), (fun _ => rfl)⟩
            · rintro L a w ⟨b0, b1, b2, b3, b4, b5, b6, b7, b8, b9, b10, b11, x97, x98, x99, x100, x101, x102, x103, x96, x104, x105, x15, x16, gx, cx, rfl, rfl, hb, cd0, cd1, cd2, cd3, cd4, cd5, cd6, cd7, cd8, cd9, cd10, cd11, f_x, w_7_6, w_8_6, w_10_6⟩ hf hd
              have hf' : b8 = false := hf
              subst hf'
              have d7 : b7 = true := hd ⟨7, .data⟩ (by simp) rfl
              subst d7
              obtain rfl := cd7.out rfl
              clear hf hd
              try simp only [List.setIfInBounds_toArray, List.set_cons_zero, List.set_cons_succ]
              intro K hK
              rw [if_pos (by rfl)]
              go_simp
              exact hK.out _ _ ⟨b0, b1, b2, b3, b4, b5, b6, true, true, b9, b10, b11, x97, x98, x99, x100, x101, x102, x103, .tuple #[.slice (some ⟨gx, 0, none⟩) N cx, .bool true], (.slice (some ⟨gx, 0, none⟩) N cx), x105, x15, x16, gx, cx, (by simp only [Act.put, List.setIfInBounds_toArray, List.set_cons_zero, List.set_cons_succ]), (by simp only [Act.put, List.setIfInBounds_toArray, List.set_cons_zero, List.set_cons_succ]), hb, cd0, cd1, cd2, cd3, cd4, cd5, cd6, (fun _ => rfl), (fun _ => rfl), cd9, cd10, cd11, f_x, w_7_6, (fun _ => w_7_6.out rfl), w_10_6⟩
            · rintro L a w ⟨b0, b1, b2, b3, b4, b5, b6, b7, b8, b9, b10, b11, x97, x98, x99, x100, x101, x102, x103, x96, x104, x105, x15, x16, gx, cx, rfl, rfl, hb, cd0, cd1, cd2, cd3, cd4, cd5, cd6, cd7, cd8, cd9, cd10, cd11, f_x, w_7_6, w_8_6, w_10_6⟩ hf hd
              have hf' : b9 = false := hf
              subst hf'
              have d7 : b7 = true := hd ⟨7, .data⟩ (by simp) rfl
              subst d7
              obtain rfl := cd7.out rfl
              clear hf hd
              try simp only [List.setIfInBounds_toArray, List.set_cons_zero, List.set_cons_succ]
              intro K hK
              rw [if_pos (by rfl)]
              go_simp
              exact hK.out _ _ ⟨b0, b1, b2, b3, b4, b5, b6, true, b8, true, b10, b11, x97, x98, x99, x100, x101, x102, x103, .tuple #[.slice (some ⟨gx, 0, none⟩) N cx, .bool true], x104, (.bool true), x15, x16, gx, cx, (by simp only [Act.put, List.setIfInBounds_toArray, List.set_cons_zero, List.set_cons_succ]), (by simp only [Act.put, List.setIfInBounds_toArray, List.set_cons_zero, List.set_cons_succ]), hb, cd0, cd1, cd2, cd3, cd4, cd5, cd6, (fun _ => rfl), cd8, (fun _ => rfl), cd10, cd11, f_x, w_7_6, w_8_6, w_10_6⟩
            · rintro L a w ⟨b0, b1, b2, b3, b4, b5, b6, b7, b8, b9, b10, b11, x97, x98, x99, x100, x101, x102, x103, x96, x104, x105, x15, x16, gx, cx, rfl, rfl, hb, cd0, cd1, cd2, cd3, cd4, cd5, cd6, cd7, cd8, cd9, cd10, cd11, f_x, w_7_6, w_8_6, w_10_6⟩ hf hd
              have hf' : b10 = false := hf
              subst hf'
              have d8 : b8 = true := hd ⟨8, .data⟩ (by simp) rfl
              subst d8
              have d6 : b6 = true := hd ⟨6, .chain⟩ (by simp) rfl
              subst d6
              have d0 : b0 = true := hd ⟨0, .phase⟩ (by simp) rfl
              subst d0
              have d1 : b1 = true := hd ⟨1, .phase⟩ (by simp) rfl
              subst d1
              have d2 : b2 = true := hd ⟨2, .phase⟩ (by simp) rfl
              subst d2
              have d3 : b3 = true := hd ⟨3, .phase⟩ (by simp) rfl
              subst d3
              have d4 : b4 = true := hd ⟨4, .phase⟩ (by simp) rfl
              subst d4
              have d5 : b5 = true := hd ⟨5, .phase⟩ (by simp) rfl
              subst d5
              have d7 : b7 = true := hd ⟨7, .phase⟩ (by simp) rfl
              subst d7
              obtain rfl := cd8.out rfl
              obtain rfl := cd6.out rfl
              obtain rfl := cd0.out rfl
              obtain rfl := cd1.out rfl
              obtain rfl := cd2.out rfl
              obtain rfl := cd3.out rfl
              obtain rfl := cd4.out rfl
              obtain rfl := cd5.out rfl
              obtain rfl := cd7.out rfl
              clear hf hd
              have W_x := f_x.out rfl
              try simp only [List.setIfInBounds_toArray, List.set_cons_zero, List.set_cons_succ]
              intro K hK
              rw [if_pos (by rfl)]
              go_simp
              exact hK.out _ _ ⟨true, true, true, true, true, true, true, true, true, b9, true, b11, .agg #[.string (bsOf NM), .slice co N cc, .int .i64 (KI : Nat), .bool only, .slice ro rn rc], .slice (some ⟨gr, 0, none⟩) N rca, .pointer (some ⟨gs, 2, none⟩), .int .i64 (KI : Nat), .pointer (some ⟨gr, KI * 3, none⟩), .agg #[.int .i64 k, .int .i64 m, .string s], .tuple #[.slice (some ⟨gx, 0, none⟩) N cx, .bool true], .tuple #[.slice (some ⟨gx, 0, none⟩) N cx, .bool true], .slice (some ⟨gx, 0, none⟩) N cx, x105, (.slice (some ⟨gx, 0, none⟩) N cx), x16, gx, cx, (by simp only [Act.put, List.setIfInBounds_toArray, List.set_cons_zero, List.set_cons_succ]), (by simp only [Act.put, List.setIfInBounds_toArray, List.set_cons_zero, List.set_cons_succ]), hb, (fun _ => rfl), (fun _ => rfl), (fun _ => rfl), (fun _ => rfl), (fun _ => rfl), (fun _ => rfl), (fun _ => rfl), (fun _ => rfl), (fun _ => rfl), cd9, (fun _ => rfl), cd11, f_x, (fun _ => rfl), (fun _ => rfl), (fun _ => rfl)⟩
            · rintro L a w ⟨b0, b1, b2, b3, b4, b5, b6, b7, b8, b9, b10, b11, x97, x98, x99, x100, x101, x102, x103, x96, x104, x105, x15, x16, gx, cx, rfl, rfl, hb, cd0, cd1, cd2, cd3, cd4, cd5, cd6, cd7, cd8, cd9, cd10, cd11, f_x, w_7_6, w_8_6, w_10_6⟩ hf hd
              have hf' : b11 = false := hf
              subst hf'
              have d9 : b9 = true := hd ⟨9, .data⟩ (by simp) rfl
              subst d9
              have d10 : b10 = true := hd ⟨10, .chain⟩ (by simp) rfl
              subst d10
              have d0 : b0 = true := hd ⟨0, .phase⟩ (by simp) rfl
              subst d0
              have d1 : b1 = true := hd ⟨1, .phase⟩ (by simp) rfl
              subst d1
              have d2 : b2 = true := hd ⟨2, .phase⟩ (by simp) rfl
              subst d2
              have d3 : b3 = true := hd ⟨3, .phase⟩ (by simp) rfl
              subst d3
              have d4 : b4 = true := hd ⟨4, .phase⟩ (by simp) rfl
              subst d4
              have d5 : b5 = true := hd ⟨5, .phase⟩ (by simp) rfl
              subst d5
              have d6 : b6 = true := hd ⟨6, .phase⟩ (by simp) rfl
              subst d6
              have d7 : b7 = true := hd ⟨7, .phase⟩ (by simp) rfl
              subst d7
              have d8 : b8 = true := hd ⟨8, .phase⟩ (by simp) rfl
              subst d8
              obtain rfl := cd9.out rfl
              obtain rfl := cd10.out rfl
              obtain rfl := cd0.out rfl
              obtain rfl := cd1.out rfl
              obtain rfl := cd2.out rfl
              obtain rfl := cd3.out rfl
              obtain rfl := cd4.out rfl
              obtain rfl := cd5.out rfl
              obtain rfl := cd6.out rfl
              obtain rfl := cd7.out rfl
              obtain rfl := cd8.out rfl
              clear hf hd
              have W_x := f_x.out rfl
              try simp only [List.setIfInBounds_toArray, List.set_cons_zero, List.set_cons_succ]
              intro K hK
              rw [if_pos (by rfl)]
              go_simp
              exact hK.out _ _ ⟨true, true, true, true, true, true, true, true, true, true, true, true, .agg #[.string (bsOf NM), .slice co N cc, .int .i64 (KI : Nat), .bool only, .slice ro rn rc], .slice (some ⟨gr, 0, none⟩) N rca, .pointer (some ⟨gs, 2, none⟩), .int .i64 (KI : Nat), .pointer (some ⟨gr, KI * 3, none⟩), .agg #[.int .i64 k, .int .i64 m, .string s], .tuple #[.slice (some ⟨gx, 0, none⟩) N cx, .bool true], .tuple #[.slice (some ⟨gx, 0, none⟩) N cx, .bool true], .slice (some ⟨gx, 0, none⟩) N cx, .bool true, .slice (some ⟨gx, 0, none⟩) N cx, (.bool true), gx, cx, (by simp only [Act.put, List.setIfInBounds_toArray, List.set_cons_zero, List.set_cons_succ]), (by simp only [Act.put, List.setIfInBounds_toArray, List.set_cons_zero, List.set_cons_succ]), hb, (fun _ => rfl), (fun _ => rfl), (fun _ => rfl), (fun _ => rfl), (fun _ => rfl), (fun _ => rfl), (fun _ => rfl), (fun _ => rfl), (fun _ => rfl), (fun _ => rfl), (fun _ => rfl), (fun _ => rfl), f_x, (fun _ => rfl), (fun _ => rfl), (fun _ => rfl)⟩
          · rintro act V5 ⟨b0, b1, b2, b3, b4, b5, b6, b7, b8, b9, b10, b11, x97, x98, x99, x100, x101, x102, x103, x96, x104, x105, x15, x16, gx, cx, hL, rfl, hb, cd0, cd1, cd2, cd3, cd4, cd5, cd6, cd7, cd8, cd9, cd10, cd11, f_x, w_7_6, w_8_6, w_10_6⟩
            have hL' : [true, true, true, true, true, true, true, true, true, true, true, true] = [b0, b1, b2, b3, b4, b5, b6, b7, b8, b9, b10, b11] := congrArg Array.toList hL
            simp only [List.cons.injEq, and_true] at hL'
            obtain ⟨rfl, rfl, rfl, rfl, rfl, rfl, rfl, rfl, rfl, rfl, rfl, rfl⟩ := hL'
            obtain rfl := cd0.out rfl
            obtain rfl := cd1.out rfl
            obtain rfl := cd2.out rfl
            obtain rfl := cd3.out rfl
            obtain rfl := cd4.out rfl
            obtain rfl := cd5.out rfl
            obtain rfl := cd6.out rfl
            obtain rfl := cd7.out rfl
            obtain rfl := cd8.out rfl
            obtain rfl := cd9.out rfl
            obtain rfl := cd10.out rfl
            obtain rfl := cd11.out rfl
            have W_x := f_x.out rfl
            clear hL f_x cd0 cd1 cd2 cd3 cd4 cd5 cd6 cd7 cd8 cd9 cd10 cd11 w_7_6 w_8_6 w_10_6
            simp only [List.setIfInBounds_toArray, List.set_cons_zero, List.set_cons_succ]
            have bV5 : Below V2.heap.size V2 V5 := (Below.refl _ _).drew.trans hb
            have BV5 := BV2.trans (bV5.mono hpV2)
            have hpV5 := Nat.le_trans hpV2 bV5.size
            clear hb z0 z1 z2 z3 v0 v1 v2 u0 u1 u2 u3 u4 t0 t1 t2 t3 t4
            obtain ⟨z0, z1, z2, z3⟩ := sc_cells (XS2.past bV5)
            obtain ⟨v0, v1, v2⟩ := own_vcells (oR2.past bV5) KI _ hrow
            obtain ⟨u0, u1, u2, u3, u4⟩ := tb_cells (hU2.past bV5)
            have hgsB : gs < V5.heap.size := Nat.lt_of_lt_of_le hgsB2 bV5.size
            have hgrB : gr < V5.heap.size := Nat.lt_of_lt_of_le hgrB2 bV5.size
            have hgqB : gq < V5.heap.size := Nat.lt_of_lt_of_le hgqB2 bV5.size
            have hB0 : V5.heap.size ≤ V5.heap.size := Nat.le_refl _
            have HTk := fun (w' : World) (hb : Below V5.heap.size V5.drew w') => HTk2 w' (bV5.trans (((Below.refl _ _).drew.trans hb).mono bV5.size))
            go_upto_region 17 with fail
            refine region_inv (TBack17 V5.heap.size gs gq NM g N cg KI only co cc ro rn rc gr rca k m s F rs rv) (by kernel_rfl) (by kernel_rfl) ?_ ?_ ?_
            · exact ⟨false, false, false, false, false, false, false, false, false, false, false, false, false, false, false, undef, undef, undef, undef, undef, undef, undef, undef, undef, undef, undef, undef, undef, undef, none, 0, none, 0, 0, 0, 0, 0, rfl, (by simp only [Act.put, List.setIfInBounds_toArray, List.set_cons_zero, List.set_cons_succ]), Below.refl _ _, (fun h => by cases h), (fun h => by cases h), (fun h => by cases h), (fun h => by cases h), (fun h => by cases h), (fun h => by cases h), (fun h => by cases h), (fun h => by cases h), (fun h => by cases h), (fun h => by cases h), (fun h => by cases h), (fun h => by cases h), (fun h => by cases h), (fun h => by cases h), (fun h => by cases h), (fun h => by cases h), (fun h => by cases h), (fun h => by cases h), (fun h => by cases h), (fun h => by cases h), (fun h => by cases h), (fun h => by cases h), (fun h => by cases h), (fun h => by cases h), (fun h => by cases h), (fun h => by cases h)⟩
            · refine ⟨?_, ?_, ?_, ?_, ?_, ?_, ?_, ?_, ?_, ?_, ?_, ?_, ?_, ?_, ?_, trivial⟩
              · rintro L a w ⟨b0, b1, b2, b3, b4, b5, b6, b7, b8, b9, b10, b11, b12, b13, b14, x107, x108, x109, x110, x111, x112, x113, x106, x114, x115, x116, x17, x18, x19, co2, cc2, ro2, rn2, rc2, gy, cy, gu, rfl, rfl, hb, cd0, cd1, cd2, cd3, cd4, cd5, cd6, cd7, cd8, cd9, cd10, cd11, cd13, cd14, f_tt, f_st, f_lt, f_z, f_lg, f_s, f_o12, f_o12b, w_7_6, w_8_6, w_9_6, w_13_6⟩ hf hd
                have hf' : b0 = false := hf
                subst hf'
                clear hf hd
                try simp only [List.setIfInBounds_toArray, List.set_cons_zero, List.set_cons_succ]
                have z0 := (hb.cell hgqB).trans u0
                have z1 := (hb.cell hgqB).trans u1
                have z2 := (hb.cell hgqB).trans u2
                have z3 := (hb.cell hgqB).trans u3
                have z4 := (hb.cell hgqB).trans u4
                intro K hK
                rw [if_pos (by rfl)]
                go_simp
                exact hK.out _ _ ⟨true, b1, b2, b3, b4, b5, b6, b7, b8, b9, b10, b11, b12, b13, b14, (.agg #[.string (bsOf NM), .slice co N cc, .int .i64 (KI : Nat), .bool only, .slice ro rn rc]), x108, x109, x110, x111, x112, x113, x106, x114, x115, x116, x17, x18, x19, co2, cc2, ro2, rn2, rc2, gy, cy, gu, (by simp only [Act.put, List.setIfInBounds_toArray, List.set_cons_zero, List.set_cons_succ]), (by simp only [Act.put, List.setIfInBounds_toArray, List.set_cons_zero, List.set_cons_succ]), hb, (fun _ => rfl), cd1, cd2, cd3, cd4, cd5, cd6, cd7, cd8, cd9, cd10, cd11, cd13, cd14, f_tt, f_st, f_lt, f_z, f_lg, f_s, f_o12, f_o12b, w_7_6, w_8_6, w_9_6, w_13_6⟩
              · rintro L a w ⟨b0, b1, b2, b3, b4, b5, b6, b7, b8, b9, b10, b11, b12, b13, b14, x107, x108, x109, x110, x111, x112, x113, x106, x114, x115, x116, x17, x18, x19, co2, cc2, ro2, rn2, rc2, gy, cy, gu, rfl, rfl, hb, cd0, cd1, cd2, cd3, cd4, cd5, cd6, cd7, cd8, cd9, cd10, cd11, cd13, cd14, f_tt, f_st, f_lt, f_z, f_lg, f_s, f_o12, f_o12b, w_7_6, w_8_6, w_9_6, w_13_6⟩ hf hd
                have hf' : b1 = false := hf
                subst hf'
                clear hf hd
                try simp only [List.setIfInBounds_toArray, List.set_cons_zero, List.set_cons_succ]
                intro K hK
                rw [if_pos (by rfl)]
                go_simp
                exact hK.out _ _ ⟨b0, true, b2, b3, b4, b5, b6, b7, b8, b9, b10, b11, b12, b13, b14, x107, (.slice (some ⟨gr, 0, none⟩) N rca), x109, x110, x111, x112, x113, x106, x114, x115, x116, x17, x18, x19, co2, cc2, ro2, rn2, rc2, gy, cy, gu, (by simp only [Act.put, List.setIfInBounds_toArray, List.set_cons_zero, List.set_cons_succ]), (by simp only [Act.put, List.setIfInBounds_toArray, List.set_cons_zero, List.set_cons_succ]), hb, cd0, (fun _ => rfl), cd2, cd3, cd4, cd5, cd6, cd7, cd8, cd9, cd10, cd11, cd13, cd14, f_tt, f_st, f_lt, f_z, f_lg, f_s, f_o12, f_o12b, w_7_6, w_8_6, w_9_6, w_13_6⟩
              · rintro L a w ⟨b0, b1, b2, b3, b4, b5, b6, b7, b8, b9, b10, b11, b12, b13, b14, x107, x108, x109, x110, x111, x112, x113, x106, x114, x115, x116, x17, x18, x19, co2, cc2, ro2, rn2, rc2, gy, cy, gu, rfl, rfl, hb, cd0, cd1, cd2, cd3, cd4, cd5, cd6, cd7, cd8, cd9, cd10, cd11, cd13, cd14, f_tt, f_st, f_lt, f_z, f_lg, f_s, f_o12, f_o12b, w_7_6, w_8_6, w_9_6, w_13_6⟩ hf hd
                have hf' : b2 = false := hf
                subst hf'
                clear hf hd
                try simp only [List.setIfInBounds_toArray, List.set_cons_zero, List.set_cons_succ]
                intro K hK
                rw [if_pos (by rfl)]
                go_simp
                exact hK.out _ _ ⟨b0, b1, true, b3, b4, b5, b6, b7, b8, b9, b10, b11, b12, b13, b14, x107, x108, (.pointer (some ⟨gs, 2, none⟩)), x110, x111, x112, x113, x106, x114, x115, x116, x17, x18, x19, co2, cc2, ro2, rn2, rc2, gy, cy, gu, (by simp only [Act.put, List.setIfInBounds_toArray, List.set_cons_zero, List.set_cons_succ]), (by simp only [Act.put, List.setIfInBounds_toArray, List.set_cons_zero, List.set_cons_succ]), hb, cd0, cd1, (fun _ => rfl), cd3, cd4, cd5, cd6, cd7, cd8, cd9, cd10, cd11, cd13, cd14, f_tt, f_st, f_lt, f_z, f_lg, f_s, f_o12, f_o12b, w_7_6, w_8_6, w_9_6, w_13_6⟩
              · rintro L a w ⟨b0, b1, b2, b3, b4, b5, b6, b7, b8, b9, b10, b11, b12, b13, b14, x107, x108, x109, x110, x111, x112, x113, x106, x114, x115, x116, x17, x18, x19, co2, cc2, ro2, rn2, rc2, gy, cy, gu, rfl, rfl, hb, cd0, cd1, cd2, cd3, cd4, cd5, cd6, cd7, cd8, cd9, cd10, cd11, cd13, cd14, f_tt, f_st, f_lt, f_z, f_lg, f_s, f_o12, f_o12b, w_7_6, w_8_6, w_9_6, w_13_6⟩ hf hd
                have hf' : b3 = false := hf
                subst hf'
                have d2 : b2 = true := hd ⟨2, .data⟩ (by simp) rfl
                subst d2
                obtain rfl := cd2.out rfl
                clear hf hd
                try simp only [List.setIfInBounds_toArray, List.set_cons_zero, List.set_cons_succ]
                have z0 := (hb.cell hgsB).trans z2
                intro K hK
                rw [if_pos (by rfl)]
                go_simp
                exact hK.out _ _ ⟨b0, b1, true, true, b4, b5, b6, b7, b8, b9, b10, b11, b12, b13, b14, x107, x108, .pointer (some ⟨gs, 2, none⟩), (.int .i64 (KI : Nat)), x111, x112, x113, x106, x114, x115, x116, x17, x18, x19, co2, cc2, ro2, rn2, rc2, gy, cy, gu, (by simp only [Act.put, List.setIfInBounds_toArray, List.set_cons_zero, List.set_cons_succ]), (by simp only [Act.put, List.setIfInBounds_toArray, List.set_cons_zero, List.set_cons_succ]), hb, cd0, cd1, (fun _ => rfl), (fun _ => rfl), cd4, cd5, cd6, cd7, cd8, cd9, cd10, cd11, cd13, cd14, f_tt, f_st, f_lt, f_z, f_lg, f_s, f_o12, f_o12b, w_7_6, w_8_6, w_9_6, w_13_6⟩
              · rintro L a w ⟨b0, b1, b2, b3, b4, b5, b6, b7, b8, b9, b10, b11, b12, b13, b14, x107, x108, x109, x110, x111, x112, x113, x106, x114, x115, x116, x17, x18, x19, co2, cc2, ro2, rn2, rc2, gy, cy, gu, rfl, rfl, hb, cd0, cd1, cd2, cd3, cd4, cd5, cd6, cd7, cd8, cd9, cd10, cd11, cd13, cd14, f_tt, f_st, f_lt, f_z, f_lg, f_s, f_o12, f_o12b, w_7_6, w_8_6, w_9_6, w_13_6⟩ hf hd
                have hf' : b4 = false := hf
                subst hf'
                have d1 : b1 = true := hd ⟨1, .data⟩ (by simp) rfl
                subst d1
                have d3 : b3 = true := hd ⟨3, .data⟩ (by simp) rfl
                subst d3
                obtain rfl := cd1.out rfl
                obtain rfl := cd3.out rfl
                clear hf hd
                try simp only [List.setIfInBounds_toArray, List.set_cons_zero, List.set_cons_succ]
                intro K hK
                rw [if_pos (by rfl)]
                go_simp
                exact hK.out _ _ ⟨b0, true, b2, true, true, b5, b6, b7, b8, b9, b10, b11, b12, b13, b14, x107, .slice (some ⟨gr, 0, none⟩) N rca, x109, .int .i64 (KI : Nat), (.pointer (some ⟨gr, KI * 3, none⟩)), x112, x113, x106, x114, x115, x116, x17, x18, x19, co2, cc2, ro2, rn2, rc2, gy, cy, gu, (by simp only [Act.put, List.setIfInBounds_toArray, List.set_cons_zero, List.set_cons_succ]), (by simp only [Act.put, List.setIfInBounds_toArray, List.set_cons_zero, List.set_cons_succ]), hb, cd0, (fun _ => rfl), cd2, (fun _ => rfl), (fun _ => rfl), cd5, cd6, cd7, cd8, cd9, cd10, cd11, cd13, cd14, f_tt, f_st, f_lt, f_z, f_lg, f_s, f_o12, f_o12b, w_7_6, w_8_6, w_9_6, w_13_6⟩
              · rintro L a w ⟨b0, b1, b2, b3, b4, b5, b6, b7, b8, b9, b10, b11, b12, b13, b14, x107, x108, x109, x110, x111, x112, x113, x106, x114, x115, x116, x17, x18, x19, co2, cc2, ro2, rn2, rc2, gy, cy, gu, rfl, rfl, hb, cd0, cd1, cd2, cd3, cd4, cd5, cd6, cd7, cd8, cd9, cd10, cd11, cd13, cd14, f_tt, f_st, f_lt, f_z, f_lg, f_s, f_o12, f_o12b, w_7_6, w_8_6, w_9_6, w_13_6⟩ hf hd
                have hf' : b5 = false := hf
                subst hf'
                have d4 : b4 = true := hd ⟨4, .data⟩ (by simp) rfl
                subst d4
                obtain rfl := cd4.out rfl
                clear hf hd
                try simp only [List.setIfInBounds_toArray, List.set_cons_zero, List.set_cons_succ]
                have z0 := (hb.cell hgrB).trans v0
                have z1 := (hb.cell hgrB).trans v1
                have z2 := (hb.cell hgrB).trans v2
                intro K hK
                rw [if_pos (by rfl)]
                go_simp
                exact hK.out _ _ ⟨b0, b1, b2, b3, true, true, b6, b7, b8, b9, b10, b11, b12, b13, b14, x107, x108, x109, x110, .pointer (some ⟨gr, KI * 3, none⟩), (.agg #[.int .i64 k, .int .i64 m, .string s]), x113, x106, x114, x115, x116, x17, x18, x19, co2, cc2, ro2, rn2, rc2, gy, cy, gu, (by simp only [Act.put, List.setIfInBounds_toArray, List.set_cons_zero, List.set_cons_succ]), (by simp only [Act.put, List.setIfInBounds_toArray, List.set_cons_zero, List.set_cons_succ]), hb, cd0, cd1, cd2, cd3, (fun _ => rfl), (fun _ => rfl), cd6, cd7, cd8, cd9, cd10, cd11, cd13, cd14, f_tt, f_st, f_lt, f_z, f_lg, f_s, f_o12, f_o12b, w_7_6, w_8_6, w_9_6, w_13_6⟩
              · rintro L a w ⟨b0, b1, b2, b3, b4, b5, b6, b7, b8, b9, b10, b11, b12, b13, b14, x107, x108, x109, x110, x111, x112, x113, x106, x114, x115, x116, x17, x18, x19, co2, cc2, ro2, rn2, rc2, gy, cy, gu, rfl, rfl, hb, cd0, cd1, cd2, cd3, cd4, cd5, cd6, cd7, cd8, cd9, cd10, cd11, cd13, cd14, f_tt, f_st, f_lt, f_z, f_lg, f_s, f_o12, f_o12b, w_7_6, w_8_6, w_9_6, w_13_6⟩ hf hd
                have hf' : b6 = false := hf
                subst hf'
                have d0 : b0 = true := hd ⟨0, .data⟩ (by simp) rfl
                subst d0
                have d5 : b5 = true := hd ⟨5, .data⟩ (by simp) rfl
                subst d5
                obtain rfl := cd0.out rfl
                obtain rfl := cd5.out rfl
                clear hf hd
                try simp only [List.setIfInBounds_toArray, List.set_cons_zero, List.set_cons_succ]
                intro K hK
                rw [if_pos (by rfl)]
                go_simp
                go_at_call 27
                refine (HTk _ hb).mono ?_
                rintro e w' ⟨co3, cc3, ro3, rn3, rc3, g3, c3, rfl, i1, o1, q1, bx⟩
                have e_7 : b7 = false := by cases hq : b7 with | false => rfl | true => exact absurd (w_7_6.out hq) (by simp)
                subst e_7
                have e_8 : b8 = false := by cases hq : b8 with | false => rfl | true => exact absurd (w_8_6.out hq) (by simp)
                subst e_8
                have e_9 : b9 = false := by cases hq : b9 with | false => rfl | true => exact absurd (w_9_6.out hq) (by simp)
                subst e_9
                have e_13 : b13 = false := by cases hq : b13 with | false => rfl | true => exact absurd (w_13_6.out hq) (by simp)
                subst e_13
                exact hK.out _ _ ⟨true, b1, b2, b3, b4, true, true, false, false, false, b10, b11, b12, false, b14, .agg #[.string (bsOf NM), .slice co N cc, .int .i64 (KI : Nat), .bool only, .slice ro rn rc], x108, x109, x110, x111, .agg #[.int .i64 k, .int .i64 m, .string s], (.tuple #[.agg #[.string (bsOf NM), .slice co3 N cc3, .int .i64 (KI : Nat), .bool only, .slice ro3 rn3 rc3], .slice (some ⟨g3, 0, none⟩) N c3, .int .i64 0]), x106, x114, x115, x116, x17, x18, x19, co3, cc3, ro3, rn3, rc3, g3, c3, gu, (by simp only [Act.put, List.setIfInBounds_toArray, List.set_cons_zero, List.set_cons_succ]), (by simp only [Act.put, List.setIfInBounds_toArray, List.set_cons_zero, List.set_cons_succ]), hb.trans (bx.mono (Nat.le_trans hB0 hb.size)), (fun _ => rfl), cd1, cd2, cd3, cd4, (fun _ => rfl), (fun _ => rfl), (fun h => by cases h), (fun h => by cases h), (fun h => by cases h), cd10, cd11, (fun h => by cases h), cd14, (fun _ => ⟨i1.mono hb.size, o1⟩), (fun _ _ => fun h w'' gw => ⟨(i1.grown gw (f_lt.out h)).mono hb.size, o1.grown gw (ne_of_ge (f_lt.out h) q1)⟩), (fun h0 => Nat.lt_of_lt_of_le (f_lt.out h0) bx.size), (fun h0 h1 => (f_z.out h0 h1).past bx), f_lg, (fun h0 => absurd (f_o12.out h0) (by simp)), (fun _ => rfl), f_o12b, (fun _ => rfl), (fun _ => rfl), (fun _ => rfl), (fun _ => rfl)⟩
              · rintro L a w ⟨b0, b1, b2, b3, b4, b5, b6, b7, b8, b9, b10, b11, b12, b13, b14, x107, x108, x109, x110, x111, x112, x113, x106, x114, x115, x116, x17, x18, x19, co2, cc2, ro2, rn2, rc2, gy, cy, gu, rfl, rfl, hb, cd0, cd1, cd2, cd3, cd4, cd5, cd6, cd7, cd8, cd9, cd10, cd11, cd13, cd14, f_tt, f_st, f_lt, f_z, f_lg, f_s, f_o12, f_o12b, w_7_6, w_8_6, w_9_6, w_13_6⟩ hf hd
                have hf' : b7 = false := hf
                subst hf'
                have d6 : b6 = true := hd ⟨6, .data⟩ (by simp) rfl
                subst d6
                obtain rfl := cd6.out rfl
                clear hf hd
                have W_tt := f_tt.out rfl
                try simp only [List.setIfInBounds_toArray, List.set_cons_zero, List.set_cons_succ]
                intro K hK
                rw [if_pos (by rfl)]
                go_simp
                exact hK.out _ _ ⟨b0, b1, b2, b3, b4, b5, true, true, b8, b9, b10, b11, b12, b13, b14, x107, x108, x109, x110, x111, x112, .tuple #[.agg #[.string (bsOf NM), .slice co2 N cc2, .int .i64 (KI : Nat), .bool only, .slice ro2 rn2 rc2], .slice (some ⟨gy, 0, none⟩) N cy, .int .i64 0], (.tuple #[.agg #[.string (bsOf NM), .slice co2 N cc2, .int .i64 (KI : Nat), .bool only, .slice ro2 rn2 rc2], .slice (some ⟨gy, 0, none⟩) N cy, .int .i64 0]), x114, x115, x116, x17, x18, x19, co2, cc2, ro2, rn2, rc2, gy, cy, gu, (by simp only [Act.put, List.setIfInBounds_toArray, List.set_cons_zero, List.set_cons_succ]), (by simp only [Act.put, List.setIfInBounds_toArray, List.set_cons_zero, List.set_cons_succ]), hb, cd0, cd1, cd2, cd3, cd4, cd5, (fun _ => rfl), (fun _ => rfl), cd8, cd9, cd10, cd11, cd13, cd14, f_tt, f_st, f_lt, f_z, f_lg, f_s, f_o12, f_o12b, (fun _ => rfl), (fun _ => rfl), (fun _ => rfl), (fun _ => rfl)⟩
              · rintro L a w ⟨b0, b1, b2, b3, b4, b5, b6, b7, b8, b9, b10, b11, b12, b13, b14, x107, x108, x109, x110, x111, x112, x113, x106, x114, x115, x116, x17, x18, x19, co2, cc2, ro2, rn2, rc2, gy, cy, gu, rfl, rfl, hb, cd0, cd1, cd2, cd3, cd4, cd5, cd6, cd7, cd8, cd9, cd10, cd11, cd13, cd14, f_tt, f_st, f_lt, f_z, f_lg, f_s, f_o12, f_o12b, w_7_6, w_8_6, w_9_6, w_13_6⟩ hf hd
                have hf' : b8 = false := hf
                subst hf'
                have d7 : b7 = true := hd ⟨7, .data⟩ (by simp) rfl
                subst d7
                obtain rfl := cd7.out rfl
                clear hf hd
                try simp only [List.setIfInBounds_toArray, List.set_cons_zero, List.set_cons_succ]
                intro K hK
                rw [if_pos (by rfl)]
                go_simp
                exact hK.out _ _ ⟨b0, b1, b2, b3, b4, b5, b6, true, true, b9, b10, b11, b12, b13, b14, x107, x108, x109, x110, x111, x112, x113, .tuple #[.agg #[.string (bsOf NM), .slice co2 N cc2, .int .i64 (KI : Nat), .bool only, .slice ro2 rn2 rc2], .slice (some ⟨gy, 0, none⟩) N cy, .int .i64 0], (.agg #[.string (bsOf NM), .slice co2 N cc2, .int .i64 (KI : Nat), .bool only, .slice ro2 rn2 rc2]), x115, x116, x17, x18, x19, co2, cc2, ro2, rn2, rc2, gy, cy, gu, (by simp only [Act.put, List.setIfInBounds_toArray, List.set_cons_zero, List.set_cons_succ]), (by simp only [Act.put, List.setIfInBounds_toArray, List.set_cons_zero, List.set_cons_succ]), hb, cd0, cd1, cd2, cd3, cd4, cd5, cd6, (fun _ => rfl), (fun _ => rfl), cd9, cd10, cd11, cd13, cd14, f_tt, f_st, f_lt, f_z, f_lg, f_s, f_o12, f_o12b, w_7_6, (fun _ => w_7_6.out rfl), w_9_6, w_13_6⟩
              · rintro L a w ⟨b0, b1, b2, b3, b4, b5, b6, b7, b8, b9, b10, b11, b12, b13, b14, x107, x108, x109, x110, x111, x112, x113, x106, x114, x115, x116, x17, x18, x19, co2, cc2, ro2, rn2, rc2, gy, cy, gu, rfl, rfl, hb, cd0, cd1, cd2, cd3, cd4, cd5, cd6, cd7, cd8, cd9, cd10, cd11, cd13, cd14, f_tt, f_st, f_lt, f_z, f_lg, f_s, f_o12, f_o12b, w_7_6, w_8_6, w_9_6, w_13_6⟩ hf hd
                have hf' : b9 = false := hf
                subst hf'
                have d7 : b7 = true := hd ⟨7, .data⟩ (by simp) rfl
                subst d7
                obtain rfl := cd7.out rfl
                clear hf hd
                try simp only [List.setIfInBounds_toArray, List.set_cons_zero, List.set_cons_succ]
                intro K hK
                rw [if_pos (by rfl)]
                go_simp
                exact hK.out _ _ ⟨b0, b1, b2, b3, b4, b5, b6, true, b8, true, b10, b11, b12, b13, b14, x107, x108, x109, x110, x111, x112, x113, .tuple #[.agg #[.string (bsOf NM), .slice co2 N cc2, .int .i64 (KI : Nat), .bool only, .slice ro2 rn2 rc2], .slice (some ⟨gy, 0, none⟩) N cy, .int .i64 0], x114, (.slice (some ⟨gy, 0, none⟩) N cy), x116, x17, x18, x19, co2, cc2, ro2, rn2, rc2, gy, cy, gu, (by simp only [Act.put, List.setIfInBounds_toArray, List.set_cons_zero, List.set_cons_succ]), (by simp only [Act.put, List.setIfInBounds_toArray, List.set_cons_zero, List.set_cons_succ]), hb, cd0, cd1, cd2, cd3, cd4, cd5, cd6, (fun _ => rfl), cd8, (fun _ => rfl), cd10, cd11, cd13, cd14, f_tt, f_st, f_lt, f_z, f_lg, f_s, f_o12, f_o12b, w_7_6, w_8_6, (fun _ => w_7_6.out rfl), w_13_6⟩
              · rintro L a w ⟨b0, b1, b2, b3, b4, b5, b6, b7, b8, b9, b10, b11, b12, b13, b14, x107, x108, x109, x110, x111, x112, x113, x106, x114, x115, x116, x17, x18, x19, co2, cc2, ro2, rn2, rc2, gy, cy, gu, rfl, rfl, hb, cd0, cd1, cd2, cd3, cd4, cd5, cd6, cd7, cd8, cd9, cd10, cd11, cd13, cd14, f_tt, f_st, f_lt, f_z, f_lg, f_s, f_o12, f_o12b, w_7_6, w_8_6, w_9_6, w_13_6⟩ hf hd
                have hf' : b10 = false := hf
                subst hf'
                have d7 : b7 = true := hd ⟨7, .data⟩ (by simp) rfl
                subst d7
                obtain rfl := cd7.out rfl
                clear hf hd
                try simp only [List.setIfInBounds_toArray, List.set_cons_zero, List.set_cons_succ]
                intro K hK
                rw [if_pos (by rfl)]
                go_simp
                exact hK.out _ _ ⟨b0, b1, b2, b3, b4, b5, b6, true, b8, b9, true, b11, b12, b13, b14, x107, x108, x109, x110, x111, x112, x113, .tuple #[.agg #[.string (bsOf NM), .slice co2 N cc2, .int .i64 (KI : Nat), .bool only, .slice ro2 rn2 rc2], .slice (some ⟨gy, 0, none⟩) N cy, .int .i64 0], x114, x115, (.int .i64 0), x17, x18, x19, co2, cc2, ro2, rn2, rc2, gy, cy, gu, (by simp only [Act.put, List.setIfInBounds_toArray, List.set_cons_zero, List.set_cons_succ]), (by simp only [Act.put, List.setIfInBounds_toArray, List.set_cons_zero, List.set_cons_succ]), hb, cd0, cd1, cd2, cd3, cd4, cd5, cd6, (fun _ => rfl), cd8, cd9, (fun _ => rfl), cd11, cd13, cd14, f_tt, f_st, f_lt, f_z, f_lg, f_s, f_o12, f_o12b, w_7_6, w_8_6, w_9_6, w_13_6⟩
              · rintro L a w ⟨b0, b1, b2, b3, b4, b5, b6, b7, b8, b9, b10, b11, b12, b13, b14, x107, x108, x109, x110, x111, x112, x113, x106, x114, x115, x116, x17, x18, x19, co2, cc2, ro2, rn2, rc2, gy, cy, gu, rfl, rfl, hb, cd0, cd1, cd2, cd3, cd4, cd5, cd6, cd7, cd8, cd9, cd10, cd11, cd13, cd14, f_tt, f_st, f_lt, f_z, f_lg, f_s, f_o12, f_o12b, w_7_6, w_8_6, w_9_6, w_13_6⟩ hf hd
                have hf' : b11 = false := hf
                subst hf'
                clear hf hd
                try simp only [List.setIfInBounds_toArray, List.set_cons_zero, List.set_cons_succ]
                intro K hK
                rw [if_pos (by rfl)]
                go_simp
                have bx : Below w.heap.size w (w.alloc (.cells #[.string ⟨#[]⟩, .slice none 0 0, .int .i64 0, .bool false, .slice none 0 0] 47)) := (Below.refl _ _).alloc (Nat.le_refl _) _
                have i2 : Bk (w.alloc (.cells #[.string ⟨#[]⟩, .slice none 0 0, .int .i64 0, .bool false, .slice none 0 0] 47)) w.heap.size (tbC [] none 0 0 0 false none 0 0) 47 := Bk.new w _ _
                exact hK.out _ _ ⟨b0, b1, b2, b3, b4, b5, b6, b7, b8, b9, b10, true, b12, b13, b14, x107, x108, x109, x110, x111, x112, x113, x106, x114, x115, x116, (.pointer (some ⟨(w.heap.size), 0, none⟩)), x18, x19, co2, cc2, ro2, rn2, rc2, gy, cy, w.heap.size, (by simp only [Act.put, List.setIfInBounds_toArray, List.set_cons_zero, List.set_cons_succ]), (by simp only [Act.put, List.setIfInBounds_toArray, List.set_cons_zero, List.set_cons_succ]), hb.trans (bx.mono (Nat.le_trans hB0 hb.size)), cd0, cd1, cd2, cd3, cd4, cd5, cd6, cd7, cd8, cd9, cd10, (fun _ => rfl), cd13, cd14, (fun h0 => (f_tt.out h0).past bx), (fun h0 _ _ w'' gw => (f_tt.out h0).past (below_new gw)), (fun _ => by rw [World.size_alloc]; omega), (fun _ _ => i2), (fun _ => hb.size), (fun h0 => absurd (f_o12b.out h0) (by simp)), f_o12, (fun _ => rfl), w_7_6, w_8_6, w_9_6, w_13_6⟩
              · rintro L a w ⟨b0, b1, b2, b3, b4, b5, b6, b7, b8, b9, b10, b11, b12, b13, b14, x107, x108, x109, x110, x111, x112, x113, x106, x114, x115, x116, x17, x18, x19, co2, cc2, ro2, rn2, rc2, gy, cy, gu, rfl, rfl, hb, cd0, cd1, cd2, cd3, cd4, cd5, cd6, cd7, cd8, cd9, cd10, cd11, cd13, cd14, f_tt, f_st, f_lt, f_z, f_lg, f_s, f_o12, f_o12b, w_7_6, w_8_6, w_9_6, w_13_6⟩ hf hd
                have hf' : b12 = false := hf
                subst hf'
                have d11 : b11 = true := hd ⟨11, .data⟩ (by simp) rfl
                subst d11
                have d8 : b8 = true := hd ⟨8, .data⟩ (by simp) rfl
                subst d8
                have d6 : b6 = true := hd ⟨6, .chain⟩ (by simp) rfl
                subst d6
                have d0 : b0 = true := hd ⟨0, .phase⟩ (by simp) rfl
                subst d0
                have d1 : b1 = true := hd ⟨1, .phase⟩ (by simp) rfl
                subst d1
                have d2 : b2 = true := hd ⟨2, .phase⟩ (by simp) rfl
                subst d2
                have d3 : b3 = true := hd ⟨3, .phase⟩ (by simp) rfl
                subst d3
                have d4 : b4 = true := hd ⟨4, .phase⟩ (by simp) rfl
                subst d4
                have d5 : b5 = true := hd ⟨5, .phase⟩ (by simp) rfl
                subst d5
                have d7 : b7 = true := hd ⟨7, .phase⟩ (by simp) rfl
                subst d7
                obtain rfl := cd11.out rfl
                obtain rfl := cd8.out rfl
                obtain rfl := cd6.out rfl
                obtain rfl := cd0.out rfl
                obtain rfl := cd1.out rfl
                obtain rfl := cd2.out rfl
                obtain rfl := cd3.out rfl
                obtain rfl := cd4.out rfl
                obtain rfl := cd5.out rfl
                obtain rfl := cd7.out rfl
                clear hf hd
                have W_tt := f_tt.out rfl
                have W_st := f_st.out rfl rfl
                have W_lt := f_lt.out rfl
                have W_z := f_z.out rfl rfl
                have W_lg := f_lg.out rfl
                try simp only [List.setIfInBounds_toArray, List.set_cons_zero, List.set_cons_succ]
                intro K hK
                rw [if_pos (by rfl)]
                refine wp_store_blkT 47 _ _ rfl gu _ (tbC NM co2 N cc2 (KI : Nat) only ro2 rn2 rc2) rfl rfl _ (Lib.hid W_z) 5 szTb (tbC_size ..) (tbC_size ..) (tbC_all ..) fun w2 h8 g8 => ?_
                have hb2 := hb.grown g8 (Nat.le_trans hB0 hb.size) (fun z hz => by cases hz; exact Nat.le_trans hB0 W_lg)
                exact hK.out _ _ ⟨true, true, true, true, true, true, true, true, true, b9, b10, true, true, b13, b14, .agg #[.string (bsOf NM), .slice co N cc, .int .i64 (KI : Nat), .bool only, .slice ro rn rc], .slice (some ⟨gr, 0, none⟩) N rca, .pointer (some ⟨gs, 2, none⟩), .int .i64 (KI : Nat), .pointer (some ⟨gr, KI * 3, none⟩), .agg #[.int .i64 k, .int .i64 m, .string s], .tuple #[.agg #[.string (bsOf NM), .slice co2 N cc2, .int .i64 (KI : Nat), .bool only, .slice ro2 rn2 rc2], .slice (some ⟨gy, 0, none⟩) N cy, .int .i64 0], .tuple #[.agg #[.string (bsOf NM), .slice co2 N cc2, .int .i64 (KI : Nat), .bool only, .slice ro2 rn2 rc2], .slice (some ⟨gy, 0, none⟩) N cy, .int .i64 0], .agg #[.string (bsOf NM), .slice co2 N cc2, .int .i64 (KI : Nat), .bool only, .slice ro2 rn2 rc2], x115, x116, .pointer (some ⟨gu, 0, none⟩), x18, x19, co2, cc2, ro2, rn2, rc2, gy, cy, gu, (by simp only [Act.put, List.setIfInBounds_toArray, List.set_cons_zero, List.set_cons_succ]), (by simp only [Act.put, List.setIfInBounds_toArray, List.set_cons_zero, List.set_cons_succ]), hb2, (fun _ => rfl), (fun _ => rfl), (fun _ => rfl), (fun _ => rfl), (fun _ => rfl), (fun _ => rfl), (fun _ => rfl), (fun _ => rfl), (fun _ => rfl), cd9, cd10, (fun _ => rfl), cd13, cd14, (fun h0 => (f_st.out h0 rfl rfl) _ g8), (fun _ h => by cases h), (fun h0 => Nat.lt_of_lt_of_le ((f_lt.out h0)) g8.size), (fun _ h => by cases h), f_lg, (fun _ => h8.out), (fun _ => rfl), (fun _ => rfl), (fun _ => rfl), (fun _ => rfl), (fun _ => rfl), (fun _ => rfl)⟩
              · rintro L a w ⟨b0, b1, b2, b3, b4, b5, b6, b7, b8, b9, b10, b11, b12, b13, b14, x107, x108, x109, x110, x111, x112, x113, x106, x114, x115, x116, x17, x18, x19, co2, cc2, ro2, rn2, rc2, gy, cy, gu, rfl, rfl, hb, cd0, cd1, cd2, cd3, cd4, cd5, cd6, cd7, cd8, cd9, cd10, cd11, cd13, cd14, f_tt, f_st, f_lt, f_z, f_lg, f_s, f_o12, f_o12b, w_7_6, w_8_6, w_9_6, w_13_6⟩ hf hd
                have hf' : b13 = false := hf
                subst hf'
                have d9 : b9 = true := hd ⟨9, .data⟩ (by simp) rfl
                subst d9
                have d12 : b12 = true := hd ⟨12, .chain⟩ (by simp) rfl
                subst d12
                have d0 : b0 = true := hd ⟨0, .phase⟩ (by simp) rfl
                subst d0
                have d1 : b1 = true := hd ⟨1, .phase⟩ (by simp) rfl
                subst d1
                have d2 : b2 = true := hd ⟨2, .phase⟩ (by simp) rfl
                subst d2
                have d3 : b3 = true := hd ⟨3, .phase⟩ (by simp) rfl
                subst d3
                have d4 : b4 = true := hd ⟨4, .phase⟩ (by simp) rfl
                subst d4
                have d5 : b5 = true := hd ⟨5, .phase⟩ (by simp) rfl
                subst d5
                have d6 : b6 = true := hd ⟨6, .phase⟩ (by simp) rfl
                subst d6
                have d7 : b7 = true := hd ⟨7, .phase⟩ (by simp) rfl
                subst d7
                have d8 : b8 = true := hd ⟨8, .phase⟩ (by simp) rfl
                subst d8
                have d11 : b11 = true := hd ⟨11, .phase⟩ (by simp) rfl
                subst d11
                obtain rfl := cd9.out rfl
                obtain rfl := cd0.out rfl
                obtain rfl := cd1.out rfl
                obtain rfl := cd2.out rfl
                obtain rfl := cd3.out rfl
                obtain rfl := cd4.out rfl
                obtain rfl := cd5.out rfl
                obtain rfl := cd6.out rfl
                obtain rfl := cd7.out rfl
                obtain rfl := cd8.out rfl
                obtain rfl := cd11.out rfl
                clear hf hd
                have W_tt := f_tt.out rfl
                have W_lt := f_lt.out rfl
                have W_lg := f_lg.out rfl
                have W_s := f_s.out rfl
                have W_o12 := f_o12.out rfl
                have W_o12b := f_o12b.out rfl
                try simp only [List.setIfInBounds_toArray, List.set_cons_zero, List.set_cons_succ]
                intro K hK
                rw [if_pos (by rfl)]
                go_simp
                exact hK.out _ _ ⟨true, true, true, true, true, true, true, true, true, true, b10, true, true, true, b14, .agg #[.string (bsOf NM), .slice co N cc, .int .i64 (KI : Nat), .bool only, .slice ro rn rc], .slice (some ⟨gr, 0, none⟩) N rca, .pointer (some ⟨gs, 2, none⟩), .int .i64 (KI : Nat), .pointer (some ⟨gr, KI * 3, none⟩), .agg #[.int .i64 k, .int .i64 m, .string s], .tuple #[.agg #[.string (bsOf NM), .slice co2 N cc2, .int .i64 (KI : Nat), .bool only, .slice ro2 rn2 rc2], .slice (some ⟨gy, 0, none⟩) N cy, .int .i64 0], .tuple #[.agg #[.string (bsOf NM), .slice co2 N cc2, .int .i64 (KI : Nat), .bool only, .slice ro2 rn2 rc2], .slice (some ⟨gy, 0, none⟩) N cy, .int .i64 0], .agg #[.string (bsOf NM), .slice co2 N cc2, .int .i64 (KI : Nat), .bool only, .slice ro2 rn2 rc2], .slice (some ⟨gy, 0, none⟩) N cy, x116, .pointer (some ⟨gu, 0, none⟩), (.slice (some ⟨gy, 0, none⟩) N cy), x19, co2, cc2, ro2, rn2, rc2, gy, cy, gu, (by simp only [Act.put, List.setIfInBounds_toArray, List.set_cons_zero, List.set_cons_succ]), (by simp only [Act.put, List.setIfInBounds_toArray, List.set_cons_zero, List.set_cons_succ]), hb, (fun _ => rfl), (fun _ => rfl), (fun _ => rfl), (fun _ => rfl), (fun _ => rfl), (fun _ => rfl), (fun _ => rfl), (fun _ => rfl), (fun _ => rfl), (fun _ => rfl), cd10, (fun _ => rfl), (fun _ => rfl), cd14, f_tt, (fun _ h => by cases h), f_lt, (fun _ h => by cases h), f_lg, f_s, f_o12, f_o12b, (fun _ => rfl), (fun _ => rfl), (fun _ => rfl), (fun _ => rfl)⟩
              · rintro L a w ⟨b0, b1, b2, b3, b4, b5, b6, b7, b8, b9, b10, b11, b12, b13, b14, x107, x108, x109, x110, x111, x112, x113, x106, x114, x115, x116, x17, x18, x19, co2, cc2, ro2, rn2, rc2, gy, cy, gu, rfl, rfl, hb, cd0, cd1, cd2, cd3, cd4, cd5, cd6, cd7, cd8, cd9, cd10, cd11, cd13, cd14, f_tt, f_st, f_lt, f_z, f_lg, f_s, f_o12, f_o12b, w_7_6, w_8_6, w_9_6, w_13_6⟩ hf hd
                have hf' : b14 = false := hf
                subst hf'
                have d10 : b10 = true := hd ⟨10, .data⟩ (by simp) rfl
                subst d10
                have d13 : b13 = true := hd ⟨13, .chain⟩ (by simp) rfl
                subst d13
                have d0 : b0 = true := hd ⟨0, .phase⟩ (by simp) rfl
                subst d0
                have d1 : b1 = true := hd ⟨1, .phase⟩ (by simp) rfl
                subst d1
                have d2 : b2 = true := hd ⟨2, .phase⟩ (by simp) rfl
                subst d2
                have d3 : b3 = true := hd ⟨3, .phase⟩ (by simp) rfl
                subst d3
                have d4 : b4 = true := hd ⟨4, .phase⟩ (by simp) rfl
                subst d4
                have d5 : b5 = true := hd ⟨5, .phase⟩ (by simp) rfl
                subst d5
                have d6 : b6 = true := hd ⟨6, .phase⟩ (by simp) rfl
                subst d6
                have d7 : b7 = true := hd ⟨7, .phase⟩ (by simp) rfl
                subst d7
                have d8 : b8 = true := hd ⟨8, .phase⟩ (by simp) rfl
                subst d8
                have d9 : b9 = true := hd ⟨9, .phase⟩ (by simp) rfl
                subst d9
                have d11 : b11 = true := hd ⟨11, .phase⟩ (by simp) rfl
                subst d11
                have d12 : b12 = true := hd ⟨12, .phase⟩ (by simp) rfl
                subst d12
                obtain rfl := cd10.out rfl
                obtain rfl := cd13.out rfl
                obtain rfl := cd0.out rfl
                obtain rfl := cd1.out rfl
                obtain rfl := cd2.out rfl
                obtain rfl := cd3.out rfl
                obtain rfl := cd4.out rfl
                obtain rfl := cd5.out rfl
                obtain rfl := cd6.out rfl
                obtain rfl := cd7.out rfl
                obtain rfl := cd8.out rfl
                obtain rfl := cd9.out rfl
                obtain rfl := cd11.out rfl
                clear hf hd
                have W_tt := f_tt.out rfl
                have W_lt := f_lt.out rfl
                have W_lg := f_lg.out rfl
                have W_s := f_s.out rfl
                have W_o12 := f_o12.out rfl
                have W_o12b := f_o12b.out rfl
                try simp only [List.setIfInBounds_toArray, List.set_cons_zero, List.set_cons_succ]
                intro K hK
                rw [if_pos (by rfl)]
                go_simp
                exact hK.out _ _ ⟨true, true, true, true, true, true, true, true, true, true, true, true, true, true, true, .agg #[.string (bsOf NM), .slice co N cc, .int .i64 (KI : Nat), .bool only, .slice ro rn rc], .slice (some ⟨gr, 0, none⟩) N rca, .pointer (some ⟨gs, 2, none⟩), .int .i64 (KI : Nat), .pointer (some ⟨gr, KI * 3, none⟩), .agg #[.int .i64 k, .int .i64 m, .string s], .tuple #[.agg #[.string (bsOf NM), .slice co2 N cc2, .int .i64 (KI : Nat), .bool only, .slice ro2 rn2 rc2], .slice (some ⟨gy, 0, none⟩) N cy, .int .i64 0], .tuple #[.agg #[.string (bsOf NM), .slice co2 N cc2, .int .i64 (KI : Nat), .bool only, .slice ro2 rn2 rc2], .slice (some ⟨gy, 0, none⟩) N cy, .int .i64 0], .agg #[.string (bsOf NM), .slice co2 N cc2, .int .i64 (KI : Nat), .bool only, .slice ro2 rn2 rc2], .slice (some ⟨gy, 0, none⟩) N cy, .int .i64 0, .pointer (some ⟨gu, 0, none⟩), .slice (some ⟨gy, 0, none⟩) N cy, (.int .i64 0), co2, cc2, ro2, rn2, rc2, gy, cy, gu, (by simp only [Act.put, List.setIfInBounds_toArray, List.set_cons_zero, List.set_cons_succ]), (by simp only [Act.put, List.setIfInBounds_toArray, List.set_cons_zero, List.set_cons_succ]), hb, (fun _ => rfl), (fun _ => rfl), (fun _ => rfl), (fun _ => rfl), (fun _ => rfl), (fun _ => rfl), (fun _ => rfl), (fun _ => rfl), (fun _ => rfl), (fun _ => rfl), (fun _ => rfl), (fun _ => rfl), (fun _ => rfl), (fun _ => rfl), f_tt, (fun _ h => by cases h), f_lt, (fun _ h => by cases h), f_lg, f_s, f_o12, f_o12b, (fun _ => rfl), (fun _ => rfl), (fun _ => rfl), (fun _ => rfl)⟩
            · rintro act V6 ⟨b0, b1, b2, b3, b4, b5, b6, b7, b8, b9, b10, b11, b12, b13, b14, x107, x108, x109, x110, x111, x112, x113, x106, x114, x115, x116, x17, x18, x19, co2, cc2, ro2, rn2, rc2, gy, cy, gu, hL, rfl, hb, cd0, cd1, cd2, cd3, cd4, cd5, cd6, cd7, cd8, cd9, cd10, cd11, cd13, cd14, f_tt, f_st, f_lt, f_z, f_lg, f_s, f_o12, f_o12b, w_7_6, w_8_6, w_9_6, w_13_6⟩
              have hL' : [true, true, true, true, true, true, true, true, true, true, true, true, true, true, true] = [b0, b1, b2, b3, b4, b5, b6, b7, b8, b9, b10, b11, b12, b13, b14] := congrArg Array.toList hL
              simp only [List.cons.injEq, and_true] at hL'
              obtain ⟨rfl, rfl, rfl, rfl, rfl, rfl, rfl, rfl, rfl, rfl, rfl, rfl, rfl, rfl, rfl⟩ := hL'
              obtain rfl := cd0.out rfl
              obtain rfl := cd1.out rfl
              obtain rfl := cd2.out rfl
              obtain rfl := cd3.out rfl
              obtain rfl := cd4.out rfl
              obtain rfl := cd5.out rfl
              obtain rfl := cd6.out rfl
              obtain rfl := cd7.out rfl
              obtain rfl := cd8.out rfl
              obtain rfl := cd9.out rfl
              obtain rfl := cd10.out rfl
              obtain rfl := cd11.out rfl
              obtain rfl := cd13.out rfl
              obtain rfl := cd14.out rfl
              have W_tt := f_tt.out rfl
              have W_lt := f_lt.out rfl
              have W_lg := f_lg.out rfl
              have W_s := f_s.out rfl
              have W_o12 := f_o12.out rfl
              have W_o12b := f_o12b.out rfl
              clear hL f_tt f_st f_lt f_z f_lg f_s f_o12 f_o12b cd0 cd1 cd2 cd3 cd4 cd5 cd6 cd7 cd8 cd9 cd10 cd11 cd13 cd14 w_7_6 w_8_6 w_9_6 w_13_6
              simp only [List.setIfInBounds_toArray, List.set_cons_zero, List.set_cons_succ]
              have bV6 : Below V5.heap.size V5 V6 := (Below.refl _ _).drew.trans hb
              have bV26 := bV5.trans (bV6.mono bV5.size)
              have BV6 := BV5.trans (bV6.mono hpV5)
              have hpV6 := Nat.le_trans hpV5 bV6.size
              have HS1 := fun (w' : World) (hb : Below V6.heap.size V6 w') => rsame_any (some ⟨gx, 0, none⟩) N cx rv (some ⟨gr, 0, none⟩) N rca rv w' ((W_x.past bV6).past hb).isR ((oR2.past bV26).past hb).isR
              have HS2 := fun (w' : World) (hb : Below V6.heap.size V6 w') => rsame_any (some ⟨gy, 0, none⟩) N cy rv (some ⟨gr, 0, none⟩) N rca rv w' (W_tt.y.past hb).isR ((oR2.past bV26).past hb).isR
              obtain rfl : rn0 = rn2 := by rw [← W_tt.t.rows.len, hrn0]
              have HS3 := fun (w' : World) (hb : Below V6.heap.size V6 w') => tsame_any w' NM F N (KI : Nat) only V5.drew.heap.size 0 co2 cc2 ro2 rn0 rc2 rs co0 cc0 ro0 rn0 rc0 rs (W_tt.t.past hb) ((iT2.past bV26).past hb) (by omega)
              simp only [(eqVs_iff rv rv).2 rfl] at HS1 HS2
              simp only [(eqRs_iff rs rs).2 rfl] at HS3
              unfold tbV at HS3
              have hV6s := W_s
              have hT6 := hT2.past bV26
              clear hb W_lt W_lg W_o12 W_o12b
              go_wp2_with (first
                | (go_at_call 29; (with_reducible refine (HS1 _ (Below.refl _ _)).mono ?_); rintro en w7 ⟨rfl, b7⟩)
                | (go_at_call 29; (with_reducible refine (HS2 _ b7).mono ?_); rintro en w8 ⟨rfl, b8⟩; have b78 := b7.trans (b8.mono b7.size); obtain ⟨y0, y1, y2, y3, y4⟩ := tb_cells (hV6s.past b78); obtain ⟨t0, t1, t2, t3, t4⟩ := tb_cells (hT6.past b78))
                | (go_at_call 26; (with_reducible refine (HS3 _ b78).mono ?_); rintro en w9 ⟨rfl, b9⟩))
              go_ret
              exact ⟨rfl, by rw [HP.out]; exact (BV6.trans (b78.mono hpV6)).trans (b9.mono (Nat.le_trans hpV6 b78.size))⟩
        · rw [h1, h3] at HPt
          obtain ⟨xr, hxr0, hxk2⟩ := has_key h2
          have hxl : xr.length = N := by rw [hFi.len xr (List.mem_of_getElem? hxr0), hFl]
          have hxr := kOf_own (K := KI) (r := xr) (by omega)
          rw [hxk2] at hxr
          rw [hkof] at hxr h2 hxr0
          clear h1 h3 hkof hxk2
          go_upto_region 13 with (go_at_call 24; refine HPt.mono ?_; rintro e w6 ⟨co1, cc1, ro1, rn1, rc1, rfl, i1, b6⟩; unfold tbV)
          have bV2 : Below w5.heap.size w5 (w6.alloc (.cells #[.string (bsOf NM), .slice co1 N cc1, .int .i64 (KI : Nat), .bool only, .slice ro1 rn1 rc1] 47)) := b6.alloc b6.size _
          generalize w6.alloc (.cells #[.string (bsOf NM), .slice co1 N cc1, .int .i64 (KI : Nat), .bool only, .slice ro1 rn1 rc1] 47) = V2 at bV2 ⊢
          have XS2 := XS5.past bV2
          have hT2 := hT5.past bV2
          have iT2 := iT5.past bV2
          have oR2 := oR.past bV2
          have BV2 := B5.trans (bV2.mono hp5)
          have hpV2 := Nat.le_trans hp5 bV2.size
          clear b6 i1 HPt t0 t1 t2 t3 t4
          obtain ⟨z0, z1, z2, z3⟩ := sc_cells XS2
          obtain ⟨t0, t1, t2, t3, t4⟩ := tb_cells hT2
          obtain ⟨v0, v1, v2⟩ := own_vcells oR2 KI _ hrow
          have u0 : True := trivial
          have u1 : True := trivial
          have u2 : True := trivial
          have u3 : True := trivial
          have u4 : True := trivial
          have HGt0 := fun (w' : World) (hb : Below V2.heap.size V2.drew w') => get_any w' NM co N cc KI only ro rn rc F 0 rs (iT2.drew.past hb) vv0 hFi.srt (by omega) (fun y hy => ⟨(hlen100 y hy).1, by have := (hlen100 y hy).2; omega⟩)
          obtain ⟨k, m, s⟩ := vv0
          unfold tbV at HGt0
          simp only at v0 v1 v2 HGt0
          have HGt : ∀ (w' : World), Below V2.heap.size V2.drew w' → Calls Try.prog 30 #[.agg #[.string (bsOf NM), .slice co N cc, .int .i64 (KI : Nat), .bool only, .slice ro rn rc], .agg #[.int .i64 k, .int .i64 m, .string s]] w' fun e w'' => ∃ g3 c3, e = .returned (.tuple #[.slice (some ⟨g3, 0, none⟩) N c3, .bool true]) ∧ OwnR EV w'' 55 g3 N c3 xr ∧ w'.heap.size ≤ g3 ∧ Below w'.heap.size w' w'' := fun w' hb => (HGt0 w' hb).mono fun e w'' ⟨_, hy, hz⟩ => by
            obtain ⟨g3, c3, rfl, o3, q3⟩ := hy xr h2 hxr0
            rw [hxl] at o3 ⊢
            exact ⟨g3, c3, rfl, o3, q3, hz⟩
          have hgsB := XS2.lt
          have hgrB := oR2.lt
          have hgqB := hT2.lt
          have hB0 : V2.heap.size ≤ V2.heap.size := Nat.le_refl _
          have hPQ : ∀ _ : Nat, p0 ≤ V2.heap.size := fun _ => hpV2
          clear HGt0 h2 hxr0
          go_upto_region 14 with fail
          refine region_inv (TBack14 V2.heap.size gs gt NM g N cg KI only co cc ro rn rc gr rca k m s xr) (by kernel_rfl) (by kernel_rfl) ?_ ?_ ?_
          · exact ⟨false, false, false, false, false, false, false, false, false, false, false, false, undef, undef, undef, undef, undef, undef, undef, undef, undef, undef, undef, undef, 0, 0, rfl, (by simp only [Act.put, List.setIfInBounds_toArray, List.set_cons_zero, List.set_cons_succ]), Below.refl _ _, (fun h => by cases h), (fun h => by cases h), (fun h => by cases h), (fun h => by cases h), (fun h => by cases h), (fun h => by cases h), (fun h => by cases h), (fun h => by cases h), (fun h => by cases h), (fun h => by cases h), (fun h => by cases h), (fun h => by cases h), (fun h => by cases h), (fun h => by cases h), (fun h => by cases h), (fun h => by cases h)⟩
          · refine ⟨?_, ?_, ?_, ?_, ?_, ?_, ?_, ?_, ?_, ?_, ?_, ?_, trivial⟩
            · rintro L a w ⟨b0, b1, b2, b3, b4, b5, b6, b7, b8, b9, b10, b11, x62, x63, x64, x65, x66, x67, x68, x61, x69, x70, x13, x14, gx, cx, rfl, rfl, hb, cd0, cd1, cd2, cd3, cd4, cd5, cd6, cd7, cd8, cd9, cd10, cd11, f_x, w_7_6, w_8_6, w_10_6⟩ hf hd
              have hf' : b0 = false := hf
              subst hf'
              clear hf hd
              try simp only [List.setIfInBounds_toArray, List.set_cons_zero, List.set_cons_succ]
              have z0 := (hb.cell hgqB).trans t0
              have z1 := (hb.cell hgqB).trans t1
              have z2 := (hb.cell hgqB).trans t2
              have z3 := (hb.cell hgqB).trans t3
              have z4 := (hb.cell hgqB).trans t4
              intro K hK
              rw [if_pos (by rfl)]
              go_simp
              exact hK.out _ _ ⟨true, b1, b2, b3, b4, b5, b6, b7, b8, b9, b10, b11, (.agg #[.string (bsOf NM), .slice co N cc, .int .i64 (KI : Nat), .bool only, .slice ro rn rc]), x63, x64, x65, x66, x67, x68, x61, x69, x70, x13, x14, gx, cx, (by simp only [Act.put, List.setIfInBounds_toArray, List.set_cons_zero, List.set_cons_succ]), (by simp only [Act.put, List.setIfInBounds_toArray, List.set_cons_zero, List.set_cons_succ]), hb, (fun _ => rfl), cd1, cd2, cd3, cd4, cd5, cd6, cd7, cd8, cd9, cd10, cd11, f_x, w_7_6, w_8_6, w_10_6⟩
            · rintro L a w ⟨b0, b1, b2, b3, b4, b5, b6, b7, b8, b9, b10, b11, x62, x63, x64, x65, x66, x67, x68, x61, x69, x70, x13, x14, gx, cx, rfl, rfl, hb, cd0, cd1, cd2, cd3, cd4, cd5, cd6, cd7, cd8, cd9, cd10, cd11, f_x, w_7_6, w_8_6, w_10_6⟩ hf hd
              have hf' : b1 = false := hf
              subst hf'
              clear hf hd
              try simp only [List.setIfInBounds_toArray, List.set_cons_zero, List.set_cons_succ]
              intro K hK
              rw [if_pos (by rfl)]
              go_simp
              exact hK.out _ _ ⟨b0, true, b2, b3, b4, b5, b6, b7, b8, b9, b10, b11, x62, (.slice (some ⟨gr, 0, none⟩) N rca), x64, x65, x66, x67, x68, x61, x69, x70, x13, x14, gx, cx, (by simp only [Act.put, List.setIfInBounds_toArray, List.set_cons_zero, List.set_cons_succ]), (by simp only [Act.put, List.setIfInBounds_toArray, List.set_cons_zero, List.set_cons_succ]), hb, cd0, (fun _ => rfl), cd2, cd3, cd4, cd5, cd6, cd7, cd8, cd9, cd10, cd11, f_x, w_7_6, w_8_6, w_10_6⟩
            · rintro L a w ⟨b0, b1, b2, b3, b4, b5, b6, b7, b8, b9, b10, b11, x62, x63, x64, x65, x66, x67, x68, x61, x69, x70, x13, x14, gx, cx, rfl, rfl, hb, cd0, cd1, cd2, cd3, cd4, cd5, cd6, cd7, cd8, cd9, cd10, cd11, f_x, w_7_6, w_8_6, w_10_6⟩ hf hd
              have hf' : b2 = false := hf
              subst hf'
              clear hf hd
              try simp only [List.setIfInBounds_toArray, List.set_cons_zero, List.set_cons_succ]
              intro K hK
              rw [if_pos (by rfl)]
              go_simp
              exact hK.out _ _ ⟨b0, b1, true, b3, b4, b5, b6, b7, b8, b9, b10, b11, x62, x63, (.pointer (some ⟨gs, 2, none⟩)), x65, x66, x67, x68, x61, x69, x70, x13, x14, gx, cx, (by simp only [Act.put, List.setIfInBounds_toArray, List.set_cons_zero, List.set_cons_succ]), (by simp only [Act.put, List.setIfInBounds_toArray, List.set_cons_zero, List.set_cons_succ]), hb, cd0, cd1, (fun _ => rfl), cd3, cd4, cd5, cd6, cd7, cd8, cd9, cd10, cd11, f_x, w_7_6, w_8_6, w_10_6⟩
            · rintro L a w ⟨b0, b1, b2, b3, b4, b5, b6, b7, b8, b9, b10, b11, x62, x63, x64, x65, x66, x67, x68, x61, x69, x70, x13, x14, gx, cx, rfl, rfl, hb, cd0, cd1, cd2, cd3, cd4, cd5, cd6, cd7, cd8, cd9, cd10, cd11, f_x, w_7_6, w_8_6, w_10_6⟩ hf hd
              have hf' : b3 = false := hf
              subst hf'
              have d2 : b2 = true := hd ⟨2, .data⟩ (by simp) rfl
              subst d2
              obtain rfl := cd2.out rfl
              clear hf hd
              try simp only [List.setIfInBounds_toArray, List.set_cons_zero, List.set_cons_succ]
              have z0 := (hb.cell hgsB).trans z2
              intro K hK
              rw [if_pos (by rfl)]
              go_simp
              exact hK.out _ _ ⟨b0, b1, true, true, b4, b5, b6, b7, b8, b9, b10, b11, x62, x63, .pointer (some ⟨gs, 2, none⟩), (.int .i64 (KI : Nat)), x66, x67, x68, x61, x69, x70, x13, x14, gx, cx, (by simp only [Act.put, List.setIfInBounds_toArray, List.set_cons_zero, List.set_cons_succ]), (by simp only [Act.put, List.setIfInBounds_toArray, List.set_cons_zero, List.set_cons_succ]), hb, cd0, cd1, (fun _ => rfl), (fun _ => rfl), cd4, cd5, cd6, cd7, cd8, cd9, cd10, cd11, f_x, w_7_6, w_8_6, w_10_6⟩
            · rintro L a w ⟨b0, b1, b2, b3, b4, b5, b6, b7, b8, b9, b10, b11, x62, x63, x64, x65, x66, x67, x68, x61, x69, x70, x13, x14, gx, cx, rfl, rfl, hb, cd0, cd1, cd2, cd3, cd4, cd5, cd6, cd7, cd8, cd9, cd10, cd11, f_x, w_7_6, w_8_6, w_10_6⟩ hf hd
              have hf' : b4 = false := hf
              subst hf'
              have d1 : b1 = true := hd ⟨1, .data⟩ (by simp) rfl
              subst d1
              have d3 : b3 = true := hd ⟨3, .data⟩ (by simp) rfl
              subst d3
              obtain rfl := cd1.out rfl
              obtain rfl := cd3.out rfl
              clear hf hd
              try simp only [List.setIfInBounds_toArray, List.set_cons_zero, List.set_cons_succ]
              intro K hK
              rw [if_pos (by rfl)]
              go_simp
              exact hK.out _ _ ⟨b0, true, b2, true, true, b5, b6, b7, b8, b9, b10, b11, x62, .slice (some ⟨gr, 0, none⟩) N rca, x64, .int .i64 (KI : Nat), (.pointer (some ⟨gr, KI * 3, none⟩)), x67, x68, x61, x69, x70, x13, x14, gx, cx, (by simp only [Act.put, List.setIfInBounds_toArray, List.set_cons_zero, List.set_cons_succ]), (by simp only [Act.put, List.setIfInBounds_toArray, List.set_cons_zero, List.set_cons_succ]), hb, cd0, (fun _ => rfl), cd2, (fun _ => rfl), (fun _ => rfl), cd5, cd6, cd7, cd8, cd9, cd10, cd11, f_x, w_7_6, w_8_6, w_10_6⟩
            · rintro L a w ⟨b0, b1, b2, b3, b4, b5, b6, b7, b8, b9, b10, b11, x62, x63, x64, x65, x66, x67, x68, x61, x69, x70, x13, x14, gx, cx, rfl, rfl, hb, cd0, cd1, cd2, cd3, cd4, cd5, cd6, cd7, cd8, cd9, cd10, cd11, f_x, w_7_6, w_8_6, w_10_6⟩ hf hd
              have hf' : b5 = false := hf
              subst hf'
              have d4 : b4 = true := hd ⟨4, .data⟩ (by simp) rfl
              subst d4
              obtain rfl := cd4.out rfl
              clear hf hd
              try simp only [List.setIfInBounds_toArray, List.set_cons_zero, List.set_cons_succ]
              have z0 := (hb.cell hgrB).trans v0
              have z1 := (hb.cell hgrB).trans v1
              have z2 := (hb.cell hgrB).trans v2
              intro K hK
              rw [if_pos (by rfl)]
              go_simp
              exact hK.out _ _ ⟨b0, b1, b2, b3, true, true, b6, b7, b8, b9, b10, b11, x62, x63, x64, x65, .pointer (some ⟨gr, KI * 3, none⟩), (.agg #[.int .i64 k, .int .i64 m, .string s]), x68, x61, x69, x70, x13, x14, gx, cx, (by simp only [Act.put, List.setIfInBounds_toArray, List.set_cons_zero, List.set_cons_succ]), (by simp only [Act.put, List.setIfInBounds_toArray, List.set_cons_zero, List.set_cons_succ]), hb, cd0, cd1, cd2, cd3, (fun _ => rfl), (fun _ => rfl), cd6, cd7, cd8, cd9, cd10, cd11, f_x, w_7_6, w_8_6, w_10_6⟩
            · rintro L a w ⟨b0, b1, b2, b3, b4, b5, b6, b7, b8, b9, b10, b11, x62, x63, x64, x65, x66, x67, x68, x61, x69, x70, x13, x14, gx, cx, rfl, rfl, hb, cd0, cd1, cd2, cd3, cd4, cd5, cd6, cd7, cd8, cd9, cd10, cd11, f_x, w_7_6, w_8_6, w_10_6⟩ hf hd
              have hf' : b6 = false := hf
              subst hf'
              have d0 : b0 = true := hd ⟨0, .data⟩ (by simp) rfl
              subst d0
              have d5 : b5 = true := hd ⟨5, .data⟩ (by simp) rfl
              subst d5
              obtain rfl := cd0.out rfl
              obtain rfl := cd5.out rfl
              clear hf hd
              try simp only [List.setIfInBounds_toArray, List.set_cons_zero, List.set_cons_succ]
              intro K hK
              rw [if_pos (by rfl)]
              go_simp
              go_at_call 30
              refine (HGt _ hb).mono ?_
              rintro e w' ⟨g3, c3, rfl, o3, q3, bx⟩
              have e_7 : b7 = false := by cases hq : b7 with | false => rfl | true => exact absurd (w_7_6.out hq) (by simp)
              subst e_7
              have e_8 : b8 = false := by cases hq : b8 with | false => rfl | true => exact absurd (w_8_6.out hq) (by simp)
              subst e_8
              have e_10 : b10 = false := by cases hq : b10 with | false => rfl | true => exact absurd (w_10_6.out hq) (by simp)
              subst e_10
              exact hK.out _ _ ⟨true, b1, b2, b3, b4, true, true, false, false, b9, false, b11, .agg #[.string (bsOf NM), .slice co N cc, .int .i64 (KI : Nat), .bool only, .slice ro rn rc], x63, x64, x65, x66, .agg #[.int .i64 k, .int .i64 m, .string s], (.tuple #[.slice (some ⟨g3, 0, none⟩) N c3, .bool true]), x61, x69, x70, x13, x14, g3, c3, (by simp only [Act.put, List.setIfInBounds_toArray, List.set_cons_zero, List.set_cons_succ]), (by simp only [Act.put, List.setIfInBounds_toArray, List.set_cons_zero, List.set_cons_succ]), hb.trans (bx.mono (Nat.le_trans hB0 hb.size)), (fun _ => rfl), cd1, cd2, cd3, cd4, (fun _ => rfl), (fun _ => rfl), (fun h => by cases h), (fun h => by cases h), cd9, (fun h => by cases h), cd11, (fun _ => o3), (fun _ => rfl), (fun _ => rfl), (fun _ => rfl)⟩
            · rintro L a w ⟨b0, b1, b2, b3, b4, b5, b6, b7, b8, b9, b10, b11, x62, x63, x64, x65, x66, x67, x68, x61, x69, x70, x13, x14, gx, cx, rfl, rfl, hb, cd0, cd1, cd2, cd3, cd4, cd5, cd6, cd7, cd8, cd9, cd10, cd11, f_x, w_7_6, w_8_6, w_10_6⟩ hf hd
              have hf' : b7 = false := hf
              subst hf'
              have d6 : b6 = true := hd ⟨6, .data⟩ (by simp) rfl
              subst d6
              obtain rfl := cd6.out rfl
              clear hf hd
              have W_x := f_x.out rfl
              try simp only [List.setIfInBounds_toArray, List.set_cons_zero, List.set_cons_succ]
              intro K hK
              rw [if_pos (by rfl)]
              go_simp
              exact hK.out _ _ ⟨b0, b1, b2, b3, b4, b5, true, true, b8, b9, b10, b11, x62, x63, x64, x65, x66, x67, .tuple #[.slice (some ⟨gx, 0, none⟩) N cx, .bool true], (.tuple #[.slice (some ⟨gx, 0, none⟩) N cx, .bool true]), x69, x70, x13, x14, gx, cx, (by simp only [Act.put, List.setIfInBounds_toArray, List.set_cons_zero, List.set_cons_succ]), (by simp only [Act.put, List.setIfInBounds_toArray, List.set_cons_zero, List.set_cons_succ]), hb, cd0, cd1, cd2, cd3, cd4, cd5, (fun _ => rfl), (fun _ => rfl), cd8, cd9, cd10, cd11, f_x, (fun _ => rfl), (fun _ => rfl), (fun _ => rfl)⟩
            · rintro L a w ⟨b0, b1, b2, b3, b4, b5, b6, b7, b8, b9, b10, b11, x62, x63, x64, x65, x66, x67, x68, x61, x69, x70, x13, x14, gx, cx, rfl, rfl, hb, cd0, cd1, cd2, cd3, cd4, cd5, cd6, cd7, cd8, cd9, cd10, cd11, f_x, w_7_6, w_8_6, w_10_6⟩ hf hd
              have hf' : b8 = false := hf
              subst hf'
              have d7 : b7 = true := hd ⟨7, .data⟩ (by simp) rfl
              subst d7
              obtain rfl := cd7.out rfl
              clear hf hd
              try simp only [List.setIfInBounds_toArray, List.set_cons_zero, List.set_cons_succ]
              intro K hK
              rw [if_pos (by rfl)]
              go_simp
              exact hK.out _ _ ⟨b0, b1, b2, b3, b4, b5, b6, true, true, b9, b10, b11, x62, x63, x64, x65, x66, x67, x68, .tuple #[.slice (some ⟨gx, 0, none⟩) N cx, .bool true], (.slice (some ⟨gx, 0, none⟩) N cx), x70, x13, x14, gx, cx, (by simp only [Act.put, List.setIfInBounds_toArray, List.set_cons_zero, List.set_cons_succ]), (by simp only [Act.put, List.setIfInBounds_toArray, List.set_cons_zero, List.set_cons_succ]), hb, cd0, cd1, cd2, cd3, cd4, cd5, cd6, (fun _ => rfl), (fun _ => rfl), cd9, cd10, cd11, f_x, w_7_6, (fun _ => w_7_6.out rfl), w_10_6⟩
            · rintro L a w ⟨b0, b1, b2, b3, b4, b5, b6, b7, b8, b9, b10, b11, x62, x63, x64, x65, x66, x67, x68, x61, x69, x70, x13, x14, gx, cx, rfl, rfl, hb, cd0, cd1, cd2, cd3, cd4, cd5, cd6, cd7, cd8, cd9, cd10, cd11, f_x, w_7_6, w_8_6, w_10_6⟩ hf hd
              have hf' : b9 = false := hf
              subst hf'
              have d7 : b7 = true := hd ⟨7, .data⟩ (by simp) rfl
              subst d7
              obtain rfl := cd7.out rfl
              clear hf hd
              try simp only [List.setIfInBounds_toArray, List.set_cons_zero, List.set_cons_succ]
              intro K hK
              rw [if_pos (by rfl)]
              go_simp
              exact hK.out _ _ ⟨b0, b1, b2, b3, b4, b5, b6, true, b8, true, b10, b11, x62, x63, x64, x65, x66, x67, x68, .tuple #[.slice (some ⟨gx, 0, none⟩) N cx, .bool true], x69, (.bool true), x13, x14, gx, cx, (by simp only [Act.put, List.setIfInBounds_toArray, List.set_cons_zero, List.set_cons_succ]), (by simp only [Act.put, List.setIfInBounds_toArray, List.set_cons_zero, List.set_cons_succ]), hb, cd0, cd1, cd2, cd3, cd4, cd5, cd6, (fun _ => rfl), cd8, (fun _ => rfl), cd10, cd11, f_x, w_7_6, w_8_6, w_10_6⟩
            · rintro L a w ⟨b0, b1, b2, b3, b4, b5, b6, b7, b8, b9, b10, b11, x62, x63, x64, x65, x66, x67, x68, x61, x69, x70, x13, x14, gx, cx, rfl, rfl, hb, cd0, cd1, cd2, cd3, cd4, cd5, cd6, cd7, cd8, cd9, cd10, cd11, f_x, w_7_6, w_8_6, w_10_6⟩ hf hd
              have hf' : b10 = false := hf
              subst hf'
              have d8 : b8 = true := hd ⟨8, .data⟩ (by simp) rfl
              subst d8
              have d6 : b6 = true := hd ⟨6, .chain⟩ (by simp) rfl
              subst d6
              have d0 : b0 = true := hd ⟨0, .phase⟩ (by simp) rfl
              subst d0
              have d1 : b1 = true := hd ⟨1, .phase⟩ (by simp) rfl
              subst d1
              have d2 : b2 = true := hd ⟨2, .phase⟩ (by simp) rfl
              subst d2
              have d3 : b3 = true := hd ⟨3, .phase⟩ (by simp) rfl
              subst d3
              have d4 : b4 = true := hd ⟨4, .phase⟩ (by simp) rfl
              subst d4
              have d5 : b5 = true := hd ⟨5, .phase⟩ (by simp) rfl
              subst d5
              have d7 : b7 = true := hd ⟨7, .phase⟩ (by simp) rfl
              subst d7
              obtain rfl := cd8.out rfl
              obtain rfl := cd6.out rfl
              obtain rfl := cd0.out rfl
              obtain rfl := cd1.out rfl
              obtain rfl := cd2.out rfl
              obtain rfl := cd3.out rfl
              obtain rfl := cd4.out rfl
              obtain rfl := cd5.out rfl
              obtain rfl := cd7.out rfl
              clear hf hd
              have W_x := f_x.out rfl
              try simp only [List.setIfInBounds_toArray, List.set_cons_zero, List.set_cons_succ]
              intro K hK
              rw [if_pos (by rfl)]
              go_simp
              exact hK.out _ _ ⟨true, true, true, true, true, true, true, true, true, b9, true, b11, .agg #[.string (bsOf NM), .slice co N cc, .int .i64 (KI : Nat), .bool only, .slice ro rn rc], .slice (some ⟨gr, 0, none⟩) N rca, .pointer (some ⟨gs, 2, none⟩), .int .i64 (KI : Nat), .pointer (some ⟨gr, KI * 3, none⟩), .agg #[.int .i64 k, .int .i64 m, .string s], .tuple #[.slice (some ⟨gx, 0, none⟩) N cx, .bool true], .tuple #[.slice (some ⟨gx, 0, none⟩) N cx, .bool true], .slice (some ⟨gx, 0, none⟩) N cx, x70, (.slice (some ⟨gx, 0, none⟩) N cx), x14, gx, cx, (by simp only [Act.put, List.setIfInBounds_toArray, List.set_cons_zero, List.set_cons_succ]), (by simp only [Act.put, List.setIfInBounds_toArray, List.set_cons_zero, List.set_cons_succ]), hb, (fun _ => rfl), (fun _ => rfl), (fun _ => rfl), (fun _ => rfl), (fun _ => rfl), (fun _ => rfl), (fun _ => rfl), (fun _ => rfl), (fun _ => rfl), cd9, (fun _ => rfl), cd11, f_x, (fun _ => rfl), (fun _ => rfl), (fun _ => rfl)⟩
            · rintro L a w ⟨b0, b1, b2, b3, b4, b5, b6, b7, b8, b9, b10, b11, x62, x63, x64, x65, x66, x67, x68, x61, x69, x70, x13, x14, gx, cx, rfl, rfl, hb, cd0, cd1, cd2, cd3, cd4, cd5, cd6, cd7, cd8, cd9, cd10, cd11, f_x, w_7_6, w_8_6, w_10_6⟩ hf hd
              have hf' : b11 = false := hf
              subst hf'
              have d9 : b9 = true := hd ⟨9, .data⟩ (by simp) rfl
              subst d9
              have d10 : b10 = true := hd ⟨10, .chain⟩ (by simp) rfl
              subst d10
              have d0 : b0 = true := hd ⟨0, .phase⟩ (by simp) rfl
              subst d0
              have d1 : b1 = true := hd ⟨1, .phase⟩ (by simp) rfl
              subst d1
              have d2 : b2 = true := hd ⟨2, .phase⟩ (by simp) rfl
              subst d2
              have d3 : b3 = true := hd ⟨3, .phase⟩ (by simp) rfl
              subst d3
              have d4 : b4 = true := hd ⟨4, .phase⟩ (by simp) rfl
              subst d4
              have d5 : b5 = true := hd ⟨5, .phase⟩ (by simp) rfl
              subst d5
              have d6 : b6 = true := hd ⟨6, .phase⟩ (by simp) rfl
              subst d6
              have d7 : b7 = true := hd ⟨7, .phase⟩ (by simp) rfl
              subst d7
              have d8 : b8 = true := hd ⟨8, .phase⟩ (by simp) rfl
              subst d8
              obtain rfl := cd9.out rfl
              obtain rfl := cd10.out rfl
              obtain rfl := cd0.out rfl
              obtain rfl := cd1.out rfl
              obtain rfl := cd2.out rfl
              obtain rfl := cd3.out rfl
              obtain rfl := cd4.out rfl
              obtain rfl := cd5.out rfl
              obtain rfl := cd6.out rfl
              obtain rfl := cd7.out rfl
              obtain rfl := cd8.out rfl
              clear hf hd
              have W_x := f_x.out rfl
              try simp only [List.setIfInBounds_toArray, List.set_cons_zero, List.set_cons_succ]
              intro K hK
              rw [if_pos (by rfl)]
              go_simp
              exact hK.out _ _ ⟨true, true, true, true, true, true, true, true, true, true, true, true, .agg #[.string (bsOf NM), .slice co N cc, .int .i64 (KI : Nat), .bool only, .slice ro rn rc], .slice (some ⟨gr, 0, none⟩) N rca, .pointer (some ⟨gs, 2, none⟩), .int .i64 (KI : Nat), .pointer (some ⟨gr, KI * 3, none⟩), .agg #[.int .i64 k, .int .i64 m, .string s], .tuple #[.slice (some ⟨gx, 0, none⟩) N cx, .bool true], .tuple #[.slice (some ⟨gx, 0, none⟩) N cx, .bool true], .slice (some ⟨gx, 0, none⟩) N cx, .bool true, .slice (some ⟨gx, 0, none⟩) N cx, (.bool true), gx, cx, (by simp only [Act.put, List.setIfInBounds_toArray, List.set_cons_zero, List.set_cons_succ]), (by simp only [Act.put, List.setIfInBounds_toArray, List.set_cons_zero, List.set_cons_succ]), hb, (fun _ => rfl), (fun _ => rfl), (fun _ => rfl), (fun _ => rfl), (fun _ => rfl), (fun _ => rfl), (fun _ => rfl), (fun _ => rfl), (fun _ => rfl), (fun _ => rfl), (fun _ => rfl), (fun _ => rfl), f_x, (fun _ => rfl), (fun _ => rfl), (fun _ => rfl)⟩
          · rintro act V5 ⟨b0, b1, b2, b3, b4, b5, b6, b7, b8, b9, b10, b11, x62, x63, x64, x65, x66, x67, x68, x61, x69, x70, x13, x14, gx, cx, hL, rfl, hb, cd0, cd1, cd2, cd3, cd4, cd5, cd6, cd7, cd8, cd9, cd10, cd11, f_x, w_7_6, w_8_6, w_10_6⟩
            have hL' : [true, true, true, true, true, true, true, true, true, true, true, true] = [b0, b1, b2, b3, b4, b5, b6, b7, b8, b9, b10, b11] := congrArg Array.toList hL
            simp only [List.cons.injEq, and_true] at hL'
            obtain ⟨rfl, rfl, rfl, rfl, rfl, rfl, rfl, rfl, rfl, rfl, rfl, rfl⟩ := hL'
            obtain rfl := cd0.out rfl
            obtain rfl := cd1.out rfl
            obtain rfl := cd2.out rfl
            obtain rfl := cd3.out rfl
            obtain rfl := cd4.out rfl
            obtain rfl := cd5.out rfl
            obtain rfl := cd6.out rfl
            obtain rfl := cd7.out rfl
            obtain rfl := cd8.out rfl
            obtain rfl := cd9.out rfl
            obtain rfl := cd10.out rfl
            obtain rfl := cd11.out rfl
            have W_x := f_x.out rfl
            clear hL f_x cd0 cd1 cd2 cd3 cd4 cd5 cd6 cd7 cd8 cd9 cd10 cd11 w_7_6 w_8_6 w_10_6
            simp only [List.setIfInBounds_toArray, List.set_cons_zero, List.set_cons_succ]
            have bV5 : Below V2.heap.size V2 V5 := (Below.refl _ _).drew.trans hb
            have XS5 := XS2.past bV5
            have oR5 := oR2.past bV5
            have BV5 := BV2.trans (bV5.mono hpV2)
            clear hb z0 z1 z2 z3 v0 v1 v2 t0 t1 t2 t3 t4 u0 u1 u2 u3 u4
            obtain ⟨z0, z1, z2, z3⟩ := sc_cells XS5
            obtain ⟨v0, v1, v2⟩ := own_vcells oR5 KI _ hrow
            obtain ⟨x0, x1, x2⟩ := own_vcells W_x KI _ hxr
            have hki : (KI : Int) < (N : Int) := by omega
            have heq := run_eql_val k m s k m s
            have hee : eqV k m s k m s = true := by simp [eqV]
            simp only [hee] at heq
            clear hee
            go_upto_region 15 with fail
            go_quiet (fail)
            go_wp2_with fail
            go_ret
            exact ⟨rfl, by rw [HP.out]; exact below_drewN BV5 _⟩
end Go.Proofs.Ytppgafnepnkabaa
