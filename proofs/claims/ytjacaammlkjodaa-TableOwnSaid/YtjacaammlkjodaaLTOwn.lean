/-
  TableOwn, walked (by gen_town.py).
-/
import Derived.Test.YtjacaammlkjodaaTakeU
import Derived.Test.YtjacaammlkjodaaTabR
import Derived.Test.YtjacaammlkjodaaRSame5
import Derived.Test.YtjacaammlkjodaaOwnV
import Derived.Test.YtjacaammlkjodaaBackP
namespace Go.Proofs.Ytjacaammlkjodaa
open Go.RowKit
set_option linter.unusedSimpArgs false
theorem IsT.drew {w : World} {B : Nat} {co : Option Addr} {cn cc : Nat} {cs : List Co} {ro : Option Addr} {rn rc : Nat} {rs : List (List V)} (h : IsT w B co cn cc cs ro rn rc rs) : IsT w.drew B co cn cc cs ro rn rc rs := h.past (Below.refl _ _).drew
theorem put_nil (F : List Co) (hk : ∀ x ∈ F, x.kind = 1 ∨ x.kind = 2 ∨ x.kind = 3) (K : Nat) (n : Int) : putE F K (fitRow F n) [] = 0 ∧ putR F K (fitRow F n) [] = [fitRow F n] := by
  rcases put_fit F hk K n [] (by decide) with ⟨h1, -, h3⟩ | ⟨-, h2, -⟩
  · exact ⟨h1, h3⟩
  · cases h2
theorem grown_set {w w' : World} {g : Nat} (h : w.grownBy w' (some g)) (k : Nat) (v : Value) : w.grownBy (w'.setCell ⟨g, k, none⟩ v) (some g) :=
  ⟨h.os, h.tape, h.output, by simpa using h.size, fun b hb hne => (heap_setCell_other _ _ b _ (fun e => hne (by rw [e]))).trans (h.block b hb hne)⟩
theorem grown_refl (w : World) (g : Nat) : w.grownBy w (some g) := ⟨rfl, rfl, rfl, Nat.le_refl _, fun _ _ _ => rfl⟩
/-- All rows of a table of one row lie between no bounds. -/
theorem rng_one (K : Nat) (r : List V) (h : Vok (kOf K r)) : rngN K V0 V0 [r] = [r] := by
  have h0 : 0 ≤ (kOf K r).cmp V0 := cmp_null h (k := V0) Vok.none rfl
  have e1 : atN K V0 [r] = 0 := by
    unfold atN
    rw [if_neg (by omega)]
  have e2 : endN K V0 [r] = 1 := rfl
  unfold rngN
  rw [e1, e2]
  rfl
theorem val_vok {k n : Int} {s : ByteArray} (h : Val k n s) (h2 : -9223372036854775808 ≤ n ∧ n ≤ 9223372036854775807) : Vok ⟨k, n, s⟩ := by
  cases h with
  | none => exact .none
  | bool n h3 h4 => exact .bool _ (by omega)
  | int n => exact .int _ h2
  | text s h => exact .text _ h
theorem fit_rng (n : Int) (i : Nat) (c : Co) : -9223372036854775808 ≤ (fitVal n i c).n ∧ (fitVal n i c).n ≤ 9223372036854775807 := by
  have h1 := wth_lo (n.tdiv (1 + 3 * (i : Int))) 40 (by omega)
  have h2 := wth_hi (n.tdiv (1 + 3 * (i : Int))) 40 (by omega)
  have h3 := wth_lo (fitN n i) 2 (by omega)
  have h4 := wth_hi (fitN n i) 2 (by omega)
  unfold fitVal
  split
  · exact ⟨by decide, by decide⟩
  split
  · simp only; omega
  split
  · simp only; unfold fitN; omega
  · simp only; omega
theorem fit_vok (n : Int) (i : Nat) (c : Co) : Vok (fitVal n i c) := val_vok (fit_val n i c) (fit_rng n i c)
theorem kOf_own {K : Nat} {r : List V} (h : K < r.length) : r[K]? = some (kOf K r) := by
  unfold kOf
  rw [List.getD_eq_getElem?_getD, List.getElem?_eq_getElem h]
  rfl
/-- What stands while the region's operations come up. -/
inductive TOwn13 (B : Nat) (gs : Nat) (gq : Nat) (NM : List UInt8) (g : Nat) (N : Nat) (cg : Nat) (KI : Nat) (only : Bool) (co : Option Addr) (cc : Nat) (ro : Option Addr) (rn : Nat) (rc : Nat) (gr : Nat) (rca : Nat) (k : Int) (m : Int) (s : ByteArray) (xr : List V) (a0 : Act) (w0 : World) (L : Array Bool) (a : Act) (w : World) : Prop
  | mk (b0 b1 b2 b3 b4 b5 b6 b7 b8 b9 b10 b11 : Bool) (x50 x51 x52 x53 x54 x55 x56 x49 x57 x58 x13 x14 : Value) (gx : Nat) (cx : Nat) (hL : L = #[b0, b1, b2, b3, b4, b5, b6, b7, b8, b9, b10, b11]) (ha : a = ⟨((((((((((((a0.tmps.setIfInBounds 50 x50).setIfInBounds 51 x51).setIfInBounds 52 x52).setIfInBounds 53 x53).setIfInBounds 54 x54).setIfInBounds 55 x55).setIfInBounds 56 x56).setIfInBounds 49 x49).setIfInBounds 57 x57).setIfInBounds 58 x58).setIfInBounds 13 x13).setIfInBounds 14 x14), a0.defers⟩) (hb : Below B w0 w) (cd0 : Hid (b0 = true → x50 = .agg #[.string (bsOf NM), .slice co N cc, .int .i64 (KI : Nat), .bool only, .slice ro rn rc])) (cd1 : Hid (b1 = true → x51 = .slice (some ⟨gr, 0, none⟩) N rca)) (cd2 : Hid (b2 = true → x52 = .pointer (some ⟨gs, 2, none⟩))) (cd3 : Hid (b3 = true → x53 = .int .i64 (KI : Nat))) (cd4 : Hid (b4 = true → x54 = .pointer (some ⟨gr, KI * 3, none⟩))) (cd5 : Hid (b5 = true → x55 = .agg #[.int .i64 k, .int .i64 m, .string s])) (cd6 : Hid (b6 = true → x56 = .tuple #[.slice (some ⟨gx, 0, none⟩) N cx, .bool true])) (cd7 : Hid (b7 = true → x49 = .tuple #[.slice (some ⟨gx, 0, none⟩) N cx, .bool true])) (cd8 : Hid (b8 = true → x57 = .slice (some ⟨gx, 0, none⟩) N cx)) (cd9 : Hid (b9 = true → x58 = .bool true)) (cd10 : Hid (b10 = true → x13 = .slice (some ⟨gx, 0, none⟩) N cx)) (cd11 : Hid (b11 = true → x14 = .bool true)) (f_x : Hid (b6 = true → OwnR EV w 46 gx N cx xr)) (f_xg : Hid (b6 = true → w0.heap.size ≤ gx)) (w_7_6 : Hid (b7 = true → b6 = true)) (w_8_6 : Hid (b8 = true → b6 = true)) (w_10_6 : Hid (b10 = true → b6 = true)) : TOwn13 B gs gq NM g N cg KI only co cc ro rn rc gr rca k m s xr a0 w0 L a w
/-- What stands while the region's operations come up. -/
inductive TOwn18 (B : Nat) (gs : Nat) (gq : Nat) (NM : List UInt8) (g : Nat) (N : Nat) (cg : Nat) (KI : Nat) (only : Bool) (co : Option Addr) (cc : Nat) (ro : Option Addr) (rn : Nat) (rc : Nat) (gr : Nat) (rca : Nat) (k : Int) (m : Int) (s : ByteArray) (xr : List V) (a0 : Act) (w0 : World) (L : Array Bool) (a : Act) (w : World) : Prop
  | mk (b0 b1 b2 b3 b4 b5 b6 b7 b8 b9 b10 b11 : Bool) (x100 x101 x102 x103 x104 x105 x106 x99 x107 x108 x16 x17 : Value) (gx : Nat) (cx : Nat) (hL : L = #[b0, b1, b2, b3, b4, b5, b6, b7, b8, b9, b10, b11]) (ha : a = ⟨((((((((((((a0.tmps.setIfInBounds 100 x100).setIfInBounds 101 x101).setIfInBounds 102 x102).setIfInBounds 103 x103).setIfInBounds 104 x104).setIfInBounds 105 x105).setIfInBounds 106 x106).setIfInBounds 99 x99).setIfInBounds 107 x107).setIfInBounds 108 x108).setIfInBounds 16 x16).setIfInBounds 17 x17), a0.defers⟩) (hb : Below B w0 w) (cd0 : Hid (b0 = true → x100 = .agg #[.string (bsOf NM), .slice co N cc, .int .i64 (KI : Nat), .bool only, .slice ro rn rc])) (cd1 : Hid (b1 = true → x101 = .slice (some ⟨gr, 0, none⟩) N rca)) (cd2 : Hid (b2 = true → x102 = .pointer (some ⟨gs, 2, none⟩))) (cd3 : Hid (b3 = true → x103 = .int .i64 (KI : Nat))) (cd4 : Hid (b4 = true → x104 = .pointer (some ⟨gr, KI * 3, none⟩))) (cd5 : Hid (b5 = true → x105 = .agg #[.int .i64 k, .int .i64 m, .string s])) (cd6 : Hid (b6 = true → x106 = .tuple #[.slice (some ⟨gx, 0, none⟩) N cx, .bool true])) (cd7 : Hid (b7 = true → x99 = .tuple #[.slice (some ⟨gx, 0, none⟩) N cx, .bool true])) (cd8 : Hid (b8 = true → x107 = .slice (some ⟨gx, 0, none⟩) N cx)) (cd9 : Hid (b9 = true → x108 = .bool true)) (cd10 : Hid (b10 = true → x16 = .slice (some ⟨gx, 0, none⟩) N cx)) (cd11 : Hid (b11 = true → x17 = .bool true)) (f_x : Hid (b6 = true → OwnR EV w 46 gx N cx xr)) (f_xg : Hid (b6 = true → w0.heap.size ≤ gx)) (w_7_6 : Hid (b7 = true → b6 = true)) (w_8_6 : Hid (b8 = true → b6 = true)) (w_10_6 : Hid (b10 = true → b6 = true)) : TOwn18 B gs gq NM g N cg KI only co cc ro rn rc gr rca k m s xr a0 w0 L a w
set_option maxRecDepth 100000 in
set_option maxHeartbeats 8000000 in
theorem tableOwn_walk (l : List UInt8) (ao : Option Addr) (n c : Nat) (key : Int) (only : Bool) (cs : List Co) (nn mm : Int) (w : World) (_hl : l.length ≤ maxLen) (_hkey : (Lit.int .i64 key).wf = true) (h : IsR encCo w ao n c cs) (_hcs : ∀ x ∈ cs, (Lit.int .i64 x.kind).wf = true ∧ x.name.length ≤ maxLen) (hnw : (Lit.int .i64 nn).wf = true) (_ : (Lit.int .i64 mm).wf = true) :
    Calls Try.prog 12 #[scV l ao n c key only, .int .i64 nn, .int .i64 mm] w (Told w true) := by
  unfold scV
  have X0 := ScB.new w l ao n c key only
  have B0 := (Below.refl w.heap.size w).alloc (Nat.le_refl _) (.cells #[.string (bsOf l), .slice ao n c, .int .i64 key, .bool only] 24)
  go_enter Try.func12, Try.ntmps12
  go_upto_region 1 with fail
  generalize w.alloc (.cells #[.string (bsOf l), .slice ao n c, .int .i64 key, .bool only] 24) = W0 at X0 B0 ⊢
  obtain ⟨p0, hp0⟩ : ∃ p0, w.heap.size = p0 := ⟨_, rfl⟩
  have HP := Lib.hid hp0
  rw [hp0] at X0 B0
  simp only [hp0]
  clear hp0
  have hW0 : p0 ≤ W0.heap.size := Nat.le_of_lt X0.lt
  go_upto_region 3 with (go_at_call 43; refine (known10 _).mono ?_; rintro e w1 ⟨rfl, b1⟩)
  have X1 := X0.past b1
  have B1 := B0.trans (b1.mono hW0)
  have hW1 := Nat.le_trans hW0 b1.size
  have h1 : IsR encCo w1 ao n c cs := h.past (by rw [HP.out]; exact B1)
  have HFw := few9_any w1 l ao n c cs key only h1
  unfold scV at HFw
  have y0 : w1.cell? ⟨p0, 0, none⟩ = some (.string (bsOf l)) := cell_blk X1 rfl
  have y1 : w1.cell? ⟨p0, 1, none⟩ = some (.slice ao n c) := cell_blk X1 rfl
  have y2 : w1.cell? ⟨p0, 2, none⟩ = some (.int .i64 key) := cell_blk X1 rfl
  have y3 : w1.cell? ⟨p0, 3, none⟩ = some (.bool only) := cell_blk X1 rfl
  cases hfw : fewS l cs
  · rw [hfw] at HFw
    go_wp2_with (go_at_call 14; refine HFw.mono ?_; rintro e w2 ⟨rfl, b2⟩)
    go_ret
    exact ⟨rfl, by rw [HP.out]; exact B1.trans (b2.mono hW1)⟩
  rw [hfw] at HFw
  have hn9 : n ≤ 9 := by
    unfold fewS at hfw
    simp only [Bool.and_eq_true, decide_eq_true_eq] at hfw
    have := h.len
    omega
  clear hfw
  go_upto_region 5 with (go_at_call 14; refine HFw.mono ?_; rintro e w2 ⟨rfl, b2⟩)
  have X2 := X1.past b2
  have B2 := B1.trans (b2.mono hW1)
  have hW2 := Nat.le_trans hW1 b2.size
  have h2 := h1.past b2
  clear y0 y1 y2 y3 HFw
  have y0 : w2.cell? ⟨p0, 0, none⟩ = some (.string (bsOf l)) := cell_blk X2 rfl
  have y1 : w2.cell? ⟨p0, 1, none⟩ = some (.slice ao n c) := cell_blk X2 rfl
  have y2 : w2.cell? ⟨p0, 2, none⟩ = some (.int .i64 key) := cell_blk X2 rfl
  have y3 : w2.cell? ⟨p0, 3, none⟩ = some (.bool only) := cell_blk X2 rfl
  have HG := good9_any w2 l ao n c cs key 3 only h2 (by omega)
  unfold GoodIs scV at HG
  have hNp := gN_pos cs
  have hKl := (gKey_lt cs key).1
  have hFl := gFin_len cs key
  have hFk := gFin_kinds cs key
  have hFn := gFin_keyN cs key
  obtain ⟨N, hN⟩ : ∃ N, gN cs = N := ⟨_, rfl⟩
  obtain ⟨KI, hKI⟩ : ∃ KI, gKey cs key = KI := ⟨_, rfl⟩
  obtain ⟨F, hF⟩ : ∃ F, gFin cs key = F := ⟨_, rfl⟩
  obtain ⟨NM, hNM⟩ : ∃ NM, gNm 3 = NM := ⟨_, rfl⟩
  simp only [hN, hKI, hF, hNM] at HG hNp hKl hFl hFk hFn
  clear hN hKI hF hNM
  go_upto_region 6 with (go_at_call 15; refine HG.mono ?_; rintro e w3 ⟨g, cg, rfl, og, b3, q3⟩)
  have hW3 := Nat.le_trans hW2 b3.size
  have B3 : Below p0 w (w3.alloc (.cells #[.string (bsOf NM), .slice (some ⟨g, 0, none⟩) N cg, .int .i64 (KI : Nat), .bool only] 24)) := (B2.trans (b3.mono hW2)).alloc hW3 _
  have XS : Bk (w3.alloc (.cells #[.string (bsOf NM), .slice (some ⟨g, 0, none⟩) N cg, .int .i64 (KI : Nat), .bool only] 24)) w3.heap.size (scC NM (some ⟨g, 0, none⟩) N cg (KI : Nat) only) 24 := Bk.new w3 _ _
  have oG := og.alloc (.cells #[.string (bsOf NM), .slice (some ⟨g, 0, none⟩) N cg, .int .i64 (KI : Nat), .bool only] 24)
  have hgl := og.lt
  have hg0 : p0 ≤ g := Nat.le_trans hW2 q3
  generalize w3.alloc (.cells #[.string (bsOf NM), .slice (some ⟨g, 0, none⟩) N cg, .int .i64 (KI : Nat), .bool only] 24) = W at B3 XS oG ⊢
  obtain ⟨gs, hgs⟩ : ∃ gs, w3.heap.size = gs := ⟨_, rfl⟩
  rw [hgs] at XS hgl hW3
  simp only [hgs]
  obtain ⟨z0, z1, z2, z3⟩ := sc_cells XS
  have hgsW : gs < W.heap.size := XS.lt
  have iG := oG.isR
  clear hgs og b3 q3 HG y0 y1 y2 y3 X2 X1 X0 B2 B1 B0 b1 b2 h2 h1 hW2 hW1 hW0
  have hpW : p0 ≤ W.heap.size := by omega
  have HFit := fit_any W NM (some ⟨g, 0, none⟩) N cg F (KI : Nat) only iG (by omega) hFk nn hnw
  unfold scV at HFit
  go_upto_region 7 with (go_at_call 21; refine HFit.mono ?_; rintro e w5 ⟨ra, rca, rfl, oT, b5⟩)
  obtain ⟨gr, rfl, oR, hgr⟩ := oT.own (by omega)
  have XS5 := XS.past b5
  have iG5 := iG.past b5
  have B5 := B3.trans (b5.mono hpW)
  have hp5 := Nat.le_trans hpW b5.size
  clear z0 z1 z2 z3
  obtain ⟨z0, z1, z2, z3⟩ := sc_cells XS5
  have HPt := put_any w5 NM (some ⟨g, 0, none⟩) N cg KI only none 0 0 F (by omega) (by omega) 0 [] ⟨iG5, IsRR.nil _ 0, fun _ _ => Nat.zero_le _⟩ (some ⟨gr, 0, none⟩) N rca _ oR.isR (Srt.nil KI) (by omega) (fun y hy => by cases hy) (by omega)
  rw [(put_nil F hFk KI nn).1, (put_nil F hFk KI nn).2] at HPt
  unfold tbV at HPt
  go_upto_region 8 with (go_at_call 46; refine HPt.mono ?_; rintro e w6 ⟨co, cc, ro, rn, rc, rfl, i1, b6⟩; unfold tbV)
  obtain rfl : 1 = rn := i1.rows.len
  have bV6 : Below w5.heap.size w5 (w6.alloc (.cells #[.string (bsOf NM), .slice co N cc, .int .i64 (KI : Nat), .bool only, .slice ro 1 rc] 37)) := b6.alloc b6.size _
  have hT0 : Bk (w6.alloc (.cells #[.string (bsOf NM), .slice co N cc, .int .i64 (KI : Nat), .bool only, .slice ro 1 rc] 37)) w6.heap.size (tbC NM co N cc (KI : Nat) only ro 1 rc) 37 := Bk.new w6 _ _
  have iT0 := i1.past ((Below.refl w6.heap.size w6).alloc (Nat.le_refl _) (.cells #[.string (bsOf NM), .slice co N cc, .int .i64 (KI : Nat), .bool only, .slice ro 1 rc] 37))
  generalize w6.alloc (.cells #[.string (bsOf NM), .slice co N cc, .int .i64 (KI : Nat), .bool only, .slice ro 1 rc] 37) = V0 at bV6 hT0 iT0 ⊢
  obtain ⟨gt, hgt⟩ : ∃ gt, w6.heap.size = gt := ⟨_, rfl⟩
  rw [hgt] at hT0
  simp only [hgt]
  have hgtr : w5.heap.size ≤ gt := by rw [← hgt]; exact b6.size
  have XS0 := XS5.past bV6
  have iG0 := iG5.past bV6
  have oR0 := oR.past bV6
  have BV0 := B5.trans (bV6.mono hp5)
  have hpV0 := Nat.le_trans hp5 bV6.size
  have hgr5 : gr < w5.heap.size := oR.lt
  clear hgt b6 i1 HPt z0 z1 z2 z3 HFit
  obtain ⟨z0, z1, z2, z3⟩ := sc_cells XS0
  have HFit := fit_any V0 NM (some ⟨g, 0, none⟩) N cg F (KI : Nat) only iG0 (by omega) hFk nn hnw
  unfold scV at HFit
  go_upto_region 9 with (go_at_call 21; refine HFit.mono ?_; rintro e V1 ⟨rw, rcw, rfl, oT2, b7⟩)
  obtain ⟨gw, rfl, oW, hgw⟩ := oT2.own (by omega)
  have XS1 := XS0.past b7
  have oR1 := oR0.past b7
  have hT1 := hT0.past b7
  have iT1 := iT0.past b7
  have BV1 := BV0.trans (b7.mono hpV0)
  have hpV1 := Nat.le_trans hpV0 b7.size
  have hV05 := bV6.size
  have hp0gr : p0 ≤ gr := Nat.le_trans hpW hgr
  have hXSr : gs ≠ gr := by intro e; omega
  have hgtr2 : gt ≠ gr := by intro e; omega
  have hgwr : gw ≠ gr := by intro e; omega
  have hrl : (fitRow F nn).length = N := by rw [fitRow_len, hFl]
  obtain ⟨xk, hxk, hxn⟩ := hFn
  have hVk := fit_vok nn KI xk
  rw [← kOf_fit (n := nn) hxk] at hVk
  have hSp : Srt KI [fitRow F nn] := List.pairwise_singleton _ _
  have hHas : hasN KI (kOf KI (fitRow F nn)) [fitRow F nn] = true := (has_iff hSp).2 ⟨_, List.mem_singleton.2 rfl, rfl⟩
  have hAt : atN KI (kOf KI (fitRow F nn)) [fitRow F nn] = 0 := by have := has_lt hHas; simpa using this
  have hrow := kOf_own (K := KI) (r := fitRow F nn) (by omega)
  obtain ⟨rv, hrv⟩ : ∃ rv, fitRow F nn = rv := ⟨_, rfl⟩
  simp only [hrv] at *
  obtain ⟨vv0, hvv⟩ : ∃ v, kOf KI rv = v := ⟨_, rfl⟩
  have hVk2 := hVk
  simp only [hvv] at hHas hAt hrow
  clear hrv hvv z0 z1 z2 z3 HFit XS XS5 iG5 oR B5 b5 bV6 oT oT2 B3 iG oG XS0 iG0 oR0 hT0 iT0 BV0 hpV0 b7
  obtain ⟨z0, z1, z2, z3⟩ := sc_cells XS1
  obtain ⟨v0, v1, v2⟩ := own_vcells oW KI _ hrow
  go_wp2_with fail
  go_loopw [12] (fun i wr => ∃ (j : Nat) (us : List V), j ≤ N ∧ i = .int .i64 (j : Nat) ∧ OwnR EV wr 46 gr N rca us ∧ V1.grownBy wr (some gr)) (fun i _ => N - (intOf i).toNat)
  case atStart => exact ⟨0, rv, Nat.zero_le _, rfl, oR1, grown_refl _ _⟩
  case round =>
    obtain ⟨j, us, hj, rfl, oU, gU⟩ := hrel
    by_cases hlt : j < N
    · have hlti : (j : Int) < (N : Int) := by omega
      obtain ⟨aa, ab, ac, a0, a1, a2, f0, f1, f2⟩ := own_cells_v oU j hlt
      have oU2 := own_set_v oU j hlt ⟨2, mm, ⟨#[]⟩⟩
      have gU2 := grown_set (grown_set (grown_set gU (j * 3) (.int .i64 2)) (j * 3 + 1) (.int .i64 mm)) (j * 3 + 2) (.string ⟨#[]⟩)
      go_wp2_with fail
      go_roundw
      case rel => exact ⟨j + 1, _, by omega, by go_num, oU2, gU2⟩
      case measure => simp [intOf]; omega
    · have hlti : ¬ ((j : Int) < (N : Int)) := by omega
      go_upto_region 13 with fail
      have hT3 := hT1.grown gU (fun e => hgtr2 (Option.some.inj e))
      have iT3 := (iT1.grown gU hgr5).mono (Nat.zero_le _)
      have XS3 := XS1.grown gU (fun e => hXSr (Option.some.inj e))
      have oW3 := oW.grown gU (fun e => hgwr (Option.some.inj e))
      have BV3 : Below p0 w wr := BV1.grown gU hpV1 (fun z hz => by cases hz; exact hp0gr)
      have hpV3 : p0 ≤ wr.heap.size := Nat.le_trans hpV1 gU.size
      clear v0 v1 v2 z0 z1 z2 z3 oU gU hT1 iT1 XS1 oW oR1 BV1
      generalize wr = V3 at *
      obtain ⟨z0, z1, z2, z3⟩ := sc_cells XS3
      obtain ⟨v0, v1, v2⟩ := own_vcells oW3 KI _ hrow
      obtain ⟨t0, t1, t2, t3, t4⟩ := tb_cells hT3
      have HGt0 := fun (w' : World) (hb : Below V3.heap.size V3.drew w') => get_any w' NM co N cc KI only ro 1 rc F 0 [rv] (iT3.drew.past hb) vv0 hSp (by omega) (fun y hy => by obtain rfl := List.mem_singleton.1 hy; omega)
      simp only [hHas, hAt] at HGt0
      obtain ⟨k, m, s⟩ := vv0
      have hrow0 := Lib.hid hrow
      unfold tbV at HGt0
      simp only at v0 v1 v2 HGt0
      have HGt : ∀ (w' : World), Below V3.heap.size V3.drew w' → Calls Try.prog 49 #[.agg #[.string (bsOf NM), .slice co N cc, .int .i64 (KI : Nat), .bool only, .slice ro 1 rc], .agg #[.int .i64 k, .int .i64 m, .string s]] w' fun e w'' => ∃ g3 c3, e = .returned (.tuple #[.slice (some ⟨g3, 0, none⟩) N c3, .bool true]) ∧ OwnR EV w'' 46 g3 N c3 rv ∧ w'.heap.size ≤ g3 ∧ Below w'.heap.size w' w'' := fun w' hb => (HGt0 w' hb).mono fun e w'' ⟨_, hy, hz⟩ => by
        obtain ⟨g3, c3, rfl, o3, q3⟩ := hy rv (by first | rfl | trivial) (by first | rfl | trivial)
        rw [hrl] at o3 ⊢
        exact ⟨g3, c3, rfl, o3, q3, hz⟩
      have hgsB := XS3.lt
      have hgrB := oW3.lt
      have hgqB := hT3.lt
      have hB0 : V3.heap.size ≤ V3.heap.size := Nat.le_refl _
      clear HGt0
      refine region_inv (TOwn13 V3.heap.size gs gt NM g N cg KI only co cc ro 1 rc gw rcw k m s rv) (by kernel_rfl) (by kernel_rfl) ?_ ?_ ?_
      · exact ⟨false, false, false, false, false, false, false, false, false, false, false, false, undef, undef, undef, undef, undef, undef, undef, undef, undef, undef, undef, undef, 0, 0, rfl, (by simp only [Act.put, List.setIfInBounds_toArray, List.set_cons_zero, List.set_cons_succ]), Below.refl _ _, (fun h => by cases h), (fun h => by cases h), (fun h => by cases h), (fun h => by cases h), (fun h => by cases h), (fun h => by cases h), (fun h => by cases h), (fun h => by cases h), (fun h => by cases h), (fun h => by cases h), (fun h => by cases h), (fun h => by cases h), (fun h => by cases h), (fun h => by cases h), (fun h => by cases h), (fun h => by cases h), (fun h => by cases h)⟩
      · refine ⟨?_, ?_, ?_, ?_, ?_, ?_, ?_, ?_, ?_, ?_, ?_, ?_, trivial⟩
        · rintro L a w ⟨b0, b1, b2, b3, b4, b5, b6, b7, b8, b9, b10, b11, x50, x51, x52, x53, x54, x55, x56, x49, x57, x58, x13, x14, gx, cx, rfl, rfl, hb, cd0, cd1, cd2, cd3, cd4, cd5, cd6, cd7, cd8, cd9, cd10, cd11, f_x, f_xg, w_7_6, w_8_6, w_10_6⟩ hf hd
          have hf' : b0 = false := hf
          subst hf'
          clear hf hd
          try simp only [List.setIfInBounds_toArray, List.set_cons_zero, List.set_cons_succ]
          have z0 := (hb.cell hgqB).trans t0
          have z1 := (hb.cell hgqB).trans t1
          have z2 := (hb.cell hgqB).trans t2
          have z3 := (hb.cell hgqB).trans t3
          have z4 := (hb.cell hgqB).trans t4
          intro K hK
          rw [if_pos (by rfl)]
          go_simp
          exact hK.out _ _ ⟨true, b1, b2, b3, b4, b5, b6, b7, b8, b9, b10, b11, (.agg #[.string (bsOf NM), .slice co N cc, .int .i64 (KI : Nat), .bool only, .slice ro 1 rc]), x51, x52, x53, x54, x55, x56, x49, x57, x58, x13, x14, gx, cx, (by simp only [Act.put, List.setIfInBounds_toArray, List.set_cons_zero, List.set_cons_succ]), (by simp only [Act.put, List.setIfInBounds_toArray, List.set_cons_zero, List.set_cons_succ]), hb, (fun _ => rfl), cd1, cd2, cd3, cd4, cd5, cd6, cd7, cd8, cd9, cd10, cd11, f_x, f_xg, w_7_6, w_8_6, w_10_6⟩
        · rintro L a w ⟨b0, b1, b2, b3, b4, b5, b6, b7, b8, b9, b10, b11, x50, x51, x52, x53, x54, x55, x56, x49, x57, x58, x13, x14, gx, cx, rfl, rfl, hb, cd0, cd1, cd2, cd3, cd4, cd5, cd6, cd7, cd8, cd9, cd10, cd11, f_x, f_xg, w_7_6, w_8_6, w_10_6⟩ hf hd
          have hf' : b1 = false := hf
          subst hf'
          clear hf hd
          try simp only [List.setIfInBounds_toArray, List.set_cons_zero, List.set_cons_succ]
          intro K hK
          rw [if_pos (by rfl)]
          go_simp
          exact hK.out _ _ ⟨b0, true, b2, b3, b4, b5, b6, b7, b8, b9, b10, b11, x50, (.slice (some ⟨gw, 0, none⟩) N rcw), x52, x53, x54, x55, x56, x49, x57, x58, x13, x14, gx, cx, (by simp only [Act.put, List.setIfInBounds_toArray, List.set_cons_zero, List.set_cons_succ]), (by simp only [Act.put, List.setIfInBounds_toArray, List.set_cons_zero, List.set_cons_succ]), hb, cd0, (fun _ => rfl), cd2, cd3, cd4, cd5, cd6, cd7, cd8, cd9, cd10, cd11, f_x, f_xg, w_7_6, w_8_6, w_10_6⟩
        · rintro L a w ⟨b0, b1, b2, b3, b4, b5, b6, b7, b8, b9, b10, b11, x50, x51, x52, x53, x54, x55, x56, x49, x57, x58, x13, x14, gx, cx, rfl, rfl, hb, cd0, cd1, cd2, cd3, cd4, cd5, cd6, cd7, cd8, cd9, cd10, cd11, f_x, f_xg, w_7_6, w_8_6, w_10_6⟩ hf hd
          have hf' : b2 = false := hf
          subst hf'
          clear hf hd
          try simp only [List.setIfInBounds_toArray, List.set_cons_zero, List.set_cons_succ]
          intro K hK
          rw [if_pos (by rfl)]
          go_simp
          exact hK.out _ _ ⟨b0, b1, true, b3, b4, b5, b6, b7, b8, b9, b10, b11, x50, x51, (.pointer (some ⟨gs, 2, none⟩)), x53, x54, x55, x56, x49, x57, x58, x13, x14, gx, cx, (by simp only [Act.put, List.setIfInBounds_toArray, List.set_cons_zero, List.set_cons_succ]), (by simp only [Act.put, List.setIfInBounds_toArray, List.set_cons_zero, List.set_cons_succ]), hb, cd0, cd1, (fun _ => rfl), cd3, cd4, cd5, cd6, cd7, cd8, cd9, cd10, cd11, f_x, f_xg, w_7_6, w_8_6, w_10_6⟩
        · rintro L a w ⟨b0, b1, b2, b3, b4, b5, b6, b7, b8, b9, b10, b11, x50, x51, x52, x53, x54, x55, x56, x49, x57, x58, x13, x14, gx, cx, rfl, rfl, hb, cd0, cd1, cd2, cd3, cd4, cd5, cd6, cd7, cd8, cd9, cd10, cd11, f_x, f_xg, w_7_6, w_8_6, w_10_6⟩ hf hd
          have hf' : b3 = false := hf
          subst hf'
          have d2 : b2 = true := hd ⟨2, .data⟩ (by simp) rfl
          subst d2
          obtain rfl := cd2.out rfl
          clear hf hd
          try simp only [List.setIfInBounds_toArray, List.set_cons_zero, List.set_cons_succ]
          have z0 := (hb.cell hgsB).trans z2
          intro K hK
          rw [if_pos (by rfl)]
          go_simp
          exact hK.out _ _ ⟨b0, b1, true, true, b4, b5, b6, b7, b8, b9, b10, b11, x50, x51, .pointer (some ⟨gs, 2, none⟩), (.int .i64 (KI : Nat)), x54, x55, x56, x49, x57, x58, x13, x14, gx, cx, (by simp only [Act.put, List.setIfInBounds_toArray, List.set_cons_zero, List.set_cons_succ]), (by simp only [Act.put, List.setIfInBounds_toArray, List.set_cons_zero, List.set_cons_succ]), hb, cd0, cd1, (fun _ => rfl), (fun _ => rfl), cd4, cd5, cd6, cd7, cd8, cd9, cd10, cd11, f_x, f_xg, w_7_6, w_8_6, w_10_6⟩
        · rintro L a w ⟨b0, b1, b2, b3, b4, b5, b6, b7, b8, b9, b10, b11, x50, x51, x52, x53, x54, x55, x56, x49, x57, x58, x13, x14, gx, cx, rfl, rfl, hb, cd0, cd1, cd2, cd3, cd4, cd5, cd6, cd7, cd8, cd9, cd10, cd11, f_x, f_xg, w_7_6, w_8_6, w_10_6⟩ hf hd
          have hf' : b4 = false := hf
          subst hf'
          have d1 : b1 = true := hd ⟨1, .data⟩ (by simp) rfl
          subst d1
          have d3 : b3 = true := hd ⟨3, .data⟩ (by simp) rfl
          subst d3
          obtain rfl := cd1.out rfl
          obtain rfl := cd3.out rfl
          clear hf hd
          try simp only [List.setIfInBounds_toArray, List.set_cons_zero, List.set_cons_succ]
          intro K hK
          rw [if_pos (by rfl)]
          go_simp
          exact hK.out _ _ ⟨b0, true, b2, true, true, b5, b6, b7, b8, b9, b10, b11, x50, .slice (some ⟨gw, 0, none⟩) N rcw, x52, .int .i64 (KI : Nat), (.pointer (some ⟨gw, KI * 3, none⟩)), x55, x56, x49, x57, x58, x13, x14, gx, cx, (by simp only [Act.put, List.setIfInBounds_toArray, List.set_cons_zero, List.set_cons_succ]), (by simp only [Act.put, List.setIfInBounds_toArray, List.set_cons_zero, List.set_cons_succ]), hb, cd0, (fun _ => rfl), cd2, (fun _ => rfl), (fun _ => rfl), cd5, cd6, cd7, cd8, cd9, cd10, cd11, f_x, f_xg, w_7_6, w_8_6, w_10_6⟩
        · rintro L a w ⟨b0, b1, b2, b3, b4, b5, b6, b7, b8, b9, b10, b11, x50, x51, x52, x53, x54, x55, x56, x49, x57, x58, x13, x14, gx, cx, rfl, rfl, hb, cd0, cd1, cd2, cd3, cd4, cd5, cd6, cd7, cd8, cd9, cd10, cd11, f_x, f_xg, w_7_6, w_8_6, w_10_6⟩ hf hd
          have hf' : b5 = false := hf
          subst hf'
          have d4 : b4 = true := hd ⟨4, .data⟩ (by simp) rfl
          subst d4
          obtain rfl := cd4.out rfl
          clear hf hd
          try simp only [List.setIfInBounds_toArray, List.set_cons_zero, List.set_cons_succ]
          have z0 := (hb.cell hgrB).trans v0
          have z1 := (hb.cell hgrB).trans v1
          have z2 := (hb.cell hgrB).trans v2
          intro K hK
          rw [if_pos (by rfl)]
          go_simp
          exact hK.out _ _ ⟨b0, b1, b2, b3, true, true, b6, b7, b8, b9, b10, b11, x50, x51, x52, x53, .pointer (some ⟨gw, KI * 3, none⟩), (.agg #[.int .i64 k, .int .i64 m, .string s]), x56, x49, x57, x58, x13, x14, gx, cx, (by simp only [Act.put, List.setIfInBounds_toArray, List.set_cons_zero, List.set_cons_succ]), (by simp only [Act.put, List.setIfInBounds_toArray, List.set_cons_zero, List.set_cons_succ]), hb, cd0, cd1, cd2, cd3, (fun _ => rfl), (fun _ => rfl), cd6, cd7, cd8, cd9, cd10, cd11, f_x, f_xg, w_7_6, w_8_6, w_10_6⟩
        · rintro L a w ⟨b0, b1, b2, b3, b4, b5, b6, b7, b8, b9, b10, b11, x50, x51, x52, x53, x54, x55, x56, x49, x57, x58, x13, x14, gx, cx, rfl, rfl, hb, cd0, cd1, cd2, cd3, cd4, cd5, cd6, cd7, cd8, cd9, cd10, cd11, f_x, f_xg, w_7_6, w_8_6, w_10_6⟩ hf hd
          have hf' : b6 = false := hf
          subst hf'
          have d0 : b0 = true := hd ⟨0, .data⟩ (by simp) rfl
          subst d0
          have d5 : b5 = true := hd ⟨5, .data⟩ (by simp) rfl
          subst d5
          obtain rfl := cd0.out rfl
          obtain rfl := cd5.out rfl
          clear hf hd
          try simp only [List.setIfInBounds_toArray, List.set_cons_zero, List.set_cons_succ]
          intro K hK
          rw [if_pos (by rfl)]
          go_simp
          go_at_call 49
          refine (HGt _ hb).mono ?_
          rintro e w' ⟨g3, c3, rfl, o3, q3, bx⟩
          have e_7 : b7 = false := by cases hq : b7 with | false => rfl | true => exact absurd (w_7_6.out hq) (by simp)
          subst e_7
          have e_8 : b8 = false := by cases hq : b8 with | false => rfl | true => exact absurd (w_8_6.out hq) (by simp)
          subst e_8
          have e_10 : b10 = false := by cases hq : b10 with | false => rfl | true => exact absurd (w_10_6.out hq) (by simp)
          subst e_10
          exact hK.out _ _ ⟨true, b1, b2, b3, b4, true, true, false, false, b9, false, b11, .agg #[.string (bsOf NM), .slice co N cc, .int .i64 (KI : Nat), .bool only, .slice ro 1 rc], x51, x52, x53, x54, .agg #[.int .i64 k, .int .i64 m, .string s], (.tuple #[.slice (some ⟨g3, 0, none⟩) N c3, .bool true]), x49, x57, x58, x13, x14, g3, c3, (by simp only [Act.put, List.setIfInBounds_toArray, List.set_cons_zero, List.set_cons_succ]), (by simp only [Act.put, List.setIfInBounds_toArray, List.set_cons_zero, List.set_cons_succ]), hb.trans (bx.mono (Nat.le_trans hB0 hb.size)), (fun _ => rfl), cd1, cd2, cd3, cd4, (fun _ => rfl), (fun _ => rfl), (fun h => by cases h), (fun h => by cases h), cd9, (fun h => by cases h), cd11, (fun _ => o3), (fun _ => Nat.le_trans hb.size q3), (fun _ => rfl), (fun _ => rfl), (fun _ => rfl)⟩
        · rintro L a w ⟨b0, b1, b2, b3, b4, b5, b6, b7, b8, b9, b10, b11, x50, x51, x52, x53, x54, x55, x56, x49, x57, x58, x13, x14, gx, cx, rfl, rfl, hb, cd0, cd1, cd2, cd3, cd4, cd5, cd6, cd7, cd8, cd9, cd10, cd11, f_x, f_xg, w_7_6, w_8_6, w_10_6⟩ hf hd
          have hf' : b7 = false := hf
          subst hf'
          have d6 : b6 = true := hd ⟨6, .data⟩ (by simp) rfl
          subst d6
          obtain rfl := cd6.out rfl
          clear hf hd
          have W_x := f_x.out rfl
          have W_xg := f_xg.out rfl
          try simp only [List.setIfInBounds_toArray, List.set_cons_zero, List.set_cons_succ]
          intro K hK
          rw [if_pos (by rfl)]
          go_simp
          exact hK.out _ _ ⟨b0, b1, b2, b3, b4, b5, true, true, b8, b9, b10, b11, x50, x51, x52, x53, x54, x55, .tuple #[.slice (some ⟨gx, 0, none⟩) N cx, .bool true], (.tuple #[.slice (some ⟨gx, 0, none⟩) N cx, .bool true]), x57, x58, x13, x14, gx, cx, (by simp only [Act.put, List.setIfInBounds_toArray, List.set_cons_zero, List.set_cons_succ]), (by simp only [Act.put, List.setIfInBounds_toArray, List.set_cons_zero, List.set_cons_succ]), hb, cd0, cd1, cd2, cd3, cd4, cd5, (fun _ => rfl), (fun _ => rfl), cd8, cd9, cd10, cd11, f_x, f_xg, (fun _ => rfl), (fun _ => rfl), (fun _ => rfl)⟩
        · rintro L a w ⟨b0, b1, b2, b3, b4, b5, b6, b7, b8, b9, b10, b11, x50, x51, x52, x53, x54, x55, x56, x49, x57, x58, x13, x14, gx, cx, rfl, rfl, hb, cd0, cd1, cd2, cd3, cd4, cd5, cd6, cd7, cd8, cd9, cd10, cd11, f_x, f_xg, w_7_6, w_8_6, w_10_6⟩ hf hd
          have hf' : b8 = false := hf
          subst hf'
          have d7 : b7 = true := hd ⟨7, .data⟩ (by simp) rfl
          subst d7
          obtain rfl := cd7.out rfl
          clear hf hd
          try simp only [List.setIfInBounds_toArray, List.set_cons_zero, List.set_cons_succ]
          intro K hK
          rw [if_pos (by rfl)]
          go_simp
          exact hK.out _ _ ⟨b0, b1, b2, b3, b4, b5, b6, true, true, b9, b10, b11, x50, x51, x52, x53, x54, x55, x56, .tuple #[.slice (some ⟨gx, 0, none⟩) N cx, .bool true], (.slice (some ⟨gx, 0, none⟩) N cx), x58, x13, x14, gx, cx, (by simp only [Act.put, List.setIfInBounds_toArray, List.set_cons_zero, List.set_cons_succ]), (by simp only [Act.put, List.setIfInBounds_toArray, List.set_cons_zero, List.set_cons_succ]), hb, cd0, cd1, cd2, cd3, cd4, cd5, cd6, (fun _ => rfl), (fun _ => rfl), cd9, cd10, cd11, f_x, f_xg, w_7_6, (fun _ => w_7_6.out rfl), w_10_6⟩
        · rintro L a w ⟨b0, b1, b2, b3, b4, b5, b6, b7, b8, b9, b10, b11, x50, x51, x52, x53, x54, x55, x56, x49, x57, x58, x13, x14, gx, cx, rfl, rfl, hb, cd0, cd1, cd2, cd3, cd4, cd5, cd6, cd7, cd8, cd9, cd10, cd11, f_x, f_xg, w_7_6, w_8_6, w_10_6⟩ hf hd
          have hf' : b9 = false := hf
          subst hf'
          have d7 : b7 = true := hd ⟨7, .data⟩ (by simp) rfl
          subst d7
          obtain rfl := cd7.out rfl
          clear hf hd
          try simp only [List.setIfInBounds_toArray, List.set_cons_zero, List.set_cons_succ]
          intro K hK
          rw [if_pos (by rfl)]
          go_simp
          exact hK.out _ _ ⟨b0, b1, b2, b3, b4, b5, b6, true, b8, true, b10, b11, x50, x51, x52, x53, x54, x55, x56, .tuple #[.slice (some ⟨gx, 0, none⟩) N cx, .bool true], x57, (.bool true), x13, x14, gx, cx, (by simp only [Act.put, List.setIfInBounds_toArray, List.set_cons_zero, List.set_cons_succ]), (by simp only [Act.put, List.setIfInBounds_toArray, List.set_cons_zero, List.set_cons_succ]), hb, cd0, cd1, cd2, cd3, cd4, cd5, cd6, (fun _ => rfl), cd8, (fun _ => rfl), cd10, cd11, f_x, f_xg, w_7_6, w_8_6, w_10_6⟩
        · rintro L a w ⟨b0, b1, b2, b3, b4, b5, b6, b7, b8, b9, b10, b11, x50, x51, x52, x53, x54, x55, x56, x49, x57, x58, x13, x14, gx, cx, rfl, rfl, hb, cd0, cd1, cd2, cd3, cd4, cd5, cd6, cd7, cd8, cd9, cd10, cd11, f_x, f_xg, w_7_6, w_8_6, w_10_6⟩ hf hd
          have hf' : b10 = false := hf
          subst hf'
          have d8 : b8 = true := hd ⟨8, .data⟩ (by simp) rfl
          subst d8
          have d6 : b6 = true := hd ⟨6, .chain⟩ (by simp) rfl
          subst d6
          have d0 : b0 = true := hd ⟨0, .phase⟩ (by simp) rfl
          subst d0
          have d1 : b1 = true := hd ⟨1, .phase⟩ (by simp) rfl
          subst d1
          have d2 : b2 = true := hd ⟨2, .phase⟩ (by simp) rfl
          subst d2
          have d3 : b3 = true := hd ⟨3, .phase⟩ (by simp) rfl
          subst d3
          have d4 : b4 = true := hd ⟨4, .phase⟩ (by simp) rfl
          subst d4
          have d5 : b5 = true := hd ⟨5, .phase⟩ (by simp) rfl
          subst d5
          have d7 : b7 = true := hd ⟨7, .phase⟩ (by simp) rfl
          subst d7
          obtain rfl := cd8.out rfl
          obtain rfl := cd6.out rfl
          obtain rfl := cd0.out rfl
          obtain rfl := cd1.out rfl
          obtain rfl := cd2.out rfl
          obtain rfl := cd3.out rfl
          obtain rfl := cd4.out rfl
          obtain rfl := cd5.out rfl
          obtain rfl := cd7.out rfl
          clear hf hd
          have W_x := f_x.out rfl
          have W_xg := f_xg.out rfl
          try simp only [List.setIfInBounds_toArray, List.set_cons_zero, List.set_cons_succ]
          intro K hK
          rw [if_pos (by rfl)]
          go_simp
          exact hK.out _ _ ⟨true, true, true, true, true, true, true, true, true, b9, true, b11, .agg #[.string (bsOf NM), .slice co N cc, .int .i64 (KI : Nat), .bool only, .slice ro 1 rc], .slice (some ⟨gw, 0, none⟩) N rcw, .pointer (some ⟨gs, 2, none⟩), .int .i64 (KI : Nat), .pointer (some ⟨gw, KI * 3, none⟩), .agg #[.int .i64 k, .int .i64 m, .string s], .tuple #[.slice (some ⟨gx, 0, none⟩) N cx, .bool true], .tuple #[.slice (some ⟨gx, 0, none⟩) N cx, .bool true], .slice (some ⟨gx, 0, none⟩) N cx, x58, (.slice (some ⟨gx, 0, none⟩) N cx), x14, gx, cx, (by simp only [Act.put, List.setIfInBounds_toArray, List.set_cons_zero, List.set_cons_succ]), (by simp only [Act.put, List.setIfInBounds_toArray, List.set_cons_zero, List.set_cons_succ]), hb, (fun _ => rfl), (fun _ => rfl), (fun _ => rfl), (fun _ => rfl), (fun _ => rfl), (fun _ => rfl), (fun _ => rfl), (fun _ => rfl), (fun _ => rfl), cd9, (fun _ => rfl), cd11, f_x, f_xg, (fun _ => rfl), (fun _ => rfl), (fun _ => rfl)⟩
        · rintro L a w ⟨b0, b1, b2, b3, b4, b5, b6, b7, b8, b9, b10, b11, x50, x51, x52, x53, x54, x55, x56, x49, x57, x58, x13, x14, gx, cx, rfl, rfl, hb, cd0, cd1, cd2, cd3, cd4, cd5, cd6, cd7, cd8, cd9, cd10, cd11, f_x, f_xg, w_7_6, w_8_6, w_10_6⟩ hf hd
          have hf' : b11 = false := hf
          subst hf'
          have d9 : b9 = true := hd ⟨9, .data⟩ (by simp) rfl
          subst d9
          have d10 : b10 = true := hd ⟨10, .chain⟩ (by simp) rfl
          subst d10
          have d0 : b0 = true := hd ⟨0, .phase⟩ (by simp) rfl
          subst d0
          have d1 : b1 = true := hd ⟨1, .phase⟩ (by simp) rfl
          subst d1
          have d2 : b2 = true := hd ⟨2, .phase⟩ (by simp) rfl
          subst d2
          have d3 : b3 = true := hd ⟨3, .phase⟩ (by simp) rfl
          subst d3
          have d4 : b4 = true := hd ⟨4, .phase⟩ (by simp) rfl
          subst d4
          have d5 : b5 = true := hd ⟨5, .phase⟩ (by simp) rfl
          subst d5
          have d6 : b6 = true := hd ⟨6, .phase⟩ (by simp) rfl
          subst d6
          have d7 : b7 = true := hd ⟨7, .phase⟩ (by simp) rfl
          subst d7
          have d8 : b8 = true := hd ⟨8, .phase⟩ (by simp) rfl
          subst d8
          obtain rfl := cd9.out rfl
          obtain rfl := cd10.out rfl
          obtain rfl := cd0.out rfl
          obtain rfl := cd1.out rfl
          obtain rfl := cd2.out rfl
          obtain rfl := cd3.out rfl
          obtain rfl := cd4.out rfl
          obtain rfl := cd5.out rfl
          obtain rfl := cd6.out rfl
          obtain rfl := cd7.out rfl
          obtain rfl := cd8.out rfl
          clear hf hd
          have W_x := f_x.out rfl
          have W_xg := f_xg.out rfl
          try simp only [List.setIfInBounds_toArray, List.set_cons_zero, List.set_cons_succ]
          intro K hK
          rw [if_pos (by rfl)]
          go_simp
          exact hK.out _ _ ⟨true, true, true, true, true, true, true, true, true, true, true, true, .agg #[.string (bsOf NM), .slice co N cc, .int .i64 (KI : Nat), .bool only, .slice ro 1 rc], .slice (some ⟨gw, 0, none⟩) N rcw, .pointer (some ⟨gs, 2, none⟩), .int .i64 (KI : Nat), .pointer (some ⟨gw, KI * 3, none⟩), .agg #[.int .i64 k, .int .i64 m, .string s], .tuple #[.slice (some ⟨gx, 0, none⟩) N cx, .bool true], .tuple #[.slice (some ⟨gx, 0, none⟩) N cx, .bool true], .slice (some ⟨gx, 0, none⟩) N cx, .bool true, .slice (some ⟨gx, 0, none⟩) N cx, (.bool true), gx, cx, (by simp only [Act.put, List.setIfInBounds_toArray, List.set_cons_zero, List.set_cons_succ]), (by simp only [Act.put, List.setIfInBounds_toArray, List.set_cons_zero, List.set_cons_succ]), hb, (fun _ => rfl), (fun _ => rfl), (fun _ => rfl), (fun _ => rfl), (fun _ => rfl), (fun _ => rfl), (fun _ => rfl), (fun _ => rfl), (fun _ => rfl), (fun _ => rfl), (fun _ => rfl), (fun _ => rfl), f_x, f_xg, (fun _ => rfl), (fun _ => rfl), (fun _ => rfl)⟩
      · rintro act V4 ⟨b0, b1, b2, b3, b4, b5, b6, b7, b8, b9, b10, b11, x50, x51, x52, x53, x54, x55, x56, x49, x57, x58, x13, x14, gx, cx, hL, rfl, hb, cd0, cd1, cd2, cd3, cd4, cd5, cd6, cd7, cd8, cd9, cd10, cd11, f_x, f_xg, w_7_6, w_8_6, w_10_6⟩
        have hL' : [true, true, true, true, true, true, true, true, true, true, true, true] = [b0, b1, b2, b3, b4, b5, b6, b7, b8, b9, b10, b11] := congrArg Array.toList hL
        simp only [List.cons.injEq, and_true] at hL'
        obtain ⟨rfl, rfl, rfl, rfl, rfl, rfl, rfl, rfl, rfl, rfl, rfl, rfl⟩ := hL'
        obtain rfl := cd0.out rfl
        obtain rfl := cd1.out rfl
        obtain rfl := cd2.out rfl
        obtain rfl := cd3.out rfl
        obtain rfl := cd4.out rfl
        obtain rfl := cd5.out rfl
        obtain rfl := cd6.out rfl
        obtain rfl := cd7.out rfl
        obtain rfl := cd8.out rfl
        obtain rfl := cd9.out rfl
        obtain rfl := cd10.out rfl
        obtain rfl := cd11.out rfl
        have W_x := f_x.out rfl
        have W_xg := f_xg.out rfl
        clear hL f_x f_xg cd0 cd1 cd2 cd3 cd4 cd5 cd6 cd7 cd8 cd9 cd10 cd11 w_7_6 w_8_6 w_10_6
        simp only [List.setIfInBounds_toArray, List.set_cons_zero, List.set_cons_succ]
        have bV4 : Below V3.heap.size V3 V4 := (Below.refl _ _).drew.trans hb
        have hT4 := hT3.past bV4
        have iT4 := iT3.past bV4
        have XS4 := XS3.past bV4
        have oW4 := oW3.past bV4
        have BV4 := BV3.trans (bV4.mono hpV3)
        have hpV4 := Nat.le_trans hpV3 bV4.size
        obtain ⟨cx_, hcx_⟩ : ∃ c, cx = c := ⟨_, rfl⟩
        obtain ⟨gx_, hgx_⟩ : ∃ c, gx = c := ⟨_, rfl⟩
        rw [hcx_, hgx_] at W_x
        rw [hgx_] at W_xg
        simp only [hcx_, hgx_]
        clear hb t0 t1 t2 t3 t4 z0 z1 z2 z3 v0 v1 v2 HGt hcx_ hgx_
        have W_xg2 : V3.heap.size ≤ gx_ := W_xg
        obtain ⟨t0, t1, t2, t3, t4⟩ := tb_cells hT4
        have HRg := range_any V4 NM co N cc KI only ro 1 rc 0 [rv] iT4.rows Go.Proofs.Ytjacaammlkjodaa.V0 Go.Proofs.Ytjacaammlkjodaa.V0 hSp (by omega) (fun y hy => by obtain rfl := List.mem_singleton.1 hy; omega)
        rw [rng_one KI rv hVk] at HRg
        unfold tbV at HRg
        go_upto_region 15 with (go_at_call 54; refine HRg.mono ?_; rintro en w5 ⟨la, lc, rfl, iL, b5⟩)
        obtain ⟨hds, hhs, hRd, hFr, hFh, hFz⟩ := iL
        have hdl : hds.length = 1 := by rw [hRd.1]; rfl
        obtain ⟨x0, rfl⟩ : ∃ x, hds = [x] := by
          cases hds with
          | nil => cases hdl
          | cons x t => cases t with
            | nil => exact ⟨x, rfl⟩
            | cons y u => simp at hdl
        obtain ⟨lb, lo, rfl, hlb, hlc⟩ := hhs.open (by simp) (by decide)
        have hx0 := hRd.2 0 x0 rv rfl rfl
        have c0 : w5.cell? ⟨lb, lo, none⟩ = some (.slice x0.a x0.n x0.c) := by
          have := hlc 0 x0.v rfl
          simpa [HdR.v] using this
        have hx0n : x0.n = N := by rw [← hx0.len, hrl]
        have hFr0 := hFr _ rfl
        have hFh0 := hFh x0 (List.mem_singleton.2 rfl)
        have hFz0 := hFz x0 (List.mem_singleton.2 rfl)
        obtain ⟨xa, xn, xc⟩ := x0
        simp only at c0 hx0 hx0n hFh0 hFz0
        obtain rfl : N = xn := hx0n.symm
        obtain ⟨yb, yo, rfl, hyb, hyc⟩ := hx0.open hNp.1 (by decide)
        have hFz1 := hFz0 _ rfl
        have hFh1 := hFh0 _ rfl
        simp only at hFz1 hFh1
        obtain ⟨r0, hr0⟩ : ∃ r0, rv[0]? = some r0 := ⟨rv[0]'(by omega), List.getElem?_eq_getElem _⟩
        obtain ⟨y0, y1, y2⟩ := cells_v hyc 0 r0 hr0
        simp only [Nat.zero_mul, Nat.add_zero] at y0 y1 y2
        have f0 := hFz1 yo
        have f1 := hFz1 (yo + 1)
        have f2 := hFz1 (yo + 2)
        have oX5 := W_x.past b5
        obtain ⟨aa, ab, ac, a0, a1, a2, e0, e1, e2⟩ := own_cells_v oX5 0 hNp.1
        simp only [Nat.zero_mul, Nat.zero_add] at a0 a1 a2 e0 e1 e2
        have hNi : (0 : Int) < (N : Int) := by omega
        have hyx : yb ≠ gx_ := fun e => by have := W_x.lt; omega
        have hyx2 : gx_ ≠ yb := fun e => hyx e.symm
        go_upto_region 15 with fail
        clear t0 t1 t2 t3 t4
        go_upto_region 17 with fail
        have bV35 := bV4.trans (b5.mono bV4.size)
        have hyb3 : V3.heap.size ≤ yb := Nat.le_trans bV4.size hFh1
        have B6 : Below V3.heap.size V3 ((((((w5.setCell ⟨yb, yo, none⟩ (.int .i64 2)).setCell ⟨yb, yo + 1, none⟩ (.int .i64 mm)).setCell ⟨yb, yo + 2, none⟩ (.string ⟨#[]⟩)).setCell ⟨gx_, 0, none⟩ (.int .i64 0)).setCell ⟨gx_, 1, none⟩ (.int .i64 0)).setCell ⟨gx_, 2, none⟩ (.string ⟨#[]⟩)) :=
          (((((bV35.setCell (p := ⟨yb, yo, none⟩) hyb3 _).setCell (p := ⟨yb, yo + 1, none⟩) hyb3 _).setCell (p := ⟨yb, yo + 2, none⟩) hyb3 _).setCell (p := ⟨gx_, 0, none⟩) W_xg2 _).setCell (p := ⟨gx_, 1, none⟩) W_xg2 _).setCell (p := ⟨gx_, 2, none⟩) W_xg2 _
        go_upto_region 18 with fail
        generalize (((((w5.setCell ⟨yb, yo, none⟩ (.int .i64 2)).setCell ⟨yb, yo + 1, none⟩ (.int .i64 mm)).setCell ⟨yb, yo + 2, none⟩ (.string ⟨#[]⟩)).setCell ⟨gx_, 0, none⟩ (.int .i64 0)).setCell ⟨gx_, 1, none⟩ (.int .i64 0)).setCell ⟨gx_, 2, none⟩ (.string ⟨#[]⟩) = V6 at B6 ⊢
        have hT6 := hT3.past B6
        have iT6 := iT3.past B6
        have XS6 := XS3.past B6
        have oW6 := oW3.past B6
        have BV6 := BV3.trans (B6.mono hpV3)
        have hpV6 := Nat.le_trans hpV3 B6.size
        obtain ⟨t0, t1, t2, t3, t4⟩ := tb_cells hT6
        obtain ⟨z0, z1, z2, z3⟩ := sc_cells XS6
        obtain ⟨v0, v1, v2⟩ := own_vcells oW6 KI _ hrow0.out
        have HGt0 := fun (w' : World) (hb : Below V6.heap.size V6.drew w') => get_any w' NM co N cc KI only ro 1 rc F 0 [rv] (iT6.drew.past hb) ⟨k, m, s⟩ hSp (by omega) (fun y hy => by obtain rfl := List.mem_singleton.1 hy; omega)
        simp only [hHas, hAt] at HGt0
        unfold tbV at HGt0
        simp only at v0 v1 v2 HGt0
        have HGt : ∀ (w' : World), Below V6.heap.size V6.drew w' → Calls Try.prog 49 #[.agg #[.string (bsOf NM), .slice co N cc, .int .i64 (KI : Nat), .bool only, .slice ro 1 rc], .agg #[.int .i64 k, .int .i64 m, .string s]] w' fun e w'' => ∃ g3 c3, e = .returned (.tuple #[.slice (some ⟨g3, 0, none⟩) N c3, .bool true]) ∧ OwnR EV w'' 46 g3 N c3 rv ∧ w'.heap.size ≤ g3 ∧ Below w'.heap.size w' w'' := fun w' hb => (HGt0 w' hb).mono fun e w'' ⟨_, hy, hz⟩ => by
          obtain ⟨g3, c3, rfl, o3, q3⟩ := hy rv (by first | rfl | trivial) (by first | rfl | trivial)
          rw [hrl] at o3 ⊢
          exact ⟨g3, c3, rfl, o3, q3, hz⟩
        have hgsB := XS6.lt
        have hgrB := oW6.lt
        have hgqB := hT6.lt
        have hB0 : V6.heap.size ≤ V6.heap.size := Nat.le_refl _
        clear HGt0
        refine region_inv (TOwn18 V6.heap.size gs gt NM g N cg KI only co cc ro 1 rc gw rcw k m s rv) (by kernel_rfl) (by kernel_rfl) ?_ ?_ ?_
        · exact ⟨false, false, false, false, false, false, false, false, false, false, false, false, undef, undef, undef, undef, undef, undef, undef, undef, undef, undef, undef, undef, 0, 0, rfl, (by simp only [Act.put, List.setIfInBounds_toArray, List.set_cons_zero, List.set_cons_succ]), Below.refl _ _, (fun h => by cases h), (fun h => by cases h), (fun h => by cases h), (fun h => by cases h), (fun h => by cases h), (fun h => by cases h), (fun h => by cases h), (fun h => by cases h), (fun h => by cases h), (fun h => by cases h), (fun h => by cases h), (fun h => by cases h), (fun h => by cases h), (fun h => by cases h), (fun h => by cases h), (fun h => by cases h), (fun h => by cases h)⟩
        · refine ⟨?_, ?_, ?_, ?_, ?_, ?_, ?_, ?_, ?_, ?_, ?_, ?_, trivial⟩
          · rintro L a w ⟨b0, b1, b2, b3, b4, b5, b6, b7, b8, b9, b10, b11, x100, x101, x102, x103, x104, x105, x106, x99, x107, x108, x16, x17, gx, cx, rfl, rfl, hb, cd0, cd1, cd2, cd3, cd4, cd5, cd6, cd7, cd8, cd9, cd10, cd11, f_x, f_xg, w_7_6, w_8_6, w_10_6⟩ hf hd
            have hf' : b0 = false := hf
            subst hf'
            clear hf hd
            try simp only [List.setIfInBounds_toArray, List.set_cons_zero, List.set_cons_succ]
            have z0 := (hb.cell hgqB).trans t0
            have z1 := (hb.cell hgqB).trans t1
            have z2 := (hb.cell hgqB).trans t2
            have z3 := (hb.cell hgqB).trans t3
            have z4 := (hb.cell hgqB).trans t4
            intro K hK
            rw [if_pos (by rfl)]
            go_simp
            exact hK.out _ _ ⟨true, b1, b2, b3, b4, b5, b6, b7, b8, b9, b10, b11, (.agg #[.string (bsOf NM), .slice co N cc, .int .i64 (KI : Nat), .bool only, .slice ro 1 rc]), x101, x102, x103, x104, x105, x106, x99, x107, x108, x16, x17, gx, cx, (by simp only [Act.put, List.setIfInBounds_toArray, List.set_cons_zero, List.set_cons_succ]), (by simp only [Act.put, List.setIfInBounds_toArray, List.set_cons_zero, List.set_cons_succ]), hb, (fun _ => rfl), cd1, cd2, cd3, cd4, cd5, cd6, cd7, cd8, cd9, cd10, cd11, f_x, f_xg, w_7_6, w_8_6, w_10_6⟩
          · rintro L a w ⟨b0, b1, b2, b3, b4, b5, b6, b7, b8, b9, b10, b11, x100, x101, x102, x103, x104, x105, x106, x99, x107, x108, x16, x17, gx, cx, rfl, rfl, hb, cd0, cd1, cd2, cd3, cd4, cd5, cd6, cd7, cd8, cd9, cd10, cd11, f_x, f_xg, w_7_6, w_8_6, w_10_6⟩ hf hd
            have hf' : b1 = false := hf
            subst hf'
            clear hf hd
            try simp only [List.setIfInBounds_toArray, List.set_cons_zero, List.set_cons_succ]
            intro K hK
            rw [if_pos (by rfl)]
            go_simp
            exact hK.out _ _ ⟨b0, true, b2, b3, b4, b5, b6, b7, b8, b9, b10, b11, x100, (.slice (some ⟨gw, 0, none⟩) N rcw), x102, x103, x104, x105, x106, x99, x107, x108, x16, x17, gx, cx, (by simp only [Act.put, List.setIfInBounds_toArray, List.set_cons_zero, List.set_cons_succ]), (by simp only [Act.put, List.setIfInBounds_toArray, List.set_cons_zero, List.set_cons_succ]), hb, cd0, (fun _ => rfl), cd2, cd3, cd4, cd5, cd6, cd7, cd8, cd9, cd10, cd11, f_x, f_xg, w_7_6, w_8_6, w_10_6⟩
          · rintro L a w ⟨b0, b1, b2, b3, b4, b5, b6, b7, b8, b9, b10, b11, x100, x101, x102, x103, x104, x105, x106, x99, x107, x108, x16, x17, gx, cx, rfl, rfl, hb, cd0, cd1, cd2, cd3, cd4, cd5, cd6, cd7, cd8, cd9, cd10, cd11, f_x, f_xg, w_7_6, w_8_6, w_10_6⟩ hf hd
            have hf' : b2 = false := hf
            subst hf'
            clear hf hd
            try simp only [List.setIfInBounds_toArray, List.set_cons_zero, List.set_cons_succ]
            intro K hK
            rw [if_pos (by rfl)]
            go_simp
            exact hK.out _ _ ⟨b0, b1, true, b3, b4, b5, b6, b7, b8, b9, b10, b11, x100, x101, (.pointer (some ⟨gs, 2, none⟩)), x103, x104, x105, x106, x99, x107, x108, x16, x17, gx, cx, (by simp only [Act.put, List.setIfInBounds_toArray, List.set_cons_zero, List.set_cons_succ]), (by simp only [Act.put, List.setIfInBounds_toArray, List.set_cons_zero, List.set_cons_succ]), hb, cd0, cd1, (fun _ => rfl), cd3, cd4, cd5, cd6, cd7, cd8, cd9, cd10, cd11, f_x, f_xg, w_7_6, w_8_6, w_10_6⟩
          · rintro L a w ⟨b0, b1, b2, b3, b4, b5, b6, b7, b8, b9, b10, b11, x100, x101, x102, x103, x104, x105, x106, x99, x107, x108, x16, x17, gx, cx, rfl, rfl, hb, cd0, cd1, cd2, cd3, cd4, cd5, cd6, cd7, cd8, cd9, cd10, cd11, f_x, f_xg, w_7_6, w_8_6, w_10_6⟩ hf hd
            have hf' : b3 = false := hf
            subst hf'
            have d2 : b2 = true := hd ⟨2, .data⟩ (by simp) rfl
            subst d2
            obtain rfl := cd2.out rfl
            clear hf hd
            try simp only [List.setIfInBounds_toArray, List.set_cons_zero, List.set_cons_succ]
            have z0 := (hb.cell hgsB).trans z2
            intro K hK
            rw [if_pos (by rfl)]
            go_simp
            exact hK.out _ _ ⟨b0, b1, true, true, b4, b5, b6, b7, b8, b9, b10, b11, x100, x101, .pointer (some ⟨gs, 2, none⟩), (.int .i64 (KI : Nat)), x104, x105, x106, x99, x107, x108, x16, x17, gx, cx, (by simp only [Act.put, List.setIfInBounds_toArray, List.set_cons_zero, List.set_cons_succ]), (by simp only [Act.put, List.setIfInBounds_toArray, List.set_cons_zero, List.set_cons_succ]), hb, cd0, cd1, (fun _ => rfl), (fun _ => rfl), cd4, cd5, cd6, cd7, cd8, cd9, cd10, cd11, f_x, f_xg, w_7_6, w_8_6, w_10_6⟩
          · rintro L a w ⟨b0, b1, b2, b3, b4, b5, b6, b7, b8, b9, b10, b11, x100, x101, x102, x103, x104, x105, x106, x99, x107, x108, x16, x17, gx, cx, rfl, rfl, hb, cd0, cd1, cd2, cd3, cd4, cd5, cd6, cd7, cd8, cd9, cd10, cd11, f_x, f_xg, w_7_6, w_8_6, w_10_6⟩ hf hd
            have hf' : b4 = false := hf
            subst hf'
            have d1 : b1 = true := hd ⟨1, .data⟩ (by simp) rfl
            subst d1
            have d3 : b3 = true := hd ⟨3, .data⟩ (by simp) rfl
            subst d3
            obtain rfl := cd1.out rfl
            obtain rfl := cd3.out rfl
            clear hf hd
            try simp only [List.setIfInBounds_toArray, List.set_cons_zero, List.set_cons_succ]
            intro K hK
            rw [if_pos (by rfl)]
            go_simp
            exact hK.out _ _ ⟨b0, true, b2, true, true, b5, b6, b7, b8, b9, b10, b11, x100, .slice (some ⟨gw, 0, none⟩) N rcw, x102, .int .i64 (KI : Nat), (.pointer (some ⟨gw, KI * 3, none⟩)), x105, x106, x99, x107, x108, x16, x17, gx, cx, (by simp only [Act.put, List.setIfInBounds_toArray, List.set_cons_zero, List.set_cons_succ]), (by simp only [Act.put, List.setIfInBounds_toArray, List.set_cons_zero, List.set_cons_succ]), hb, cd0, (fun _ => rfl), cd2, (fun _ => rfl), (fun _ => rfl), cd5, cd6, cd7, cd8, cd9, cd10, cd11, f_x, f_xg, w_7_6, w_8_6, w_10_6⟩
          · rintro L a w ⟨b0, b1, b2, b3, b4, b5, b6, b7, b8, b9, b10, b11, x100, x101, x102, x103, x104, x105, x106, x99, x107, x108, x16, x17, gx, cx, rfl, rfl, hb, cd0, cd1, cd2, cd3, cd4, cd5, cd6, cd7, cd8, cd9, cd10, cd11, f_x, f_xg, w_7_6, w_8_6, w_10_6⟩ hf hd
            have hf' : b5 = false := hf
            subst hf'
            have d4 : b4 = true := hd ⟨4, .data⟩ (by simp) rfl
            subst d4
            obtain rfl := cd4.out rfl
            clear hf hd
            try simp only [List.setIfInBounds_toArray, List.set_cons_zero, List.set_cons_succ]
            have z0 := (hb.cell hgrB).trans v0
            have z1 := (hb.cell hgrB).trans v1
            have z2 := (hb.cell hgrB).trans v2
            intro K hK
            rw [if_pos (by rfl)]
            go_simp
            exact hK.out _ _ ⟨b0, b1, b2, b3, true, true, b6, b7, b8, b9, b10, b11, x100, x101, x102, x103, .pointer (some ⟨gw, KI * 3, none⟩), (.agg #[.int .i64 k, .int .i64 m, .string s]), x106, x99, x107, x108, x16, x17, gx, cx, (by simp only [Act.put, List.setIfInBounds_toArray, List.set_cons_zero, List.set_cons_succ]), (by simp only [Act.put, List.setIfInBounds_toArray, List.set_cons_zero, List.set_cons_succ]), hb, cd0, cd1, cd2, cd3, (fun _ => rfl), (fun _ => rfl), cd6, cd7, cd8, cd9, cd10, cd11, f_x, f_xg, w_7_6, w_8_6, w_10_6⟩
          · rintro L a w ⟨b0, b1, b2, b3, b4, b5, b6, b7, b8, b9, b10, b11, x100, x101, x102, x103, x104, x105, x106, x99, x107, x108, x16, x17, gx, cx, rfl, rfl, hb, cd0, cd1, cd2, cd3, cd4, cd5, cd6, cd7, cd8, cd9, cd10, cd11, f_x, f_xg, w_7_6, w_8_6, w_10_6⟩ hf hd
            have hf' : b6 = false := hf
            subst hf'
            have d0 : b0 = true := hd ⟨0, .data⟩ (by simp) rfl
            subst d0
            have d5 : b5 = true := hd ⟨5, .data⟩ (by simp) rfl
            subst d5
            obtain rfl := cd0.out rfl
            obtain rfl := cd5.out rfl
            clear hf hd
            try simp only [List.setIfInBounds_toArray, List.set_cons_zero, List.set_cons_succ]
            intro K hK
            rw [if_pos (by rfl)]
            go_simp
            go_at_call 49
            refine (HGt _ hb).mono ?_
            rintro e w' ⟨g3, c3, rfl, o3, q3, bx⟩
            have e_7 : b7 = false := by cases hq : b7 with | false => rfl | true => exact absurd (w_7_6.out hq) (by simp)
            subst e_7
            have e_8 : b8 = false := by cases hq : b8 with | false => rfl | true => exact absurd (w_8_6.out hq) (by simp)
            subst e_8
            have e_10 : b10 = false := by cases hq : b10 with | false => rfl | true => exact absurd (w_10_6.out hq) (by simp)
            subst e_10
            exact hK.out _ _ ⟨true, b1, b2, b3, b4, true, true, false, false, b9, false, b11, .agg #[.string (bsOf NM), .slice co N cc, .int .i64 (KI : Nat), .bool only, .slice ro 1 rc], x101, x102, x103, x104, .agg #[.int .i64 k, .int .i64 m, .string s], (.tuple #[.slice (some ⟨g3, 0, none⟩) N c3, .bool true]), x99, x107, x108, x16, x17, g3, c3, (by simp only [Act.put, List.setIfInBounds_toArray, List.set_cons_zero, List.set_cons_succ]), (by simp only [Act.put, List.setIfInBounds_toArray, List.set_cons_zero, List.set_cons_succ]), hb.trans (bx.mono (Nat.le_trans hB0 hb.size)), (fun _ => rfl), cd1, cd2, cd3, cd4, (fun _ => rfl), (fun _ => rfl), (fun h => by cases h), (fun h => by cases h), cd9, (fun h => by cases h), cd11, (fun _ => o3), (fun _ => Nat.le_trans hb.size q3), (fun _ => rfl), (fun _ => rfl), (fun _ => rfl)⟩
          · rintro L a w ⟨b0, b1, b2, b3, b4, b5, b6, b7, b8, b9, b10, b11, x100, x101, x102, x103, x104, x105, x106, x99, x107, x108, x16, x17, gx, cx, rfl, rfl, hb, cd0, cd1, cd2, cd3, cd4, cd5, cd6, cd7, cd8, cd9, cd10, cd11, f_x, f_xg, w_7_6, w_8_6, w_10_6⟩ hf hd
            have hf' : b7 = false := hf
            subst hf'
            have d6 : b6 = true := hd ⟨6, .data⟩ (by simp) rfl
            subst d6
            obtain rfl := cd6.out rfl
            clear hf hd
            have W_x := f_x.out rfl
            have W_xg := f_xg.out rfl
            try simp only [List.setIfInBounds_toArray, List.set_cons_zero, List.set_cons_succ]
            intro K hK
            rw [if_pos (by rfl)]
            go_simp
            exact hK.out _ _ ⟨b0, b1, b2, b3, b4, b5, true, true, b8, b9, b10, b11, x100, x101, x102, x103, x104, x105, .tuple #[.slice (some ⟨gx, 0, none⟩) N cx, .bool true], (.tuple #[.slice (some ⟨gx, 0, none⟩) N cx, .bool true]), x107, x108, x16, x17, gx, cx, (by simp only [Act.put, List.setIfInBounds_toArray, List.set_cons_zero, List.set_cons_succ]), (by simp only [Act.put, List.setIfInBounds_toArray, List.set_cons_zero, List.set_cons_succ]), hb, cd0, cd1, cd2, cd3, cd4, cd5, (fun _ => rfl), (fun _ => rfl), cd8, cd9, cd10, cd11, f_x, f_xg, (fun _ => rfl), (fun _ => rfl), (fun _ => rfl)⟩
          · rintro L a w ⟨b0, b1, b2, b3, b4, b5, b6, b7, b8, b9, b10, b11, x100, x101, x102, x103, x104, x105, x106, x99, x107, x108, x16, x17, gx, cx, rfl, rfl, hb, cd0, cd1, cd2, cd3, cd4, cd5, cd6, cd7, cd8, cd9, cd10, cd11, f_x, f_xg, w_7_6, w_8_6, w_10_6⟩ hf hd
            have hf' : b8 = false := hf
            subst hf'
            have d7 : b7 = true := hd ⟨7, .data⟩ (by simp) rfl
            subst d7
            obtain rfl := cd7.out rfl
            clear hf hd
            try simp only [List.setIfInBounds_toArray, List.set_cons_zero, List.set_cons_succ]
            intro K hK
            rw [if_pos (by rfl)]
            go_simp
            exact hK.out _ _ ⟨b0, b1, b2, b3, b4, b5, b6, true, true, b9, b10, b11, x100, x101, x102, x103, x104, x105, x106, .tuple #[.slice (some ⟨gx, 0, none⟩) N cx, .bool true], (.slice (some ⟨gx, 0, none⟩) N cx), x108, x16, x17, gx, cx, (by simp only [Act.put, List.setIfInBounds_toArray, List.set_cons_zero, List.set_cons_succ]), (by simp only [Act.put, List.setIfInBounds_toArray, List.set_cons_zero, List.set_cons_succ]), hb, cd0, cd1, cd2, cd3, cd4, cd5, cd6, (fun _ => rfl), (fun _ => rfl), cd9, cd10, cd11, f_x, f_xg, w_7_6, (fun _ => w_7_6.out rfl), w_10_6⟩
          · rintro L a w ⟨b0, b1, b2, b3, b4, b5, b6, b7, b8, b9, b10, b11, x100, x101, x102, x103, x104, x105, x106, x99, x107, x108, x16, x17, gx, cx, rfl, rfl, hb, cd0, cd1, cd2, cd3, cd4, cd5, cd6, cd7, cd8, cd9, cd10, cd11, f_x, f_xg, w_7_6, w_8_6, w_10_6⟩ hf hd
            have hf' : b9 = false := hf
            subst hf'
            have d7 : b7 = true := hd ⟨7, .data⟩ (by simp) rfl
            subst d7
            obtain rfl := cd7.out rfl
            clear hf hd
            try simp only [List.setIfInBounds_toArray, List.set_cons_zero, List.set_cons_succ]
            intro K hK
            rw [if_pos (by rfl)]
            go_simp
            exact hK.out _ _ ⟨b0, b1, b2, b3, b4, b5, b6, true, b8, true, b10, b11, x100, x101, x102, x103, x104, x105, x106, .tuple #[.slice (some ⟨gx, 0, none⟩) N cx, .bool true], x107, (.bool true), x16, x17, gx, cx, (by simp only [Act.put, List.setIfInBounds_toArray, List.set_cons_zero, List.set_cons_succ]), (by simp only [Act.put, List.setIfInBounds_toArray, List.set_cons_zero, List.set_cons_succ]), hb, cd0, cd1, cd2, cd3, cd4, cd5, cd6, (fun _ => rfl), cd8, (fun _ => rfl), cd10, cd11, f_x, f_xg, w_7_6, w_8_6, w_10_6⟩
          · rintro L a w ⟨b0, b1, b2, b3, b4, b5, b6, b7, b8, b9, b10, b11, x100, x101, x102, x103, x104, x105, x106, x99, x107, x108, x16, x17, gx, cx, rfl, rfl, hb, cd0, cd1, cd2, cd3, cd4, cd5, cd6, cd7, cd8, cd9, cd10, cd11, f_x, f_xg, w_7_6, w_8_6, w_10_6⟩ hf hd
            have hf' : b10 = false := hf
            subst hf'
            have d8 : b8 = true := hd ⟨8, .data⟩ (by simp) rfl
            subst d8
            have d6 : b6 = true := hd ⟨6, .chain⟩ (by simp) rfl
            subst d6
            have d0 : b0 = true := hd ⟨0, .phase⟩ (by simp) rfl
            subst d0
            have d1 : b1 = true := hd ⟨1, .phase⟩ (by simp) rfl
            subst d1
            have d2 : b2 = true := hd ⟨2, .phase⟩ (by simp) rfl
            subst d2
            have d3 : b3 = true := hd ⟨3, .phase⟩ (by simp) rfl
            subst d3
            have d4 : b4 = true := hd ⟨4, .phase⟩ (by simp) rfl
            subst d4
            have d5 : b5 = true := hd ⟨5, .phase⟩ (by simp) rfl
            subst d5
            have d7 : b7 = true := hd ⟨7, .phase⟩ (by simp) rfl
            subst d7
            obtain rfl := cd8.out rfl
            obtain rfl := cd6.out rfl
            obtain rfl := cd0.out rfl
            obtain rfl := cd1.out rfl
            obtain rfl := cd2.out rfl
            obtain rfl := cd3.out rfl
            obtain rfl := cd4.out rfl
            obtain rfl := cd5.out rfl
            obtain rfl := cd7.out rfl
            clear hf hd
            have W_x := f_x.out rfl
            have W_xg := f_xg.out rfl
            try simp only [List.setIfInBounds_toArray, List.set_cons_zero, List.set_cons_succ]
            intro K hK
            rw [if_pos (by rfl)]
            go_simp
            exact hK.out _ _ ⟨true, true, true, true, true, true, true, true, true, b9, true, b11, .agg #[.string (bsOf NM), .slice co N cc, .int .i64 (KI : Nat), .bool only, .slice ro 1 rc], .slice (some ⟨gw, 0, none⟩) N rcw, .pointer (some ⟨gs, 2, none⟩), .int .i64 (KI : Nat), .pointer (some ⟨gw, KI * 3, none⟩), .agg #[.int .i64 k, .int .i64 m, .string s], .tuple #[.slice (some ⟨gx, 0, none⟩) N cx, .bool true], .tuple #[.slice (some ⟨gx, 0, none⟩) N cx, .bool true], .slice (some ⟨gx, 0, none⟩) N cx, x108, (.slice (some ⟨gx, 0, none⟩) N cx), x17, gx, cx, (by simp only [Act.put, List.setIfInBounds_toArray, List.set_cons_zero, List.set_cons_succ]), (by simp only [Act.put, List.setIfInBounds_toArray, List.set_cons_zero, List.set_cons_succ]), hb, (fun _ => rfl), (fun _ => rfl), (fun _ => rfl), (fun _ => rfl), (fun _ => rfl), (fun _ => rfl), (fun _ => rfl), (fun _ => rfl), (fun _ => rfl), cd9, (fun _ => rfl), cd11, f_x, f_xg, (fun _ => rfl), (fun _ => rfl), (fun _ => rfl)⟩
          · rintro L a w ⟨b0, b1, b2, b3, b4, b5, b6, b7, b8, b9, b10, b11, x100, x101, x102, x103, x104, x105, x106, x99, x107, x108, x16, x17, gx, cx, rfl, rfl, hb, cd0, cd1, cd2, cd3, cd4, cd5, cd6, cd7, cd8, cd9, cd10, cd11, f_x, f_xg, w_7_6, w_8_6, w_10_6⟩ hf hd
            have hf' : b11 = false := hf
            subst hf'
            have d9 : b9 = true := hd ⟨9, .data⟩ (by simp) rfl
            subst d9
            have d10 : b10 = true := hd ⟨10, .chain⟩ (by simp) rfl
            subst d10
            have d0 : b0 = true := hd ⟨0, .phase⟩ (by simp) rfl
            subst d0
            have d1 : b1 = true := hd ⟨1, .phase⟩ (by simp) rfl
            subst d1
            have d2 : b2 = true := hd ⟨2, .phase⟩ (by simp) rfl
            subst d2
            have d3 : b3 = true := hd ⟨3, .phase⟩ (by simp) rfl
            subst d3
            have d4 : b4 = true := hd ⟨4, .phase⟩ (by simp) rfl
            subst d4
            have d5 : b5 = true := hd ⟨5, .phase⟩ (by simp) rfl
            subst d5
            have d6 : b6 = true := hd ⟨6, .phase⟩ (by simp) rfl
            subst d6
            have d7 : b7 = true := hd ⟨7, .phase⟩ (by simp) rfl
            subst d7
            have d8 : b8 = true := hd ⟨8, .phase⟩ (by simp) rfl
            subst d8
            obtain rfl := cd9.out rfl
            obtain rfl := cd10.out rfl
            obtain rfl := cd0.out rfl
            obtain rfl := cd1.out rfl
            obtain rfl := cd2.out rfl
            obtain rfl := cd3.out rfl
            obtain rfl := cd4.out rfl
            obtain rfl := cd5.out rfl
            obtain rfl := cd6.out rfl
            obtain rfl := cd7.out rfl
            obtain rfl := cd8.out rfl
            clear hf hd
            have W_x := f_x.out rfl
            have W_xg := f_xg.out rfl
            try simp only [List.setIfInBounds_toArray, List.set_cons_zero, List.set_cons_succ]
            intro K hK
            rw [if_pos (by rfl)]
            go_simp
            exact hK.out _ _ ⟨true, true, true, true, true, true, true, true, true, true, true, true, .agg #[.string (bsOf NM), .slice co N cc, .int .i64 (KI : Nat), .bool only, .slice ro 1 rc], .slice (some ⟨gw, 0, none⟩) N rcw, .pointer (some ⟨gs, 2, none⟩), .int .i64 (KI : Nat), .pointer (some ⟨gw, KI * 3, none⟩), .agg #[.int .i64 k, .int .i64 m, .string s], .tuple #[.slice (some ⟨gx, 0, none⟩) N cx, .bool true], .tuple #[.slice (some ⟨gx, 0, none⟩) N cx, .bool true], .slice (some ⟨gx, 0, none⟩) N cx, .bool true, .slice (some ⟨gx, 0, none⟩) N cx, (.bool true), gx, cx, (by simp only [Act.put, List.setIfInBounds_toArray, List.set_cons_zero, List.set_cons_succ]), (by simp only [Act.put, List.setIfInBounds_toArray, List.set_cons_zero, List.set_cons_succ]), hb, (fun _ => rfl), (fun _ => rfl), (fun _ => rfl), (fun _ => rfl), (fun _ => rfl), (fun _ => rfl), (fun _ => rfl), (fun _ => rfl), (fun _ => rfl), (fun _ => rfl), (fun _ => rfl), (fun _ => rfl), f_x, f_xg, (fun _ => rfl), (fun _ => rfl), (fun _ => rfl)⟩
        · rintro act Vz ⟨b0, b1, b2, b3, b4, b5, b6, b7, b8, b9, b10, b11, x100, x101, x102, x103, x104, x105, x106, x99, x107, x108, x16, x17, gx, cx, hL, rfl, hb, cd0, cd1, cd2, cd3, cd4, cd5, cd6, cd7, cd8, cd9, cd10, cd11, f_x, f_xg, w_7_6, w_8_6, w_10_6⟩
          have hL' : [true, true, true, true, true, true, true, true, true, true, true, true] = [b0, b1, b2, b3, b4, b5, b6, b7, b8, b9, b10, b11] := congrArg Array.toList hL
          simp only [List.cons.injEq, and_true] at hL'
          obtain ⟨rfl, rfl, rfl, rfl, rfl, rfl, rfl, rfl, rfl, rfl, rfl, rfl⟩ := hL'
          obtain rfl := cd0.out rfl
          obtain rfl := cd1.out rfl
          obtain rfl := cd2.out rfl
          obtain rfl := cd3.out rfl
          obtain rfl := cd4.out rfl
          obtain rfl := cd5.out rfl
          obtain rfl := cd6.out rfl
          obtain rfl := cd7.out rfl
          obtain rfl := cd8.out rfl
          obtain rfl := cd9.out rfl
          obtain rfl := cd10.out rfl
          obtain rfl := cd11.out rfl
          have W_x := f_x.out rfl
          have W_xg := f_xg.out rfl
          clear hL f_x f_xg cd0 cd1 cd2 cd3 cd4 cd5 cd6 cd7 cd8 cd9 cd10 cd11 w_7_6 w_8_6 w_10_6
          simp only [List.setIfInBounds_toArray, List.set_cons_zero, List.set_cons_succ]
          have bVz : Below V6.heap.size V6 Vz := (Below.refl _ _).drew.trans hb
          have BVz := BV6.trans (bVz.mono hpV6)
          have HS1 := fun (w' : World) (hb : Below Vz.heap.size Vz w') => rsame_any (some ⟨gx, 0, none⟩) N cx rv (some ⟨gw, 0, none⟩) N rcw rv w' (W_x.past hb).isR ((oW6.past bVz).past hb).isR
          simp only [(eqVs_iff rv rv).2 rfl] at HS1
          clear hb
          go_wp2_with (go_at_call 30; refine (HS1 _ (Below.refl _ _)).mono ?_; rintro en w7 ⟨rfl, b7⟩)
          go_ret
          exact ⟨rfl, by rw [HP.out]; exact BVz.trans (b7.mono (Nat.le_trans hpV6 bVz.size))⟩
end Go.Proofs.Ytjacaammlkjodaa
