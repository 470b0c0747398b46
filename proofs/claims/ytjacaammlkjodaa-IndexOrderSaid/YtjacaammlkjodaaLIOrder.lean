/-
  IndexOrder, walked (by gen_iorder.py).
-/
import Derived.Test.YtjacaammlkjodaaIxO
import Derived.Test.YtjacaammlkjodaaRSame5
namespace Go.Proofs.Ytjacaammlkjodaa
open Go.RowKit
set_option linter.unusedSimpArgs false
theorem IsX.ge {w : World} {lo hi x : Nat} {col key : Int} {es : List En} (h : IsX w lo hi x col key es) : lo ≤ x ∧ x < hi := by
  obtain ⟨p, h1, h2, h3, h4, h5⟩ := h
  exact ⟨h2, h3⟩
/-- What stands while the region's operations come up. -/
inductive IOrder20 (B : Nat) (gt : Nat) (y : Nat) (b : Nat) (off : Nat) (rn : Nat) (rc : Nat) (j : Nat) (by' : Int) (bm : Nat) (sm : Nat) (p : Nat) (za : Option Addr) (zn : Nat) (zc : Nat) (lo2 : Nat) (hi2 : Nat) (C : Nat) (KI : Nat) (es : List En) (es2 : List En) (a0 : Act) (w0 : World) (L : Array Bool) (a : Act) (w : World) : Prop
  | mk (b0 b1 b2 b3 b4 b5 b6 b7 b8 b9 b10 b11 b12 : Bool) (x85 x86 x87 x88 x89 x90 x91 x92 x93 x94 x95 x96 x97 : Value) (hL : L = #[b0, b1, b2, b3, b4, b5, b6, b7, b8, b9, b10, b11, b12]) (ha : a = ⟨(((((((((((((a0.tmps.setIfInBounds 85 x85).setIfInBounds 86 x86).setIfInBounds 87 x87).setIfInBounds 88 x88).setIfInBounds 89 x89).setIfInBounds 90 x90).setIfInBounds 91 x91).setIfInBounds 92 x92).setIfInBounds 93 x93).setIfInBounds 94 x94).setIfInBounds 95 x95).setIfInBounds 96 x96).setIfInBounds 97 x97), a0.defers⟩) (hb : Below B w0 w) (cd0 : Hid (b0 = true → x85 = .pointer (some ⟨y, 0, none⟩))) (cd1 : Hid (b1 = true → x86 = .pointer (some ⟨gt, 4, none⟩))) (cd2 : Hid (b2 = true → x87 = .slice (some ⟨b, off, none⟩) rn rc)) (cd3 : Hid (b3 = true → x88 = .int .i64 (j : Nat))) (cd4 : Hid (b4 = true → x89 = .int .i64 by')) (cd5 : Hid (b5 = true → x90 = .int .i64 (rn : Nat))) (cd6 : Hid (b6 = true → x91 = .int .i64 (bm : Nat))) (cd7 : Hid (b7 = true → x92 = .int .i64 (sm : Nat))) (cd8 : Hid (b8 = true → x93 = .int .i64 (rn : Nat))) (cd9 : Hid (b9 = true → x94 = .int .i64 (p : Nat))) (cd10 : Hid (b10 = true → x95 = .pointer (some ⟨b, off + p, none⟩))) (cd11 : Hid (b11 = true → x96 = .slice za zn zc)) (cd12 : Hid (b12 = true → x97 = .tuple #[])) (f_y : Hid (b12 = false → IsX w lo2 hi2 y C KI es)) (f_ys : Hid (b12 = true → IsX w lo2 w.heap.size y C KI es2)) : IOrder20 B gt y b off rn rc j by' bm sm p za zn zc lo2 hi2 C KI es es2 a0 w0 L a w
set_option maxRecDepth 100000 in
set_option maxHeartbeats 8000000 in
theorem indexOrder_walk (l : List UInt8) (ao : Option Addr) (n c : Nat) (key : Int) (only : Bool) (cs : List Co) (na : Option Addr) (nl nc : Nat) (ns : List Int) (cl by' : Int) (w : World) (_hl : l.length ≤ maxLen) (_hkey : (Lit.int .i64 key).wf = true) (h : IsR encCo w ao n c cs) (_hcs : ∀ x ∈ cs, (Lit.int .i64 x.kind).wf = true ∧ x.name.length ≤ maxLen) (hI : IsR EI w na nl nc ns) (hIw : ∀ x ∈ ns, (Lit.int .i64 x).wf = true) (_ : (Lit.int .i64 cl).wf = true) (_ : (Lit.int .i64 by').wf = true) :
    Calls Try.prog 4 #[scV l ao n c key only, .slice na nl nc, .int .i64 cl, .int .i64 by'] w (Told w true) := by
  unfold scV
  have X0 := ScB.new w l ao n c key only
  have B0 := (Below.refl w.heap.size w).alloc (Nat.le_refl _) (.cells #[.string (bsOf l), .slice ao n c, .int .i64 key, .bool only] 24)
  go_enter Try.func4, Try.ntmps4
  go_upto_region 1 with fail
  generalize w.alloc (.cells #[.string (bsOf l), .slice ao n c, .int .i64 key, .bool only] 24) = W0 at X0 B0 ⊢
  obtain ⟨p0, hp0⟩ : ∃ p0, w.heap.size = p0 := ⟨_, rfl⟩
  have HP := Lib.hid hp0
  rw [hp0] at X0 B0
  simp only [hp0]
  clear hp0
  have hW0 : p0 ≤ W0.heap.size := Nat.le_of_lt X0.lt
  go_upto_region 3 with (go_at_call 13; refine (known11 _).mono ?_; rintro e w1 ⟨rfl, b1⟩)
  have X1 := X0.past b1
  have B1 := B0.trans (b1.mono hW0)
  have hW1 := Nat.le_trans hW0 b1.size
  have h1 : IsR encCo w1 ao n c cs := h.past (by rw [HP.out]; exact B1)
  have HFw := few9_any w1 l ao n c cs key only h1
  unfold scV at HFw
  have y0 : w1.cell? ⟨p0, 0, none⟩ = some (.string (bsOf l)) := cell_blk X1 rfl
  have y1 : w1.cell? ⟨p0, 1, none⟩ = some (.slice ao n c) := cell_blk X1 rfl
  have y2 : w1.cell? ⟨p0, 2, none⟩ = some (.int .i64 key) := cell_blk X1 rfl
  have y3 : w1.cell? ⟨p0, 3, none⟩ = some (.bool only) := cell_blk X1 rfl
  cases hfw : fewS l cs
  · rw [hfw] at HFw
    go_wp2_with (go_at_call 14; refine HFw.mono ?_; rintro e w2 ⟨rfl, b2⟩)
    go_ret
    exact ⟨rfl, by rw [HP.out]; exact B1.trans (b2.mono hW1)⟩
  rw [hfw] at HFw
  have hn9 : n ≤ 9 := by
    unfold fewS at hfw
    simp only [Bool.and_eq_true, decide_eq_true_eq] at hfw
    have := h.len
    omega
  clear hfw
  go_upto_region 5 with (go_at_call 14; refine HFw.mono ?_; rintro e w2 ⟨rfl, b2⟩)
  have X2 := X1.past b2
  have B2 := B1.trans (b2.mono hW1)
  have hW2 := Nat.le_trans hW1 b2.size
  have h2 := h1.past b2
  clear y0 y1 y2 y3 HFw
  have y0 : w2.cell? ⟨p0, 0, none⟩ = some (.string (bsOf l)) := cell_blk X2 rfl
  have y1 : w2.cell? ⟨p0, 1, none⟩ = some (.slice ao n c) := cell_blk X2 rfl
  have y2 : w2.cell? ⟨p0, 2, none⟩ = some (.int .i64 key) := cell_blk X2 rfl
  have y3 : w2.cell? ⟨p0, 3, none⟩ = some (.bool only) := cell_blk X2 rfl
  have HG := good9_any w2 l ao n c cs key 3 only h2 (by omega)
  unfold GoodIs scV at HG
  have hNp := gN_pos cs
  have hKl := (gKey_lt cs key).1
  have hFl := gFin_len cs key
  have hFk := gFin_kinds cs key
  have hFn := gFin_keyN cs key
  obtain ⟨N, hN⟩ : ∃ N, gN cs = N := ⟨_, rfl⟩
  obtain ⟨KI, hKI⟩ : ∃ KI, gKey cs key = KI := ⟨_, rfl⟩
  obtain ⟨F, hF⟩ : ∃ F, gFin cs key = F := ⟨_, rfl⟩
  obtain ⟨NM, hNM⟩ : ∃ NM, gNm 3 = NM := ⟨_, rfl⟩
  simp only [hN, hKI, hF, hNM] at HG hNp hKl hFl hFk hFn
  clear hN hKI hF hNM
  go_upto_region 6 with (go_at_call 15; refine HG.mono ?_; rintro e w3 ⟨g, cg, rfl, og, b3, q3⟩)
  have hW3 := Nat.le_trans hW2 b3.size
  have B3 : Below p0 w (w3.alloc (.cells #[.string (bsOf NM), .slice (some ⟨g, 0, none⟩) N cg, .int .i64 (KI : Nat), .bool only] 24)) := (B2.trans (b3.mono hW2)).alloc hW3 _
  have XS : Bk (w3.alloc (.cells #[.string (bsOf NM), .slice (some ⟨g, 0, none⟩) N cg, .int .i64 (KI : Nat), .bool only] 24)) w3.heap.size (scC NM (some ⟨g, 0, none⟩) N cg (KI : Nat) only) 24 := Bk.new w3 _ _
  have oG := og.alloc (.cells #[.string (bsOf NM), .slice (some ⟨g, 0, none⟩) N cg, .int .i64 (KI : Nat), .bool only] 24)
  have hgl := og.lt
  have hg0 : p0 ≤ g := Nat.le_trans hW2 q3
  generalize w3.alloc (.cells #[.string (bsOf NM), .slice (some ⟨g, 0, none⟩) N cg, .int .i64 (KI : Nat), .bool only] 24) = W at B3 XS oG ⊢
  obtain ⟨gs, hgs⟩ : ∃ gs, w3.heap.size = gs := ⟨_, rfl⟩
  rw [hgs] at XS hgl hW3
  simp only [hgs]
  obtain ⟨z0, z1, z2, z3⟩ := sc_cells XS
  have hgsW : gs < W.heap.size := XS.lt
  have iG := oG.isR
  clear hgs og b3 q3 HG y0 y1 y2 y3 X2 X1 X0 B2 B1 B0 b1 b2 h2 h1 hW2 hW1 hW0
  have hpW : p0 ≤ W.heap.size := by omega
  obtain ⟨C, hC, hCl0⟩ := wth_of cl N (by omega)
  have hCl : C < N := by omega
  have HWi := fun w => within11_any cl N w (by omega) (by omega)
  rw [hC] at HWi
  have hgW : g < W.heap.size := by omega
  go_upto_region 7 with (first
    | (go_at_call 16; (with_reducible refine (HWi _).mono ?_); rintro e w' ⟨rfl, rfl⟩))
  have HFl := fill_any W NM g N cg KI only F iG hFl hNp hFk hKl na nl nc ns (hI.past (by rw [HP.out]; exact B3)) hIw hgW
  unfold scV at HFl
  go_upto_region 8 with (go_at_call 17; refine HFl.mono ?_; rintro e w5 ⟨ro, rn, rc, rs, rfl, iR, hFi, hrn, b5⟩; unfold tbV)
  have bT : Below W.heap.size W (w5.alloc (.cells #[.string (bsOf NM), .slice (some ⟨g, 0, none⟩) N cg, .int .i64 (KI : Nat), .bool only, .slice ro rn rc] 33)) := b5.alloc b5.size _
  have hT0 : Bk (w5.alloc (.cells #[.string (bsOf NM), .slice (some ⟨g, 0, none⟩) N cg, .int .i64 (KI : Nat), .bool only, .slice ro rn rc] 33)) w5.heap.size (tbC NM (some ⟨g, 0, none⟩) N cg (KI : Nat) only ro rn rc) 33 := Bk.new w5 _ _
  have iR0 := iR.past ((Below.refl w5.heap.size w5).alloc (Nat.le_refl _) (.cells #[.string (bsOf NM), .slice (some ⟨g, 0, none⟩) N cg, .int .i64 (KI : Nat), .bool only, .slice ro rn rc] 33))
  generalize w5.alloc (.cells #[.string (bsOf NM), .slice (some ⟨g, 0, none⟩) N cg, .int .i64 (KI : Nat), .bool only, .slice ro rn rc] 33) = w6 at bT hT0 iR0 ⊢
  obtain ⟨gt, hgt⟩ : ∃ gt, w5.heap.size = gt := ⟨_, rfl⟩
  rw [hgt] at hT0
  simp only [hgt]
  clear hgt HFl iR b5
  have XS6 := XS.past bT
  have B6 := B3.trans (bT.mono hpW)
  have hp6 := Nat.le_trans hpW bT.size
  obtain ⟨t0, t1, t2, t3, t4⟩ := tb_cells hT0
  have HO := of_any w6 NM (some ⟨g, 0, none⟩) N cg KI only ro rn rc
  unfold tbV at HO
  go_upto_region 9 with (first
    | (go_at_call 19; refine HO.mono ?_; rintro e w7 ⟨rfl, b7⟩; have HB := build_any w7 NM (some ⟨g, 0, none⟩) N cg KI only ro rn rc _ rs (iR0.past b7) C (fits_vok hFl hKl hCl hFi) (by omega); unfold tbV at HB)
    | (go_at_call 18; refine HB.mono ?_; rintro e Z ⟨x, rfl, hX, b8⟩))
  have bZ := b7.trans (b8.mono b7.size)
  have hT := hT0.past bZ
  have XZ := XS6.past bZ
  have iRZ := iR0.past bZ
  have BZ := B6.trans (bZ.mono hp6)
  have hpZ := Nat.le_trans hp6 bZ.size
  obtain ⟨lo, hlo⟩ : ∃ lo, w7.heap.size = lo := ⟨_, rfl⟩
  rw [hlo] at hX
  have hrl := iRZ.len
  clear HO HB t0 t1 t2 t3 t4 z0 z1 z2 z3 hT0 iR0 XS6 B6 b7 b8 bT XS iG oG B3
  obtain ⟨z0, z1, z2, z3⟩ := sc_cells XZ
  have HO := of_any Z NM (some ⟨g, 0, none⟩) N cg KI only none 0 0
  have hgtZ := hT.lt
  unfold tbV at HO
  go_upto_region 10 with (first
    | (go_at_call 19; refine HO.mono ?_; rintro e Y0 ⟨rfl, b9⟩; have HB := build_any Y0 NM (some ⟨g, 0, none⟩) N cg KI only none 0 0 0 [] (IsRR.nil _ _) C (fun r hr => by cases hr) (by omega); unfold tbV at HB)
    | (go_at_call 18; refine HB.mono ?_; rintro e Y ⟨y, rfl, hY0, bY⟩))
  have hTy := hT.past b9
  have iRy := iRZ.past b9
  have hXy := hX.past b9
  have BY := BZ.trans (b9.mono hpZ)
  have hpY := Nat.le_trans hpZ b9.size
  obtain ⟨hyl, hyh⟩ := hY0.ge
  have hxl := hX.ge
  obtain ⟨hE, hM⟩ := ix_spec hFl hKl hCl hFi
  have hel := ix_len hFl hKl hCl hFi
  have hne := ents_ne hFi C
  have hVok := fits_vok hFl hKl hCl hFi
  obtain ⟨ex, hex⟩ : ∃ es, ixOf C KI rs = es := ⟨_, rfl⟩
  simp only [hex] at hXy hel hE hM
  have hY1 : IsX Y Y0.heap.size Y.heap.size y C KI [] := hY0
  have hZY : Z.heap.size ≤ Y0.heap.size := b9.size
  have hgtY : gt < Y0.heap.size := Nat.lt_of_lt_of_le hgtZ hZY
  have T4 : Hid (Y0.cell? ⟨gt, 4, none⟩ = some (.slice ro rn rc)) := hTy.c rfl
  clear hX hY0 HO HB hex hT iRZ BZ b9 z0 z1 z2 z3 XZ
  have t4 := (bY.cell hgtY).trans T4.out
  have hgtw := Nat.lt_of_lt_of_le hgtY bY.size
  go_wp2_with fail
  go_loopw [14] (fun i wr => ∃ (j : Nat) (es : List En), j ≤ rn ∧ i = .int .i64 (j : Nat) ∧ Below Y0.heap.size Y0 wr ∧ IsX wr Y0.heap.size wr.heap.size y C KI es ∧ AddR C KI rs j es) (fun i _ => rn - (intOf i).toNat)
  case atStart => exact ⟨0, [], Nat.zero_le _, rfl, bY, hY1, AddR.start C KI rs⟩
  case round =>
    clear t4 hY1 bY
    obtain ⟨j, es, hj, rfl, hB, hY, hA⟩ := hrel
    have t4 := (hB.cell hgtY).trans T4.out
    have hgtw := Nat.lt_of_lt_of_le hgtY hB.size
    by_cases hlt : j < rn
    · have hlti : (j : Int) < (rn : Int) := by omega
      obtain ⟨p, hp⟩ : ∃ p, rn - 1 - j = p := ⟨_, rfl⟩
      have hpi : (rn : Int) - 1 - (j : Int) = (p : Int) := by omega
      have hpl : (p : Int) < (rn : Int) := by omega
      obtain ⟨r, hr⟩ : ∃ r, rs[p]? = some r := ⟨rs[p]'(by omega), List.getElem?_eq_getElem _⟩
      obtain ⟨b, off, hd, rfl, hbY, dl0, iR⟩ := iRy.at hr
      obtain ⟨za, zn, zc⟩ := hd
      simp only at dl0 iR
      have dl := (hB.cell hbY).trans dl0
      have hbw := Nat.lt_of_lt_of_le hbY hB.size
      obtain ⟨hv1, hv2, hv3, hv4⟩ := hVok r (List.mem_of_getElem? hr)
      have hzl := iR.len
      have hnx := hA.next hne (by omega) (by rw [hrl, hp]; exact hr) ⟨hv3, hv4⟩
      have hal := hA.len
      have HA := add_any wr _ _ y C KI es hY za zn zc r (iR.past hB) (by omega) (by omega) hv3 hv4 (by omega)
      obtain ⟨es2, hes2⟩ : ∃ es2, addE (entOf C KI r) es = es2 := ⟨_, rfl⟩
      rw [hes2] at HA hnx
      have HNX := Lib.hid hnx
      clear hes2 hnx hr hA hal hv1 hv2 hv3 hv4 hp dl0
      go_wp2_with (go_at_call 27; refine HA.mono ?_; rintro e w3 ⟨rfl, hY3, g3⟩)
      go_roundw
      case rel => exact ⟨j + 1, es2, by omega, by go_num, hB.grown g3 hB.size (fun z hz => by cases hz; exact hyl), hY3, HNX.out⟩
      case measure => simp [intOf]; omega
    · have hlti : ¬ ((j : Int) < (rn : Int)) := by omega
      have hje : j = rs.length := by omega
      have hjn : (j : Int) = (rn : Int) := by omega
      subst hje
      obtain rfl := hA.all hE hM
      have hXw := hXy.past hB
      have hel2 : es.length = rn := by omega
      have HLx := len_any wr _ _ x C KI es hXw
      have HLy := len_any wr _ _ y C KI es hY
      rw [hel2] at HLx HLy
      obtain ⟨FS, hFS⟩ : ∃ FS, fromE V0 (rn : Int) es = FS := ⟨_, rfl⟩
      have HFx := from_any wr _ _ x C KI es hXw (by have := hB.size; omega) (by omega) V0 Vok.none (rn : Int)
      have HFy0 := fun (w' : World) (b : Below wr.heap.size wr w') => from_any w' _ _ y C KI es (hY.past b) b.size (by omega) V0 Vok.none (rn : Int)
      rw [hFS] at HFx
      simp only [hFS] at HFy0
      have HFx1 : Calls Try.prog 33 #[.pointer (some ⟨x, 0, none⟩), .agg #[.int .i64 0, .int .i64 0, .string ⟨#[]⟩], .int .i64 (rn : Nat)] wr fun e w' => ∃ ao c, e = .returned (.slice ao FS.length c) ∧ TxtR EV w' 46 wr.heap.size ao FS.length c FS ∧ Below wr.heap.size wr w' := HFx
      have HFy1 : ∀ w', Below wr.heap.size wr w' → Calls Try.prog 33 #[.pointer (some ⟨y, 0, none⟩), .agg #[.int .i64 0, .int .i64 0, .string ⟨#[]⟩], .int .i64 (rn : Nat)] w' fun e w'' => ∃ ao c, e = .returned (.slice ao FS.length c) ∧ TxtR EV w'' 46 w'.heap.size ao FS.length c FS ∧ Below w'.heap.size w' w'' := HFy0
      have hmod : DropR C KI rs (wth by' rs.length).toNat 0 es := DropR.start (fun h0 => by have := wth_lo by' rs.length (by omega); have := wth_hi by' rs.length (by omega); omega) hE (by omega) hM
      clear HFx HFy0 hFS
      go_wp2_with (first
        | (go_at_call 29; (with_reducible refine HLx.mono ?_); rintro e w3 ⟨rfl, rfl⟩)
        | (go_at_call 29; (with_reducible refine HLy.mono ?_); rintro e w3 ⟨rfl, rfl⟩)
        | (go_at_call 33; (with_reducible refine HFx1.mono ?_); rintro e w3 ⟨a3, c3, rfl, o3, b3⟩; have HFy2 := HFy1 w3 b3)
        | (go_at_call 33; (with_reducible refine HFy2.mono ?_); rintro e w4 ⟨a4, c4, rfl, o4, b4⟩; have HS := rsame_any a3 FS.length c3 FS a4 FS.length c4 FS w4 (o3.past b4).isR o4.isR; rw [(eqVs_iff FS FS).2 rfl] at HS)
        | (go_at_call 30; refine HS.mono ?_; rintro e w5 ⟨rfl, b5⟩))
      have b35 := (b3.trans (b4.mono b3.size)).trans (b5.mono (Nat.le_trans b3.size b4.size))
      have hB5 := hB.trans (b35.mono hB.size)
      have hY5 := hY.past b35
      have hYle := b35.size
      obtain ⟨bm, hbm⟩ : ∃ bm, (wth by' rs.length).toNat = bm := ⟨_, rfl⟩
      rw [hbm] at hmod
      have hbmn : 0 < rn → bm < rn ∧ wth by' rn = (bm : Int) := fun h0 => by
        have h1 := wth_lo by' rn (by omega)
        have h2 := wth_hi by' rn (by omega)
        rw [hrl] at hbm
        exact ⟨by omega, by omega⟩
      obtain ⟨wo, rfl⟩ : ∃ wo, wo = wr := ⟨wr, rfl⟩
      clear HLx HLy HFx1 HFy1 HFy2 HS o3 o4 hA hXw t4 hbm
      go_loopw [15] (fun i wr => ∃ (j : Nat) (es : List En) (hi2 : Nat), j ≤ rn ∧ i = .int .i64 (j : Nat) ∧ Below Y0.heap.size Y0 wr ∧ hi2 ≤ wr.heap.size ∧ IsX wr Y0.heap.size hi2 y C KI es ∧ DropR C KI rs bm j es) (fun i _ => rn - (intOf i).toNat)
      case atStart => exact ⟨0, es, _, Nat.zero_le _, rfl, hB5, hYle, hY5, hmod⟩
      case round =>
        clear hmod hY5 hYle hB5 b35 b3 b4 b5 hY hB hlt hlti hj
        obtain ⟨j, es, hi2, hj, rfl, hB, hle2, hY, hA⟩ := hrel
        have t4 := (hB.cell hgtY).trans T4.out
        by_cases hlt : j < rn
        · have hlti : (j : Int) < (rn : Int) := by omega
          obtain ⟨hbl, hbw⟩ := hbmn (by omega)
          obtain ⟨sm, hsm⟩ : ∃ sm, j + bm = sm := ⟨_, rfl⟩
          obtain ⟨p, hp⟩ : ∃ p, sm % rn = p := ⟨_, rfl⟩
          have hpm : p < rn := by rw [← hp]; exact Nat.mod_lt _ (by omega)
          have hpmi : (p : Int) < (rn : Int) := by omega
          have hmne : ¬ rn = 0 := by omega
          have HADD : Hid (IntKind.i64.wrap ((j : Int) + (bm : Int)) = (sm : Int)) := by
            show _ = _
            rw [IntWalk.i64_in _ (by omega)]
            omega
          have HREM : Hid ((sm : Int).tmod (rn : Int) = (p : Int)) := by
            show _ = _
            rw [← hp]
            rfl
          obtain ⟨r, hr⟩ : ∃ r, rs[p]? = some r := ⟨rs[p]'(by omega), List.getElem?_eq_getElem _⟩
          obtain ⟨b, off, hd, rfl, hbY, dl0, iR⟩ := iRy.at hr
          obtain ⟨za, zn, zc⟩ := hd
          simp only at dl0 iR
          have dl := (hB.cell hbY).trans dl0
          obtain ⟨hv1, hv2, hv3, hv4⟩ := hVok r (List.mem_of_getElem? hr)
          have hzl := iR.len
          have hnx := hA.next hne (by omega) (by rw [hrl, hsm, hp]; exact hr) ⟨hv3, hv4⟩
          have hal := hA.len
          have hBs := hB.size
          have HDr0 := fun (w' : World) (hb : Below Y0.heap.size wr.drew w') (h : IsX w' Y0.heap.size hi2 y C KI es) => drop_any w' _ _ y C KI es h za zn zc r (iR.past (hB.trans ((Below.refl _ _).drew.trans hb))) (by omega) (by omega) hv3 hv4 (by omega)
          obtain ⟨es2, hes2⟩ : ∃ es2, dropE (entOf C KI r) es = es2 := ⟨_, rfl⟩
          simp only [hes2] at HDr0 hnx
          have HNX := Lib.hid hnx
          have HDr := HDr0
          have HWi2 : ∀ w', Calls Try.prog 16 #[.int .i64 by', .int .i64 (rn : Nat)] w' (fun e w'' => e = .returned (.int .i64 (bm : Nat)) ∧ w' = w'') := fun w' => (within11_any by' (rn : Int) w' (by omega) (by omega)).mono (by
            rintro e w'' ⟨rfl, rfl⟩
            exact ⟨by rw [hbw], rfl⟩)
          have hB0 : Y0.heap.size ≤ wr.heap.size := hBs
          have hgtB := hgtY
          have hbB := hbY
          clear HDr0 hes2 hnx hr hA hal hv1 hv2 hv3 hv4 hp hsm hbw dl0
          go_upto_region 20 with fail
          refine region_inv (IOrder20 Y0.heap.size gt y b off rn rc j by' bm sm p za zn zc Y0.heap.size hi2 C KI es es2) (by kernel_rfl) (by kernel_rfl) ?_ ?_ ?_
          · exact ⟨false, false, false, false, false, false, false, false, false, false, false, false, false, u85, u86, u87, u88, u89, u90, u91, u92, u93, u94, u95, u96, u97, rfl, (by simp only [Act.put, List.setIfInBounds_toArray, List.set_cons_zero, List.set_cons_succ]), Below.refl _ _, (fun h => by cases h), (fun h => by cases h), (fun h => by cases h), (fun h => by cases h), (fun h => by cases h), (fun h => by cases h), (fun h => by cases h), (fun h => by cases h), (fun h => by cases h), (fun h => by cases h), (fun h => by cases h), (fun h => by cases h), (fun h => by cases h), (fun h1 => hY.past (Below.refl _ _).drew), (fun h => by cases h)⟩
          · refine ⟨?_, ?_, ?_, ?_, ?_, ?_, ?_, ?_, ?_, ?_, ?_, ?_, ?_, trivial⟩
            · rintro L a w ⟨b0, b1, b2, b3, b4, b5, b6, b7, b8, b9, b10, b11, b12, x85, x86, x87, x88, x89, x90, x91, x92, x93, x94, x95, x96, x97, rfl, rfl, hb, cd0, cd1, cd2, cd3, cd4, cd5, cd6, cd7, cd8, cd9, cd10, cd11, cd12, f_y, f_ys⟩ hf hd
              have hf' : b0 = false := hf
              subst hf'
              clear hf hd
              try simp only [List.setIfInBounds_toArray, List.set_cons_zero, List.set_cons_succ]
              intro K hK
              rw [if_pos (by rfl)]
              go_simp
              exact hK.out _ _ ⟨true, b1, b2, b3, b4, b5, b6, b7, b8, b9, b10, b11, b12, (.pointer (some ⟨y, 0, none⟩)), x86, x87, x88, x89, x90, x91, x92, x93, x94, x95, x96, x97, (by simp only [Act.put, List.setIfInBounds_toArray, List.set_cons_zero, List.set_cons_succ]), (by simp only [Act.put, List.setIfInBounds_toArray, List.set_cons_zero, List.set_cons_succ]), hb, (fun _ => rfl), cd1, cd2, cd3, cd4, cd5, cd6, cd7, cd8, cd9, cd10, cd11, cd12, f_y, f_ys⟩
            · rintro L a w ⟨b0, b1, b2, b3, b4, b5, b6, b7, b8, b9, b10, b11, b12, x85, x86, x87, x88, x89, x90, x91, x92, x93, x94, x95, x96, x97, rfl, rfl, hb, cd0, cd1, cd2, cd3, cd4, cd5, cd6, cd7, cd8, cd9, cd10, cd11, cd12, f_y, f_ys⟩ hf hd
              have hf' : b1 = false := hf
              subst hf'
              clear hf hd
              try simp only [List.setIfInBounds_toArray, List.set_cons_zero, List.set_cons_succ]
              intro K hK
              rw [if_pos (by rfl)]
              go_simp
              exact hK.out _ _ ⟨b0, true, b2, b3, b4, b5, b6, b7, b8, b9, b10, b11, b12, x85, (.pointer (some ⟨gt, 4, none⟩)), x87, x88, x89, x90, x91, x92, x93, x94, x95, x96, x97, (by simp only [Act.put, List.setIfInBounds_toArray, List.set_cons_zero, List.set_cons_succ]), (by simp only [Act.put, List.setIfInBounds_toArray, List.set_cons_zero, List.set_cons_succ]), hb, cd0, (fun _ => rfl), cd2, cd3, cd4, cd5, cd6, cd7, cd8, cd9, cd10, cd11, cd12, f_y, f_ys⟩
            · rintro L a w ⟨b0, b1, b2, b3, b4, b5, b6, b7, b8, b9, b10, b11, b12, x85, x86, x87, x88, x89, x90, x91, x92, x93, x94, x95, x96, x97, rfl, rfl, hb, cd0, cd1, cd2, cd3, cd4, cd5, cd6, cd7, cd8, cd9, cd10, cd11, cd12, f_y, f_ys⟩ hf hd
              have hf' : b2 = false := hf
              subst hf'
              have d1 : b1 = true := hd ⟨1, .data⟩ (by simp) rfl
              subst d1
              obtain rfl := cd1.out rfl
              clear hf hd
              try simp only [List.setIfInBounds_toArray, List.set_cons_zero, List.set_cons_succ]
              have z0 := (hb.cell hgtB).trans t4
              intro K hK
              rw [if_pos (by rfl)]
              go_simp
              exact hK.out _ _ ⟨b0, true, true, b3, b4, b5, b6, b7, b8, b9, b10, b11, b12, x85, .pointer (some ⟨gt, 4, none⟩), (.slice (some ⟨b, off, none⟩) rn rc), x88, x89, x90, x91, x92, x93, x94, x95, x96, x97, (by simp only [Act.put, List.setIfInBounds_toArray, List.set_cons_zero, List.set_cons_succ]), (by simp only [Act.put, List.setIfInBounds_toArray, List.set_cons_zero, List.set_cons_succ]), hb, cd0, (fun _ => rfl), (fun _ => rfl), cd3, cd4, cd5, cd6, cd7, cd8, cd9, cd10, cd11, cd12, f_y, f_ys⟩
            · rintro L a w ⟨b0, b1, b2, b3, b4, b5, b6, b7, b8, b9, b10, b11, b12, x85, x86, x87, x88, x89, x90, x91, x92, x93, x94, x95, x96, x97, rfl, rfl, hb, cd0, cd1, cd2, cd3, cd4, cd5, cd6, cd7, cd8, cd9, cd10, cd11, cd12, f_y, f_ys⟩ hf hd
              have hf' : b3 = false := hf
              subst hf'
              clear hf hd
              try simp only [List.setIfInBounds_toArray, List.set_cons_zero, List.set_cons_succ]
              intro K hK
              rw [if_pos (by rfl)]
              go_simp
              exact hK.out _ _ ⟨b0, b1, b2, true, b4, b5, b6, b7, b8, b9, b10, b11, b12, x85, x86, x87, (.int .i64 (j : Nat)), x89, x90, x91, x92, x93, x94, x95, x96, x97, (by simp only [Act.put, List.setIfInBounds_toArray, List.set_cons_zero, List.set_cons_succ]), (by simp only [Act.put, List.setIfInBounds_toArray, List.set_cons_zero, List.set_cons_succ]), hb, cd0, cd1, cd2, (fun _ => rfl), cd4, cd5, cd6, cd7, cd8, cd9, cd10, cd11, cd12, f_y, f_ys⟩
            · rintro L a w ⟨b0, b1, b2, b3, b4, b5, b6, b7, b8, b9, b10, b11, b12, x85, x86, x87, x88, x89, x90, x91, x92, x93, x94, x95, x96, x97, rfl, rfl, hb, cd0, cd1, cd2, cd3, cd4, cd5, cd6, cd7, cd8, cd9, cd10, cd11, cd12, f_y, f_ys⟩ hf hd
              have hf' : b4 = false := hf
              subst hf'
              clear hf hd
              try simp only [List.setIfInBounds_toArray, List.set_cons_zero, List.set_cons_succ]
              intro K hK
              rw [if_pos (by rfl)]
              go_simp
              exact hK.out _ _ ⟨b0, b1, b2, b3, true, b5, b6, b7, b8, b9, b10, b11, b12, x85, x86, x87, x88, (.int .i64 by'), x90, x91, x92, x93, x94, x95, x96, x97, (by simp only [Act.put, List.setIfInBounds_toArray, List.set_cons_zero, List.set_cons_succ]), (by simp only [Act.put, List.setIfInBounds_toArray, List.set_cons_zero, List.set_cons_succ]), hb, cd0, cd1, cd2, cd3, (fun _ => rfl), cd5, cd6, cd7, cd8, cd9, cd10, cd11, cd12, f_y, f_ys⟩
            · rintro L a w ⟨b0, b1, b2, b3, b4, b5, b6, b7, b8, b9, b10, b11, b12, x85, x86, x87, x88, x89, x90, x91, x92, x93, x94, x95, x96, x97, rfl, rfl, hb, cd0, cd1, cd2, cd3, cd4, cd5, cd6, cd7, cd8, cd9, cd10, cd11, cd12, f_y, f_ys⟩ hf hd
              have hf' : b5 = false := hf
              subst hf'
              clear hf hd
              try simp only [List.setIfInBounds_toArray, List.set_cons_zero, List.set_cons_succ]
              intro K hK
              rw [if_pos (by rfl)]
              go_simp
              exact hK.out _ _ ⟨b0, b1, b2, b3, b4, true, b6, b7, b8, b9, b10, b11, b12, x85, x86, x87, x88, x89, (.int .i64 (rn : Nat)), x91, x92, x93, x94, x95, x96, x97, (by simp only [Act.put, List.setIfInBounds_toArray, List.set_cons_zero, List.set_cons_succ]), (by simp only [Act.put, List.setIfInBounds_toArray, List.set_cons_zero, List.set_cons_succ]), hb, cd0, cd1, cd2, cd3, cd4, (fun _ => rfl), cd6, cd7, cd8, cd9, cd10, cd11, cd12, f_y, f_ys⟩
            · rintro L a w ⟨b0, b1, b2, b3, b4, b5, b6, b7, b8, b9, b10, b11, b12, x85, x86, x87, x88, x89, x90, x91, x92, x93, x94, x95, x96, x97, rfl, rfl, hb, cd0, cd1, cd2, cd3, cd4, cd5, cd6, cd7, cd8, cd9, cd10, cd11, cd12, f_y, f_ys⟩ hf hd
              have hf' : b6 = false := hf
              subst hf'
              have d4 : b4 = true := hd ⟨4, .data⟩ (by simp) rfl
              subst d4
              have d5 : b5 = true := hd ⟨5, .data⟩ (by simp) rfl
              subst d5
              obtain rfl := cd4.out rfl
              obtain rfl := cd5.out rfl
              clear hf hd
              try simp only [List.setIfInBounds_toArray, List.set_cons_zero, List.set_cons_succ]
              intro K hK
              rw [if_pos (by rfl)]
              go_simp
              go_at_call 16
              refine (HWi2 _).mono ?_
              rintro e w' ⟨rfl, rfl⟩
              exact hK.out _ _ ⟨b0, b1, b2, b3, true, true, true, b7, b8, b9, b10, b11, b12, x85, x86, x87, x88, .int .i64 by', .int .i64 (rn : Nat), (.int .i64 (bm : Nat)), x92, x93, x94, x95, x96, x97, (by simp only [Act.put, List.setIfInBounds_toArray, List.set_cons_zero, List.set_cons_succ]), (by simp only [Act.put, List.setIfInBounds_toArray, List.set_cons_zero, List.set_cons_succ]), hb, cd0, cd1, cd2, cd3, (fun _ => rfl), (fun _ => rfl), (fun _ => rfl), cd7, cd8, cd9, cd10, cd11, cd12, f_y, f_ys⟩
            · rintro L a w ⟨b0, b1, b2, b3, b4, b5, b6, b7, b8, b9, b10, b11, b12, x85, x86, x87, x88, x89, x90, x91, x92, x93, x94, x95, x96, x97, rfl, rfl, hb, cd0, cd1, cd2, cd3, cd4, cd5, cd6, cd7, cd8, cd9, cd10, cd11, cd12, f_y, f_ys⟩ hf hd
              have hf' : b7 = false := hf
              subst hf'
              have d3 : b3 = true := hd ⟨3, .data⟩ (by simp) rfl
              subst d3
              have d6 : b6 = true := hd ⟨6, .data⟩ (by simp) rfl
              subst d6
              obtain rfl := cd3.out rfl
              obtain rfl := cd6.out rfl
              clear hf hd
              try simp only [List.setIfInBounds_toArray, List.set_cons_zero, List.set_cons_succ]
              intro K hK
              rw [if_pos (by rfl)]
              go_simp
              rw [HADD.out]
              exact hK.out _ _ ⟨b0, b1, b2, true, b4, b5, true, true, b8, b9, b10, b11, b12, x85, x86, x87, .int .i64 (j : Nat), x89, x90, .int .i64 (bm : Nat), (.int .i64 (sm : Nat)), x93, x94, x95, x96, x97, (by simp only [Act.put, List.setIfInBounds_toArray, List.set_cons_zero, List.set_cons_succ]), (by simp only [Act.put, List.setIfInBounds_toArray, List.set_cons_zero, List.set_cons_succ]), hb, cd0, cd1, cd2, (fun _ => rfl), cd4, cd5, (fun _ => rfl), (fun _ => rfl), cd8, cd9, cd10, cd11, cd12, f_y, f_ys⟩
            · rintro L a w ⟨b0, b1, b2, b3, b4, b5, b6, b7, b8, b9, b10, b11, b12, x85, x86, x87, x88, x89, x90, x91, x92, x93, x94, x95, x96, x97, rfl, rfl, hb, cd0, cd1, cd2, cd3, cd4, cd5, cd6, cd7, cd8, cd9, cd10, cd11, cd12, f_y, f_ys⟩ hf hd
              have hf' : b8 = false := hf
              subst hf'
              clear hf hd
              try simp only [List.setIfInBounds_toArray, List.set_cons_zero, List.set_cons_succ]
              intro K hK
              rw [if_pos (by rfl)]
              go_simp
              exact hK.out _ _ ⟨b0, b1, b2, b3, b4, b5, b6, b7, true, b9, b10, b11, b12, x85, x86, x87, x88, x89, x90, x91, x92, (.int .i64 (rn : Nat)), x94, x95, x96, x97, (by simp only [Act.put, List.setIfInBounds_toArray, List.set_cons_zero, List.set_cons_succ]), (by simp only [Act.put, List.setIfInBounds_toArray, List.set_cons_zero, List.set_cons_succ]), hb, cd0, cd1, cd2, cd3, cd4, cd5, cd6, cd7, (fun _ => rfl), cd9, cd10, cd11, cd12, f_y, f_ys⟩
            · rintro L a w ⟨b0, b1, b2, b3, b4, b5, b6, b7, b8, b9, b10, b11, b12, x85, x86, x87, x88, x89, x90, x91, x92, x93, x94, x95, x96, x97, rfl, rfl, hb, cd0, cd1, cd2, cd3, cd4, cd5, cd6, cd7, cd8, cd9, cd10, cd11, cd12, f_y, f_ys⟩ hf hd
              have hf' : b9 = false := hf
              subst hf'
              have d7 : b7 = true := hd ⟨7, .data⟩ (by simp) rfl
              subst d7
              have d8 : b8 = true := hd ⟨8, .data⟩ (by simp) rfl
              subst d8
              obtain rfl := cd7.out rfl
              obtain rfl := cd8.out rfl
              clear hf hd
              try simp only [List.setIfInBounds_toArray, List.set_cons_zero, List.set_cons_succ]
              intro K hK
              rw [if_pos (by rfl)]
              go_simp
              rw [HREM.out]
              exact hK.out _ _ ⟨b0, b1, b2, b3, b4, b5, b6, true, true, true, b10, b11, b12, x85, x86, x87, x88, x89, x90, x91, .int .i64 (sm : Nat), .int .i64 (rn : Nat), (.int .i64 (p : Nat)), x95, x96, x97, (by simp only [Act.put, List.setIfInBounds_toArray, List.set_cons_zero, List.set_cons_succ]), (by simp only [Act.put, List.setIfInBounds_toArray, List.set_cons_zero, List.set_cons_succ]), hb, cd0, cd1, cd2, cd3, cd4, cd5, cd6, (fun _ => rfl), (fun _ => rfl), (fun _ => rfl), cd10, cd11, cd12, f_y, f_ys⟩
            · rintro L a w ⟨b0, b1, b2, b3, b4, b5, b6, b7, b8, b9, b10, b11, b12, x85, x86, x87, x88, x89, x90, x91, x92, x93, x94, x95, x96, x97, rfl, rfl, hb, cd0, cd1, cd2, cd3, cd4, cd5, cd6, cd7, cd8, cd9, cd10, cd11, cd12, f_y, f_ys⟩ hf hd
              have hf' : b10 = false := hf
              subst hf'
              have d2 : b2 = true := hd ⟨2, .data⟩ (by simp) rfl
              subst d2
              have d9 : b9 = true := hd ⟨9, .data⟩ (by simp) rfl
              subst d9
              obtain rfl := cd2.out rfl
              obtain rfl := cd9.out rfl
              clear hf hd
              try simp only [List.setIfInBounds_toArray, List.set_cons_zero, List.set_cons_succ]
              intro K hK
              rw [if_pos (by rfl)]
              go_simp
              exact hK.out _ _ ⟨b0, b1, true, b3, b4, b5, b6, b7, b8, true, true, b11, b12, x85, x86, .slice (some ⟨b, off, none⟩) rn rc, x88, x89, x90, x91, x92, x93, .int .i64 (p : Nat), (.pointer (some ⟨b, off + p, none⟩)), x96, x97, (by simp only [Act.put, List.setIfInBounds_toArray, List.set_cons_zero, List.set_cons_succ]), (by simp only [Act.put, List.setIfInBounds_toArray, List.set_cons_zero, List.set_cons_succ]), hb, cd0, cd1, (fun _ => rfl), cd3, cd4, cd5, cd6, cd7, cd8, (fun _ => rfl), (fun _ => rfl), cd11, cd12, f_y, f_ys⟩
            · rintro L a w ⟨b0, b1, b2, b3, b4, b5, b6, b7, b8, b9, b10, b11, b12, x85, x86, x87, x88, x89, x90, x91, x92, x93, x94, x95, x96, x97, rfl, rfl, hb, cd0, cd1, cd2, cd3, cd4, cd5, cd6, cd7, cd8, cd9, cd10, cd11, cd12, f_y, f_ys⟩ hf hd
              have hf' : b11 = false := hf
              subst hf'
              have d10 : b10 = true := hd ⟨10, .data⟩ (by simp) rfl
              subst d10
              obtain rfl := cd10.out rfl
              clear hf hd
              try simp only [List.setIfInBounds_toArray, List.set_cons_zero, List.set_cons_succ]
              have z0 := (hb.cell hbB).trans dl
              intro K hK
              rw [if_pos (by rfl)]
              go_simp
              exact hK.out _ _ ⟨b0, b1, b2, b3, b4, b5, b6, b7, b8, b9, true, true, b12, x85, x86, x87, x88, x89, x90, x91, x92, x93, x94, .pointer (some ⟨b, off + p, none⟩), (.slice za zn zc), x97, (by simp only [Act.put, List.setIfInBounds_toArray, List.set_cons_zero, List.set_cons_succ]), (by simp only [Act.put, List.setIfInBounds_toArray, List.set_cons_zero, List.set_cons_succ]), hb, cd0, cd1, cd2, cd3, cd4, cd5, cd6, cd7, cd8, cd9, (fun _ => rfl), (fun _ => rfl), cd12, f_y, f_ys⟩
            · rintro L a w ⟨b0, b1, b2, b3, b4, b5, b6, b7, b8, b9, b10, b11, b12, x85, x86, x87, x88, x89, x90, x91, x92, x93, x94, x95, x96, x97, rfl, rfl, hb, cd0, cd1, cd2, cd3, cd4, cd5, cd6, cd7, cd8, cd9, cd10, cd11, cd12, f_y, f_ys⟩ hf hd
              have hf' : b12 = false := hf
              subst hf'
              have d0 : b0 = true := hd ⟨0, .data⟩ (by simp) rfl
              subst d0
              have d11 : b11 = true := hd ⟨11, .data⟩ (by simp) rfl
              subst d11
              have d6 : b6 = true := hd ⟨6, .chain⟩ (by simp) rfl
              subst d6
              obtain rfl := cd0.out rfl
              obtain rfl := cd11.out rfl
              obtain rfl := cd6.out rfl
              clear hf hd
              have W_y := f_y.out rfl
              try simp only [List.setIfInBounds_toArray, List.set_cons_zero, List.set_cons_succ]
              intro K hK
              rw [if_pos (by rfl)]
              go_simp
              go_at_call 24
              refine (HDr _ hb W_y).mono ?_
              rintro e w' ⟨rfl, hY3, g3⟩
              have hb2 := hb.grown g3 (Nat.le_trans hB0 hb.size) (fun z hz => by cases hz; exact hyl)
              exact hK.out _ _ ⟨true, b1, b2, b3, b4, b5, true, b7, b8, b9, b10, true, true, .pointer (some ⟨y, 0, none⟩), x86, x87, x88, x89, x90, .int .i64 (bm : Nat), x92, x93, x94, x95, .slice za zn zc, (.tuple #[]), (by simp only [Act.put, List.setIfInBounds_toArray, List.set_cons_zero, List.set_cons_succ]), (by simp only [Act.put, List.setIfInBounds_toArray, List.set_cons_zero, List.set_cons_succ]), hb2, (fun _ => rfl), cd1, cd2, cd3, cd4, cd5, (fun _ => rfl), cd7, cd8, cd9, cd10, (fun _ => rfl), (fun _ => rfl), (fun h => by cases h), (fun _ => hY3)⟩
          · rintro act V ⟨b0, b1, b2, b3, b4, b5, b6, b7, b8, b9, b10, b11, b12, x85, x86, x87, x88, x89, x90, x91, x92, x93, x94, x95, x96, x97, hL, rfl, hb, cd0, cd1, cd2, cd3, cd4, cd5, cd6, cd7, cd8, cd9, cd10, cd11, cd12, f_y, f_ys⟩
            have hL' : [true, true, true, true, true, true, true, true, true, true, true, true, true] = [b0, b1, b2, b3, b4, b5, b6, b7, b8, b9, b10, b11, b12] := congrArg Array.toList hL
            simp only [List.cons.injEq, and_true] at hL'
            obtain ⟨rfl, rfl, rfl, rfl, rfl, rfl, rfl, rfl, rfl, rfl, rfl, rfl, rfl⟩ := hL'
            obtain rfl := cd0.out rfl
            obtain rfl := cd1.out rfl
            obtain rfl := cd2.out rfl
            obtain rfl := cd3.out rfl
            obtain rfl := cd4.out rfl
            obtain rfl := cd5.out rfl
            obtain rfl := cd6.out rfl
            obtain rfl := cd7.out rfl
            obtain rfl := cd8.out rfl
            obtain rfl := cd9.out rfl
            obtain rfl := cd10.out rfl
            obtain rfl := cd11.out rfl
            obtain rfl := cd12.out rfl
            have W_ys := f_ys.out rfl
            clear hL f_y f_ys cd0 cd1 cd2 cd3 cd4 cd5 cd6 cd7 cd8 cd9 cd10 cd11 cd12
            simp only [List.setIfInBounds_toArray, List.set_cons_zero, List.set_cons_succ]
            have bV := hB.trans ((Below.refl _ _).drew.trans hb)
            clear hb
            go_wp2_with fail
            go_roundw
            case rel => exact ⟨j + 1, es2, _, by omega, by go_num, bV, Nat.le_refl _, W_ys, HNX.out⟩
            case measure => simp [intOf]; omega
        · have hlti : ¬ ((j : Int) < (rn : Int)) := by omega
          obtain rfl := hA.done (by omega)
          have HLy := len_any wr _ _ y C KI [] hY
          have e0 : fromE V0 9 [] = [] := rfl
          have HFy0 := from_any wr _ _ y C KI [] hY hle2 (by decide) V0 Vok.none 9
          rw [e0] at HFy0
          have HFy1 : Calls Try.prog 33 #[.pointer (some ⟨y, 0, none⟩), .agg #[.int .i64 0, .int .i64 0, .string ⟨#[]⟩], .int .i64 9] wr fun e w' => ∃ ao c, e = .returned (.slice ao 0 c) ∧ Below wr.heap.size wr w' := HFy0.mono fun e w' ⟨ao, c, h1, h2, h3⟩ => ⟨ao, c, h1, h3⟩
          clear HFy0
          go_wp2_with (first
            | (go_at_call 29; refine HLy.mono ?_; rintro e w3 ⟨rfl, rfl⟩)
            | (go_at_call 33; refine HFy1.mono ?_; rintro e w4 ⟨a4, c4, rfl, b4⟩))
          go_ret
          exact ⟨rfl, by rw [HP.out]; exact (BY.trans (hB.mono hpY)).trans (b4.mono (Nat.le_trans hpY hB.size))⟩
end Go.Proofs.Ytjacaammlkjodaa
