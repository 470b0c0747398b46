/-
  TableRefuses, walked (by gen_trefuses.py).
-/
import Derived.Test.YtppgafnepnkabaaTakeU
import Derived.Test.YtppgafnepnkabaaTabE
import Derived.Test.YtppgafnepnkabaaOwnV
namespace Go.Proofs.Ytppgafnepnkabaa
open Go.RowKit
set_option linter.unusedSimpArgs false
theorem put_nil (F : List Co) (hk : ∀ x ∈ F, x.kind = 1 ∨ x.kind = 2 ∨ x.kind = 3) (K : Nat) (n : Int) : putE F K (fitRow F n) [] = 0 ∧ putR F K (fitRow F n) [] = [fitRow F n] := by
  rcases put_fit F hk K n [] (by decide) with ⟨h1, -, h3⟩ | ⟨-, h2, -⟩
  · exact ⟨h1, h3⟩
  · cases h2
theorem put_again (F : List Co) (hk : ∀ x ∈ F, x.kind = 1 ∨ x.kind = 2 ∨ x.kind = 3) (K : Nat) (n : Int) : putE F K (fitRow F n) [fitRow F n] = 7 := by
  have hS : Srt K [fitRow F n] := List.pairwise_singleton _ _
  have hh : hasN K (kOf K (fitRow F n)) [fitRow F n] = true := (has_iff hS).2 ⟨_, List.mem_singleton.2 rfl, rfl⟩
  rw [putE_fit F hk K n _ (by simp : [fitRow F n].length < 200), if_pos hh]
theorem fitsE_more (F : List Co) (n : Int) (v : V) : fitsE F (fitRow F n ++ [v]) = 1 := by
  unfold fitsE
  rw [if_neg (by rw [List.length_append, fitRow_len]; simp)]
theorem fitsL_at : ∀ (cs : List Co) (r : List V) (K : Nat) (c : Co) (v : V) (E : Int), cs.length = r.length → (∀ (i : Nat) (c : Co) (v : V), i ≠ K → cs[i]? = some c → r[i]? = some v → fitE c v = 0) → cs[K]? = some c → r[K]? = some v → fitE c v = E → E ≠ 0 → fitsL cs r = E
  | [], r, K, c, v, E, _, _, hc, _, _, _ => by simp at hc
  | x :: cs, [], K, c, v, E, h, _, _, _, _, _ => by simp at h
  | x :: cs, y :: r, 0, c, v, E, _, _, hc, hv, he, h0 => by
    obtain rfl : x = c := by simpa using hc
    obtain rfl : y = v := by simpa using hv
    unfold fitsL
    rw [if_neg (by rw [he]; exact h0), he]
  | x :: cs, y :: r, K + 1, c, v, E, h, hf, hc, hv, he, h0 => by
    have h1 := hf 0 x y (by omega) rfl rfl
    unfold fitsL
    rw [if_pos h1]
    exact fitsL_at cs r K c v E (by simpa using h) (fun i c v hi h1 h2 => hf (i + 1) c v (by omega) (by simpa using h1) (by simpa using h2)) (by simpa using hc) (by simpa using hv) he h0
theorem fitsE_set (F : List Co) (hk : ∀ x ∈ F, x.kind = 1 ∨ x.kind = 2 ∨ x.kind = 3) (K : Nat) (n : Int) (c : Co) (hc : F[K]? = some c) (v : V) (E : Int) (he : fitE c v = E) (h0 : E ≠ 0) : fitsE F ((fitRow F n).set K v) = E := by
  have hK := (List.getElem?_eq_some_iff.1 hc).1
  unfold fitsE
  rw [if_pos (by rw [List.length_set, fitRow_len])]
  refine fitsL_at _ _ K c v E (by rw [List.length_set, fitRow_len]) (fun i c' v' hi h1 h2 => ?_) hc (by rw [List.getElem?_set_self (by rw [fitRow_len]; exact hK)]) he h0
  rw [List.getElem?_set_ne (fun e => hi e.symm), fitRow_get h1] at h2
  obtain rfl := Option.some.inj h2
  exact fit_ok n i c' (hk c' (List.mem_of_getElem? h1))
theorem putE_bad {F : List Co} {K : Nat} {r : List V} {rs : List (List V)} {E : Int} (h : fitsE F r = E) (h0 : E ≠ 0) : putE F K r rs = E := by
  unfold putE
  rw [if_neg (by rw [h]; exact h0), h]
theorem putR_bad {F : List Co} {K : Nat} {r : List V} {rs : List (List V)} {E : Int} (h : putE F K r rs = E) (h0 : E ≠ 0) : putR F K r rs = rs := by
  unfold putR
  rw [if_neg (by rw [h]; exact h0)]
theorem fitE_null (c : Co) (h : c.null = false) : fitE c V0 = 13 := by
  have h0 : chkV V0.k V0.n V0.s = 0 := val_chk Val.none
  unfold fitE
  rw [if_pos h0, if_pos (show V0.k = 0 from rfl), h]
  rfl
theorem fitE_nine (c : Co) : fitE c ⟨9, 0, ⟨#[]⟩⟩ = 3 := by
  unfold fitE
  rw [if_neg (by show ¬ chkV 9 0 _ = 0; unfold chkV; decide)]
  show chkV 9 0 _ = 3
  unfold chkV
  decide
theorem IsT.drew {w : World} {B : Nat} {co : Option Addr} {cn cc : Nat} {cs : List Co} {ro : Option Addr} {rn rc : Nat} {rs : List (List V)} (h : IsT w B co cn cc cs ro rn rc rs) : IsT w.drew B co cn cc cs ro rn rc rs := h.past (Below.refl _ _).drew
/-- What stands while the region's operations come up. -/
inductive TRef20 (B : Nat) (gs : Nat) (NM : List UInt8) (g : Nat) (N : Nat) (cg : Nat) (KI : Nat) (only : Bool) (gr : Nat) (rca : Nat) (k : Int) (m : Int) (s : ByteArray) (F : List Co) (a0 : Act) (w0 : World) (L : Array Bool) (a : Act) (w : World) : Prop
  | mk (b0 b1 b2 b3 b4 b5 b6 b7 b8 b9 b10 b11 b12 b13 b14 b15 : Bool) (x69 x70 x71 x72 x73 x74 x75 x76 x68 x77 x78 x79 x15 x16 x17 : Value) (co4 : Option Addr) (cc4 : Nat) (ro4 : Option Addr) (rn4 : Nat) (rc4 : Nat) (pa : Option Addr) (pn : Nat) (pc : Nat) (gu : Nat) (hL : L = #[b0, b1, b2, b3, b4, b5, b6, b7, b8, b9, b10, b11, b12, b13, b14, b15]) (ha : a = ⟨(((((((((((((((a0.tmps.setIfInBounds 69 x69).setIfInBounds 70 x70).setIfInBounds 71 x71).setIfInBounds 72 x72).setIfInBounds 73 x73).setIfInBounds 74 x74).setIfInBounds 75 x75).setIfInBounds 76 x76).setIfInBounds 68 x68).setIfInBounds 77 x77).setIfInBounds 78 x78).setIfInBounds 79 x79).setIfInBounds 15 x15).setIfInBounds 16 x16).setIfInBounds 17 x17), a0.defers⟩) (hb : Below B w0 w) (cd0 : Hid (b0 = true → x69 = .agg #[.string (bsOf NM), .slice (some ⟨g, 0, none⟩) N cg, .int .i64 (KI : Nat), .bool only])) (cd1 : Hid (b1 = true → x70 = .agg #[.string (bsOf NM), .slice (some ⟨g, 0, none⟩) N cg, .int .i64 (KI : Nat), .bool only, .slice none 0 0])) (cd2 : Hid (b2 = true → x71 = .slice (some ⟨gr, 0, none⟩) N rca)) (cd3 : Hid (b3 = true → x72 = .pointer (some ⟨gs, 2, none⟩))) (cd4 : Hid (b4 = true → x73 = .int .i64 (KI : Nat))) (cd5 : Hid (b5 = true → x74 = .pointer (some ⟨gr, KI * 3, none⟩))) (cd6 : Hid (b6 = true → x75 = .agg #[.int .i64 k, .int .i64 m, .string s])) (cd7 : Hid (b7 = true → x76 = .tuple #[.agg #[.string (bsOf NM), .slice co4 N cc4, .int .i64 (KI : Nat), .bool only, .slice ro4 rn4 rc4], .slice pa pn pc, .int .i64 2])) (cd8 : Hid (b8 = true → x68 = .tuple #[.agg #[.string (bsOf NM), .slice co4 N cc4, .int .i64 (KI : Nat), .bool only, .slice ro4 rn4 rc4], .slice pa pn pc, .int .i64 2])) (cd9 : Hid (b9 = true → x77 = .agg #[.string (bsOf NM), .slice co4 N cc4, .int .i64 (KI : Nat), .bool only, .slice ro4 rn4 rc4])) (cd10 : Hid (b10 = true → x78 = .slice pa pn pc)) (cd11 : Hid (b11 = true → x79 = .int .i64 2)) (cd12 : Hid (b12 = true → x15 = .pointer (some ⟨gu, 0, none⟩))) (cd14 : Hid (b14 = true → x16 = .slice pa pn pc)) (cd15 : Hid (b15 = true → x17 = .int .i64 2)) (f_tt : Hid (b7 = true → IsT w w0.heap.size co4 N cc4 F ro4 rn4 rc4 [])) (f_st : Hid (b7 = true → b13 = false → (b12 = true → ∀ w'', w.grownBy w'' (some gu) → IsT w'' w0.heap.size co4 N cc4 F ro4 rn4 rc4 []))) (f_lt : Hid (b12 = true → gu < w.heap.size)) (f_z : Hid (b12 = true → b13 = false → Bk w gu (tbC [] none 0 0 0 false none 0 0) 47)) (f_lg : Hid (b12 = true → w0.heap.size ≤ gu)) (f_s : Hid (b13 = true → Bk w gu (tbC NM co4 N cc4 (KI : Nat) only ro4 rn4 rc4) 47)) (f_o13 : Hid (b13 = true → b7 = true)) (f_o13b : Hid (b13 = true → b12 = true)) (w_8_7 : Hid (b8 = true → b7 = true)) (w_9_7 : Hid (b9 = true → b7 = true)) (w_10_7 : Hid (b10 = true → b7 = true)) (w_14_7 : Hid (b14 = true → b7 = true)) : TRef20 B gs NM g N cg KI only gr rca k m s F a0 w0 L a w
set_option maxRecDepth 100000 in
set_option maxHeartbeats 8000000 in
theorem tableRefuses_walk (l : List UInt8) (ao : Option Addr) (n c : Nat) (key : Int) (only : Bool) (cs : List Co) (nn wh : Int) (w : World) (_hl : l.length ≤ maxLen) (_hkey : (Lit.int .i64 key).wf = true) (h : IsR encCo w ao n c cs) (_hcs : ∀ x ∈ cs, (Lit.int .i64 x.kind).wf = true ∧ x.name.length ≤ maxLen) (hnw : (Lit.int .i64 nn).wf = true) (_ : (Lit.int .i64 wh).wf = true) :
    Calls Try.prog 10 #[scV l ao n c key only, .int .i64 nn, .int .i64 wh] w (Told w true) := by
  unfold scV
  have X0 := ScB.new w l ao n c key only
  have B0 := (Below.refl w.heap.size w).alloc (Nat.le_refl _) (.cells #[.string (bsOf l), .slice ao n c, .int .i64 key, .bool only] 40)
  go_enter Try.func10, Try.ntmps10
  go_upto_region 1 with fail
  generalize w.alloc (.cells #[.string (bsOf l), .slice ao n c, .int .i64 key, .bool only] 40) = W0 at X0 B0 ⊢
  obtain ⟨p0, hp0⟩ : ∃ p0, w.heap.size = p0 := ⟨_, rfl⟩
  have HP := Lib.hid hp0
  rw [hp0] at X0 B0
  simp only [hp0]
  clear hp0
  have hW0 : p0 ≤ W0.heap.size := Nat.le_of_lt X0.lt
  go_upto_region 3 with (go_at_call 18; refine (known10 _).mono ?_; rintro e w1 ⟨rfl, b1⟩)
  have X1 := X0.past b1
  have B1 := B0.trans (b1.mono hW0)
  have hW1 := Nat.le_trans hW0 b1.size
  have h1 : IsR encCo w1 ao n c cs := h.past (by rw [HP.out]; exact B1)
  have HFw := few9_any w1 l ao n c cs key only h1
  unfold scV at HFw
  have y0 : w1.cell? ⟨p0, 0, none⟩ = some (.string (bsOf l)) := cell_blk X1 rfl
  have y1 : w1.cell? ⟨p0, 1, none⟩ = some (.slice ao n c) := cell_blk X1 rfl
  have y2 : w1.cell? ⟨p0, 2, none⟩ = some (.int .i64 key) := cell_blk X1 rfl
  have y3 : w1.cell? ⟨p0, 3, none⟩ = some (.bool only) := cell_blk X1 rfl
  cases hfw : fewS l cs
  · rw [hfw] at HFw
    go_wp2_with (go_at_call 19; refine HFw.mono ?_; rintro e w2 ⟨rfl, b2⟩)
    go_ret
    exact ⟨rfl, by rw [HP.out]; exact B1.trans (b2.mono hW1)⟩
  rw [hfw] at HFw
  have hn9 : n ≤ 9 := by
    unfold fewS at hfw
    simp only [Bool.and_eq_true, decide_eq_true_eq] at hfw
    have := h.len
    omega
  clear hfw
  go_upto_region 5 with (go_at_call 19; refine HFw.mono ?_; rintro e w2 ⟨rfl, b2⟩)
  have X2 := X1.past b2
  have B2 := B1.trans (b2.mono hW1)
  have hW2 := Nat.le_trans hW1 b2.size
  have h2 := h1.past b2
  clear y0 y1 y2 y3 HFw
  have y0 : w2.cell? ⟨p0, 0, none⟩ = some (.string (bsOf l)) := cell_blk X2 rfl
  have y1 : w2.cell? ⟨p0, 1, none⟩ = some (.slice ao n c) := cell_blk X2 rfl
  have y2 : w2.cell? ⟨p0, 2, none⟩ = some (.int .i64 key) := cell_blk X2 rfl
  have y3 : w2.cell? ⟨p0, 3, none⟩ = some (.bool only) := cell_blk X2 rfl
  have HG := good9_any w2 l ao n c cs key 3 only h2 (by omega)
  unfold GoodIs scV at HG
  have hNp := gN_pos cs
  have hKl := (gKey_lt cs key).1
  have hFl := gFin_len cs key
  have hFk := gFin_kinds cs key
  have hFn := gFin_keyN cs key
  obtain ⟨N, hN⟩ : ∃ N, gN cs = N := ⟨_, rfl⟩
  obtain ⟨KI, hKI⟩ : ∃ KI, gKey cs key = KI := ⟨_, rfl⟩
  obtain ⟨F, hF⟩ : ∃ F, gFin cs key = F := ⟨_, rfl⟩
  obtain ⟨NM, hNM⟩ : ∃ NM, gNm 3 = NM := ⟨_, rfl⟩
  simp only [hN, hKI, hF, hNM] at HG hNp hKl hFl hFk hFn
  clear hN hKI hF hNM
  go_upto_region 6 with (go_at_call 21; refine HG.mono ?_; rintro e w3 ⟨g, cg, rfl, og, b3, q3⟩)
  have hW3 := Nat.le_trans hW2 b3.size
  have B3 : Below p0 w (w3.alloc (.cells #[.string (bsOf NM), .slice (some ⟨g, 0, none⟩) N cg, .int .i64 (KI : Nat), .bool only] 40)) := (B2.trans (b3.mono hW2)).alloc hW3 _
  have XS : Bk (w3.alloc (.cells #[.string (bsOf NM), .slice (some ⟨g, 0, none⟩) N cg, .int .i64 (KI : Nat), .bool only] 40)) w3.heap.size (scC NM (some ⟨g, 0, none⟩) N cg (KI : Nat) only) 40 := Bk.new w3 _ _
  have oG := og.alloc (.cells #[.string (bsOf NM), .slice (some ⟨g, 0, none⟩) N cg, .int .i64 (KI : Nat), .bool only] 40)
  have hgl := og.lt
  have hg0 : p0 ≤ g := Nat.le_trans hW2 q3
  generalize w3.alloc (.cells #[.string (bsOf NM), .slice (some ⟨g, 0, none⟩) N cg, .int .i64 (KI : Nat), .bool only] 40) = W at B3 XS oG ⊢
  obtain ⟨gs, hgs⟩ : ∃ gs, w3.heap.size = gs := ⟨_, rfl⟩
  rw [hgs] at XS hgl hW3
  simp only [hgs]
  obtain ⟨z0, z1, z2, z3⟩ := sc_cells XS
  have hgsW : gs < W.heap.size := XS.lt
  have iG := oG.isR
  clear hgs og b3 q3 HG y0 y1 y2 y3 X2 X1 X0 B2 B1 B0 b1 b2 h2 h1 hW2 hW1 hW0
  have hpW : p0 ≤ W.heap.size := by omega
  have HFit := fit_any W NM (some ⟨g, 0, none⟩) N cg F (KI : Nat) only iG (by omega) hFk nn hnw
  unfold scV at HFit
  go_upto_region 7 with (go_at_call 22; refine HFit.mono ?_; rintro e w5 ⟨ra, rca, rfl, oT, b5⟩)
  obtain ⟨gr, rfl, oR, hgr⟩ := oT.own (by omega)
  have XS5 := XS.past b5
  have iG5 := iG.past b5
  have B5 := B3.trans (b5.mono hpW)
  have hp5 := Nat.le_trans hpW b5.size
  clear z0 z1 z2 z3
  obtain ⟨z0, z1, z2, z3⟩ := sc_cells XS5
  have HPt := put_any w5 NM (some ⟨g, 0, none⟩) N cg KI only none 0 0 F (by omega) (by omega) 0 [] ⟨iG5, IsRR.nil _ 0, fun _ _ => Nat.zero_le _⟩ (some ⟨gr, 0, none⟩) N rca _ oR.isR (Srt.nil KI) (by omega) (fun y hy => by cases hy) (by omega)
  rw [(put_nil F hFk KI nn).1, (put_nil F hFk KI nn).2] at HPt
  unfold tbV at HPt
  go_upto_region 8 with (go_at_call 24; refine HPt.mono ?_; rintro e w6 ⟨co1, cc1, ro1, rn1, rc1, rfl, i1, b6⟩; unfold tbV)
  obtain rfl : 1 = rn1 := i1.rows.len
  have bV6 : Below w5.heap.size w5 (w6.alloc (.cells #[.string (bsOf NM), .slice co1 N cc1, .int .i64 (KI : Nat), .bool only, .slice ro1 1 rc1] 47)) := b6.alloc b6.size _
  have hT0 : Bk (w6.alloc (.cells #[.string (bsOf NM), .slice co1 N cc1, .int .i64 (KI : Nat), .bool only, .slice ro1 1 rc1] 47)) w6.heap.size (tbC NM co1 N cc1 (KI : Nat) only ro1 1 rc1) 47 := Bk.new w6 _ _
  have iT0 := (i1.past ((Below.refl w6.heap.size w6).alloc (Nat.le_refl _) (.cells #[.string (bsOf NM), .slice co1 N cc1, .int .i64 (KI : Nat), .bool only, .slice ro1 1 rc1] 47))).mono (Nat.zero_le _)
  generalize w6.alloc (.cells #[.string (bsOf NM), .slice co1 N cc1, .int .i64 (KI : Nat), .bool only, .slice ro1 1 rc1] 47) = V0 at bV6 hT0 iT0 ⊢
  obtain ⟨gt, hgt⟩ : ∃ gt, w6.heap.size = gt := ⟨_, rfl⟩
  rw [hgt] at hT0
  simp only [hgt]
  have XS0 := XS5.past bV6
  have iG0 := iG5.past bV6
  have oR0 := oR.past bV6
  have BV0 := B5.trans (bV6.mono hp5)
  have hpV0 := Nat.le_trans hp5 bV6.size
  clear hgt b6 i1 HPt z0 z1 z2 z3 XS5 iG5 oR XS iG B3 oG B5 b5 bV6 HFit oT hgsW hpW hp5
  obtain ⟨z0, z1, z2, z3⟩ := sc_cells XS0
  obtain ⟨t0, t1, t2, t3, t4⟩ := tb_cells hT0
  obtain ⟨xk, hxk, hxn⟩ := hFn
  have hrow := fitRow_get (n := nn) hxk
  obtain ⟨vv0, hvv⟩ : ∃ v, fitVal nn KI xk = v := ⟨_, rfl⟩
  -- a copy of the row
  have o0 : OwnR EV (V0.alloc (.cells #[] 55)) 55 V0.heap.size 0 0 [] := own_emptyR V0 _
  have bE : Below V0.heap.size V0 (V0.alloc (.cells #[] 55)) := (Below.refl _ _).alloc (Nat.le_refl _) _
  have hs := (oR0.past bE).isR.src (P := Try.prog) Try.underlying49
  have hrl : (fitRow F nn).length = N := by rw [fitRow_len, hFl]
  go_upto_region 11 with (at_builtin; refine wpList_append_or rfl _ _ 49 49 rfl 55 rowTyV V0.heap.size 0 0 [] rfl o0 _ rfl N (fitRow F nn) hs hrl N (Nat.zero_add N) (fitRow F nn) rfl (by omega) ?_; intro gx cx V oX0 pX qX)
  have bV0 : Below V0.heap.size V0 V := bE.trans (pX.below (Nat.le_refl _) bE.size)
  have hgx : V0.heap.size ≤ gx := by
    rw [World.size_alloc] at qX
    omega
  have hxV : gx < V.heap.size := oX0.lt
  clear o0 bE hs pX qX t0 t1 t2 t3 t4 z0 z1 z2 z3
  obtain ⟨z0, z1, z2, z3⟩ := sc_cells (XS0.past bV0)
  obtain ⟨t0, t1, t2, t3, t4⟩ := tb_cells (hT0.past bV0)
  obtain ⟨wq, hwq, hwl⟩ := wth_of wh 4 (by omega)
  have HWq := fun w => within10_any wh 4 w (by omega) (by omega)
  rw [hwq] at HWq
  go_upto_region 13 with (go_at_call 23; refine (HWq _).mono ?_; rintro e w' ⟨rfl, rfl⟩)
  clear hwq HWq
  rcases (show wq = 0 ∨ wq = 1 ∨ wq = 2 ∨ wq = 3 by omega) with rfl | rfl | rfl | rfl
  · go_upto_region 19 with fail
    have oX := oX0
    have BVx := bV0
    obtain ⟨V1, hV1⟩ : ∃ V1, V = V1 := ⟨_, rfl⟩
    rw [hV1] at oX BVx ⊢
    clear hV1
    have XS1 := XS0.past BVx
    have iG1 := iG0.past BVx
    have hT1 := hT0.past BVx
    have iT1 := iT0.past BVx
    have oR1 := oR0.past BVx
    have BV1 := BV0.trans (BVx.mono hpV0)
    have hpV1 := Nat.le_trans hpV0 BVx.size
    clear t0 t1 t2 t3 t4 z0 z1 z2 z3
    obtain ⟨z0, z1, z2, z3⟩ := sc_cells XS1
    obtain ⟨t0, t1, t2, t3, t4⟩ := tb_cells hT1
    have hE2 : putE F KI (fitRow F nn) [fitRow F nn] = 7 := put_again F hFk KI nn
    have HPt2 := put_any V1 NM co1 N cc1 KI only ro1 1 rc1 F (by omega) (by omega) 0 [fitRow F nn] iT1 (some ⟨gx, 0, none⟩) N cx (fitRow F nn) oX.isR (List.pairwise_singleton _ _) (by omega) (fun y hy => by obtain rfl := List.mem_singleton.1 hy; rw [fitRow_len, hFl]; omega) (by omega)
    rw [hE2, putR_bad hE2 (by decide)] at HPt2
    unfold tbV at HPt2
    go_upto_region 20 with (go_at_call 24; refine HPt2.mono ?_; rintro e w7 ⟨co3, cc3, ro3, rn3, rc3, rfl, i2, b7⟩; unfold tbV)
    obtain rfl : 1 = rn3 := i2.rows.len
    have bV2 : Below V1.heap.size V1 (w7.alloc (.cells #[.string (bsOf NM), .slice co3 N cc3, .int .i64 (KI : Nat), .bool only, .slice ro3 1 rc3] 47)) := b7.alloc b7.size _
    have hU2 : Bk (w7.alloc (.cells #[.string (bsOf NM), .slice co3 N cc3, .int .i64 (KI : Nat), .bool only, .slice ro3 1 rc3] 47)) w7.heap.size (tbC NM co3 N cc3 (KI : Nat) only ro3 1 rc3) 47 := Bk.new w7 _ _
    have i3 := (i2.past ((Below.refl w7.heap.size w7).alloc (Nat.le_refl _) (.cells #[.string (bsOf NM), .slice co3 N cc3, .int .i64 (KI : Nat), .bool only, .slice ro3 1 rc3] 47))).mono (Nat.zero_le _)
    generalize w7.alloc (.cells #[.string (bsOf NM), .slice co3 N cc3, .int .i64 (KI : Nat), .bool only, .slice ro3 1 rc3] 47) = V2 at bV2 hU2 i3 ⊢
    obtain ⟨gU, hgU⟩ : ∃ gU, w7.heap.size = gU := ⟨_, rfl⟩
    rw [hgU] at hU2
    simp only [hgU]
    have XS2 := XS1.past bV2
    have iG2 := iG1.past bV2
    have hT2 := hT1.past bV2
    have iT2 := iT1.past bV2
    have oR2 := oR1.past bV2
    have BV2 := BV1.trans (bV2.mono hpV1)
    have hpV2 := Nat.le_trans hpV1 bV2.size
    clear hgU b7 i2 t0 t1 t2 t3 t4 z0 z1 z2 z3 HPt2
    obtain ⟨z0, z1, z2, z3⟩ := sc_cells XS2
    obtain ⟨v0, v1, v2⟩ := own_vcells oR2 KI _ hrow
    rw [hvv] at v0 v1 v2
    have HTk0 := fun (w' : World) (hb : Below V2.heap.size V2.drew w') => take_u w' NM (some ⟨g, 0, none⟩) N cg KI only none 0 0 F (by omega) (by omega) 0 [] ⟨iG2.drew.past hb, IsRR.nil _ 0, fun _ _ => Nat.zero_le _⟩ vv0 (Srt.nil KI) (by omega) (fun y hy => by cases hy)
    have eE : takeE KI vv0 [] = 2 := rfl
    have eR : takeR KI vv0 [] = [] := rfl
    simp only [eE, eR] at HTk0
    obtain ⟨k, m, s⟩ := vv0
    unfold tbV at HTk0
    simp only at v0 v1 v2 HTk0
    have HTk := HTk0
    have hgsB := XS2.lt
    have hgrB := oR2.lt
    have hB0 : V2.heap.size ≤ V2.heap.size := Nat.le_refl _
    clear HTk0 hvv eE eR
    refine region_inv (TRef20 V2.heap.size gs NM g N cg KI only gr rca k m s F) (by kernel_rfl) (by kernel_rfl) ?_ ?_ ?_
    · exact ⟨false, false, false, false, false, false, false, false, false, false, false, false, false, false, false, false, undef, undef, undef, undef, undef, undef, undef, undef, undef, undef, undef, undef, undef, undef, undef, none, 0, none, 0, 0, none, 0, 0, 0, rfl, (by simp only [Act.put, List.setIfInBounds_toArray, List.set_cons_zero, List.set_cons_succ]), Below.refl _ _, (fun h => by cases h), (fun h => by cases h), (fun h => by cases h), (fun h => by cases h), (fun h => by cases h), (fun h => by cases h), (fun h => by cases h), (fun h => by cases h), (fun h => by cases h), (fun h => by cases h), (fun h => by cases h), (fun h => by cases h), (fun h => by cases h), (fun h => by cases h), (fun h => by cases h), (fun h => by cases h), (fun h => by cases h), (fun h => by cases h), (fun h => by cases h), (fun h => by cases h), (fun h => by cases h), (fun h => by cases h), (fun h => by cases h), (fun h => by cases h), (fun h => by cases h), (fun h => by cases h), (fun h => by cases h)⟩
    · refine ⟨?_, ?_, ?_, ?_, ?_, ?_, ?_, ?_, ?_, ?_, ?_, ?_, ?_, ?_, ?_, ?_, trivial⟩
      · rintro L a w ⟨b0, b1, b2, b3, b4, b5, b6, b7, b8, b9, b10, b11, b12, b13, b14, b15, x69, x70, x71, x72, x73, x74, x75, x76, x68, x77, x78, x79, x15, x16, x17, co4, cc4, ro4, rn4, rc4, pa, pn, pc, gu, rfl, rfl, hb, cd0, cd1, cd2, cd3, cd4, cd5, cd6, cd7, cd8, cd9, cd10, cd11, cd12, cd14, cd15, f_tt, f_st, f_lt, f_z, f_lg, f_s, f_o13, f_o13b, w_8_7, w_9_7, w_10_7, w_14_7⟩ hf hd
        have hf' : b0 = false := hf
        subst hf'
        clear hf hd
        try simp only [List.setIfInBounds_toArray, List.set_cons_zero, List.set_cons_succ]
        have z0 := (hb.cell hgsB).trans z0
        have z1 := (hb.cell hgsB).trans z1
        have z2 := (hb.cell hgsB).trans z2
        have z3 := (hb.cell hgsB).trans z3
        intro K hK
        rw [if_pos (by rfl)]
        go_simp
        exact hK.out _ _ ⟨true, b1, b2, b3, b4, b5, b6, b7, b8, b9, b10, b11, b12, b13, b14, b15, (.agg #[.string (bsOf NM), .slice (some ⟨g, 0, none⟩) N cg, .int .i64 (KI : Nat), .bool only]), x70, x71, x72, x73, x74, x75, x76, x68, x77, x78, x79, x15, x16, x17, co4, cc4, ro4, rn4, rc4, pa, pn, pc, gu, (by simp only [Act.put, List.setIfInBounds_toArray, List.set_cons_zero, List.set_cons_succ]), (by simp only [Act.put, List.setIfInBounds_toArray, List.set_cons_zero, List.set_cons_succ]), hb, (fun _ => rfl), cd1, cd2, cd3, cd4, cd5, cd6, cd7, cd8, cd9, cd10, cd11, cd12, cd14, cd15, f_tt, f_st, f_lt, f_z, f_lg, f_s, f_o13, f_o13b, w_8_7, w_9_7, w_10_7, w_14_7⟩
      · rintro L a w ⟨b0, b1, b2, b3, b4, b5, b6, b7, b8, b9, b10, b11, b12, b13, b14, b15, x69, x70, x71, x72, x73, x74, x75, x76, x68, x77, x78, x79, x15, x16, x17, co4, cc4, ro4, rn4, rc4, pa, pn, pc, gu, rfl, rfl, hb, cd0, cd1, cd2, cd3, cd4, cd5, cd6, cd7, cd8, cd9, cd10, cd11, cd12, cd14, cd15, f_tt, f_st, f_lt, f_z, f_lg, f_s, f_o13, f_o13b, w_8_7, w_9_7, w_10_7, w_14_7⟩ hf hd
        have hf' : b1 = false := hf
        subst hf'
        have d0 : b0 = true := hd ⟨0, .data⟩ (by simp) rfl
        subst d0
        obtain rfl := cd0.out rfl
        clear hf hd
        try simp only [List.setIfInBounds_toArray, List.set_cons_zero, List.set_cons_succ]
        intro K hK
        rw [if_pos (by rfl)]
        go_simp
        exact hK.out _ _ ⟨true, true, b2, b3, b4, b5, b6, b7, b8, b9, b10, b11, b12, b13, b14, b15, .agg #[.string (bsOf NM), .slice (some ⟨g, 0, none⟩) N cg, .int .i64 (KI : Nat), .bool only], (.agg #[.string (bsOf NM), .slice (some ⟨g, 0, none⟩) N cg, .int .i64 (KI : Nat), .bool only, .slice none 0 0]), x71, x72, x73, x74, x75, x76, x68, x77, x78, x79, x15, x16, x17, co4, cc4, ro4, rn4, rc4, pa, pn, pc, gu, (by simp only [Act.put, List.setIfInBounds_toArray, List.set_cons_zero, List.set_cons_succ]), (by simp only [Act.put, List.setIfInBounds_toArray, List.set_cons_zero, List.set_cons_succ]), hb, (fun _ => rfl), (fun _ => rfl), cd2, cd3, cd4, cd5, cd6, cd7, cd8, cd9, cd10, cd11, cd12, cd14, cd15, f_tt, f_st, f_lt, f_z, f_lg, f_s, f_o13, f_o13b, w_8_7, w_9_7, w_10_7, w_14_7⟩
      · rintro L a w ⟨b0, b1, b2, b3, b4, b5, b6, b7, b8, b9, b10, b11, b12, b13, b14, b15, x69, x70, x71, x72, x73, x74, x75, x76, x68, x77, x78, x79, x15, x16, x17, co4, cc4, ro4, rn4, rc4, pa, pn, pc, gu, rfl, rfl, hb, cd0, cd1, cd2, cd3, cd4, cd5, cd6, cd7, cd8, cd9, cd10, cd11, cd12, cd14, cd15, f_tt, f_st, f_lt, f_z, f_lg, f_s, f_o13, f_o13b, w_8_7, w_9_7, w_10_7, w_14_7⟩ hf hd
        have hf' : b2 = false := hf
        subst hf'
        clear hf hd
        try simp only [List.setIfInBounds_toArray, List.set_cons_zero, List.set_cons_succ]
        intro K hK
        rw [if_pos (by rfl)]
        go_simp
        exact hK.out _ _ ⟨b0, b1, true, b3, b4, b5, b6, b7, b8, b9, b10, b11, b12, b13, b14, b15, x69, x70, (.slice (some ⟨gr, 0, none⟩) N rca), x72, x73, x74, x75, x76, x68, x77, x78, x79, x15, x16, x17, co4, cc4, ro4, rn4, rc4, pa, pn, pc, gu, (by simp only [Act.put, List.setIfInBounds_toArray, List.set_cons_zero, List.set_cons_succ]), (by simp only [Act.put, List.setIfInBounds_toArray, List.set_cons_zero, List.set_cons_succ]), hb, cd0, cd1, (fun _ => rfl), cd3, cd4, cd5, cd6, cd7, cd8, cd9, cd10, cd11, cd12, cd14, cd15, f_tt, f_st, f_lt, f_z, f_lg, f_s, f_o13, f_o13b, w_8_7, w_9_7, w_10_7, w_14_7⟩
      · rintro L a w ⟨b0, b1, b2, b3, b4, b5, b6, b7, b8, b9, b10, b11, b12, b13, b14, b15, x69, x70, x71, x72, x73, x74, x75, x76, x68, x77, x78, x79, x15, x16, x17, co4, cc4, ro4, rn4, rc4, pa, pn, pc, gu, rfl, rfl, hb, cd0, cd1, cd2, cd3, cd4, cd5, cd6, cd7, cd8, cd9, cd10, cd11, cd12, cd14, cd15, f_tt, f_st, f_lt, f_z, f_lg, f_s, f_o13, f_o13b, w_8_7, w_9_7, w_10_7, w_14_7⟩ hf hd
        have hf' : b3 = false := hf
        subst hf'
        clear hf hd
        try simp only [List.setIfInBounds_toArray, List.set_cons_zero, List.set_cons_succ]
        intro K hK
        rw [if_pos (by rfl)]
        go_simp
        exact hK.out _ _ ⟨b0, b1, b2, true, b4, b5, b6, b7, b8, b9, b10, b11, b12, b13, b14, b15, x69, x70, x71, (.pointer (some ⟨gs, 2, none⟩)), x73, x74, x75, x76, x68, x77, x78, x79, x15, x16, x17, co4, cc4, ro4, rn4, rc4, pa, pn, pc, gu, (by simp only [Act.put, List.setIfInBounds_toArray, List.set_cons_zero, List.set_cons_succ]), (by simp only [Act.put, List.setIfInBounds_toArray, List.set_cons_zero, List.set_cons_succ]), hb, cd0, cd1, cd2, (fun _ => rfl), cd4, cd5, cd6, cd7, cd8, cd9, cd10, cd11, cd12, cd14, cd15, f_tt, f_st, f_lt, f_z, f_lg, f_s, f_o13, f_o13b, w_8_7, w_9_7, w_10_7, w_14_7⟩
      · rintro L a w ⟨b0, b1, b2, b3, b4, b5, b6, b7, b8, b9, b10, b11, b12, b13, b14, b15, x69, x70, x71, x72, x73, x74, x75, x76, x68, x77, x78, x79, x15, x16, x17, co4, cc4, ro4, rn4, rc4, pa, pn, pc, gu, rfl, rfl, hb, cd0, cd1, cd2, cd3, cd4, cd5, cd6, cd7, cd8, cd9, cd10, cd11, cd12, cd14, cd15, f_tt, f_st, f_lt, f_z, f_lg, f_s, f_o13, f_o13b, w_8_7, w_9_7, w_10_7, w_14_7⟩ hf hd
        have hf' : b4 = false := hf
        subst hf'
        have d3 : b3 = true := hd ⟨3, .data⟩ (by simp) rfl
        subst d3
        obtain rfl := cd3.out rfl
        clear hf hd
        try simp only [List.setIfInBounds_toArray, List.set_cons_zero, List.set_cons_succ]
        have z0 := (hb.cell hgsB).trans z2
        intro K hK
        rw [if_pos (by rfl)]
        go_simp
        exact hK.out _ _ ⟨b0, b1, b2, true, true, b5, b6, b7, b8, b9, b10, b11, b12, b13, b14, b15, x69, x70, x71, .pointer (some ⟨gs, 2, none⟩), (.int .i64 (KI : Nat)), x74, x75, x76, x68, x77, x78, x79, x15, x16, x17, co4, cc4, ro4, rn4, rc4, pa, pn, pc, gu, (by simp only [Act.put, List.setIfInBounds_toArray, List.set_cons_zero, List.set_cons_succ]), (by simp only [Act.put, List.setIfInBounds_toArray, List.set_cons_zero, List.set_cons_succ]), hb, cd0, cd1, cd2, (fun _ => rfl), (fun _ => rfl), cd5, cd6, cd7, cd8, cd9, cd10, cd11, cd12, cd14, cd15, f_tt, f_st, f_lt, f_z, f_lg, f_s, f_o13, f_o13b, w_8_7, w_9_7, w_10_7, w_14_7⟩
      · rintro L a w ⟨b0, b1, b2, b3, b4, b5, b6, b7, b8, b9, b10, b11, b12, b13, b14, b15, x69, x70, x71, x72, x73, x74, x75, x76, x68, x77, x78, x79, x15, x16, x17, co4, cc4, ro4, rn4, rc4, pa, pn, pc, gu, rfl, rfl, hb, cd0, cd1, cd2, cd3, cd4, cd5, cd6, cd7, cd8, cd9, cd10, cd11, cd12, cd14, cd15, f_tt, f_st, f_lt, f_z, f_lg, f_s, f_o13, f_o13b, w_8_7, w_9_7, w_10_7, w_14_7⟩ hf hd
        have hf' : b5 = false := hf
        subst hf'
        have d2 : b2 = true := hd ⟨2, .data⟩ (by simp) rfl
        subst d2
        have d4 : b4 = true := hd ⟨4, .data⟩ (by simp) rfl
        subst d4
        obtain rfl := cd2.out rfl
        obtain rfl := cd4.out rfl
        clear hf hd
        try simp only [List.setIfInBounds_toArray, List.set_cons_zero, List.set_cons_succ]
        intro K hK
        rw [if_pos (by rfl)]
        go_simp
        exact hK.out _ _ ⟨b0, b1, true, b3, true, true, b6, b7, b8, b9, b10, b11, b12, b13, b14, b15, x69, x70, .slice (some ⟨gr, 0, none⟩) N rca, x72, .int .i64 (KI : Nat), (.pointer (some ⟨gr, KI * 3, none⟩)), x75, x76, x68, x77, x78, x79, x15, x16, x17, co4, cc4, ro4, rn4, rc4, pa, pn, pc, gu, (by simp only [Act.put, List.setIfInBounds_toArray, List.set_cons_zero, List.set_cons_succ]), (by simp only [Act.put, List.setIfInBounds_toArray, List.set_cons_zero, List.set_cons_succ]), hb, cd0, cd1, (fun _ => rfl), cd3, (fun _ => rfl), (fun _ => rfl), cd6, cd7, cd8, cd9, cd10, cd11, cd12, cd14, cd15, f_tt, f_st, f_lt, f_z, f_lg, f_s, f_o13, f_o13b, w_8_7, w_9_7, w_10_7, w_14_7⟩
      · rintro L a w ⟨b0, b1, b2, b3, b4, b5, b6, b7, b8, b9, b10, b11, b12, b13, b14, b15, x69, x70, x71, x72, x73, x74, x75, x76, x68, x77, x78, x79, x15, x16, x17, co4, cc4, ro4, rn4, rc4, pa, pn, pc, gu, rfl, rfl, hb, cd0, cd1, cd2, cd3, cd4, cd5, cd6, cd7, cd8, cd9, cd10, cd11, cd12, cd14, cd15, f_tt, f_st, f_lt, f_z, f_lg, f_s, f_o13, f_o13b, w_8_7, w_9_7, w_10_7, w_14_7⟩ hf hd
        have hf' : b6 = false := hf
        subst hf'
        have d5 : b5 = true := hd ⟨5, .data⟩ (by simp) rfl
        subst d5
        obtain rfl := cd5.out rfl
        clear hf hd
        try simp only [List.setIfInBounds_toArray, List.set_cons_zero, List.set_cons_succ]
        have z0 := (hb.cell hgrB).trans v0
        have z1 := (hb.cell hgrB).trans v1
        have z2 := (hb.cell hgrB).trans v2
        intro K hK
        rw [if_pos (by rfl)]
        go_simp
        exact hK.out _ _ ⟨b0, b1, b2, b3, b4, true, true, b7, b8, b9, b10, b11, b12, b13, b14, b15, x69, x70, x71, x72, x73, .pointer (some ⟨gr, KI * 3, none⟩), (.agg #[.int .i64 k, .int .i64 m, .string s]), x76, x68, x77, x78, x79, x15, x16, x17, co4, cc4, ro4, rn4, rc4, pa, pn, pc, gu, (by simp only [Act.put, List.setIfInBounds_toArray, List.set_cons_zero, List.set_cons_succ]), (by simp only [Act.put, List.setIfInBounds_toArray, List.set_cons_zero, List.set_cons_succ]), hb, cd0, cd1, cd2, cd3, cd4, (fun _ => rfl), (fun _ => rfl), cd7, cd8, cd9, cd10, cd11, cd12, cd14, cd15, f_tt, f_st, f_lt, f_z, f_lg, f_s, f_o13, f_o13b, w_8_7, w_9_7, w_10_7, w_14_7⟩
      · rintro L a w ⟨b0, b1, b2, b3, b4, b5, b6, b7, b8, b9, b10, b11, b12, b13, b14, b15, x69, x70, x71, x72, x73, x74, x75, x76, x68, x77, x78, x79, x15, x16, x17, co4, cc4, ro4, rn4, rc4, pa, pn, pc, gu, rfl, rfl, hb, cd0, cd1, cd2, cd3, cd4, cd5, cd6, cd7, cd8, cd9, cd10, cd11, cd12, cd14, cd15, f_tt, f_st, f_lt, f_z, f_lg, f_s, f_o13, f_o13b, w_8_7, w_9_7, w_10_7, w_14_7⟩ hf hd
        have hf' : b7 = false := hf
        subst hf'
        have d1 : b1 = true := hd ⟨1, .data⟩ (by simp) rfl
        subst d1
        have d6 : b6 = true := hd ⟨6, .data⟩ (by simp) rfl
        subst d6
        obtain rfl := cd1.out rfl
        obtain rfl := cd6.out rfl
        clear hf hd
        try simp only [List.setIfInBounds_toArray, List.set_cons_zero, List.set_cons_succ]
        intro K hK
        rw [if_pos (by rfl)]
        go_simp
        go_at_call 27
        refine (HTk _ hb).mono ?_
        rintro e w' ⟨co3, cc3, ro3, rn3, rc3, pa3, pn3, pc3, rfl, i1, bx⟩
        have e_8 : b8 = false := by cases hq : b8 with | false => rfl | true => exact absurd (w_8_7.out hq) (by simp)
        subst e_8
        have e_9 : b9 = false := by cases hq : b9 with | false => rfl | true => exact absurd (w_9_7.out hq) (by simp)
        subst e_9
        have e_10 : b10 = false := by cases hq : b10 with | false => rfl | true => exact absurd (w_10_7.out hq) (by simp)
        subst e_10
        have e_14 : b14 = false := by cases hq : b14 with | false => rfl | true => exact absurd (w_14_7.out hq) (by simp)
        subst e_14
        exact hK.out _ _ ⟨b0, true, b2, b3, b4, b5, true, true, false, false, false, b11, b12, b13, false, b15, x69, .agg #[.string (bsOf NM), .slice (some ⟨g, 0, none⟩) N cg, .int .i64 (KI : Nat), .bool only, .slice none 0 0], x71, x72, x73, x74, .agg #[.int .i64 k, .int .i64 m, .string s], (.tuple #[.agg #[.string (bsOf NM), .slice co3 N cc3, .int .i64 (KI : Nat), .bool only, .slice ro3 rn3 rc3], .slice pa3 pn3 pc3, .int .i64 2]), x68, x77, x78, x79, x15, x16, x17, co3, cc3, ro3, rn3, rc3, pa3, pn3, pc3, gu, (by simp only [Act.put, List.setIfInBounds_toArray, List.set_cons_zero, List.set_cons_succ]), (by simp only [Act.put, List.setIfInBounds_toArray, List.set_cons_zero, List.set_cons_succ]), hb.trans (bx.mono (Nat.le_trans hB0 hb.size)), cd0, (fun _ => rfl), cd2, cd3, cd4, cd5, (fun _ => rfl), (fun _ => rfl), (fun h => by cases h), (fun h => by cases h), (fun h => by cases h), cd11, cd12, (fun h => by cases h), cd15, (fun _ => i1.mono hb.size), (fun _ _ => fun h w'' gw => (i1.grown gw (f_lt.out h)).mono hb.size), (fun h0 => Nat.lt_of_lt_of_le (f_lt.out h0) bx.size), (fun h0 h1 => (f_z.out h0 h1).past bx), f_lg, (fun h0 => absurd (f_o13.out h0) (by simp)), (fun _ => rfl), f_o13b, (fun _ => rfl), (fun _ => rfl), (fun _ => rfl), (fun _ => rfl)⟩
      · rintro L a w ⟨b0, b1, b2, b3, b4, b5, b6, b7, b8, b9, b10, b11, b12, b13, b14, b15, x69, x70, x71, x72, x73, x74, x75, x76, x68, x77, x78, x79, x15, x16, x17, co4, cc4, ro4, rn4, rc4, pa, pn, pc, gu, rfl, rfl, hb, cd0, cd1, cd2, cd3, cd4, cd5, cd6, cd7, cd8, cd9, cd10, cd11, cd12, cd14, cd15, f_tt, f_st, f_lt, f_z, f_lg, f_s, f_o13, f_o13b, w_8_7, w_9_7, w_10_7, w_14_7⟩ hf hd
        have hf' : b8 = false := hf
        subst hf'
        have d7 : b7 = true := hd ⟨7, .data⟩ (by simp) rfl
        subst d7
        obtain rfl := cd7.out rfl
        clear hf hd
        have W_tt := f_tt.out rfl
        try simp only [List.setIfInBounds_toArray, List.set_cons_zero, List.set_cons_succ]
        intro K hK
        rw [if_pos (by rfl)]
        go_simp
        exact hK.out _ _ ⟨b0, b1, b2, b3, b4, b5, b6, true, true, b9, b10, b11, b12, b13, b14, b15, x69, x70, x71, x72, x73, x74, x75, .tuple #[.agg #[.string (bsOf NM), .slice co4 N cc4, .int .i64 (KI : Nat), .bool only, .slice ro4 rn4 rc4], .slice pa pn pc, .int .i64 2], (.tuple #[.agg #[.string (bsOf NM), .slice co4 N cc4, .int .i64 (KI : Nat), .bool only, .slice ro4 rn4 rc4], .slice pa pn pc, .int .i64 2]), x77, x78, x79, x15, x16, x17, co4, cc4, ro4, rn4, rc4, pa, pn, pc, gu, (by simp only [Act.put, List.setIfInBounds_toArray, List.set_cons_zero, List.set_cons_succ]), (by simp only [Act.put, List.setIfInBounds_toArray, List.set_cons_zero, List.set_cons_succ]), hb, cd0, cd1, cd2, cd3, cd4, cd5, cd6, (fun _ => rfl), (fun _ => rfl), cd9, cd10, cd11, cd12, cd14, cd15, f_tt, f_st, f_lt, f_z, f_lg, f_s, f_o13, f_o13b, (fun _ => rfl), (fun _ => rfl), (fun _ => rfl), (fun _ => rfl)⟩
      · rintro L a w ⟨b0, b1, b2, b3, b4, b5, b6, b7, b8, b9, b10, b11, b12, b13, b14, b15, x69, x70, x71, x72, x73, x74, x75, x76, x68, x77, x78, x79, x15, x16, x17, co4, cc4, ro4, rn4, rc4, pa, pn, pc, gu, rfl, rfl, hb, cd0, cd1, cd2, cd3, cd4, cd5, cd6, cd7, cd8, cd9, cd10, cd11, cd12, cd14, cd15, f_tt, f_st, f_lt, f_z, f_lg, f_s, f_o13, f_o13b, w_8_7, w_9_7, w_10_7, w_14_7⟩ hf hd
        have hf' : b9 = false := hf
        subst hf'
        have d8 : b8 = true := hd ⟨8, .data⟩ (by simp) rfl
        subst d8
        obtain rfl := cd8.out rfl
        clear hf hd
        try simp only [List.setIfInBounds_toArray, List.set_cons_zero, List.set_cons_succ]
        intro K hK
        rw [if_pos (by rfl)]
        go_simp
        exact hK.out _ _ ⟨b0, b1, b2, b3, b4, b5, b6, b7, true, true, b10, b11, b12, b13, b14, b15, x69, x70, x71, x72, x73, x74, x75, x76, .tuple #[.agg #[.string (bsOf NM), .slice co4 N cc4, .int .i64 (KI : Nat), .bool only, .slice ro4 rn4 rc4], .slice pa pn pc, .int .i64 2], (.agg #[.string (bsOf NM), .slice co4 N cc4, .int .i64 (KI : Nat), .bool only, .slice ro4 rn4 rc4]), x78, x79, x15, x16, x17, co4, cc4, ro4, rn4, rc4, pa, pn, pc, gu, (by simp only [Act.put, List.setIfInBounds_toArray, List.set_cons_zero, List.set_cons_succ]), (by simp only [Act.put, List.setIfInBounds_toArray, List.set_cons_zero, List.set_cons_succ]), hb, cd0, cd1, cd2, cd3, cd4, cd5, cd6, cd7, (fun _ => rfl), (fun _ => rfl), cd10, cd11, cd12, cd14, cd15, f_tt, f_st, f_lt, f_z, f_lg, f_s, f_o13, f_o13b, w_8_7, (fun _ => w_8_7.out rfl), w_10_7, w_14_7⟩
      · rintro L a w ⟨b0, b1, b2, b3, b4, b5, b6, b7, b8, b9, b10, b11, b12, b13, b14, b15, x69, x70, x71, x72, x73, x74, x75, x76, x68, x77, x78, x79, x15, x16, x17, co4, cc4, ro4, rn4, rc4, pa, pn, pc, gu, rfl, rfl, hb, cd0, cd1, cd2, cd3, cd4, cd5, cd6, cd7, cd8, cd9, cd10, cd11, cd12, cd14, cd15, f_tt, f_st, f_lt, f_z, f_lg, f_s, f_o13, f_o13b, w_8_7, w_9_7, w_10_7, w_14_7⟩ hf hd
        have hf' : b10 = false := hf
        subst hf'
        have d8 : b8 = true := hd ⟨8, .data⟩ (by simp) rfl
        subst d8
        obtain rfl := cd8.out rfl
        clear hf hd
        try simp only [List.setIfInBounds_toArray, List.set_cons_zero, List.set_cons_succ]
        intro K hK
        rw [if_pos (by rfl)]
        go_simp
        exact hK.out _ _ ⟨b0, b1, b2, b3, b4, b5, b6, b7, true, b9, true, b11, b12, b13, b14, b15, x69, x70, x71, x72, x73, x74, x75, x76, .tuple #[.agg #[.string (bsOf NM), .slice co4 N cc4, .int .i64 (KI : Nat), .bool only, .slice ro4 rn4 rc4], .slice pa pn pc, .int .i64 2], x77, (.slice pa pn pc), x79, x15, x16, x17, co4, cc4, ro4, rn4, rc4, pa, pn, pc, gu, (by simp only [Act.put, List.setIfInBounds_toArray, List.set_cons_zero, List.set_cons_succ]), (by simp only [Act.put, List.setIfInBounds_toArray, List.set_cons_zero, List.set_cons_succ]), hb, cd0, cd1, cd2, cd3, cd4, cd5, cd6, cd7, (fun _ => rfl), cd9, (fun _ => rfl), cd11, cd12, cd14, cd15, f_tt, f_st, f_lt, f_z, f_lg, f_s, f_o13, f_o13b, w_8_7, w_9_7, (fun _ => w_8_7.out rfl), w_14_7⟩
      · rintro L a w ⟨b0, b1, b2, b3, b4, b5, b6, b7, b8, b9, b10, b11, b12, b13, b14, b15, x69, x70, x71, x72, x73, x74, x75, x76, x68, x77, x78, x79, x15, x16, x17, co4, cc4, ro4, rn4, rc4, pa, pn, pc, gu, rfl, rfl, hb, cd0, cd1, cd2, cd3, cd4, cd5, cd6, cd7, cd8, cd9, cd10, cd11, cd12, cd14, cd15, f_tt, f_st, f_lt, f_z, f_lg, f_s, f_o13, f_o13b, w_8_7, w_9_7, w_10_7, w_14_7⟩ hf hd
        have hf' : b11 = false := hf
        subst hf'
        have d8 : b8 = true := hd ⟨8, .data⟩ (by simp) rfl
        subst d8
        obtain rfl := cd8.out rfl
        clear hf hd
        try simp only [List.setIfInBounds_toArray, List.set_cons_zero, List.set_cons_succ]
        intro K hK
        rw [if_pos (by rfl)]
        go_simp
        exact hK.out _ _ ⟨b0, b1, b2, b3, b4, b5, b6, b7, true, b9, b10, true, b12, b13, b14, b15, x69, x70, x71, x72, x73, x74, x75, x76, .tuple #[.agg #[.string (bsOf NM), .slice co4 N cc4, .int .i64 (KI : Nat), .bool only, .slice ro4 rn4 rc4], .slice pa pn pc, .int .i64 2], x77, x78, (.int .i64 2), x15, x16, x17, co4, cc4, ro4, rn4, rc4, pa, pn, pc, gu, (by simp only [Act.put, List.setIfInBounds_toArray, List.set_cons_zero, List.set_cons_succ]), (by simp only [Act.put, List.setIfInBounds_toArray, List.set_cons_zero, List.set_cons_succ]), hb, cd0, cd1, cd2, cd3, cd4, cd5, cd6, cd7, (fun _ => rfl), cd9, cd10, (fun _ => rfl), cd12, cd14, cd15, f_tt, f_st, f_lt, f_z, f_lg, f_s, f_o13, f_o13b, w_8_7, w_9_7, w_10_7, w_14_7⟩
      · rintro L a w ⟨b0, b1, b2, b3, b4, b5, b6, b7, b8, b9, b10, b11, b12, b13, b14, b15, x69, x70, x71, x72, x73, x74, x75, x76, x68, x77, x78, x79, x15, x16, x17, co4, cc4, ro4, rn4, rc4, pa, pn, pc, gu, rfl, rfl, hb, cd0, cd1, cd2, cd3, cd4, cd5, cd6, cd7, cd8, cd9, cd10, cd11, cd12, cd14, cd15, f_tt, f_st, f_lt, f_z, f_lg, f_s, f_o13, f_o13b, w_8_7, w_9_7, w_10_7, w_14_7⟩ hf hd
        have hf' : b12 = false := hf
        subst hf'
        clear hf hd
        try simp only [List.setIfInBounds_toArray, List.set_cons_zero, List.set_cons_succ]
        intro K hK
        rw [if_pos (by rfl)]
        go_simp
        have bx : Below w.heap.size w (w.alloc (.cells #[.string ⟨#[]⟩, .slice none 0 0, .int .i64 0, .bool false, .slice none 0 0] 47)) := (Below.refl _ _).alloc (Nat.le_refl _) _
        have i2 : Bk (w.alloc (.cells #[.string ⟨#[]⟩, .slice none 0 0, .int .i64 0, .bool false, .slice none 0 0] 47)) w.heap.size (tbC [] none 0 0 0 false none 0 0) 47 := Bk.new w _ _
        exact hK.out _ _ ⟨b0, b1, b2, b3, b4, b5, b6, b7, b8, b9, b10, b11, true, b13, b14, b15, x69, x70, x71, x72, x73, x74, x75, x76, x68, x77, x78, x79, (.pointer (some ⟨(w.heap.size), 0, none⟩)), x16, x17, co4, cc4, ro4, rn4, rc4, pa, pn, pc, w.heap.size, (by simp only [Act.put, List.setIfInBounds_toArray, List.set_cons_zero, List.set_cons_succ]), (by simp only [Act.put, List.setIfInBounds_toArray, List.set_cons_zero, List.set_cons_succ]), hb.trans (bx.mono (Nat.le_trans hB0 hb.size)), cd0, cd1, cd2, cd3, cd4, cd5, cd6, cd7, cd8, cd9, cd10, cd11, (fun _ => rfl), cd14, cd15, (fun h0 => (f_tt.out h0).past bx), (fun h0 _ _ w'' gw => (f_tt.out h0).past (below_new gw)), (fun _ => by rw [World.size_alloc]; omega), (fun _ _ => i2), (fun _ => hb.size), (fun h0 => absurd (f_o13b.out h0) (by simp)), f_o13, (fun _ => rfl), w_8_7, w_9_7, w_10_7, w_14_7⟩
      · rintro L a w ⟨b0, b1, b2, b3, b4, b5, b6, b7, b8, b9, b10, b11, b12, b13, b14, b15, x69, x70, x71, x72, x73, x74, x75, x76, x68, x77, x78, x79, x15, x16, x17, co4, cc4, ro4, rn4, rc4, pa, pn, pc, gu, rfl, rfl, hb, cd0, cd1, cd2, cd3, cd4, cd5, cd6, cd7, cd8, cd9, cd10, cd11, cd12, cd14, cd15, f_tt, f_st, f_lt, f_z, f_lg, f_s, f_o13, f_o13b, w_8_7, w_9_7, w_10_7, w_14_7⟩ hf hd
        have hf' : b13 = false := hf
        subst hf'
        have d12 : b12 = true := hd ⟨12, .data⟩ (by simp) rfl
        subst d12
        have d9 : b9 = true := hd ⟨9, .data⟩ (by simp) rfl
        subst d9
        have d7 : b7 = true := hd ⟨7, .chain⟩ (by simp) rfl
        subst d7
        have d0 : b0 = true := hd ⟨0, .phase⟩ (by simp) rfl
        subst d0
        have d1 : b1 = true := hd ⟨1, .phase⟩ (by simp) rfl
        subst d1
        have d2 : b2 = true := hd ⟨2, .phase⟩ (by simp) rfl
        subst d2
        have d3 : b3 = true := hd ⟨3, .phase⟩ (by simp) rfl
        subst d3
        have d4 : b4 = true := hd ⟨4, .phase⟩ (by simp) rfl
        subst d4
        have d5 : b5 = true := hd ⟨5, .phase⟩ (by simp) rfl
        subst d5
        have d6 : b6 = true := hd ⟨6, .phase⟩ (by simp) rfl
        subst d6
        have d8 : b8 = true := hd ⟨8, .phase⟩ (by simp) rfl
        subst d8
        obtain rfl := cd12.out rfl
        obtain rfl := cd9.out rfl
        obtain rfl := cd7.out rfl
        obtain rfl := cd0.out rfl
        obtain rfl := cd1.out rfl
        obtain rfl := cd2.out rfl
        obtain rfl := cd3.out rfl
        obtain rfl := cd4.out rfl
        obtain rfl := cd5.out rfl
        obtain rfl := cd6.out rfl
        obtain rfl := cd8.out rfl
        clear hf hd
        have W_tt := f_tt.out rfl
        have W_st := f_st.out rfl rfl
        have W_lt := f_lt.out rfl
        have W_z := f_z.out rfl rfl
        have W_lg := f_lg.out rfl
        try simp only [List.setIfInBounds_toArray, List.set_cons_zero, List.set_cons_succ]
        intro K hK
        rw [if_pos (by rfl)]
        refine wp_store_blkT 47 _ _ rfl gu _ (tbC NM co4 N cc4 (KI : Nat) only ro4 rn4 rc4) rfl rfl _ (Lib.hid W_z) 5 szTb (tbC_size ..) (tbC_size ..) (tbC_all ..) fun w2 h8 g8 => ?_
        have hb2 := hb.grown g8 (Nat.le_trans hB0 hb.size) (fun z hz => by cases hz; exact Nat.le_trans hB0 W_lg)
        exact hK.out _ _ ⟨true, true, true, true, true, true, true, true, true, true, b10, b11, true, true, b14, b15, .agg #[.string (bsOf NM), .slice (some ⟨g, 0, none⟩) N cg, .int .i64 (KI : Nat), .bool only], .agg #[.string (bsOf NM), .slice (some ⟨g, 0, none⟩) N cg, .int .i64 (KI : Nat), .bool only, .slice none 0 0], .slice (some ⟨gr, 0, none⟩) N rca, .pointer (some ⟨gs, 2, none⟩), .int .i64 (KI : Nat), .pointer (some ⟨gr, KI * 3, none⟩), .agg #[.int .i64 k, .int .i64 m, .string s], .tuple #[.agg #[.string (bsOf NM), .slice co4 N cc4, .int .i64 (KI : Nat), .bool only, .slice ro4 rn4 rc4], .slice pa pn pc, .int .i64 2], .tuple #[.agg #[.string (bsOf NM), .slice co4 N cc4, .int .i64 (KI : Nat), .bool only, .slice ro4 rn4 rc4], .slice pa pn pc, .int .i64 2], .agg #[.string (bsOf NM), .slice co4 N cc4, .int .i64 (KI : Nat), .bool only, .slice ro4 rn4 rc4], x78, x79, .pointer (some ⟨gu, 0, none⟩), x16, x17, co4, cc4, ro4, rn4, rc4, pa, pn, pc, gu, (by simp only [Act.put, List.setIfInBounds_toArray, List.set_cons_zero, List.set_cons_succ]), (by simp only [Act.put, List.setIfInBounds_toArray, List.set_cons_zero, List.set_cons_succ]), hb2, (fun _ => rfl), (fun _ => rfl), (fun _ => rfl), (fun _ => rfl), (fun _ => rfl), (fun _ => rfl), (fun _ => rfl), (fun _ => rfl), (fun _ => rfl), (fun _ => rfl), cd10, cd11, (fun _ => rfl), cd14, cd15, (fun h0 => (f_st.out h0 rfl rfl) _ g8), (fun _ h => by cases h), (fun h0 => Nat.lt_of_lt_of_le ((f_lt.out h0)) g8.size), (fun _ h => by cases h), f_lg, (fun _ => h8.out), (fun _ => rfl), (fun _ => rfl), (fun _ => rfl), (fun _ => rfl), (fun _ => rfl), (fun _ => rfl)⟩
      · rintro L a w ⟨b0, b1, b2, b3, b4, b5, b6, b7, b8, b9, b10, b11, b12, b13, b14, b15, x69, x70, x71, x72, x73, x74, x75, x76, x68, x77, x78, x79, x15, x16, x17, co4, cc4, ro4, rn4, rc4, pa, pn, pc, gu, rfl, rfl, hb, cd0, cd1, cd2, cd3, cd4, cd5, cd6, cd7, cd8, cd9, cd10, cd11, cd12, cd14, cd15, f_tt, f_st, f_lt, f_z, f_lg, f_s, f_o13, f_o13b, w_8_7, w_9_7, w_10_7, w_14_7⟩ hf hd
        have hf' : b14 = false := hf
        subst hf'
        have d10 : b10 = true := hd ⟨10, .data⟩ (by simp) rfl
        subst d10
        have d13 : b13 = true := hd ⟨13, .chain⟩ (by simp) rfl
        subst d13
        have d0 : b0 = true := hd ⟨0, .phase⟩ (by simp) rfl
        subst d0
        have d1 : b1 = true := hd ⟨1, .phase⟩ (by simp) rfl
        subst d1
        have d2 : b2 = true := hd ⟨2, .phase⟩ (by simp) rfl
        subst d2
        have d3 : b3 = true := hd ⟨3, .phase⟩ (by simp) rfl
        subst d3
        have d4 : b4 = true := hd ⟨4, .phase⟩ (by simp) rfl
        subst d4
        have d5 : b5 = true := hd ⟨5, .phase⟩ (by simp) rfl
        subst d5
        have d6 : b6 = true := hd ⟨6, .phase⟩ (by simp) rfl
        subst d6
        have d7 : b7 = true := hd ⟨7, .phase⟩ (by simp) rfl
        subst d7
        have d8 : b8 = true := hd ⟨8, .phase⟩ (by simp) rfl
        subst d8
        have d9 : b9 = true := hd ⟨9, .phase⟩ (by simp) rfl
        subst d9
        have d12 : b12 = true := hd ⟨12, .phase⟩ (by simp) rfl
        subst d12
        obtain rfl := cd10.out rfl
        obtain rfl := cd0.out rfl
        obtain rfl := cd1.out rfl
        obtain rfl := cd2.out rfl
        obtain rfl := cd3.out rfl
        obtain rfl := cd4.out rfl
        obtain rfl := cd5.out rfl
        obtain rfl := cd6.out rfl
        obtain rfl := cd7.out rfl
        obtain rfl := cd8.out rfl
        obtain rfl := cd9.out rfl
        obtain rfl := cd12.out rfl
        clear hf hd
        have W_tt := f_tt.out rfl
        have W_lt := f_lt.out rfl
        have W_lg := f_lg.out rfl
        have W_s := f_s.out rfl
        have W_o13 := f_o13.out rfl
        have W_o13b := f_o13b.out rfl
        try simp only [List.setIfInBounds_toArray, List.set_cons_zero, List.set_cons_succ]
        intro K hK
        rw [if_pos (by rfl)]
        go_simp
        exact hK.out _ _ ⟨true, true, true, true, true, true, true, true, true, true, true, b11, true, true, true, b15, .agg #[.string (bsOf NM), .slice (some ⟨g, 0, none⟩) N cg, .int .i64 (KI : Nat), .bool only], .agg #[.string (bsOf NM), .slice (some ⟨g, 0, none⟩) N cg, .int .i64 (KI : Nat), .bool only, .slice none 0 0], .slice (some ⟨gr, 0, none⟩) N rca, .pointer (some ⟨gs, 2, none⟩), .int .i64 (KI : Nat), .pointer (some ⟨gr, KI * 3, none⟩), .agg #[.int .i64 k, .int .i64 m, .string s], .tuple #[.agg #[.string (bsOf NM), .slice co4 N cc4, .int .i64 (KI : Nat), .bool only, .slice ro4 rn4 rc4], .slice pa pn pc, .int .i64 2], .tuple #[.agg #[.string (bsOf NM), .slice co4 N cc4, .int .i64 (KI : Nat), .bool only, .slice ro4 rn4 rc4], .slice pa pn pc, .int .i64 2], .agg #[.string (bsOf NM), .slice co4 N cc4, .int .i64 (KI : Nat), .bool only, .slice ro4 rn4 rc4], .slice pa pn pc, x79, .pointer (some ⟨gu, 0, none⟩), (.slice pa pn pc), x17, co4, cc4, ro4, rn4, rc4, pa, pn, pc, gu, (by simp only [Act.put, List.setIfInBounds_toArray, List.set_cons_zero, List.set_cons_succ]), (by simp only [Act.put, List.setIfInBounds_toArray, List.set_cons_zero, List.set_cons_succ]), hb, (fun _ => rfl), (fun _ => rfl), (fun _ => rfl), (fun _ => rfl), (fun _ => rfl), (fun _ => rfl), (fun _ => rfl), (fun _ => rfl), (fun _ => rfl), (fun _ => rfl), (fun _ => rfl), cd11, (fun _ => rfl), (fun _ => rfl), cd15, f_tt, (fun _ h => by cases h), f_lt, (fun _ h => by cases h), f_lg, f_s, f_o13, f_o13b, (fun _ => rfl), (fun _ => rfl), (fun _ => rfl), (fun _ => rfl)⟩
      · rintro L a w ⟨b0, b1, b2, b3, b4, b5, b6, b7, b8, b9, b10, b11, b12, b13, b14, b15, x69, x70, x71, x72, x73, x74, x75, x76, x68, x77, x78, x79, x15, x16, x17, co4, cc4, ro4, rn4, rc4, pa, pn, pc, gu, rfl, rfl, hb, cd0, cd1, cd2, cd3, cd4, cd5, cd6, cd7, cd8, cd9, cd10, cd11, cd12, cd14, cd15, f_tt, f_st, f_lt, f_z, f_lg, f_s, f_o13, f_o13b, w_8_7, w_9_7, w_10_7, w_14_7⟩ hf hd
        have hf' : b15 = false := hf
        subst hf'
        have d11 : b11 = true := hd ⟨11, .data⟩ (by simp) rfl
        subst d11
        have d14 : b14 = true := hd ⟨14, .chain⟩ (by simp) rfl
        subst d14
        have d0 : b0 = true := hd ⟨0, .phase⟩ (by simp) rfl
        subst d0
        have d1 : b1 = true := hd ⟨1, .phase⟩ (by simp) rfl
        subst d1
        have d2 : b2 = true := hd ⟨2, .phase⟩ (by simp) rfl
        subst d2
        have d3 : b3 = true := hd ⟨3, .phase⟩ (by simp) rfl
        subst d3
        have d4 : b4 = true := hd ⟨4, .phase⟩ (by simp) rfl
        subst d4
        have d5 : b5 = true := hd ⟨5, .phase⟩ (by simp) rfl
        subst d5
        have d6 : b6 = true := hd ⟨6, .phase⟩ (by simp) rfl
        subst d6
        have d7 : b7 = true := hd ⟨7, .phase⟩ (by simp) rfl
        subst d7
        have d8 : b8 = true := hd ⟨8, .phase⟩ (by simp) rfl
        subst d8
        have d9 : b9 = true := hd ⟨9, .phase⟩ (by simp) rfl
        subst d9
        have d10 : b10 = true := hd ⟨10, .phase⟩ (by simp) rfl
        subst d10
        have d12 : b12 = true := hd ⟨12, .phase⟩ (by simp) rfl
        subst d12
        have d13 : b13 = true := hd ⟨13, .phase⟩ (by simp) rfl
        subst d13
        obtain rfl := cd11.out rfl
        obtain rfl := cd14.out rfl
        obtain rfl := cd0.out rfl
        obtain rfl := cd1.out rfl
        obtain rfl := cd2.out rfl
        obtain rfl := cd3.out rfl
        obtain rfl := cd4.out rfl
        obtain rfl := cd5.out rfl
        obtain rfl := cd6.out rfl
        obtain rfl := cd7.out rfl
        obtain rfl := cd8.out rfl
        obtain rfl := cd9.out rfl
        obtain rfl := cd10.out rfl
        obtain rfl := cd12.out rfl
        clear hf hd
        have W_tt := f_tt.out rfl
        have W_lt := f_lt.out rfl
        have W_lg := f_lg.out rfl
        have W_s := f_s.out rfl
        have W_o13 := f_o13.out rfl
        have W_o13b := f_o13b.out rfl
        try simp only [List.setIfInBounds_toArray, List.set_cons_zero, List.set_cons_succ]
        intro K hK
        rw [if_pos (by rfl)]
        go_simp
        exact hK.out _ _ ⟨true, true, true, true, true, true, true, true, true, true, true, true, true, true, true, true, .agg #[.string (bsOf NM), .slice (some ⟨g, 0, none⟩) N cg, .int .i64 (KI : Nat), .bool only], .agg #[.string (bsOf NM), .slice (some ⟨g, 0, none⟩) N cg, .int .i64 (KI : Nat), .bool only, .slice none 0 0], .slice (some ⟨gr, 0, none⟩) N rca, .pointer (some ⟨gs, 2, none⟩), .int .i64 (KI : Nat), .pointer (some ⟨gr, KI * 3, none⟩), .agg #[.int .i64 k, .int .i64 m, .string s], .tuple #[.agg #[.string (bsOf NM), .slice co4 N cc4, .int .i64 (KI : Nat), .bool only, .slice ro4 rn4 rc4], .slice pa pn pc, .int .i64 2], .tuple #[.agg #[.string (bsOf NM), .slice co4 N cc4, .int .i64 (KI : Nat), .bool only, .slice ro4 rn4 rc4], .slice pa pn pc, .int .i64 2], .agg #[.string (bsOf NM), .slice co4 N cc4, .int .i64 (KI : Nat), .bool only, .slice ro4 rn4 rc4], .slice pa pn pc, .int .i64 2, .pointer (some ⟨gu, 0, none⟩), .slice pa pn pc, (.int .i64 2), co4, cc4, ro4, rn4, rc4, pa, pn, pc, gu, (by simp only [Act.put, List.setIfInBounds_toArray, List.set_cons_zero, List.set_cons_succ]), (by simp only [Act.put, List.setIfInBounds_toArray, List.set_cons_zero, List.set_cons_succ]), hb, (fun _ => rfl), (fun _ => rfl), (fun _ => rfl), (fun _ => rfl), (fun _ => rfl), (fun _ => rfl), (fun _ => rfl), (fun _ => rfl), (fun _ => rfl), (fun _ => rfl), (fun _ => rfl), (fun _ => rfl), (fun _ => rfl), (fun _ => rfl), (fun _ => rfl), f_tt, (fun _ h => by cases h), f_lt, (fun _ h => by cases h), f_lg, f_s, f_o13, f_o13b, (fun _ => rfl), (fun _ => rfl), (fun _ => rfl), (fun _ => rfl)⟩
    · rintro act V3 ⟨b0, b1, b2, b3, b4, b5, b6, b7, b8, b9, b10, b11, b12, b13, b14, b15, x69, x70, x71, x72, x73, x74, x75, x76, x68, x77, x78, x79, x15, x16, x17, co4, cc4, ro4, rn4, rc4, pa, pn, pc, gu, hL, rfl, hb, cd0, cd1, cd2, cd3, cd4, cd5, cd6, cd7, cd8, cd9, cd10, cd11, cd12, cd14, cd15, f_tt, f_st, f_lt, f_z, f_lg, f_s, f_o13, f_o13b, w_8_7, w_9_7, w_10_7, w_14_7⟩
      have hL' : [true, true, true, true, true, true, true, true, true, true, true, true, true, true, true, true] = [b0, b1, b2, b3, b4, b5, b6, b7, b8, b9, b10, b11, b12, b13, b14, b15] := congrArg Array.toList hL
      simp only [List.cons.injEq, and_true] at hL'
      obtain ⟨rfl, rfl, rfl, rfl, rfl, rfl, rfl, rfl, rfl, rfl, rfl, rfl, rfl, rfl, rfl, rfl⟩ := hL'
      obtain rfl := cd0.out rfl
      obtain rfl := cd1.out rfl
      obtain rfl := cd2.out rfl
      obtain rfl := cd3.out rfl
      obtain rfl := cd4.out rfl
      obtain rfl := cd5.out rfl
      obtain rfl := cd6.out rfl
      obtain rfl := cd7.out rfl
      obtain rfl := cd8.out rfl
      obtain rfl := cd9.out rfl
      obtain rfl := cd10.out rfl
      obtain rfl := cd11.out rfl
      obtain rfl := cd12.out rfl
      obtain rfl := cd14.out rfl
      obtain rfl := cd15.out rfl
      have W_tt := f_tt.out rfl
      have W_lt := f_lt.out rfl
      have W_lg := f_lg.out rfl
      have W_s := f_s.out rfl
      have W_o13 := f_o13.out rfl
      have W_o13b := f_o13b.out rfl
      clear hL f_tt f_st f_lt f_z f_lg f_s f_o13 f_o13b cd0 cd1 cd2 cd3 cd4 cd5 cd6 cd7 cd8 cd9 cd10 cd11 cd12 cd14 cd15 w_8_7 w_9_7 w_10_7 w_14_7
      simp only [List.setIfInBounds_toArray, List.set_cons_zero, List.set_cons_succ]
      have bV3 : Below V2.heap.size V2 V3 := (Below.refl _ _).drew.trans hb
      have hT3 := hT2.past bV3
      have hU3 := hU2.past bV3
      have BV3 := BV2.trans (bV3.mono hpV2)
      obtain rfl : 0 = rn4 := W_tt.rows.len
      obtain ⟨t0, t1, t2, t3, t4⟩ := tb_cells hT3
      obtain ⟨u0, u1, u2, u3, u4⟩ := tb_cells hU3
      obtain ⟨y0, y1, y2, y3, y4⟩ := tb_cells W_s
      have HSm := tsame_any V3 NM F N (KI : Nat) only 0 0 co3 cc3 ro3 1 rc3 [fitRow F nn] co1 cc1 ro1 1 rc1 [fitRow F nn] (i3.past bV3) (iT2.past bV3) (by omega)
      rw [(eqRs_iff _ _).2 rfl] at HSm
      unfold tbV at HSm
      clear hb W_lt W_lg W_o13 W_o13b
      go_wp2_with (go_at_call 26; refine HSm.mono ?_; rintro en w9 ⟨rfl, b9⟩; have y5 : w9.cell? ⟨gu, 4, none⟩ = some (.slice ro4 0 rc4) := (Bk.past W_s b9).c rfl)
      go_ret
      exact ⟨rfl, by rw [HP.out]; exact BV3.trans (b9.mono (Nat.le_trans hpV2 bV3.size))⟩
  · obtain ⟨gx_, hgx_⟩ : ∃ y, gx = y := ⟨_, rfl⟩
    obtain ⟨cx_, hcx_⟩ : ∃ y, cx = y := ⟨_, rfl⟩
    rw [hgx_] at oX0 hgx hxV
    rw [hcx_] at oX0
    simp only [hgx_, hcx_]
    clear hgx_ hcx_
    have hL : IsR EV (V.alloc (.cells #[.int .i64 0, .int .i64 0, .string ⟨#[]⟩] 55)) (some ⟨V.heap.size, 0, none⟩) 1 1 [⟨0, 0, ⟨#[]⟩⟩] := oneV_lit V 0 0 ⟨#[]⟩
    have bL := bV0.alloc bV0.size (.cells #[.int .i64 0, .int .i64 0, .string ⟨#[]⟩] 55)
    have oXa := oX0.alloc (.cells #[.int .i64 0, .int .i64 0, .string ⟨#[]⟩] 55)
    go_upto_region 19 with (at_builtin; refine wpList_append_or rfl _ _ 49 49 rfl 55 rowTyV gx_ N cx_ _ rfl oXa _ rfl 1 [⟨0, 0, ⟨#[]⟩⟩] (hL.src Try.underlying49) rfl (N + 1) rfl (fitRow F nn ++ [⟨0, 0, ⟨#[]⟩⟩]) rfl (by omega) ?_; intro gx cx V1 oX pX qX)
    have BVx : Below V0.heap.size V0 V1 := bL.trans (pX.below hgx (Nat.le_trans bL.size (Nat.le_refl _)))
    have XS1 := XS0.past BVx
    have iG1 := iG0.past BVx
    have hT1 := hT0.past BVx
    have iT1 := iT0.past BVx
    have oR1 := oR0.past BVx
    have BV1 := BV0.trans (BVx.mono hpV0)
    have hpV1 := Nat.le_trans hpV0 BVx.size
    clear t0 t1 t2 t3 t4 z0 z1 z2 z3
    obtain ⟨z0, z1, z2, z3⟩ := sc_cells XS1
    obtain ⟨t0, t1, t2, t3, t4⟩ := tb_cells hT1
    have hE2 : putE F KI (fitRow F nn ++ [⟨0, 0, ⟨#[]⟩⟩]) [fitRow F nn] = 1 := putE_bad (fitsE_more F nn _) (by decide)
    have HPt2 := put_any V1 NM co1 N cc1 KI only ro1 1 rc1 F (by omega) (by omega) 0 [fitRow F nn] iT1 (some ⟨gx, 0, none⟩) (N + 1) cx (fitRow F nn ++ [⟨0, 0, ⟨#[]⟩⟩]) oX.isR (List.pairwise_singleton _ _) (by omega) (fun y hy => by obtain rfl := List.mem_singleton.1 hy; rw [fitRow_len, hFl]; omega) (by omega)
    rw [hE2, putR_bad hE2 (by decide)] at HPt2
    unfold tbV at HPt2
    go_upto_region 20 with (go_at_call 24; refine HPt2.mono ?_; rintro e w7 ⟨co3, cc3, ro3, rn3, rc3, rfl, i2, b7⟩; unfold tbV)
    obtain rfl : 1 = rn3 := i2.rows.len
    have bV2 : Below V1.heap.size V1 (w7.alloc (.cells #[.string (bsOf NM), .slice co3 N cc3, .int .i64 (KI : Nat), .bool only, .slice ro3 1 rc3] 47)) := b7.alloc b7.size _
    have hU2 : Bk (w7.alloc (.cells #[.string (bsOf NM), .slice co3 N cc3, .int .i64 (KI : Nat), .bool only, .slice ro3 1 rc3] 47)) w7.heap.size (tbC NM co3 N cc3 (KI : Nat) only ro3 1 rc3) 47 := Bk.new w7 _ _
    have i3 := (i2.past ((Below.refl w7.heap.size w7).alloc (Nat.le_refl _) (.cells #[.string (bsOf NM), .slice co3 N cc3, .int .i64 (KI : Nat), .bool only, .slice ro3 1 rc3] 47))).mono (Nat.zero_le _)
    generalize w7.alloc (.cells #[.string (bsOf NM), .slice co3 N cc3, .int .i64 (KI : Nat), .bool only, .slice ro3 1 rc3] 47) = V2 at bV2 hU2 i3 ⊢
    obtain ⟨gU, hgU⟩ : ∃ gU, w7.heap.size = gU := ⟨_, rfl⟩
    rw [hgU] at hU2
    simp only [hgU]
    have XS2 := XS1.past bV2
    have iG2 := iG1.past bV2
    have hT2 := hT1.past bV2
    have iT2 := iT1.past bV2
    have oR2 := oR1.past bV2
    have BV2 := BV1.trans (bV2.mono hpV1)
    have hpV2 := Nat.le_trans hpV1 bV2.size
    clear hgU b7 i2 t0 t1 t2 t3 t4 z0 z1 z2 z3 HPt2
    obtain ⟨z0, z1, z2, z3⟩ := sc_cells XS2
    obtain ⟨v0, v1, v2⟩ := own_vcells oR2 KI _ hrow
    rw [hvv] at v0 v1 v2
    have HTk0 := fun (w' : World) (hb : Below V2.heap.size V2.drew w') => take_u w' NM (some ⟨g, 0, none⟩) N cg KI only none 0 0 F (by omega) (by omega) 0 [] ⟨iG2.drew.past hb, IsRR.nil _ 0, fun _ _ => Nat.zero_le _⟩ vv0 (Srt.nil KI) (by omega) (fun y hy => by cases hy)
    have eE : takeE KI vv0 [] = 2 := rfl
    have eR : takeR KI vv0 [] = [] := rfl
    simp only [eE, eR] at HTk0
    obtain ⟨k, m, s⟩ := vv0
    unfold tbV at HTk0
    simp only at v0 v1 v2 HTk0
    have HTk := HTk0
    have hgsB := XS2.lt
    have hgrB := oR2.lt
    have hB0 : V2.heap.size ≤ V2.heap.size := Nat.le_refl _
    clear HTk0 hvv eE eR
    refine region_inv (TRef20 V2.heap.size gs NM g N cg KI only gr rca k m s F) (by kernel_rfl) (by kernel_rfl) ?_ ?_ ?_
    · exact ⟨false, false, false, false, false, false, false, false, false, false, false, false, false, false, false, false, undef, undef, undef, undef, undef, undef, undef, undef, undef, undef, undef, undef, undef, undef, undef, none, 0, none, 0, 0, none, 0, 0, 0, rfl, (by simp only [Act.put, List.setIfInBounds_toArray, List.set_cons_zero, List.set_cons_succ]), Below.refl _ _, (fun h => by cases h), (fun h => by cases h), (fun h => by cases h), (fun h => by cases h), (fun h => by cases h), (fun h => by cases h), (fun h => by cases h), (fun h => by cases h), (fun h => by cases h), (fun h => by cases h), (fun h => by cases h), (fun h => by cases h), (fun h => by cases h), (fun h => by cases h), (fun h => by cases h), (fun h => by cases h), (fun h => by cases h), (fun h => by cases h), (fun h => by cases h), (fun h => by cases h), (fun h => by cases h), (fun h => by cases h), (fun h => by cases h), (fun h => by cases h), (fun h => by cases h), (fun h => by cases h), (fun h => by cases h)⟩
    · refine ⟨?_, ?_, ?_, ?_, ?_, ?_, ?_, ?_, ?_, ?_, ?_, ?_, ?_, ?_, ?_, ?_, trivial⟩
      · rintro L a w ⟨b0, b1, b2, b3, b4, b5, b6, b7, b8, b9, b10, b11, b12, b13, b14, b15, x69, x70, x71, x72, x73, x74, x75, x76, x68, x77, x78, x79, x15, x16, x17, co4, cc4, ro4, rn4, rc4, pa, pn, pc, gu, rfl, rfl, hb, cd0, cd1, cd2, cd3, cd4, cd5, cd6, cd7, cd8, cd9, cd10, cd11, cd12, cd14, cd15, f_tt, f_st, f_lt, f_z, f_lg, f_s, f_o13, f_o13b, w_8_7, w_9_7, w_10_7, w_14_7⟩ hf hd
        have hf' : b0 = false := hf
        subst hf'
        clear hf hd
        try simp only [List.setIfInBounds_toArray, List.set_cons_zero, List.set_cons_succ]
        have z0 := (hb.cell hgsB).trans z0
        have z1 := (hb.cell hgsB).trans z1
        have z2 := (hb.cell hgsB).trans z2
        have z3 := (hb.cell hgsB).trans z3
        intro K hK
        rw [if_pos (by rfl)]
        go_simp
        exact hK.out _ _ ⟨true, b1, b2, b3, b4, b5, b6, b7, b8, b9, b10, b11, b12, b13, b14, b15, (.agg #[.string (bsOf NM), .slice (some ⟨g, 0, none⟩) N cg, .int .i64 (KI : Nat), .bool only]), x70, x71, x72, x73, x74, x75, x76, x68, x77, x78, x79, x15, x16, x17, co4, cc4, ro4, rn4, rc4, pa, pn, pc, gu, (by simp only [Act.put, List.setIfInBounds_toArray, List.set_cons_zero, List.set_cons_succ]), (by simp only [Act.put, List.setIfInBounds_toArray, List.set_cons_zero, List.set_cons_succ]), hb, (fun _ => rfl), cd1, cd2, cd3, cd4, cd5, cd6, cd7, cd8, cd9, cd10, cd11, cd12, cd14, cd15, f_tt, f_st, f_lt, f_z, f_lg, f_s, f_o13, f_o13b, w_8_7, w_9_7, w_10_7, w_14_7⟩
      · rintro L a w ⟨b0, b1, b2, b3, b4, b5, b6, b7, b8, b9, b10, b11, b12, b13, b14, b15, x69, x70, x71, x72, x73, x74, x75, x76, x68, x77, x78, x79, x15, x16, x17, co4, cc4, ro4, rn4, rc4, pa, pn, pc, gu, rfl, rfl, hb, cd0, cd1, cd2, cd3, cd4, cd5, cd6, cd7, cd8, cd9, cd10, cd11, cd12, cd14, cd15, f_tt, f_st, f_lt, f_z, f_lg, f_s, f_o13, f_o13b, w_8_7, w_9_7, w_10_7, w_14_7⟩ hf hd
        have hf' : b1 = false := hf
        subst hf'
        have d0 : b0 = true := hd ⟨0, .data⟩ (by simp) rfl
        subst d0
        obtain rfl := cd0.out rfl
        clear hf hd
        try simp only [List.setIfInBounds_toArray, List.set_cons_zero, List.set_cons_succ]
        intro K hK
        rw [if_pos (by rfl)]
        go_simp
        exact hK.out _ _ ⟨true, true, b2, b3, b4, b5, b6, b7, b8, b9, b10, b11, b12, b13, b14, b15, .agg #[.string (bsOf NM), .slice (some ⟨g, 0, none⟩) N cg, .int .i64 (KI : Nat), .bool only], (.agg #[.string (bsOf NM), .slice (some ⟨g, 0, none⟩) N cg, .int .i64 (KI : Nat), .bool only, .slice none 0 0]), x71, x72, x73, x74, x75, x76, x68, x77, x78, x79, x15, x16, x17, co4, cc4, ro4, rn4, rc4, pa, pn, pc, gu, (by simp only [Act.put, List.setIfInBounds_toArray, List.set_cons_zero, List.set_cons_succ]), (by simp only [Act.put, List.setIfInBounds_toArray, List.set_cons_zero, List.set_cons_succ]), hb, (fun _ => rfl), (fun _ => rfl), cd2, cd3, cd4, cd5, cd6, cd7, cd8, cd9, cd10, cd11, cd12, cd14, cd15, f_tt, f_st, f_lt, f_z, f_lg, f_s, f_o13, f_o13b, w_8_7, w_9_7, w_10_7, w_14_7⟩
      · rintro L a w ⟨b0, b1, b2, b3, b4, b5, b6, b7, b8, b9, b10, b11, b12, b13, b14, b15, x69, x70, x71, x72, x73, x74, x75, x76, x68, x77, x78, x79, x15, x16, x17, co4, cc4, ro4, rn4, rc4, pa, pn, pc, gu, rfl, rfl, hb, cd0, cd1, cd2, cd3, cd4, cd5, cd6, cd7, cd8, cd9, cd10, cd11, cd12, cd14, cd15, f_tt, f_st, f_lt, f_z, f_lg, f_s, f_o13, f_o13b, w_8_7, w_9_7, w_10_7, w_14_7⟩ hf hd
        have hf' : b2 = false := hf
        subst hf'
        clear hf hd
        try simp only [List.setIfInBounds_toArray, List.set_cons_zero, List.set_cons_succ]
        intro K hK
        rw [if_pos (by rfl)]
        go_simp
        exact hK.out _ _ ⟨b0, b1, true, b3, b4, b5, b6, b7, b8, b9, b10, b11, b12, b13, b14, b15, x69, x70, (.slice (some ⟨gr, 0, none⟩) N rca), x72, x73, x74, x75, x76, x68, x77, x78, x79, x15, x16, x17, co4, cc4, ro4, rn4, rc4, pa, pn, pc, gu, (by simp only [Act.put, List.setIfInBounds_toArray, List.set_cons_zero, List.set_cons_succ]), (by simp only [Act.put, List.setIfInBounds_toArray, List.set_cons_zero, List.set_cons_succ]), hb, cd0, cd1, (fun _ => rfl), cd3, cd4, cd5, cd6, cd7, cd8, cd9, cd10, cd11, cd12, cd14, cd15, f_tt, f_st, f_lt, f_z, f_lg, f_s, f_o13, f_o13b, w_8_7, w_9_7, w_10_7, w_14_7⟩
      · rintro L a w ⟨b0, b1, b2, b3, b4, b5, b6, b7, b8, b9, b10, b11, b12, b13, b14, b15, x69, x70, x71, x72, x73, x74, x75, x76, x68, x77, x78, x79, x15, x16, x17, co4, cc4, ro4, rn4, rc4, pa, pn, pc, gu, rfl, rfl, hb, cd0, cd1, cd2, cd3, cd4, cd5, cd6, cd7, cd8, cd9, cd10, cd11, cd12, cd14, cd15, f_tt, f_st, f_lt, f_z, f_lg, f_s, f_o13, f_o13b, w_8_7, w_9_7, w_10_7, w_14_7⟩ hf hd
        have hf' : b3 = false := hf
        subst hf'
        clear hf hd
        try simp only [List.setIfInBounds_toArray, List.set_cons_zero, List.set_cons_succ]
        intro K hK
        rw [if_pos (by rfl)]
        go_simp
        exact hK.out _ _ ⟨b0, b1, b2, true, b4, b5, b6, b7, b8, b9, b10, b11, b12, b13, b14, b15, x69, x70, x71, (.pointer (some ⟨gs, 2, none⟩)), x73, x74, x75, x76, x68, x77, x78, x79, x15, x16, x17, co4, cc4, ro4, rn4, rc4, pa, pn, pc, gu, (by simp only [Act.put, List.setIfInBounds_toArray, List.set_cons_zero, List.set_cons_succ]), (by simp only [Act.put, List.setIfInBounds_toArray, List.set_cons_zero, List.set_cons_succ]), hb, cd0, cd1, cd2, (fun _ => rfl), cd4, cd5, cd6, cd7, cd8, cd9, cd10, cd11, cd12, cd14, cd15, f_tt, f_st, f_lt, f_z, f_lg, f_s, f_o13, f_o13b, w_8_7, w_9_7, w_10_7, w_14_7⟩
      · rintro L a w ⟨b0, b1, b2, b3, b4, b5, b6, b7, b8, b9, b10, b11, b12, b13, b14, b15, x69, x70, x71, x72, x73, x74, x75, x76, x68, x77, x78, x79, x15, x16, x17, co4, cc4, ro4, rn4, rc4, pa, pn, pc, gu, rfl, rfl, hb, cd0, cd1, cd2, cd3, cd4, cd5, cd6, cd7, cd8, cd9, cd10, cd11, cd12, cd14, cd15, f_tt, f_st, f_lt, f_z, f_lg, f_s, f_o13, f_o13b, w_8_7, w_9_7, w_10_7, w_14_7⟩ hf hd
        have hf' : b4 = false := hf
        subst hf'
        have d3 : b3 = true := hd ⟨3, .data⟩ (by simp) rfl
        subst d3
        obtain rfl := cd3.out rfl
        clear hf hd
        try simp only [List.setIfInBounds_toArray, List.set_cons_zero, List.set_cons_succ]
        have z0 := (hb.cell hgsB).trans z2
        intro K hK
        rw [if_pos (by rfl)]
        go_simp
        exact hK.out _ _ ⟨b0, b1, b2, true, true, b5, b6, b7, b8, b9, b10, b11, b12, b13, b14, b15, x69, x70, x71, .pointer (some ⟨gs, 2, none⟩), (.int .i64 (KI : Nat)), x74, x75, x76, x68, x77, x78, x79, x15, x16, x17, co4, cc4, ro4, rn4, rc4, pa, pn, pc, gu, (by simp only [Act.put, List.setIfInBounds_toArray, List.set_cons_zero, List.set_cons_succ]), (by simp only [Act.put, List.setIfInBounds_toArray, List.set_cons_zero, List.set_cons_succ]), hb, cd0, cd1, cd2, (fun _ => rfl), (fun _ => rfl), cd5, cd6, cd7, cd8, cd9, cd10, cd11, cd12, cd14, cd15, f_tt, f_st, f_lt, f_z, f_lg, f_s, f_o13, f_o13b, w_8_7, w_9_7, w_10_7, w_14_7⟩
      · rintro L a w ⟨b0, b1, b2, b3, b4, b5, b6, b7, b8, b9, b10, b11, b12, b13, b14, b15, x69, x70, x71, x72, x73, x74, x75, x76, x68, x77, x78, x79, x15, x16, x17, co4, cc4, ro4, rn4, rc4, pa, pn, pc, gu, rfl, rfl, hb, cd0, cd1, cd2, cd3, cd4, cd5, cd6, cd7, cd8, cd9, cd10, cd11, cd12, cd14, cd15, f_tt, f_st, f_lt, f_z, f_lg, f_s, f_o13, f_o13b, w_8_7, w_9_7, w_10_7, w_14_7⟩ hf hd
        have hf' : b5 = false := hf
        subst hf'
        have d2 : b2 = true := hd ⟨2, .data⟩ (by simp) rfl
        subst d2
        have d4 : b4 = true := hd ⟨4, .data⟩ (by simp) rfl
        subst d4
        obtain rfl := cd2.out rfl
        obtain rfl := cd4.out rfl
        clear hf hd
        try simp only [List.setIfInBounds_toArray, List.set_cons_zero, List.set_cons_succ]
        intro K hK
        rw [if_pos (by rfl)]
        go_simp
        exact hK.out _ _ ⟨b0, b1, true, b3, true, true, b6, b7, b8, b9, b10, b11, b12, b13, b14, b15, x69, x70, .slice (some ⟨gr, 0, none⟩) N rca, x72, .int .i64 (KI : Nat), (.pointer (some ⟨gr, KI * 3, none⟩)), x75, x76, x68, x77, x78, x79, x15, x16, x17, co4, cc4, ro4, rn4, rc4, pa, pn, pc, gu, (by simp only [Act.put, List.setIfInBounds_toArray, List.set_cons_zero, List.set_cons_succ]), (by simp only [Act.put, List.setIfInBounds_toArray, List.set_cons_zero, List.set_cons_succ]), hb, cd0, cd1, (fun _ => rfl), cd3, (fun _ => rfl), (fun _ => rfl), cd6, cd7, cd8, cd9, cd10, cd11, cd12, cd14, cd15, f_tt, f_st, f_lt, f_z, f_lg, f_s, f_o13, f_o13b, w_8_7, w_9_7, w_10_7, w_14_7⟩
      · rintro L a w ⟨b0, b1, b2, b3, b4, b5, b6, b7, b8, b9, b10, b11, b12, b13, b14, b15, x69, x70, x71, x72, x73, x74, x75, x76, x68, x77, x78, x79, x15, x16, x17, co4, cc4, ro4, rn4, rc4, pa, pn, pc, gu, rfl, rfl, hb, cd0, cd1, cd2, cd3, cd4, cd5, cd6, cd7, cd8, cd9, cd10, cd11, cd12, cd14, cd15, f_tt, f_st, f_lt, f_z, f_lg, f_s, f_o13, f_o13b, w_8_7, w_9_7, w_10_7, w_14_7⟩ hf hd
        have hf' : b6 = false := hf
        subst hf'
        have d5 : b5 = true := hd ⟨5, .data⟩ (by simp) rfl
        subst d5
        obtain rfl := cd5.out rfl
        clear hf hd
        try simp only [List.setIfInBounds_toArray, List.set_cons_zero, List.set_cons_succ]
        have z0 := (hb.cell hgrB).trans v0
        have z1 := (hb.cell hgrB).trans v1
        have z2 := (hb.cell hgrB).trans v2
        intro K hK
        rw [if_pos (by rfl)]
        go_simp
        exact hK.out _ _ ⟨b0, b1, b2, b3, b4, true, true, b7, b8, b9, b10, b11, b12, b13, b14, b15, x69, x70, x71, x72, x73, .pointer (some ⟨gr, KI * 3, none⟩), (.agg #[.int .i64 k, .int .i64 m, .string s]), x76, x68, x77, x78, x79, x15, x16, x17, co4, cc4, ro4, rn4, rc4, pa, pn, pc, gu, (by simp only [Act.put, List.setIfInBounds_toArray, List.set_cons_zero, List.set_cons_succ]), (by simp only [Act.put, List.setIfInBounds_toArray, List.set_cons_zero, List.set_cons_succ]), hb, cd0, cd1, cd2, cd3, cd4, (fun _ => rfl), (fun _ => rfl), cd7, cd8, cd9, cd10, cd11, cd12, cd14, cd15, f_tt, f_st, f_lt, f_z, f_lg, f_s, f_o13, f_o13b, w_8_7, w_9_7, w_10_7, w_14_7⟩
      · rintro L a w ⟨b0, b1, b2, b3, b4, b5, b6, b7, b8, b9, b10, b11, b12, b13, b14, b15, x69, x70, x71, x72, x73, x74, x75, x76, x68, x77, x78, x79, x15, x16, x17, co4, cc4, ro4, rn4, rc4, pa, pn, pc, gu, rfl, rfl, hb, cd0, cd1, cd2, cd3, cd4, cd5, cd6, cd7, cd8, cd9, cd10, cd11, cd12, cd14, cd15, f_tt, f_st, f_lt, f_z, f_lg, f_s, f_o13, f_o13b, w_8_7, w_9_7, w_10_7, w_14_7⟩ hf hd
        have hf' : b7 = false := hf
        subst hf'
        have d1 : b1 = true := hd ⟨1, .data⟩ (by simp) rfl
        subst d1
        have d6 : b6 = true := hd ⟨6, .data⟩ (by simp) rfl
        subst d6
        obtain rfl := cd1.out rfl
        obtain rfl := cd6.out rfl
        clear hf hd
        try simp only [List.setIfInBounds_toArray, List.set_cons_zero, List.set_cons_succ]
        intro K hK
        rw [if_pos (by rfl)]
        go_simp
        go_at_call 27
        refine (HTk _ hb).mono ?_
        rintro e w' ⟨co3, cc3, ro3, rn3, rc3, pa3, pn3, pc3, rfl, i1, bx⟩
        have e_8 : b8 = false := by cases hq : b8 with | false => rfl | true => exact absurd (w_8_7.out hq) (by simp)
        subst e_8
        have e_9 : b9 = false := by cases hq : b9 with | false => rfl | true => exact absurd (w_9_7.out hq) (by simp)
        subst e_9
        have e_10 : b10 = false := by cases hq : b10 with | false => rfl | true => exact absurd (w_10_7.out hq) (by simp)
        subst e_10
        have e_14 : b14 = false := by cases hq : b14 with | false => rfl | true => exact absurd (w_14_7.out hq) (by simp)
        subst e_14
        exact hK.out _ _ ⟨b0, true, b2, b3, b4, b5, true, true, false, false, false, b11, b12, b13, false, b15, x69, .agg #[.string (bsOf NM), .slice (some ⟨g, 0, none⟩) N cg, .int .i64 (KI : Nat), .bool only, .slice none 0 0], x71, x72, x73, x74, .agg #[.int .i64 k, .int .i64 m, .string s], (.tuple #[.agg #[.string (bsOf NM), .slice co3 N cc3, .int .i64 (KI : Nat), .bool only, .slice ro3 rn3 rc3], .slice pa3 pn3 pc3, .int .i64 2]), x68, x77, x78, x79, x15, x16, x17, co3, cc3, ro3, rn3, rc3, pa3, pn3, pc3, gu, (by simp only [Act.put, List.setIfInBounds_toArray, List.set_cons_zero, List.set_cons_succ]), (by simp only [Act.put, List.setIfInBounds_toArray, List.set_cons_zero, List.set_cons_succ]), hb.trans (bx.mono (Nat.le_trans hB0 hb.size)), cd0, (fun _ => rfl), cd2, cd3, cd4, cd5, (fun _ => rfl), (fun _ => rfl), (fun h => by cases h), (fun h => by cases h), (fun h => by cases h), cd11, cd12, (fun h => by cases h), cd15, (fun _ => i1.mono hb.size), (fun _ _ => fun h w'' gw => (i1.grown gw (f_lt.out h)).mono hb.size), (fun h0 => Nat.lt_of_lt_of_le (f_lt.out h0) bx.size), (fun h0 h1 => (f_z.out h0 h1).past bx), f_lg, (fun h0 => absurd (f_o13.out h0) (by simp)), (fun _ => rfl), f_o13b, (fun _ => rfl), (fun _ => rfl), (fun _ => rfl), (fun _ => rfl)⟩
      · rintro L a w ⟨b0, b1, b2, b3, b4, b5, b6, b7, b8, b9, b10, b11, b12, b13, b14, b15, x69, x70, x71, x72, x73, x74, x75, x76, x68, x77, x78, x79, x15, x16, x17, co4, cc4, ro4, rn4, rc4, pa, pn, pc, gu, rfl, rfl, hb, cd0, cd1, cd2, cd3, cd4, cd5, cd6, cd7, cd8, cd9, cd10, cd11, cd12, cd14, cd15, f_tt, f_st, f_lt, f_z, f_lg, f_s, f_o13, f_o13b, w_8_7, w_9_7, w_10_7, w_14_7⟩ hf hd
        have hf' : b8 = false := hf
        subst hf'
        have d7 : b7 = true := hd ⟨7, .data⟩ (by simp) rfl
        subst d7
        obtain rfl := cd7.out rfl
        clear hf hd
        have W_tt := f_tt.out rfl
        try simp only [List.setIfInBounds_toArray, List.set_cons_zero, List.set_cons_succ]
        intro K hK
        rw [if_pos (by rfl)]
        go_simp
        exact hK.out _ _ ⟨b0, b1, b2, b3, b4, b5, b6, true, true, b9, b10, b11, b12, b13, b14, b15, x69, x70, x71, x72, x73, x74, x75, .tuple #[.agg #[.string (bsOf NM), .slice co4 N cc4, .int .i64 (KI : Nat), .bool only, .slice ro4 rn4 rc4], .slice pa pn pc, .int .i64 2], (.tuple #[.agg #[.string (bsOf NM), .slice co4 N cc4, .int .i64 (KI : Nat), .bool only, .slice ro4 rn4 rc4], .slice pa pn pc, .int .i64 2]), x77, x78, x79, x15, x16, x17, co4, cc4, ro4, rn4, rc4, pa, pn, pc, gu, (by simp only [Act.put, List.setIfInBounds_toArray, List.set_cons_zero, List.set_cons_succ]), (by simp only [Act.put, List.setIfInBounds_toArray, List.set_cons_zero, List.set_cons_succ]), hb, cd0, cd1, cd2, cd3, cd4, cd5, cd6, (fun _ => rfl), (fun _ => rfl), cd9, cd10, cd11, cd12, cd14, cd15, f_tt, f_st, f_lt, f_z, f_lg, f_s, f_o13, f_o13b, (fun _ => rfl), (fun _ => rfl), (fun _ => rfl), (fun _ => rfl)⟩
      · rintro L a w ⟨b0, b1, b2, b3, b4, b5, b6, b7, b8, b9, b10, b11, b12, b13, b14, b15, x69, x70, x71, x72, x73, x74, x75, x76, x68, x77, x78, x79, x15, x16, x17, co4, cc4, ro4, rn4, rc4, pa, pn, pc, gu, rfl, rfl, hb, cd0, cd1, cd2, cd3, cd4, cd5, cd6, cd7, cd8, cd9, cd10, cd11, cd12, cd14, cd15, f_tt, f_st, f_lt, f_z, f_lg, f_s, f_o13, f_o13b, w_8_7, w_9_7, w_10_7, w_14_7⟩ hf hd
        have hf' : b9 = false := hf
        subst hf'
        have d8 : b8 = true := hd ⟨8, .data⟩ (by simp) rfl
        subst d8
        obtain rfl := cd8.out rfl
        clear hf hd
        try simp only [List.setIfInBounds_toArray, List.set_cons_zero, List.set_cons_succ]
        intro K hK
        rw [if_pos (by rfl)]
        go_simp
        exact hK.out _ _ ⟨b0, b1, b2, b3, b4, b5, b6, b7, true, true, b10, b11, b12, b13, b14, b15, x69, x70, x71, x72, x73, x74, x75, x76, .tuple #[.agg #[.string (bsOf NM), .slice co4 N cc4, .int .i64 (KI : Nat), .bool only, .slice ro4 rn4 rc4], .slice pa pn pc, .int .i64 2], (.agg #[.string (bsOf NM), .slice co4 N cc4, .int .i64 (KI : Nat), .bool only, .slice ro4 rn4 rc4]), x78, x79, x15, x16, x17, co4, cc4, ro4, rn4, rc4, pa, pn, pc, gu, (by simp only [Act.put, List.setIfInBounds_toArray, List.set_cons_zero, List.set_cons_succ]), (by simp only [Act.put, List.setIfInBounds_toArray, List.set_cons_zero, List.set_cons_succ]), hb, cd0, cd1, cd2, cd3, cd4, cd5, cd6, cd7, (fun _ => rfl), (fun _ => rfl), cd10, cd11, cd12, cd14, cd15, f_tt, f_st, f_lt, f_z, f_lg, f_s, f_o13, f_o13b, w_8_7, (fun _ => w_8_7.out rfl), w_10_7, w_14_7⟩
      · rintro L a w ⟨b0, b1, b2, b3, b4, b5, b6, b7, b8, b9, b10, b11, b12, b13, b14, b15, x69, x70, x71, x72, x73, x74, x75, x76, x68, x77, x78, x79, x15, x16, x17, co4, cc4, ro4, rn4, rc4, pa, pn, pc, gu, rfl, rfl, hb, cd0, cd1, cd2, cd3, cd4, cd5, cd6, cd7, cd8, cd9, cd10, cd11, cd12, cd14, cd15, f_tt, f_st, f_lt, f_z, f_lg, f_s, f_o13, f_o13b, w_8_7, w_9_7, w_10_7, w_14_7⟩ hf hd
        have hf' : b10 = false := hf
        subst hf'
        have d8 : b8 = true := hd ⟨8, .data⟩ (by simp) rfl
        subst d8
        obtain rfl := cd8.out rfl
        clear hf hd
        try simp only [List.setIfInBounds_toArray, List.set_cons_zero, List.set_cons_succ]
        intro K hK
        rw [if_pos (by rfl)]
        go_simp
        exact hK.out _ _ ⟨b0, b1, b2, b3, b4, b5, b6, b7, true, b9, true, b11, b12, b13, b14, b15, x69, x70, x71, x72, x73, x74, x75, x76, .tuple #[.agg #[.string (bsOf NM), .slice co4 N cc4, .int .i64 (KI : Nat), .bool only, .slice ro4 rn4 rc4], .slice pa pn pc, .int .i64 2], x77, (.slice pa pn pc), x79, x15, x16, x17, co4, cc4, ro4, rn4, rc4, pa, pn, pc, gu, (by simp only [Act.put, List.setIfInBounds_toArray, List.set_cons_zero, List.set_cons_succ]), (by simp only [Act.put, List.setIfInBounds_toArray, List.set_cons_zero, List.set_cons_succ]), hb, cd0, cd1, cd2, cd3, cd4, cd5, cd6, cd7, (fun _ => rfl), cd9, (fun _ => rfl), cd11, cd12, cd14, cd15, f_tt, f_st, f_lt, f_z, f_lg, f_s, f_o13, f_o13b, w_8_7, w_9_7, (fun _ => w_8_7.out rfl), w_14_7⟩
      · rintro L a w ⟨b0, b1, b2, b3, b4, b5, b6, b7, b8, b9, b10, b11, b12, b13, b14, b15, x69, x70, x71, x72, x73, x74, x75, x76, x68, x77, x78, x79, x15, x16, x17, co4, cc4, ro4, rn4, rc4, pa, pn, pc, gu, rfl, rfl, hb, cd0, cd1, cd2, cd3, cd4, cd5, cd6, cd7, cd8, cd9, cd10, cd11, cd12, cd14, cd15, f_tt, f_st, f_lt, f_z, f_lg, f_s, f_o13, f_o13b, w_8_7, w_9_7, w_10_7, w_14_7⟩ hf hd
        have hf' : b11 = false := hf
        subst hf'
        have d8 : b8 = true := hd ⟨8, .data⟩ (by simp) rfl
        subst d8
        obtain rfl := cd8.out rfl
        clear hf hd
        try simp only [List.setIfInBounds_toArray, List.set_cons_zero, List.set_cons_succ]
        intro K hK
        rw [if_pos (by rfl)]
        go_simp
        exact hK.out _ _ ⟨b0, b1, b2, b3, b4, b5, b6, b7, true, b9, b10, true, b12, b13, b14, b15, x69, x70, x71, x72, x73, x74, x75, x76, .tuple #[.agg #[.string (bsOf NM), .slice co4 N cc4, .int .i64 (KI : Nat), .bool only, .slice ro4 rn4 rc4], .slice pa pn pc, .int .i64 2], x77, x78, (.int .i64 2), x15, x16, x17, co4, cc4, ro4, rn4, rc4, pa, pn, pc, gu, (by simp only [Act.put, List.setIfInBounds_toArray, List.set_cons_zero, List.set_cons_succ]), (by simp only [Act.put, List.setIfInBounds_toArray, List.set_cons_zero, List.set_cons_succ]), hb, cd0, cd1, cd2, cd3, cd4, cd5, cd6, cd7, (fun _ => rfl), cd9, cd10, (fun _ => rfl), cd12, cd14, cd15, f_tt, f_st, f_lt, f_z, f_lg, f_s, f_o13, f_o13b, w_8_7, w_9_7, w_10_7, w_14_7⟩
      · rintro L a w ⟨b0, b1, b2, b3, b4, b5, b6, b7, b8, b9, b10, b11, b12, b13, b14, b15, x69, x70, x71, x72, x73, x74, x75, x76, x68, x77, x78, x79, x15, x16, x17, co4, cc4, ro4, rn4, rc4, pa, pn, pc, gu, rfl, rfl, hb, cd0, cd1, cd2, cd3, cd4, cd5, cd6, cd7, cd8, cd9, cd10, cd11, cd12, cd14, cd15, f_tt, f_st, f_lt, f_z, f_lg, f_s, f_o13, f_o13b, w_8_7, w_9_7, w_10_7, w_14_7⟩ hf hd
        have hf' : b12 = false := hf
        subst hf'
        clear hf hd
        try simp only [List.setIfInBounds_toArray, List.set_cons_zero, List.set_cons_succ]
        intro K hK
        rw [if_pos (by rfl)]
        go_simp
        have bx : Below w.heap.size w (w.alloc (.cells #[.string ⟨#[]⟩, .slice none 0 0, .int .i64 0, .bool false, .slice none 0 0] 47)) := (Below.refl _ _).alloc (Nat.le_refl _) _
        have i2 : Bk (w.alloc (.cells #[.string ⟨#[]⟩, .slice none 0 0, .int .i64 0, .bool false, .slice none 0 0] 47)) w.heap.size (tbC [] none 0 0 0 false none 0 0) 47 := Bk.new w _ _
        exact hK.out _ _ ⟨b0, b1, b2, b3, b4, b5, b6, b7, b8, b9, b10, b11, true, b13, b14, b15, x69, x70, x71, x72, x73, x74, x75, x76, x68, x77, x78, x79, (.pointer (some ⟨(w.heap.size), 0, none⟩)), x16, x17, co4, cc4, ro4, rn4, rc4, pa, pn, pc, w.heap.size, (by simp only [Act.put, List.setIfInBounds_toArray, List.set_cons_zero, List.set_cons_succ]), (by simp only [Act.put, List.setIfInBounds_toArray, List.set_cons_zero, List.set_cons_succ]), hb.trans (bx.mono (Nat.le_trans hB0 hb.size)), cd0, cd1, cd2, cd3, cd4, cd5, cd6, cd7, cd8, cd9, cd10, cd11, (fun _ => rfl), cd14, cd15, (fun h0 => (f_tt.out h0).past bx), (fun h0 _ _ w'' gw => (f_tt.out h0).past (below_new gw)), (fun _ => by rw [World.size_alloc]; omega), (fun _ _ => i2), (fun _ => hb.size), (fun h0 => absurd (f_o13b.out h0) (by simp)), f_o13, (fun _ => rfl), w_8_7, w_9_7, w_10_7, w_14_7⟩
      · rintro L a w ⟨b0, b1, b2, b3, b4, b5, b6, b7, b8, b9, b10, b11, b12, b13, b14, b15, x69, x70, x71, x72, x73, x74, x75, x76, x68, x77, x78, x79, x15, x16, x17, co4, cc4, ro4, rn4, rc4, pa, pn, pc, gu, rfl, rfl, hb, cd0, cd1, cd2, cd3, cd4, cd5, cd6, cd7, cd8, cd9, cd10, cd11, cd12, cd14, cd15, f_tt, f_st, f_lt, f_z, f_lg, f_s, f_o13, f_o13b, w_8_7, w_9_7, w_10_7, w_14_7⟩ hf hd
        have hf' : b13 = false := hf
        subst hf'
        have d12 : b12 = true := hd ⟨12, .data⟩ (by simp) rfl
        subst d12
        have d9 : b9 = true := hd ⟨9, .data⟩ (by simp) rfl
        subst d9
        have d7 : b7 = true := hd ⟨7, .chain⟩ (by simp) rfl
        subst d7
        have d0 : b0 = true := hd ⟨0, .phase⟩ (by simp) rfl
        subst d0
        have d1 : b1 = true := hd ⟨1, .phase⟩ (by simp) rfl
        subst d1
        have d2 : b2 = true := hd ⟨2, .phase⟩ (by simp) rfl
        subst d2
        have d3 : b3 = true := hd ⟨3, .phase⟩ (by simp) rfl
        subst d3
        have d4 : b4 = true := hd ⟨4, .phase⟩ (by simp) rfl
        subst d4
        have d5 : b5 = true := hd ⟨5, .phase⟩ (by simp) rfl
        subst d5
        have d6 : b6 = true := hd ⟨6, .phase⟩ (by simp) rfl
        subst d6
        have d8 : b8 = true := hd ⟨8, .phase⟩ (by simp) rfl
        subst d8
        obtain rfl := cd12.out rfl
        obtain rfl := cd9.out rfl
        obtain rfl := cd7.out rfl
        obtain rfl := cd0.out rfl
        obtain rfl := cd1.out rfl
        obtain rfl := cd2.out rfl
        obtain rfl := cd3.out rfl
        obtain rfl := cd4.out rfl
        obtain rfl := cd5.out rfl
        obtain rfl := cd6.out rfl
        obtain rfl := cd8.out rfl
        clear hf hd
        have W_tt := f_tt.out rfl
        have W_st := f_st.out rfl rfl
        have W_lt := f_lt.out rfl
        have W_z := f_z.out rfl rfl
        have W_lg := f_lg.out rfl
        try simp only [List.setIfInBounds_toArray, List.set_cons_zero, List.set_cons_succ]
        intro K hK
        rw [if_pos (by rfl)]
        refine wp_store_blkT 47 _ _ rfl gu _ (tbC NM co4 N cc4 (KI : Nat) only ro4 rn4 rc4) rfl rfl _ (Lib.hid W_z) 5 szTb (tbC_size ..) (tbC_size ..) (tbC_all ..) fun w2 h8 g8 => ?_
        have hb2 := hb.grown g8 (Nat.le_trans hB0 hb.size) (fun z hz => by cases hz; exact Nat.le_trans hB0 W_lg)
        exact hK.out _ _ ⟨true, true, true, true, true, true, true, true, true, true, b10, b11, true, true, b14, b15, .agg #[.string (bsOf NM), .slice (some ⟨g, 0, none⟩) N cg, .int .i64 (KI : Nat), .bool only], .agg #[.string (bsOf NM), .slice (some ⟨g, 0, none⟩) N cg, .int .i64 (KI : Nat), .bool only, .slice none 0 0], .slice (some ⟨gr, 0, none⟩) N rca, .pointer (some ⟨gs, 2, none⟩), .int .i64 (KI : Nat), .pointer (some ⟨gr, KI * 3, none⟩), .agg #[.int .i64 k, .int .i64 m, .string s], .tuple #[.agg #[.string (bsOf NM), .slice co4 N cc4, .int .i64 (KI : Nat), .bool only, .slice ro4 rn4 rc4], .slice pa pn pc, .int .i64 2], .tuple #[.agg #[.string (bsOf NM), .slice co4 N cc4, .int .i64 (KI : Nat), .bool only, .slice ro4 rn4 rc4], .slice pa pn pc, .int .i64 2], .agg #[.string (bsOf NM), .slice co4 N cc4, .int .i64 (KI : Nat), .bool only, .slice ro4 rn4 rc4], x78, x79, .pointer (some ⟨gu, 0, none⟩), x16, x17, co4, cc4, ro4, rn4, rc4, pa, pn, pc, gu, (by simp only [Act.put, List.setIfInBounds_toArray, List.set_cons_zero, List.set_cons_succ]), (by simp only [Act.put, List.setIfInBounds_toArray, List.set_cons_zero, List.set_cons_succ]), hb2, (fun _ => rfl), (fun _ => rfl), (fun _ => rfl), (fun _ => rfl), (fun _ => rfl), (fun _ => rfl), (fun _ => rfl), (fun _ => rfl), (fun _ => rfl), (fun _ => rfl), cd10, cd11, (fun _ => rfl), cd14, cd15, (fun h0 => (f_st.out h0 rfl rfl) _ g8), (fun _ h => by cases h), (fun h0 => Nat.lt_of_lt_of_le ((f_lt.out h0)) g8.size), (fun _ h => by cases h), f_lg, (fun _ => h8.out), (fun _ => rfl), (fun _ => rfl), (fun _ => rfl), (fun _ => rfl), (fun _ => rfl), (fun _ => rfl)⟩
      · rintro L a w ⟨b0, b1, b2, b3, b4, b5, b6, b7, b8, b9, b10, b11, b12, b13, b14, b15, x69, x70, x71, x72, x73, x74, x75, x76, x68, x77, x78, x79, x15, x16, x17, co4, cc4, ro4, rn4, rc4, pa, pn, pc, gu, rfl, rfl, hb, cd0, cd1, cd2, cd3, cd4, cd5, cd6, cd7, cd8, cd9, cd10, cd11, cd12, cd14, cd15, f_tt, f_st, f_lt, f_z, f_lg, f_s, f_o13, f_o13b, w_8_7, w_9_7, w_10_7, w_14_7⟩ hf hd
        have hf' : b14 = false := hf
        subst hf'
        have d10 : b10 = true := hd ⟨10, .data⟩ (by simp) rfl
        subst d10
        have d13 : b13 = true := hd ⟨13, .chain⟩ (by simp) rfl
        subst d13
        have d0 : b0 = true := hd ⟨0, .phase⟩ (by simp) rfl
        subst d0
        have d1 : b1 = true := hd ⟨1, .phase⟩ (by simp) rfl
        subst d1
        have d2 : b2 = true := hd ⟨2, .phase⟩ (by simp) rfl
        subst d2
        have d3 : b3 = true := hd ⟨3, .phase⟩ (by simp) rfl
        subst d3
        have d4 : b4 = true := hd ⟨4, .phase⟩ (by simp) rfl
        subst d4
        have d5 : b5 = true := hd ⟨5, .phase⟩ (by simp) rfl
        subst d5
        have d6 : b6 = true := hd ⟨6, .phase⟩ (by simp) rfl
        subst d6
        have d7 : b7 = true := hd ⟨7, .phase⟩ (by simp) rfl
        subst d7
        have d8 : b8 = true := hd ⟨8, .phase⟩ (by simp) rfl
        subst d8
        have d9 : b9 = true := hd ⟨9, .phase⟩ (by simp) rfl
        subst d9
        have d12 : b12 = true := hd ⟨12, .phase⟩ (by simp) rfl
        subst d12
        obtain rfl := cd10.out rfl
        obtain rfl := cd0.out rfl
        obtain rfl := cd1.out rfl
        obtain rfl := cd2.out rfl
        obtain rfl := cd3.out rfl
        obtain rfl := cd4.out rfl
        obtain rfl := cd5.out rfl
        obtain rfl := cd6.out rfl
        obtain rfl := cd7.out rfl
        obtain rfl := cd8.out rfl
        obtain rfl := cd9.out rfl
        obtain rfl := cd12.out rfl
        clear hf hd
        have W_tt := f_tt.out rfl
        have W_lt := f_lt.out rfl
        have W_lg := f_lg.out rfl
        have W_s := f_s.out rfl
        have W_o13 := f_o13.out rfl
        have W_o13b := f_o13b.out rfl
        try simp only [List.setIfInBounds_toArray, List.set_cons_zero, List.set_cons_succ]
        intro K hK
        rw [if_pos (by rfl)]
        go_simp
        exact hK.out _ _ ⟨true, true, true, true, true, true, true, true, true, true, true, b11, true, true, true, b15, .agg #[.string (bsOf NM), .slice (some ⟨g, 0, none⟩) N cg, .int .i64 (KI : Nat), .bool only], .agg #[.string (bsOf NM), .slice (some ⟨g, 0, none⟩) N cg, .int .i64 (KI : Nat), .bool only, .slice none 0 0], .slice (some ⟨gr, 0, none⟩) N rca, .pointer (some ⟨gs, 2, none⟩), .int .i64 (KI : Nat), .pointer (some ⟨gr, KI * 3, none⟩), .agg #[.int .i64 k, .int .i64 m, .string s], .tuple #[.agg #[.string (bsOf NM), .slice co4 N cc4, .int .i64 (KI : Nat), .bool only, .slice ro4 rn4 rc4], .slice pa pn pc, .int .i64 2], .tuple #[.agg #[.string (bsOf NM), .slice co4 N cc4, .int .i64 (KI : Nat), .bool only, .slice ro4 rn4 rc4], .slice pa pn pc, .int .i64 2], .agg #[.string (bsOf NM), .slice co4 N cc4, .int .i64 (KI : Nat), .bool only, .slice ro4 rn4 rc4], .slice pa pn pc, x79, .pointer (some ⟨gu, 0, none⟩), (.slice pa pn pc), x17, co4, cc4, ro4, rn4, rc4, pa, pn, pc, gu, (by simp only [Act.put, List.setIfInBounds_toArray, List.set_cons_zero, List.set_cons_succ]), (by simp only [Act.put, List.setIfInBounds_toArray, List.set_cons_zero, List.set_cons_succ]), hb, (fun _ => rfl), (fun _ => rfl), (fun _ => rfl), (fun _ => rfl), (fun _ => rfl), (fun _ => rfl), (fun _ => rfl), (fun _ => rfl), (fun _ => rfl), (fun _ => rfl), (fun _ => rfl), cd11, (fun _ => rfl), (fun _ => rfl), cd15, f_tt, (fun _ h => by cases h), f_lt, (fun _ h => by cases h), f_lg, f_s, f_o13, f_o13b, (fun _ => rfl), (fun _ => rfl), (fun _ => rfl), (fun _ => rfl)⟩
      · rintro L a w ⟨b0, b1, b2, b3, b4, b5, b6, b7, b8, b9, b10, b11, b12, b13, b14, b15, x69, x70, x71, x72, x73, x74, x75, x76, x68, x77, x78, x79, x15, x16, x17, co4, cc4, ro4, rn4, rc4, pa, pn, pc, gu, rfl, rfl, hb, cd0, cd1, cd2, cd3, cd4, cd5, cd6, cd7, cd8, cd9, cd10, cd11, cd12, cd14, cd15, f_tt, f_st, f_lt, f_z, f_lg, f_s, f_o13, f_o13b, w_8_7, w_9_7, w_10_7, w_14_7⟩ hf hd
        have hf' : b15 = false := hf
        subst hf'
        have d11 : b11 = true := hd ⟨11, .data⟩ (by simp) rfl
        subst d11
        have d14 : b14 = true := hd ⟨14, .chain⟩ (by simp) rfl
        subst d14
        have d0 : b0 = true := hd ⟨0, .phase⟩ (by simp) rfl
        subst d0
        have d1 : b1 = true := hd ⟨1, .phase⟩ (by simp) rfl
        subst d1
        have d2 : b2 = true := hd ⟨2, .phase⟩ (by simp) rfl
        subst d2
        have d3 : b3 = true := hd ⟨3, .phase⟩ (by simp) rfl
        subst d3
        have d4 : b4 = true := hd ⟨4, .phase⟩ (by simp) rfl
        subst d4
        have d5 : b5 = true := hd ⟨5, .phase⟩ (by simp) rfl
        subst d5
        have d6 : b6 = true := hd ⟨6, .phase⟩ (by simp) rfl
        subst d6
        have d7 : b7 = true := hd ⟨7, .phase⟩ (by simp) rfl
        subst d7
        have d8 : b8 = true := hd ⟨8, .phase⟩ (by simp) rfl
        subst d8
        have d9 : b9 = true := hd ⟨9, .phase⟩ (by simp) rfl
        subst d9
        have d10 : b10 = true := hd ⟨10, .phase⟩ (by simp) rfl
        subst d10
        have d12 : b12 = true := hd ⟨12, .phase⟩ (by simp) rfl
        subst d12
        have d13 : b13 = true := hd ⟨13, .phase⟩ (by simp) rfl
        subst d13
        obtain rfl := cd11.out rfl
        obtain rfl := cd14.out rfl
        obtain rfl := cd0.out rfl
        obtain rfl := cd1.out rfl
        obtain rfl := cd2.out rfl
        obtain rfl := cd3.out rfl
        obtain rfl := cd4.out rfl
        obtain rfl := cd5.out rfl
        obtain rfl := cd6.out rfl
        obtain rfl := cd7.out rfl
        obtain rfl := cd8.out rfl
        obtain rfl := cd9.out rfl
        obtain rfl := cd10.out rfl
        obtain rfl := cd12.out rfl
        clear hf hd
        have W_tt := f_tt.out rfl
        have W_lt := f_lt.out rfl
        have W_lg := f_lg.out rfl
        have W_s := f_s.out rfl
        have W_o13 := f_o13.out rfl
        have W_o13b := f_o13b.out rfl
        try simp only [List.setIfInBounds_toArray, List.set_cons_zero, List.set_cons_succ]
        intro K hK
        rw [if_pos (by rfl)]
        go_simp
        exact hK.out _ _ ⟨true, true, true, true, true, true, true, true, true, true, true, true, true, true, true, true, .agg #[.string (bsOf NM), .slice (some ⟨g, 0, none⟩) N cg, .int .i64 (KI : Nat), .bool only], .agg #[.string (bsOf NM), .slice (some ⟨g, 0, none⟩) N cg, .int .i64 (KI : Nat), .bool only, .slice none 0 0], .slice (some ⟨gr, 0, none⟩) N rca, .pointer (some ⟨gs, 2, none⟩), .int .i64 (KI : Nat), .pointer (some ⟨gr, KI * 3, none⟩), .agg #[.int .i64 k, .int .i64 m, .string s], .tuple #[.agg #[.string (bsOf NM), .slice co4 N cc4, .int .i64 (KI : Nat), .bool only, .slice ro4 rn4 rc4], .slice pa pn pc, .int .i64 2], .tuple #[.agg #[.string (bsOf NM), .slice co4 N cc4, .int .i64 (KI : Nat), .bool only, .slice ro4 rn4 rc4], .slice pa pn pc, .int .i64 2], .agg #[.string (bsOf NM), .slice co4 N cc4, .int .i64 (KI : Nat), .bool only, .slice ro4 rn4 rc4], .slice pa pn pc, .int .i64 2, .pointer (some ⟨gu, 0, none⟩), .slice pa pn pc, (.int .i64 2), co4, cc4, ro4, rn4, rc4, pa, pn, pc, gu, (by simp only [Act.put, List.setIfInBounds_toArray, List.set_cons_zero, List.set_cons_succ]), (by simp only [Act.put, List.setIfInBounds_toArray, List.set_cons_zero, List.set_cons_succ]), hb, (fun _ => rfl), (fun _ => rfl), (fun _ => rfl), (fun _ => rfl), (fun _ => rfl), (fun _ => rfl), (fun _ => rfl), (fun _ => rfl), (fun _ => rfl), (fun _ => rfl), (fun _ => rfl), (fun _ => rfl), (fun _ => rfl), (fun _ => rfl), (fun _ => rfl), f_tt, (fun _ h => by cases h), f_lt, (fun _ h => by cases h), f_lg, f_s, f_o13, f_o13b, (fun _ => rfl), (fun _ => rfl), (fun _ => rfl), (fun _ => rfl)⟩
    · rintro act V3 ⟨b0, b1, b2, b3, b4, b5, b6, b7, b8, b9, b10, b11, b12, b13, b14, b15, x69, x70, x71, x72, x73, x74, x75, x76, x68, x77, x78, x79, x15, x16, x17, co4, cc4, ro4, rn4, rc4, pa, pn, pc, gu, hL, rfl, hb, cd0, cd1, cd2, cd3, cd4, cd5, cd6, cd7, cd8, cd9, cd10, cd11, cd12, cd14, cd15, f_tt, f_st, f_lt, f_z, f_lg, f_s, f_o13, f_o13b, w_8_7, w_9_7, w_10_7, w_14_7⟩
      have hL' : [true, true, true, true, true, true, true, true, true, true, true, true, true, true, true, true] = [b0, b1, b2, b3, b4, b5, b6, b7, b8, b9, b10, b11, b12, b13, b14, b15] := congrArg Array.toList hL
      simp only [List.cons.injEq, and_true] at hL'
      obtain ⟨rfl, rfl, rfl, rfl, rfl, rfl, rfl, rfl, rfl, rfl, rfl, rfl, rfl, rfl, rfl, rfl⟩ := hL'
      obtain rfl := cd0.out rfl
      obtain rfl := cd1.out rfl
      obtain rfl := cd2.out rfl
      obtain rfl := cd3.out rfl
      obtain rfl := cd4.out rfl
      obtain rfl := cd5.out rfl
      obtain rfl := cd6.out rfl
      obtain rfl := cd7.out rfl
      obtain rfl := cd8.out rfl
      obtain rfl := cd9.out rfl
      obtain rfl := cd10.out rfl
      obtain rfl := cd11.out rfl
      obtain rfl := cd12.out rfl
      obtain rfl := cd14.out rfl
      obtain rfl := cd15.out rfl
      have W_tt := f_tt.out rfl
      have W_lt := f_lt.out rfl
      have W_lg := f_lg.out rfl
      have W_s := f_s.out rfl
      have W_o13 := f_o13.out rfl
      have W_o13b := f_o13b.out rfl
      clear hL f_tt f_st f_lt f_z f_lg f_s f_o13 f_o13b cd0 cd1 cd2 cd3 cd4 cd5 cd6 cd7 cd8 cd9 cd10 cd11 cd12 cd14 cd15 w_8_7 w_9_7 w_10_7 w_14_7
      simp only [List.setIfInBounds_toArray, List.set_cons_zero, List.set_cons_succ]
      have bV3 : Below V2.heap.size V2 V3 := (Below.refl _ _).drew.trans hb
      have hT3 := hT2.past bV3
      have hU3 := hU2.past bV3
      have BV3 := BV2.trans (bV3.mono hpV2)
      obtain rfl : 0 = rn4 := W_tt.rows.len
      obtain ⟨t0, t1, t2, t3, t4⟩ := tb_cells hT3
      obtain ⟨u0, u1, u2, u3, u4⟩ := tb_cells hU3
      obtain ⟨y0, y1, y2, y3, y4⟩ := tb_cells W_s
      have HSm := tsame_any V3 NM F N (KI : Nat) only 0 0 co3 cc3 ro3 1 rc3 [fitRow F nn] co1 cc1 ro1 1 rc1 [fitRow F nn] (i3.past bV3) (iT2.past bV3) (by omega)
      rw [(eqRs_iff _ _).2 rfl] at HSm
      unfold tbV at HSm
      clear hb W_lt W_lg W_o13 W_o13b
      go_wp2_with (go_at_call 26; refine HSm.mono ?_; rintro en w9 ⟨rfl, b9⟩; have y5 : w9.cell? ⟨gu, 4, none⟩ = some (.slice ro4 0 rc4) := (Bk.past W_s b9).c rfl)
      go_ret
      exact ⟨rfl, by rw [HP.out]; exact BV3.trans (b9.mono (Nat.le_trans hpV2 bV3.size))⟩
  · have hkk : KI < N := hKl
    obtain ⟨aa, ab, ac, a0, a1, a2, f0, f1, f2⟩ := own_cells_v oX0 KI hkk
    have ki1 : (KI : Int) < (N : Int) := by omega
    go_upto_region 19 with fail
    have oX := own_set_v oX0 KI hkk ⟨0, 0, ⟨#[]⟩⟩
    have BVx : Below V0.heap.size V0 (((V.setCell ⟨gx, KI * 3, none⟩ (.int .i64 0)).setCell ⟨gx, KI * 3 + 1, none⟩ (.int .i64 0)).setCell ⟨gx, KI * 3 + 2, none⟩ (.string ⟨#[]⟩)) := ((bV0.setCell (p := ⟨gx, KI * 3, none⟩) hgx _).setCell (p := ⟨gx, KI * 3 + 1, none⟩) hgx _).setCell (p := ⟨gx, KI * 3 + 2, none⟩) hgx _
    dsimp only at oX
    generalize ((V.setCell ⟨gx, KI * 3, none⟩ (.int .i64 0)).setCell ⟨gx, KI * 3 + 1, none⟩ (.int .i64 0)).setCell ⟨gx, KI * 3 + 2, none⟩ (.string ⟨#[]⟩) = V1 at oX BVx ⊢
    have XS1 := XS0.past BVx
    have iG1 := iG0.past BVx
    have hT1 := hT0.past BVx
    have iT1 := iT0.past BVx
    have oR1 := oR0.past BVx
    have BV1 := BV0.trans (BVx.mono hpV0)
    have hpV1 := Nat.le_trans hpV0 BVx.size
    clear t0 t1 t2 t3 t4 z0 z1 z2 z3
    obtain ⟨z0, z1, z2, z3⟩ := sc_cells XS1
    obtain ⟨t0, t1, t2, t3, t4⟩ := tb_cells hT1
    have hE2 : putE F KI ((fitRow F nn).set KI ⟨0, 0, ⟨#[]⟩⟩) [fitRow F nn] = 13 := putE_bad (fitsE_set F hFk KI nn xk hxk _ 13 (fitE_null xk hxn) (by decide)) (by decide)
    have HPt2 := put_any V1 NM co1 N cc1 KI only ro1 1 rc1 F (by omega) (by omega) 0 [fitRow F nn] iT1 (some ⟨gx, 0, none⟩) N cx ((fitRow F nn).set KI ⟨0, 0, ⟨#[]⟩⟩) oX.isR (List.pairwise_singleton _ _) (by omega) (fun y hy => by obtain rfl := List.mem_singleton.1 hy; rw [fitRow_len, hFl]; omega) (by omega)
    rw [hE2, putR_bad hE2 (by decide)] at HPt2
    unfold tbV at HPt2
    go_upto_region 20 with (go_at_call 24; refine HPt2.mono ?_; rintro e w7 ⟨co3, cc3, ro3, rn3, rc3, rfl, i2, b7⟩; unfold tbV)
    obtain rfl : 1 = rn3 := i2.rows.len
    have bV2 : Below V1.heap.size V1 (w7.alloc (.cells #[.string (bsOf NM), .slice co3 N cc3, .int .i64 (KI : Nat), .bool only, .slice ro3 1 rc3] 47)) := b7.alloc b7.size _
    have hU2 : Bk (w7.alloc (.cells #[.string (bsOf NM), .slice co3 N cc3, .int .i64 (KI : Nat), .bool only, .slice ro3 1 rc3] 47)) w7.heap.size (tbC NM co3 N cc3 (KI : Nat) only ro3 1 rc3) 47 := Bk.new w7 _ _
    have i3 := (i2.past ((Below.refl w7.heap.size w7).alloc (Nat.le_refl _) (.cells #[.string (bsOf NM), .slice co3 N cc3, .int .i64 (KI : Nat), .bool only, .slice ro3 1 rc3] 47))).mono (Nat.zero_le _)
    generalize w7.alloc (.cells #[.string (bsOf NM), .slice co3 N cc3, .int .i64 (KI : Nat), .bool only, .slice ro3 1 rc3] 47) = V2 at bV2 hU2 i3 ⊢
    obtain ⟨gU, hgU⟩ : ∃ gU, w7.heap.size = gU := ⟨_, rfl⟩
    rw [hgU] at hU2
    simp only [hgU]
    have XS2 := XS1.past bV2
    have iG2 := iG1.past bV2
    have hT2 := hT1.past bV2
    have iT2 := iT1.past bV2
    have oR2 := oR1.past bV2
    have BV2 := BV1.trans (bV2.mono hpV1)
    have hpV2 := Nat.le_trans hpV1 bV2.size
    clear hgU b7 i2 t0 t1 t2 t3 t4 z0 z1 z2 z3 HPt2
    obtain ⟨z0, z1, z2, z3⟩ := sc_cells XS2
    obtain ⟨v0, v1, v2⟩ := own_vcells oR2 KI _ hrow
    rw [hvv] at v0 v1 v2
    have HTk0 := fun (w' : World) (hb : Below V2.heap.size V2.drew w') => take_u w' NM (some ⟨g, 0, none⟩) N cg KI only none 0 0 F (by omega) (by omega) 0 [] ⟨iG2.drew.past hb, IsRR.nil _ 0, fun _ _ => Nat.zero_le _⟩ vv0 (Srt.nil KI) (by omega) (fun y hy => by cases hy)
    have eE : takeE KI vv0 [] = 2 := rfl
    have eR : takeR KI vv0 [] = [] := rfl
    simp only [eE, eR] at HTk0
    obtain ⟨k, m, s⟩ := vv0
    unfold tbV at HTk0
    simp only at v0 v1 v2 HTk0
    have HTk := HTk0
    have hgsB := XS2.lt
    have hgrB := oR2.lt
    have hB0 : V2.heap.size ≤ V2.heap.size := Nat.le_refl _
    clear HTk0 hvv eE eR
    refine region_inv (TRef20 V2.heap.size gs NM g N cg KI only gr rca k m s F) (by kernel_rfl) (by kernel_rfl) ?_ ?_ ?_
    · exact ⟨false, false, false, false, false, false, false, false, false, false, false, false, false, false, false, false, undef, undef, undef, undef, undef, undef, undef, undef, undef, undef, undef, undef, undef, undef, undef, none, 0, none, 0, 0, none, 0, 0, 0, rfl, (by simp only [Act.put, List.setIfInBounds_toArray, List.set_cons_zero, List.set_cons_succ]), Below.refl _ _, (fun h => by cases h), (fun h => by cases h), (fun h => by cases h), (fun h => by cases h), (fun h => by cases h), (fun h => by cases h), (fun h => by cases h), (fun h => by cases h), (fun h => by cases h), (fun h => by cases h), (fun h => by cases h), (fun h => by cases h), (fun h => by cases h), (fun h => by cases h), (fun h => by cases h), (fun h => by cases h), (fun h => by cases h), (fun h => by cases h), (fun h => by cases h), (fun h => by cases h), (fun h => by cases h), (fun h => by cases h), (fun h => by cases h), (fun h => by cases h), (fun h => by cases h), (fun h => by cases h), (fun h => by cases h)⟩
    · refine ⟨?_, ?_, ?_, ?_, ?_, ?_, ?_, ?_, ?_, ?_, ?_, ?_, ?_, ?_, ?_, ?_, trivial⟩
      · rintro L a w ⟨b0, b1, b2, b3, b4, b5, b6, b7, b8, b9, b10, b11, b12, b13, b14, b15, x69, x70, x71, x72, x73, x74, x75, x76, x68, x77, x78, x79, x15, x16, x17, co4, cc4, ro4, rn4, rc4, pa, pn, pc, gu, rfl, rfl, hb, cd0, cd1, cd2, cd3, cd4, cd5, cd6, cd7, cd8, cd9, cd10, cd11, cd12, cd14, cd15, f_tt, f_st, f_lt, f_z, f_lg, f_s, f_o13, f_o13b, w_8_7, w_9_7, w_10_7, w_14_7⟩ hf hd
        have hf' : b0 = false := hf
        subst hf'
        clear hf hd
        try simp only [List.setIfInBounds_toArray, List.set_cons_zero, List.set_cons_succ]
        have z0 := (hb.cell hgsB).trans z0
        have z1 := (hb.cell hgsB).trans z1
        have z2 := (hb.cell hgsB).trans z2
        have z3 := (hb.cell hgsB).trans z3
        intro K hK
        rw [if_pos (by rfl)]
        go_simp
        exact hK.out _ _ ⟨true, b1, b2, b3, b4, b5, b6, b7, b8, b9, b10, b11, b12, b13, b14, b15, (.agg #[.string (bsOf NM), .slice (some ⟨g, 0, none⟩) N cg, .int .i64 (KI : Nat), .bool only]), x70, x71, x72, x73, x74, x75, x76, x68, x77, x78, x79, x15, x16, x17, co4, cc4, ro4, rn4, rc4, pa, pn, pc, gu, (by simp only [Act.put, List.setIfInBounds_toArray, List.set_cons_zero, List.set_cons_succ]), (by simp only [Act.put, List.setIfInBounds_toArray, List.set_cons_zero, List.set_cons_succ]), hb, (fun _ => rfl), cd1, cd2, cd3, cd4, cd5, cd6, cd7, cd8, cd9, cd10, cd11, cd12, cd14, cd15, f_tt, f_st, f_lt, f_z, f_lg, f_s, f_o13, f_o13b, w_8_7, w_9_7, w_10_7, w_14_7⟩
      · rintro L a w ⟨b0, b1, b2, b3, b4, b5, b6, b7, b8, b9, b10, b11, b12, b13, b14, b15, x69, x70, x71, x72, x73, x74, x75, x76, x68, x77, x78, x79, x15, x16, x17, co4, cc4, ro4, rn4, rc4, pa, pn, pc, gu, rfl, rfl, hb, cd0, cd1, cd2, cd3, cd4, cd5, cd6, cd7, cd8, cd9, cd10, cd11, cd12, cd14, cd15, f_tt, f_st, f_lt, f_z, f_lg, f_s, f_o13, f_o13b, w_8_7, w_9_7, w_10_7, w_14_7⟩ hf hd
        have hf' : b1 = false := hf
        subst hf'
        have d0 : b0 = true := hd ⟨0, .data⟩ (by simp) rfl
        subst d0
        obtain rfl := cd0.out rfl
        clear hf hd
        try simp only [List.setIfInBounds_toArray, List.set_cons_zero, List.set_cons_succ]
        intro K hK
        rw [if_pos (by rfl)]
        go_simp
        exact hK.out _ _ ⟨true, true, b2, b3, b4, b5, b6, b7, b8, b9, b10, b11, b12, b13, b14, b15, .agg #[.string (bsOf NM), .slice (some ⟨g, 0, none⟩) N cg, .int .i64 (KI : Nat), .bool only], (.agg #[.string (bsOf NM), .slice (some ⟨g, 0, none⟩) N cg, .int .i64 (KI : Nat), .bool only, .slice none 0 0]), x71, x72, x73, x74, x75, x76, x68, x77, x78, x79, x15, x16, x17, co4, cc4, ro4, rn4, rc4, pa, pn, pc, gu, (by simp only [Act.put, List.setIfInBounds_toArray, List.set_cons_zero, List.set_cons_succ]), (by simp only [Act.put, List.setIfInBounds_toArray, List.set_cons_zero, List.set_cons_succ]), hb, (fun _ => rfl), (fun _ => rfl), cd2, cd3, cd4, cd5, cd6, cd7, cd8, cd9, cd10, cd11, cd12, cd14, cd15, f_tt, f_st, f_lt, f_z, f_lg, f_s, f_o13, f_o13b, w_8_7, w_9_7, w_10_7, w_14_7⟩
      · rintro L a w ⟨b0, b1, b2, b3, b4, b5, b6, b7, b8, b9, b10, b11, b12, b13, b14, b15, x69, x70, x71, x72, x73, x74, x75, x76, x68, x77, x78, x79, x15, x16, x17, co4, cc4, ro4, rn4, rc4, pa, pn, pc, gu, rfl, rfl, hb, cd0, cd1, cd2, cd3, cd4, cd5, cd6, cd7, cd8, cd9, cd10, cd11, cd12, cd14, cd15, f_tt, f_st, f_lt, f_z, f_lg, f_s, f_o13, f_o13b, w_8_7, w_9_7, w_10_7, w_14_7⟩ hf hd
        have hf' : b2 = false := hf
        subst hf'
        clear hf hd
        try simp only [List.setIfInBounds_toArray, List.set_cons_zero, List.set_cons_succ]
        intro K hK
        rw [if_pos (by rfl)]
        go_simp
        exact hK.out _ _ ⟨b0, b1, true, b3, b4, b5, b6, b7, b8, b9, b10, b11, b12, b13, b14, b15, x69, x70, (.slice (some ⟨gr, 0, none⟩) N rca), x72, x73, x74, x75, x76, x68, x77, x78, x79, x15, x16, x17, co4, cc4, ro4, rn4, rc4, pa, pn, pc, gu, (by simp only [Act.put, List.setIfInBounds_toArray, List.set_cons_zero, List.set_cons_succ]), (by simp only [Act.put, List.setIfInBounds_toArray, List.set_cons_zero, List.set_cons_succ]), hb, cd0, cd1, (fun _ => rfl), cd3, cd4, cd5, cd6, cd7, cd8, cd9, cd10, cd11, cd12, cd14, cd15, f_tt, f_st, f_lt, f_z, f_lg, f_s, f_o13, f_o13b, w_8_7, w_9_7, w_10_7, w_14_7⟩
      · rintro L a w ⟨b0, b1, b2, b3, b4, b5, b6, b7, b8, b9, b10, b11, b12, b13, b14, b15, x69, x70, x71, x72, x73, x74, x75, x76, x68, x77, x78, x79, x15, x16, x17, co4, cc4, ro4, rn4, rc4, pa, pn, pc, gu, rfl, rfl, hb, cd0, cd1, cd2, cd3, cd4, cd5, cd6, cd7, cd8, cd9, cd10, cd11, cd12, cd14, cd15, f_tt, f_st, f_lt, f_z, f_lg, f_s, f_o13, f_o13b, w_8_7, w_9_7, w_10_7, w_14_7⟩ hf hd
        have hf' : b3 = false := hf
        subst hf'
        clear hf hd
        try simp only [List.setIfInBounds_toArray, List.set_cons_zero, List.set_cons_succ]
        intro K hK
        rw [if_pos (by rfl)]
        go_simp
        exact hK.out _ _ ⟨b0, b1, b2, true, b4, b5, b6, b7, b8, b9, b10, b11, b12, b13, b14, b15, x69, x70, x71, (.pointer (some ⟨gs, 2, none⟩)), x73, x74, x75, x76, x68, x77, x78, x79, x15, x16, x17, co4, cc4, ro4, rn4, rc4, pa, pn, pc, gu, (by simp only [Act.put, List.setIfInBounds_toArray, List.set_cons_zero, List.set_cons_succ]), (by simp only [Act.put, List.setIfInBounds_toArray, List.set_cons_zero, List.set_cons_succ]), hb, cd0, cd1, cd2, (fun _ => rfl), cd4, cd5, cd6, cd7, cd8, cd9, cd10, cd11, cd12, cd14, cd15, f_tt, f_st, f_lt, f_z, f_lg, f_s, f_o13, f_o13b, w_8_7, w_9_7, w_10_7, w_14_7⟩
      · rintro L a w ⟨b0, b1, b2, b3, b4, b5, b6, b7, b8, b9, b10, b11, b12, b13, b14, b15, x69, x70, x71, x72, x73, x74, x75, x76, x68, x77, x78, x79, x15, x16, x17, co4, cc4, ro4, rn4, rc4, pa, pn, pc, gu, rfl, rfl, hb, cd0, cd1, cd2, cd3, cd4, cd5, cd6, cd7, cd8, cd9, cd10, cd11, cd12, cd14, cd15, f_tt, f_st, f_lt, f_z, f_lg, f_s, f_o13, f_o13b, w_8_7, w_9_7, w_10_7, w_14_7⟩ hf hd
        have hf' : b4 = false := hf
        subst hf'
        have d3 : b3 = true := hd ⟨3, .data⟩ (by simp) rfl
        subst d3
        obtain rfl := cd3.out rfl
        clear hf hd
        try simp only [List.setIfInBounds_toArray, List.set_cons_zero, List.set_cons_succ]
        have z0 := (hb.cell hgsB).trans z2
        intro K hK
        rw [if_pos (by rfl)]
        go_simp
        exact hK.out _ _ ⟨b0, b1, b2, true, true, b5, b6, b7, b8, b9, b10, b11, b12, b13, b14, b15, x69, x70, x71, .pointer (some ⟨gs, 2, none⟩), (.int .i64 (KI : Nat)), x74, x75, x76, x68, x77, x78, x79, x15, x16, x17, co4, cc4, ro4, rn4, rc4, pa, pn, pc, gu, (by simp only [Act.put, List.setIfInBounds_toArray, List.set_cons_zero, List.set_cons_succ]), (by simp only [Act.put, List.setIfInBounds_toArray, List.set_cons_zero, List.set_cons_succ]), hb, cd0, cd1, cd2, (fun _ => rfl), (fun _ => rfl), cd5, cd6, cd7, cd8, cd9, cd10, cd11, cd12, cd14, cd15, f_tt, f_st, f_lt, f_z, f_lg, f_s, f_o13, f_o13b, w_8_7, w_9_7, w_10_7, w_14_7⟩
      · rintro L a w ⟨b0, b1, b2, b3, b4, b5, b6, b7, b8, b9, b10, b11, b12, b13, b14, b15, x69, x70, x71, x72, x73, x74, x75, x76, x68, x77, x78, x79, x15, x16, x17, co4, cc4, ro4, rn4, rc4, pa, pn, pc, gu, rfl, rfl, hb, cd0, cd1, cd2, cd3, cd4, cd5, cd6, cd7, cd8, cd9, cd10, cd11, cd12, cd14, cd15, f_tt, f_st, f_lt, f_z, f_lg, f_s, f_o13, f_o13b, w_8_7, w_9_7, w_10_7, w_14_7⟩ hf hd
        have hf' : b5 = false := hf
        subst hf'
        have d2 : b2 = true := hd ⟨2, .data⟩ (by simp) rfl
        subst d2
        have d4 : b4 = true := hd ⟨4, .data⟩ (by simp) rfl
        subst d4
        obtain rfl := cd2.out rfl
        obtain rfl := cd4.out rfl
        clear hf hd
        try simp only [List.setIfInBounds_toArray, List.set_cons_zero, List.set_cons_succ]
        intro K hK
        rw [if_pos (by rfl)]
        go_simp
        exact hK.out _ _ ⟨b0, b1, true, b3, true, true, b6, b7, b8, b9, b10, b11, b12, b13, b14, b15, x69, x70, .slice (some ⟨gr, 0, none⟩) N rca, x72, .int .i64 (KI : Nat), (.pointer (some ⟨gr, KI * 3, none⟩)), x75, x76, x68, x77, x78, x79, x15, x16, x17, co4, cc4, ro4, rn4, rc4, pa, pn, pc, gu, (by simp only [Act.put, List.setIfInBounds_toArray, List.set_cons_zero, List.set_cons_succ]), (by simp only [Act.put, List.setIfInBounds_toArray, List.set_cons_zero, List.set_cons_succ]), hb, cd0, cd1, (fun _ => rfl), cd3, (fun _ => rfl), (fun _ => rfl), cd6, cd7, cd8, cd9, cd10, cd11, cd12, cd14, cd15, f_tt, f_st, f_lt, f_z, f_lg, f_s, f_o13, f_o13b, w_8_7, w_9_7, w_10_7, w_14_7⟩
      · rintro L a w ⟨b0, b1, b2, b3, b4, b5, b6, b7, b8, b9, b10, b11, b12, b13, b14, b15, x69, x70, x71, x72, x73, x74, x75, x76, x68, x77, x78, x79, x15, x16, x17, co4, cc4, ro4, rn4, rc4, pa, pn, pc, gu, rfl, rfl, hb, cd0, cd1, cd2, cd3, cd4, cd5, cd6, cd7, cd8, cd9, cd10, cd11, cd12, cd14, cd15, f_tt, f_st, f_lt, f_z, f_lg, f_s, f_o13, f_o13b, w_8_7, w_9_7, w_10_7, w_14_7⟩ hf hd
        have hf' : b6 = false := hf
        subst hf'
        have d5 : b5 = true := hd ⟨5, .data⟩ (by simp) rfl
        subst d5
        obtain rfl := cd5.out rfl
        clear hf hd
        try simp only [List.setIfInBounds_toArray, List.set_cons_zero, List.set_cons_succ]
        have z0 := (hb.cell hgrB).trans v0
        have z1 := (hb.cell hgrB).trans v1
        have z2 := (hb.cell hgrB).trans v2
        intro K hK
        rw [if_pos (by rfl)]
        go_simp
        exact hK.out _ _ ⟨b0, b1, b2, b3, b4, true, true, b7, b8, b9, b10, b11, b12, b13, b14, b15, x69, x70, x71, x72, x73, .pointer (some ⟨gr, KI * 3, none⟩), (.agg #[.int .i64 k, .int .i64 m, .string s]), x76, x68, x77, x78, x79, x15, x16, x17, co4, cc4, ro4, rn4, rc4, pa, pn, pc, gu, (by simp only [Act.put, List.setIfInBounds_toArray, List.set_cons_zero, List.set_cons_succ]), (by simp only [Act.put, List.setIfInBounds_toArray, List.set_cons_zero, List.set_cons_succ]), hb, cd0, cd1, cd2, cd3, cd4, (fun _ => rfl), (fun _ => rfl), cd7, cd8, cd9, cd10, cd11, cd12, cd14, cd15, f_tt, f_st, f_lt, f_z, f_lg, f_s, f_o13, f_o13b, w_8_7, w_9_7, w_10_7, w_14_7⟩
      · rintro L a w ⟨b0, b1, b2, b3, b4, b5, b6, b7, b8, b9, b10, b11, b12, b13, b14, b15, x69, x70, x71, x72, x73, x74, x75, x76, x68, x77, x78, x79, x15, x16, x17, co4, cc4, ro4, rn4, rc4, pa, pn, pc, gu, rfl, rfl, hb, cd0, cd1, cd2, cd3, cd4, cd5, cd6, cd7, cd8, cd9, cd10, cd11, cd12, cd14, cd15, f_tt, f_st, f_lt, f_z, f_lg, f_s, f_o13, f_o13b, w_8_7, w_9_7, w_10_7, w_14_7⟩ hf hd
        have hf' : b7 = false := hf
        subst hf'
        have d1 : b1 = true := hd ⟨1, .data⟩ (by simp) rfl
        subst d1
        have d6 : b6 = true := hd ⟨6, .data⟩ (by simp) rfl
        subst d6
        obtain rfl := cd1.out rfl
        obtain rfl := cd6.out rfl
        clear hf hd
        try simp only [List.setIfInBounds_toArray, List.set_cons_zero, List.set_cons_succ]
        intro K hK
        rw [if_pos (by rfl)]
        go_simp
        go_at_call 27
        refine (HTk _ hb).mono ?_
        rintro e w' ⟨co3, cc3, ro3, rn3, rc3, pa3, pn3, pc3, rfl, i1, bx⟩
        have e_8 : b8 = false := by cases hq : b8 with | false => rfl | true => exact absurd (w_8_7.out hq) (by simp)
        subst e_8
        have e_9 : b9 = false := by cases hq : b9 with | false => rfl | true => exact absurd (w_9_7.out hq) (by simp)
        subst e_9
        have e_10 : b10 = false := by cases hq : b10 with | false => rfl | true => exact absurd (w_10_7.out hq) (by simp)
        subst e_10
        have e_14 : b14 = false := by cases hq : b14 with | false => rfl | true => exact absurd (w_14_7.out hq) (by simp)
        subst e_14
        exact hK.out _ _ ⟨b0, true, b2, b3, b4, b5, true, true, false, false, false, b11, b12, b13, false, b15, x69, .agg #[.string (bsOf NM), .slice (some ⟨g, 0, none⟩) N cg, .int .i64 (KI : Nat), .bool only, .slice none 0 0], x71, x72, x73, x74, .agg #[.int .i64 k, .int .i64 m, .string s], (.tuple #[.agg #[.string (bsOf NM), .slice co3 N cc3, .int .i64 (KI : Nat), .bool only, .slice ro3 rn3 rc3], .slice pa3 pn3 pc3, .int .i64 2]), x68, x77, x78, x79, x15, x16, x17, co3, cc3, ro3, rn3, rc3, pa3, pn3, pc3, gu, (by simp only [Act.put, List.setIfInBounds_toArray, List.set_cons_zero, List.set_cons_succ]), (by simp only [Act.put, List.setIfInBounds_toArray, List.set_cons_zero, List.set_cons_succ]), hb.trans (bx.mono (Nat.le_trans hB0 hb.size)), cd0, (fun _ => rfl), cd2, cd3, cd4, cd5, (fun _ => rfl), (fun _ => rfl), (fun h => by cases h), (fun h => by cases h), (fun h => by cases h), cd11, cd12, (fun h => by cases h), cd15, (fun _ => i1.mono hb.size), (fun _ _ => fun h w'' gw => (i1.grown gw (f_lt.out h)).mono hb.size), (fun h0 => Nat.lt_of_lt_of_le (f_lt.out h0) bx.size), (fun h0 h1 => (f_z.out h0 h1).past bx), f_lg, (fun h0 => absurd (f_o13.out h0) (by simp)), (fun _ => rfl), f_o13b, (fun _ => rfl), (fun _ => rfl), (fun _ => rfl), (fun _ => rfl)⟩
      · rintro L a w ⟨b0, b1, b2, b3, b4, b5, b6, b7, b8, b9, b10, b11, b12, b13, b14, b15, x69, x70, x71, x72, x73, x74, x75, x76, x68, x77, x78, x79, x15, x16, x17, co4, cc4, ro4, rn4, rc4, pa, pn, pc, gu, rfl, rfl, hb, cd0, cd1, cd2, cd3, cd4, cd5, cd6, cd7, cd8, cd9, cd10, cd11, cd12, cd14, cd15, f_tt, f_st, f_lt, f_z, f_lg, f_s, f_o13, f_o13b, w_8_7, w_9_7, w_10_7, w_14_7⟩ hf hd
        have hf' : b8 = false := hf
        subst hf'
        have d7 : b7 = true := hd ⟨7, .data⟩ (by simp) rfl
        subst d7
        obtain rfl := cd7.out rfl
        clear hf hd
        have W_tt := f_tt.out rfl
        try simp only [List.setIfInBounds_toArray, List.set_cons_zero, List.set_cons_succ]
        intro K hK
        rw [if_pos (by rfl)]
        go_simp
        exact hK.out _ _ ⟨b0, b1, b2, b3, b4, b5, b6, true, true, b9, b10, b11, b12, b13, b14, b15, x69, x70, x71, x72, x73, x74, x75, .tuple #[.agg #[.string (bsOf NM), .slice co4 N cc4, .int .i64 (KI : Nat), .bool only, .slice ro4 rn4 rc4], .slice pa pn pc, .int .i64 2], (.tuple #[.agg #[.string (bsOf NM), .slice co4 N cc4, .int .i64 (KI : Nat), .bool only, .slice ro4 rn4 rc4], .slice pa pn pc, .int .i64 2]), x77, x78, x79, x15, x16, x17, co4, cc4, ro4, rn4, rc4, pa, pn, pc, gu, (by simp only [Act.put, List.setIfInBounds_toArray, List.set_cons_zero, List.set_cons_succ]), (by simp only [Act.put, List.setIfInBounds_toArray, List.set_cons_zero, List.set_cons_succ]), hb, cd0, cd1, cd2, cd3, cd4, cd5, cd6, (fun _ => rfl), (fun _ => rfl), cd9, cd10, cd11, cd12, cd14, cd15, f_tt, f_st, f_lt, f_z, f_lg, f_s, f_o13, f_o13b, (fun _ => rfl), (fun _ => rfl), (fun _ => rfl), (fun _ => rfl)⟩
      · rintro L a w ⟨b0, b1, b2, b3, b4, b5, b6, b7, b8, b9, b10, b11, b12, b13, b14, b15, x69, x70, x71, x72, x73, x74, x75, x76, x68, x77, x78, x79, x15, x16, x17, co4, cc4, ro4, rn4, rc4, pa, pn, pc, gu, rfl, rfl, hb, cd0, cd1, cd2, cd3, cd4, cd5, cd6, cd7, cd8, cd9, cd10, cd11, cd12, cd14, cd15, f_tt, f_st, f_lt, f_z, f_lg, f_s, f_o13, f_o13b, w_8_7, w_9_7, w_10_7, w_14_7⟩ hf hd
        have hf' : b9 = false := hf
        subst hf'
        have d8 : b8 = true := hd ⟨8, .data⟩ (by simp) rfl
        subst d8
        obtain rfl := cd8.out rfl
        clear hf hd
        try simp only [List.setIfInBounds_toArray, List.set_cons_zero, List.set_cons_succ]
        intro K hK
        rw [if_pos (by rfl)]
        go_simp
        exact hK.out _ _ ⟨b0, b1, b2, b3, b4, b5, b6, b7, true, true, b10, b11, b12, b13, b14, b15, x69, x70, x71, x72, x73, x74, x75, x76, .tuple #[.agg #[.string (bsOf NM), .slice co4 N cc4, .int .i64 (KI : Nat), .bool only, .slice ro4 rn4 rc4], .slice pa pn pc, .int .i64 2], (.agg #[.string (bsOf NM), .slice co4 N cc4, .int .i64 (KI : Nat), .bool only, .slice ro4 rn4 rc4]), x78, x79, x15, x16, x17, co4, cc4, ro4, rn4, rc4, pa, pn, pc, gu, (by simp only [Act.put, List.setIfInBounds_toArray, List.set_cons_zero, List.set_cons_succ]), (by simp only [Act.put, List.setIfInBounds_toArray, List.set_cons_zero, List.set_cons_succ]), hb, cd0, cd1, cd2, cd3, cd4, cd5, cd6, cd7, (fun _ => rfl), (fun _ => rfl), cd10, cd11, cd12, cd14, cd15, f_tt, f_st, f_lt, f_z, f_lg, f_s, f_o13, f_o13b, w_8_7, (fun _ => w_8_7.out rfl), w_10_7, w_14_7⟩
      · rintro L a w ⟨b0, b1, b2, b3, b4, b5, b6, b7, b8, b9, b10, b11, b12, b13, b14, b15, x69, x70, x71, x72, x73, x74, x75, x76, x68, x77, x78, x79, x15, x16, x17, co4, cc4, ro4, rn4, rc4, pa, pn, pc, gu, rfl, rfl, hb, cd0, cd1, cd2, cd3, cd4, cd5, cd6, cd7, cd8, cd9, cd10, cd11, cd12, cd14, cd15, f_tt, f_st, f_lt, f_z, f_lg, f_s, f_o13, f_o13b, w_8_7, w_9_7, w_10_7, w_14_7⟩ hf hd
        have hf' : b10 = false := hf
        subst hf'
        have d8 : b8 = true := hd ⟨8, .data⟩ (by simp) rfl
        subst d8
        obtain rfl := cd8.out rfl
        clear hf hd
        try simp only [List.setIfInBounds_toArray, List.set_cons_zero, List.set_cons_succ]
        intro K hK
        rw [if_pos (by rfl)]
        go_simp
        exact hK.out _ _ ⟨b0, b1, b2, b3, b4, b5, b6, b7, true, b9, true, b11, b12, b13, b14, b15, x69, x70, x71, x72, x73, x74, x75, x76, .tuple #[.agg #[.string (bsOf NM), .slice co4 N cc4, .int .i64 (KI : Nat), .bool only, .slice ro4 rn4 rc4], .slice pa pn pc, .int .i64 2], x77, (.slice pa pn pc), x79, x15, x16, x17, co4, cc4, ro4, rn4, rc4, pa, pn, pc, gu, (by simp only [Act.put, List.setIfInBounds_toArray, List.set_cons_zero, List.set_cons_succ]), (by simp only [Act.put, List.setIfInBounds_toArray, List.set_cons_zero, List.set_cons_succ]), hb, cd0, cd1, cd2, cd3, cd4, cd5, cd6, cd7, (fun _ => rfl), cd9, (fun _ => rfl), cd11, cd12, cd14, cd15, f_tt, f_st, f_lt, f_z, f_lg, f_s, f_o13, f_o13b, w_8_7, w_9_7, (fun _ => w_8_7.out rfl), w_14_7⟩
      · rintro L a w ⟨b0, b1, b2, b3, b4, b5, b6, b7, b8, b9, b10, b11, b12, b13, b14, b15, x69, x70, x71, x72, x73, x74, x75, x76, x68, x77, x78, x79, x15, x16, x17, co4, cc4, ro4, rn4, rc4, pa, pn, pc, gu, rfl, rfl, hb, cd0, cd1, cd2, cd3, cd4, cd5, cd6, cd7, cd8, cd9, cd10, cd11, cd12, cd14, cd15, f_tt, f_st, f_lt, f_z, f_lg, f_s, f_o13, f_o13b, w_8_7, w_9_7, w_10_7, w_14_7⟩ hf hd
        have hf' : b11 = false := hf
        subst hf'
        have d8 : b8 = true := hd ⟨8, .data⟩ (by simp) rfl
        subst d8
        obtain rfl := cd8.out rfl
        clear hf hd
        try simp only [List.setIfInBounds_toArray, List.set_cons_zero, List.set_cons_succ]
        intro K hK
        rw [if_pos (by rfl)]
        go_simp
        exact hK.out _ _ ⟨b0, b1, b2, b3, b4, b5, b6, b7, true, b9, b10, true, b12, b13, b14, b15, x69, x70, x71, x72, x73, x74, x75, x76, .tuple #[.agg #[.string (bsOf NM), .slice co4 N cc4, .int .i64 (KI : Nat), .bool only, .slice ro4 rn4 rc4], .slice pa pn pc, .int .i64 2], x77, x78, (.int .i64 2), x15, x16, x17, co4, cc4, ro4, rn4, rc4, pa, pn, pc, gu, (by simp only [Act.put, List.setIfInBounds_toArray, List.set_cons_zero, List.set_cons_succ]), (by simp only [Act.put, List.setIfInBounds_toArray, List.set_cons_zero, List.set_cons_succ]), hb, cd0, cd1, cd2, cd3, cd4, cd5, cd6, cd7, (fun _ => rfl), cd9, cd10, (fun _ => rfl), cd12, cd14, cd15, f_tt, f_st, f_lt, f_z, f_lg, f_s, f_o13, f_o13b, w_8_7, w_9_7, w_10_7, w_14_7⟩
      · rintro L a w ⟨b0, b1, b2, b3, b4, b5, b6, b7, b8, b9, b10, b11, b12, b13, b14, b15, x69, x70, x71, x72, x73, x74, x75, x76, x68, x77, x78, x79, x15, x16, x17, co4, cc4, ro4, rn4, rc4, pa, pn, pc, gu, rfl, rfl, hb, cd0, cd1, cd2, cd3, cd4, cd5, cd6, cd7, cd8, cd9, cd10, cd11, cd12, cd14, cd15, f_tt, f_st, f_lt, f_z, f_lg, f_s, f_o13, f_o13b, w_8_7, w_9_7, w_10_7, w_14_7⟩ hf hd
        have hf' : b12 = false := hf
        subst hf'
        clear hf hd
        try simp only [List.setIfInBounds_toArray, List.set_cons_zero, List.set_cons_succ]
        intro K hK
        rw [if_pos (by rfl)]
        go_simp
        have bx : Below w.heap.size w (w.alloc (.cells #[.string ⟨#[]⟩, .slice none 0 0, .int .i64 0, .bool false, .slice none 0 0] 47)) := (Below.refl _ _).alloc (Nat.le_refl _) _
        have i2 : Bk (w.alloc (.cells #[.string ⟨#[]⟩, .slice none 0 0, .int .i64 0, .bool false, .slice none 0 0] 47)) w.heap.size (tbC [] none 0 0 0 false none 0 0) 47 := Bk.new w _ _
        exact hK.out _ _ ⟨b0, b1, b2, b3, b4, b5, b6, b7, b8, b9, b10, b11, true, b13, b14, b15, x69, x70, x71, x72, x73, x74, x75, x76, x68, x77, x78, x79, (.pointer (some ⟨(w.heap.size), 0, none⟩)), x16, x17, co4, cc4, ro4, rn4, rc4, pa, pn, pc, w.heap.size, (by simp only [Act.put, List.setIfInBounds_toArray, List.set_cons_zero, List.set_cons_succ]), (by simp only [Act.put, List.setIfInBounds_toArray, List.set_cons_zero, List.set_cons_succ]), hb.trans (bx.mono (Nat.le_trans hB0 hb.size)), cd0, cd1, cd2, cd3, cd4, cd5, cd6, cd7, cd8, cd9, cd10, cd11, (fun _ => rfl), cd14, cd15, (fun h0 => (f_tt.out h0).past bx), (fun h0 _ _ w'' gw => (f_tt.out h0).past (below_new gw)), (fun _ => by rw [World.size_alloc]; omega), (fun _ _ => i2), (fun _ => hb.size), (fun h0 => absurd (f_o13b.out h0) (by simp)), f_o13, (fun _ => rfl), w_8_7, w_9_7, w_10_7, w_14_7⟩
      · rintro L a w ⟨b0, b1, b2, b3, b4, b5, b6, b7, b8, b9, b10, b11, b12, b13, b14, b15, x69, x70, x71, x72, x73, x74, x75, x76, x68, x77, x78, x79, x15, x16, x17, co4, cc4, ro4, rn4, rc4, pa, pn, pc, gu, rfl, rfl, hb, cd0, cd1, cd2, cd3, cd4, cd5, cd6, cd7, cd8, cd9, cd10, cd11, cd12, cd14, cd15, f_tt, f_st, f_lt, f_z, f_lg, f_s, f_o13, f_o13b, w_8_7, w_9_7, w_10_7, w_14_7⟩ hf hd
        have hf' : b13 = false := hf
        subst hf'
        have d12 : b12 = true := hd ⟨12, .data⟩ (by simp) rfl
        subst d12
        have d9 : b9 = true := hd ⟨9, .data⟩ (by simp) rfl
        subst d9
        have d7 : b7 = true := hd ⟨7, .chain⟩ (by simp) rfl
        subst d7
        have d0 : b0 = true := hd ⟨0, .phase⟩ (by simp) rfl
        subst d0
        have d1 : b1 = true := hd ⟨1, .phase⟩ (by simp) rfl
        subst d1
        have d2 : b2 = true := hd ⟨2, .phase⟩ (by simp) rfl
        subst d2
        have d3 : b3 = true := hd ⟨3, .phase⟩ (by simp) rfl
        subst d3
        have d4 : b4 = true := hd ⟨4, .phase⟩ (by simp) rfl
        subst d4
        have d5 : b5 = true := hd ⟨5, .phase⟩ (by simp) rfl
        subst d5
        have d6 : b6 = true := hd ⟨6, .phase⟩ (by simp) rfl
        subst d6
        have d8 : b8 = true := hd ⟨8, .phase⟩ (by simp) rfl
        subst d8
        obtain rfl := cd12.out rfl
        obtain rfl := cd9.out rfl
        obtain rfl := cd7.out rfl
        obtain rfl := cd0.out rfl
        obtain rfl := cd1.out rfl
        obtain rfl := cd2.out rfl
        obtain rfl := cd3.out rfl
        obtain rfl := cd4.out rfl
        obtain rfl := cd5.out rfl
        obtain rfl := cd6.out rfl
        obtain rfl := cd8.out rfl
        clear hf hd
        have W_tt := f_tt.out rfl
        have W_st := f_st.out rfl rfl
        have W_lt := f_lt.out rfl
        have W_z := f_z.out rfl rfl
        have W_lg := f_lg.out rfl
        try simp only [List.setIfInBounds_toArray, List.set_cons_zero, List.set_cons_succ]
        intro K hK
        rw [if_pos (by rfl)]
        refine wp_store_blkT 47 _ _ rfl gu _ (tbC NM co4 N cc4 (KI : Nat) only ro4 rn4 rc4) rfl rfl _ (Lib.hid W_z) 5 szTb (tbC_size ..) (tbC_size ..) (tbC_all ..) fun w2 h8 g8 => ?_
        have hb2 := hb.grown g8 (Nat.le_trans hB0 hb.size) (fun z hz => by cases hz; exact Nat.le_trans hB0 W_lg)
        exact hK.out _ _ ⟨true, true, true, true, true, true, true, true, true, true, b10, b11, true, true, b14, b15, .agg #[.string (bsOf NM), .slice (some ⟨g, 0, none⟩) N cg, .int .i64 (KI : Nat), .bool only], .agg #[.string (bsOf NM), .slice (some ⟨g, 0, none⟩) N cg, .int .i64 (KI : Nat), .bool only, .slice none 0 0], .slice (some ⟨gr, 0, none⟩) N rca, .pointer (some ⟨gs, 2, none⟩), .int .i64 (KI : Nat), .pointer (some ⟨gr, KI * 3, none⟩), .agg #[.int .i64 k, .int .i64 m, .string s], .tuple #[.agg #[.string (bsOf NM), .slice co4 N cc4, .int .i64 (KI : Nat), .bool only, .slice ro4 rn4 rc4], .slice pa pn pc, .int .i64 2], .tuple #[.agg #[.string (bsOf NM), .slice co4 N cc4, .int .i64 (KI : Nat), .bool only, .slice ro4 rn4 rc4], .slice pa pn pc, .int .i64 2], .agg #[.string (bsOf NM), .slice co4 N cc4, .int .i64 (KI : Nat), .bool only, .slice ro4 rn4 rc4], x78, x79, .pointer (some ⟨gu, 0, none⟩), x16, x17, co4, cc4, ro4, rn4, rc4, pa, pn, pc, gu, (by simp only [Act.put, List.setIfInBounds_toArray, List.set_cons_zero, List.set_cons_succ]), (by simp only [Act.put, List.setIfInBounds_toArray, List.set_cons_zero, List.set_cons_succ]), hb2, (fun _ => rfl), (fun _ => rfl), (fun _ => rfl), (fun _ => rfl), (fun _ => rfl), (fun _ => rfl), (fun _ => rfl), (fun _ => rfl), (fun _ => rfl), (fun _ => rfl), cd10, cd11, (fun _ => rfl), cd14, cd15, (fun h0 => (f_st.out h0 rfl rfl) _ g8), (fun _ h => by cases h), (fun h0 => Nat.lt_of_lt_of_le ((f_lt.out h0)) g8.size), (fun _ h => by cases h), f_lg, (fun _ => h8.out), (fun _ => rfl), (fun _ => rfl), (fun _ => rfl), (fun _ => rfl), (fun _ => rfl), (fun _ => rfl)⟩
      · rintro L a w ⟨b0, b1, b2, b3, b4, b5, b6, b7, b8, b9, b10, b11, b12, b13, b14, b15, x69, x70, x71, x72, x73, x74, x75, x76, x68, x77, x78, x79, x15, x16, x17, co4, cc4, ro4, rn4, rc4, pa, pn, pc, gu, rfl, rfl, hb, cd0, cd1, cd2, cd3, cd4, cd5, cd6, cd7, cd8, cd9, cd10, cd11, cd12, cd14, cd15, f_tt, f_st, f_lt, f_z, f_lg, f_s, f_o13, f_o13b, w_8_7, w_9_7, w_10_7, w_14_7⟩ hf hd
        have hf' : b14 = false := hf
        subst hf'
        have d10 : b10 = true := hd ⟨10, .data⟩ (by simp) rfl
        subst d10
        have d13 : b13 = true := hd ⟨13, .chain⟩ (by simp) rfl
        subst d13
        have d0 : b0 = true := hd ⟨0, .phase⟩ (by simp) rfl
        subst d0
        have d1 : b1 = true := hd ⟨1, .phase⟩ (by simp) rfl
        subst d1
        have d2 : b2 = true := hd ⟨2, .phase⟩ (by simp) rfl
        subst d2
        have d3 : b3 = true := hd ⟨3, .phase⟩ (by simp) rfl
        subst d3
        have d4 : b4 = true := hd ⟨4, .phase⟩ (by simp) rfl
        subst d4
        have d5 : b5 = true := hd ⟨5, .phase⟩ (by simp) rfl
        subst d5
        have d6 : b6 = true := hd ⟨6, .phase⟩ (by simp) rfl
        subst d6
        have d7 : b7 = true := hd ⟨7, .phase⟩ (by simp) rfl
        subst d7
        have d8 : b8 = true := hd ⟨8, .phase⟩ (by simp) rfl
        subst d8
        have d9 : b9 = true := hd ⟨9, .phase⟩ (by simp) rfl
        subst d9
        have d12 : b12 = true := hd ⟨12, .phase⟩ (by simp) rfl
        subst d12
        obtain rfl := cd10.out rfl
        obtain rfl := cd0.out rfl
        obtain rfl := cd1.out rfl
        obtain rfl := cd2.out rfl
        obtain rfl := cd3.out rfl
        obtain rfl := cd4.out rfl
        obtain rfl := cd5.out rfl
        obtain rfl := cd6.out rfl
        obtain rfl := cd7.out rfl
        obtain rfl := cd8.out rfl
        obtain rfl := cd9.out rfl
        obtain rfl := cd12.out rfl
        clear hf hd
        have W_tt := f_tt.out rfl
        have W_lt := f_lt.out rfl
        have W_lg := f_lg.out rfl
        have W_s := f_s.out rfl
        have W_o13 := f_o13.out rfl
        have W_o13b := f_o13b.out rfl
        try simp only [List.setIfInBounds_toArray, List.set_cons_zero, List.set_cons_succ]
        intro K hK
        rw [if_pos (by rfl)]
        go_simp
        exact hK.out _ _ ⟨true, true, true, true, true, true, true, true, true, true, true, b11, true, true, true, b15, .agg #[.string (bsOf NM), .slice (some ⟨g, 0, none⟩) N cg, .int .i64 (KI : Nat), .bool only], .agg #[.string (bsOf NM), .slice (some ⟨g, 0, none⟩) N cg, .int .i64 (KI : Nat), .bool only, .slice none 0 0], .slice (some ⟨gr, 0, none⟩) N rca, .pointer (some ⟨gs, 2, none⟩), .int .i64 (KI : Nat), .pointer (some ⟨gr, KI * 3, none⟩), .agg #[.int .i64 k, .int .i64 m, .string s], .tuple #[.agg #[.string (bsOf NM), .slice co4 N cc4, .int .i64 (KI : Nat), .bool only, .slice ro4 rn4 rc4], .slice pa pn pc, .int .i64 2], .tuple #[.agg #[.string (bsOf NM), .slice co4 N cc4, .int .i64 (KI : Nat), .bool only, .slice ro4 rn4 rc4], .slice pa pn pc, .int .i64 2], .agg #[.string (bsOf NM), .slice co4 N cc4, .int .i64 (KI : Nat), .bool only, .slice ro4 rn4 rc4], .slice pa pn pc, x79, .pointer (some ⟨gu, 0, none⟩), (.slice pa pn pc), x17, co4, cc4, ro4, rn4, rc4, pa, pn, pc, gu, (by simp only [Act.put, List.setIfInBounds_toArray, List.set_cons_zero, List.set_cons_succ]), (by simp only [Act.put, List.setIfInBounds_toArray, List.set_cons_zero, List.set_cons_succ]), hb, (fun _ => rfl), (fun _ => rfl), (fun _ => rfl), (fun _ => rfl), (fun _ => rfl), (fun _ => rfl), (fun _ => rfl), (fun _ => rfl), (fun _ => rfl), (fun _ => rfl), (fun _ => rfl), cd11, (fun _ => rfl), (fun _ => rfl), cd15, f_tt, (fun _ h => by cases h), f_lt, (fun _ h => by cases h), f_lg, f_s, f_o13, f_o13b, (fun _ => rfl), (fun _ => rfl), (fun _ => rfl), (fun _ => rfl)⟩
      · rintro L a w ⟨b0, b1, b2, b3, b4, b5, b6, b7, b8, b9, b10, b11, b12, b13, b14, b15, x69, x70, x71, x72, x73, x74, x75, x76, x68, x77, x78, x79, x15, x16, x17, co4, cc4, ro4, rn4, rc4, pa, pn, pc, gu, rfl, rfl, hb, cd0, cd1, cd2, cd3, cd4, cd5, cd6, cd7, cd8, cd9, cd10, cd11, cd12, cd14, cd15, f_tt, f_st, f_lt, f_z, f_lg, f_s, f_o13, f_o13b, w_8_7, w_9_7, w_10_7, w_14_7⟩ hf hd
        have hf' : b15 = false := hf
        subst hf'
        have d11 : b11 = true := hd ⟨11, .data⟩ (by simp) rfl
        subst d11
        have d14 : b14 = true := hd ⟨14, .chain⟩ (by simp) rfl
        subst d14
        have d0 : b0 = true := hd ⟨0, .phase⟩ (by simp) rfl
        subst d0
        have d1 : b1 = true := hd ⟨1, .phase⟩ (by simp) rfl
        subst d1
        have d2 : b2 = true := hd ⟨2, .phase⟩ (by simp) rfl
        subst d2
        have d3 : b3 = true := hd ⟨3, .phase⟩ (by simp) rfl
        subst d3
        have d4 : b4 = true := hd ⟨4, .phase⟩ (by simp) rfl
        subst d4
        have d5 : b5 = true := hd ⟨5, .phase⟩ (by simp) rfl
        subst d5
        have d6 : b6 = true := hd ⟨6, .phase⟩ (by simp) rfl
        subst d6
        have d7 : b7 = true := hd ⟨7, .phase⟩ (by simp) rfl
        subst d7
        have d8 : b8 = true := hd ⟨8, .phase⟩ (by simp) rfl
        subst d8
        have d9 : b9 = true := hd ⟨9, .phase⟩ (by simp) rfl
        subst d9
        have d10 : b10 = true := hd ⟨10, .phase⟩ (by simp) rfl
        subst d10
        have d12 : b12 = true := hd ⟨12, .phase⟩ (by simp) rfl
        subst d12
        have d13 : b13 = true := hd ⟨13, .phase⟩ (by simp) rfl
        subst d13
        obtain rfl := cd11.out rfl
        obtain rfl := cd14.out rfl
        obtain rfl := cd0.out rfl
        obtain rfl := cd1.out rfl
        obtain rfl := cd2.out rfl
        obtain rfl := cd3.out rfl
        obtain rfl := cd4.out rfl
        obtain rfl := cd5.out rfl
        obtain rfl := cd6.out rfl
        obtain rfl := cd7.out rfl
        obtain rfl := cd8.out rfl
        obtain rfl := cd9.out rfl
        obtain rfl := cd10.out rfl
        obtain rfl := cd12.out rfl
        clear hf hd
        have W_tt := f_tt.out rfl
        have W_lt := f_lt.out rfl
        have W_lg := f_lg.out rfl
        have W_s := f_s.out rfl
        have W_o13 := f_o13.out rfl
        have W_o13b := f_o13b.out rfl
        try simp only [List.setIfInBounds_toArray, List.set_cons_zero, List.set_cons_succ]
        intro K hK
        rw [if_pos (by rfl)]
        go_simp
        exact hK.out _ _ ⟨true, true, true, true, true, true, true, true, true, true, true, true, true, true, true, true, .agg #[.string (bsOf NM), .slice (some ⟨g, 0, none⟩) N cg, .int .i64 (KI : Nat), .bool only], .agg #[.string (bsOf NM), .slice (some ⟨g, 0, none⟩) N cg, .int .i64 (KI : Nat), .bool only, .slice none 0 0], .slice (some ⟨gr, 0, none⟩) N rca, .pointer (some ⟨gs, 2, none⟩), .int .i64 (KI : Nat), .pointer (some ⟨gr, KI * 3, none⟩), .agg #[.int .i64 k, .int .i64 m, .string s], .tuple #[.agg #[.string (bsOf NM), .slice co4 N cc4, .int .i64 (KI : Nat), .bool only, .slice ro4 rn4 rc4], .slice pa pn pc, .int .i64 2], .tuple #[.agg #[.string (bsOf NM), .slice co4 N cc4, .int .i64 (KI : Nat), .bool only, .slice ro4 rn4 rc4], .slice pa pn pc, .int .i64 2], .agg #[.string (bsOf NM), .slice co4 N cc4, .int .i64 (KI : Nat), .bool only, .slice ro4 rn4 rc4], .slice pa pn pc, .int .i64 2, .pointer (some ⟨gu, 0, none⟩), .slice pa pn pc, (.int .i64 2), co4, cc4, ro4, rn4, rc4, pa, pn, pc, gu, (by simp only [Act.put, List.setIfInBounds_toArray, List.set_cons_zero, List.set_cons_succ]), (by simp only [Act.put, List.setIfInBounds_toArray, List.set_cons_zero, List.set_cons_succ]), hb, (fun _ => rfl), (fun _ => rfl), (fun _ => rfl), (fun _ => rfl), (fun _ => rfl), (fun _ => rfl), (fun _ => rfl), (fun _ => rfl), (fun _ => rfl), (fun _ => rfl), (fun _ => rfl), (fun _ => rfl), (fun _ => rfl), (fun _ => rfl), (fun _ => rfl), f_tt, (fun _ h => by cases h), f_lt, (fun _ h => by cases h), f_lg, f_s, f_o13, f_o13b, (fun _ => rfl), (fun _ => rfl), (fun _ => rfl), (fun _ => rfl)⟩
    · rintro act V3 ⟨b0, b1, b2, b3, b4, b5, b6, b7, b8, b9, b10, b11, b12, b13, b14, b15, x69, x70, x71, x72, x73, x74, x75, x76, x68, x77, x78, x79, x15, x16, x17, co4, cc4, ro4, rn4, rc4, pa, pn, pc, gu, hL, rfl, hb, cd0, cd1, cd2, cd3, cd4, cd5, cd6, cd7, cd8, cd9, cd10, cd11, cd12, cd14, cd15, f_tt, f_st, f_lt, f_z, f_lg, f_s, f_o13, f_o13b, w_8_7, w_9_7, w_10_7, w_14_7⟩
      have hL' : [true, true, true, true, true, true, true, true, true, true, true, true, true, true, true, true] = [b0, b1, b2, b3, b4, b5, b6, b7, b8, b9, b10, b11, b12, b13, b14, b15] := congrArg Array.toList hL
      simp only [List.cons.injEq, and_true] at hL'
      obtain ⟨rfl, rfl, rfl, rfl, rfl, rfl, rfl, rfl, rfl, rfl, rfl, rfl, rfl, rfl, rfl, rfl⟩ := hL'
      obtain rfl := cd0.out rfl
      obtain rfl := cd1.out rfl
      obtain rfl := cd2.out rfl
      obtain rfl := cd3.out rfl
      obtain rfl := cd4.out rfl
      obtain rfl := cd5.out rfl
      obtain rfl := cd6.out rfl
      obtain rfl := cd7.out rfl
      obtain rfl := cd8.out rfl
      obtain rfl := cd9.out rfl
      obtain rfl := cd10.out rfl
      obtain rfl := cd11.out rfl
      obtain rfl := cd12.out rfl
      obtain rfl := cd14.out rfl
      obtain rfl := cd15.out rfl
      have W_tt := f_tt.out rfl
      have W_lt := f_lt.out rfl
      have W_lg := f_lg.out rfl
      have W_s := f_s.out rfl
      have W_o13 := f_o13.out rfl
      have W_o13b := f_o13b.out rfl
      clear hL f_tt f_st f_lt f_z f_lg f_s f_o13 f_o13b cd0 cd1 cd2 cd3 cd4 cd5 cd6 cd7 cd8 cd9 cd10 cd11 cd12 cd14 cd15 w_8_7 w_9_7 w_10_7 w_14_7
      simp only [List.setIfInBounds_toArray, List.set_cons_zero, List.set_cons_succ]
      have bV3 : Below V2.heap.size V2 V3 := (Below.refl _ _).drew.trans hb
      have hT3 := hT2.past bV3
      have hU3 := hU2.past bV3
      have BV3 := BV2.trans (bV3.mono hpV2)
      obtain rfl : 0 = rn4 := W_tt.rows.len
      obtain ⟨t0, t1, t2, t3, t4⟩ := tb_cells hT3
      obtain ⟨u0, u1, u2, u3, u4⟩ := tb_cells hU3
      obtain ⟨y0, y1, y2, y3, y4⟩ := tb_cells W_s
      have HSm := tsame_any V3 NM F N (KI : Nat) only 0 0 co3 cc3 ro3 1 rc3 [fitRow F nn] co1 cc1 ro1 1 rc1 [fitRow F nn] (i3.past bV3) (iT2.past bV3) (by omega)
      rw [(eqRs_iff _ _).2 rfl] at HSm
      unfold tbV at HSm
      clear hb W_lt W_lg W_o13 W_o13b
      go_wp2_with (go_at_call 26; refine HSm.mono ?_; rintro en w9 ⟨rfl, b9⟩; have y5 : w9.cell? ⟨gu, 4, none⟩ = some (.slice ro4 0 rc4) := (Bk.past W_s b9).c rfl)
      go_ret
      exact ⟨rfl, by rw [HP.out]; exact BV3.trans (b9.mono (Nat.le_trans hpV2 bV3.size))⟩
  · have hkk : KI < N := hKl
    obtain ⟨aa, ab, ac, a0, a1, a2, f0, f1, f2⟩ := own_cells_v oX0 KI hkk
    have ki1 : (KI : Int) < (N : Int) := by omega
    go_upto_region 19 with fail
    have oX := own_set_v oX0 KI hkk ⟨9, 0, ⟨#[]⟩⟩
    have BVx : Below V0.heap.size V0 (((V.setCell ⟨gx, KI * 3, none⟩ (.int .i64 9)).setCell ⟨gx, KI * 3 + 1, none⟩ (.int .i64 0)).setCell ⟨gx, KI * 3 + 2, none⟩ (.string ⟨#[]⟩)) := ((bV0.setCell (p := ⟨gx, KI * 3, none⟩) hgx _).setCell (p := ⟨gx, KI * 3 + 1, none⟩) hgx _).setCell (p := ⟨gx, KI * 3 + 2, none⟩) hgx _
    dsimp only at oX
    generalize ((V.setCell ⟨gx, KI * 3, none⟩ (.int .i64 9)).setCell ⟨gx, KI * 3 + 1, none⟩ (.int .i64 0)).setCell ⟨gx, KI * 3 + 2, none⟩ (.string ⟨#[]⟩) = V1 at oX BVx ⊢
    have XS1 := XS0.past BVx
    have iG1 := iG0.past BVx
    have hT1 := hT0.past BVx
    have iT1 := iT0.past BVx
    have oR1 := oR0.past BVx
    have BV1 := BV0.trans (BVx.mono hpV0)
    have hpV1 := Nat.le_trans hpV0 BVx.size
    clear t0 t1 t2 t3 t4 z0 z1 z2 z3
    obtain ⟨z0, z1, z2, z3⟩ := sc_cells XS1
    obtain ⟨t0, t1, t2, t3, t4⟩ := tb_cells hT1
    have hE2 : putE F KI ((fitRow F nn).set KI ⟨9, 0, ⟨#[]⟩⟩) [fitRow F nn] = 3 := putE_bad (fitsE_set F hFk KI nn xk hxk _ 3 (fitE_nine xk) (by decide)) (by decide)
    have HPt2 := put_any V1 NM co1 N cc1 KI only ro1 1 rc1 F (by omega) (by omega) 0 [fitRow F nn] iT1 (some ⟨gx, 0, none⟩) N cx ((fitRow F nn).set KI ⟨9, 0, ⟨#[]⟩⟩) oX.isR (List.pairwise_singleton _ _) (by omega) (fun y hy => by obtain rfl := List.mem_singleton.1 hy; rw [fitRow_len, hFl]; omega) (by omega)
    rw [hE2, putR_bad hE2 (by decide)] at HPt2
    unfold tbV at HPt2
    go_upto_region 20 with (go_at_call 24; refine HPt2.mono ?_; rintro e w7 ⟨co3, cc3, ro3, rn3, rc3, rfl, i2, b7⟩; unfold tbV)
    obtain rfl : 1 = rn3 := i2.rows.len
    have bV2 : Below V1.heap.size V1 (w7.alloc (.cells #[.string (bsOf NM), .slice co3 N cc3, .int .i64 (KI : Nat), .bool only, .slice ro3 1 rc3] 47)) := b7.alloc b7.size _
    have hU2 : Bk (w7.alloc (.cells #[.string (bsOf NM), .slice co3 N cc3, .int .i64 (KI : Nat), .bool only, .slice ro3 1 rc3] 47)) w7.heap.size (tbC NM co3 N cc3 (KI : Nat) only ro3 1 rc3) 47 := Bk.new w7 _ _
    have i3 := (i2.past ((Below.refl w7.heap.size w7).alloc (Nat.le_refl _) (.cells #[.string (bsOf NM), .slice co3 N cc3, .int .i64 (KI : Nat), .bool only, .slice ro3 1 rc3] 47))).mono (Nat.zero_le _)
    generalize w7.alloc (.cells #[.string (bsOf NM), .slice co3 N cc3, .int .i64 (KI : Nat), .bool only, .slice ro3 1 rc3] 47) = V2 at bV2 hU2 i3 ⊢
    obtain ⟨gU, hgU⟩ : ∃ gU, w7.heap.size = gU := ⟨_, rfl⟩
    rw [hgU] at hU2
    simp only [hgU]
    have XS2 := XS1.past bV2
    have iG2 := iG1.past bV2
    have hT2 := hT1.past bV2
    have iT2 := iT1.past bV2
    have oR2 := oR1.past bV2
    have BV2 := BV1.trans (bV2.mono hpV1)
    have hpV2 := Nat.le_trans hpV1 bV2.size
    clear hgU b7 i2 t0 t1 t2 t3 t4 z0 z1 z2 z3 HPt2
    obtain ⟨z0, z1, z2, z3⟩ := sc_cells XS2
    obtain ⟨v0, v1, v2⟩ := own_vcells oR2 KI _ hrow
    rw [hvv] at v0 v1 v2
    have HTk0 := fun (w' : World) (hb : Below V2.heap.size V2.drew w') => take_u w' NM (some ⟨g, 0, none⟩) N cg KI only none 0 0 F (by omega) (by omega) 0 [] ⟨iG2.drew.past hb, IsRR.nil _ 0, fun _ _ => Nat.zero_le _⟩ vv0 (Srt.nil KI) (by omega) (fun y hy => by cases hy)
    have eE : takeE KI vv0 [] = 2 := rfl
    have eR : takeR KI vv0 [] = [] := rfl
    simp only [eE, eR] at HTk0
    obtain ⟨k, m, s⟩ := vv0
    unfold tbV at HTk0
    simp only at v0 v1 v2 HTk0
    have HTk := HTk0
    have hgsB := XS2.lt
    have hgrB := oR2.lt
    have hB0 : V2.heap.size ≤ V2.heap.size := Nat.le_refl _
    clear HTk0 hvv eE eR
    refine region_inv (TRef20 V2.heap.size gs NM g N cg KI only gr rca k m s F) (by kernel_rfl) (by kernel_rfl) ?_ ?_ ?_
    · exact ⟨false, false, false, false, false, false, false, false, false, false, false, false, false, false, false, false, undef, undef, undef, undef, undef, undef, undef, undef, undef, undef, undef, undef, undef, undef, undef, none, 0, none, 0, 0, none, 0, 0, 0, rfl, (by simp only [Act.put, List.setIfInBounds_toArray, List.set_cons_zero, List.set_cons_succ]), Below.refl _ _, (fun h => by cases h), (fun h => by cases h), (fun h => by cases h), (fun h => by cases h), (fun h => by cases h), (fun h => by cases h), (fun h => by cases h), (fun h => by cases h), (fun h => by cases h), (fun h => by cases h), (fun h => by cases h), (fun h => by cases h), (fun h => by cases h), (fun h => by cases h), (fun h => by cases h), (fun h => by cases h), (fun h => by cases h), (fun h => by cases h), (fun h => by cases h), (fun h => by cases h), (fun h => by cases h), (fun h => by cases h), (fun h => by cases h), (fun h => by cases h), (fun h => by cases h), (fun h => by cases h), (fun h => by cases h)⟩
    · refine ⟨?_, ?_, ?_, ?_, ?_, ?_, ?_, ?_, ?_, ?_, ?_, ?_, ?_, ?_, ?_, ?_, trivial⟩
      · rintro L a w ⟨b0, b1, b2, b3, b4, b5, b6, b7, b8, b9, b10, b11, b12, b13, b14, b15, x69, x70, x71, x72, x73, x74, x75, x76, x68, x77, x78, x79, x15, x16, x17, co4, cc4, ro4, rn4, rc4, pa, pn, pc, gu, rfl, rfl, hb, cd0, cd1, cd2, cd3, cd4, cd5, cd6, cd7, cd8, cd9, cd10, cd11, cd12, cd14, cd15, f_tt, f_st, f_lt, f_z, f_lg, f_s, f_o13, f_o13b, w_8_7, w_9_7, w_10_7, w_14_7⟩ hf hd
        have hf' : b0 = false := hf
        subst hf'
        clear hf hd
        try simp only [List.setIfInBounds_toArray, List.set_cons_zero, List.set_cons_succ]
        have z0 := (hb.cell hgsB).trans z0
        have z1 := (hb.cell hgsB).trans z1
        have z2 := (hb.cell hgsB).trans z2
        have z3 := (hb.cell hgsB).trans z3
        intro K hK
        rw [if_pos (by rfl)]
        go_simp
        exact hK.out _ _ ⟨true, b1, b2, b3, b4, b5, b6, b7, b8, b9, b10, b11, b12, b13, b14, b15, (.agg #[.string (bsOf NM), .slice (some ⟨g, 0, none⟩) N cg, .int .i64 (KI : Nat), .bool only]), x70, x71, x72, x73, x74, x75, x76, x68, x77, x78, x79, x15, x16, x17, co4, cc4, ro4, rn4, rc4, pa, pn, pc, gu, (by simp only [Act.put, List.setIfInBounds_toArray, List.set_cons_zero, List.set_cons_succ]), (by simp only [Act.put, List.setIfInBounds_toArray, List.set_cons_zero, List.set_cons_succ]), hb, (fun _ => rfl), cd1, cd2, cd3, cd4, cd5, cd6, cd7, cd8, cd9, cd10, cd11, cd12, cd14, cd15, f_tt, f_st, f_lt, f_z, f_lg, f_s, f_o13, f_o13b, w_8_7, w_9_7, w_10_7, w_14_7⟩
      · rintro L a w ⟨b0, b1, b2, b3, b4, b5, b6, b7, b8, b9, b10, b11, b12, b13, b14, b15, x69, x70, x71, x72, x73, x74, x75, x76, x68, x77, x78, x79, x15, x16, x17, co4, cc4, ro4, rn4, rc4, pa, pn, pc, gu, rfl, rfl, hb, cd0, cd1, cd2, cd3, cd4, cd5, cd6, cd7, cd8, cd9, cd10, cd11, cd12, cd14, cd15, f_tt, f_st, f_lt, f_z, f_lg, f_s, f_o13, f_o13b, w_8_7, w_9_7, w_10_7, w_14_7⟩ hf hd
        have hf' : b1 = false := hf
        subst hf'
        have d0 : b0 = true := hd ⟨0, .data⟩ (by simp) rfl
        subst d0
        obtain rfl := cd0.out rfl
        clear hf hd
        try simp only [List.setIfInBounds_toArray, List.set_cons_zero, List.set_cons_succ]
        intro K hK
        rw [if_pos (by rfl)]
        go_simp
        exact hK.out _ _ ⟨true, true, b2, b3, b4, b5, b6, b7, b8, b9, b10, b11, b12, b13, b14, b15, .agg #[.string (bsOf NM), .slice (some ⟨g, 0, none⟩) N cg, .int .i64 (KI : Nat), .bool only], (.agg #[.string (bsOf NM), .slice (some ⟨g, 0, none⟩) N cg, .int .i64 (KI : Nat), .bool only, .slice none 0 0]), x71, x72, x73, x74, x75, x76, x68, x77, x78, x79, x15, x16, x17, co4, cc4, ro4, rn4, rc4, pa, pn, pc, gu, (by simp only [Act.put, List.setIfInBounds_toArray, List.set_cons_zero, List.set_cons_succ]), (by simp only [Act.put, List.setIfInBounds_toArray, List.set_cons_zero, List.set_cons_succ]), hb, (fun _ => rfl), (fun _ => rfl), cd2, cd3, cd4, cd5, cd6, cd7, cd8, cd9, cd10, cd11, cd12, cd14, cd15, f_tt, f_st, f_lt, f_z, f_lg, f_s, f_o13, f_o13b, w_8_7, w_9_7, w_10_7, w_14_7⟩
      · rintro L a w ⟨b0, b1, b2, b3, b4, b5, b6, b7, b8, b9, b10, b11, b12, b13, b14, b15, x69, x70, x71, x72, x73, x74, x75, x76, x68, x77, x78, x79, x15, x16, x17, co4, cc4, ro4, rn4, rc4, pa, pn, pc, gu, rfl, rfl, hb, cd0, cd1, cd2, cd3, cd4, cd5, cd6, cd7, cd8, cd9, cd10, cd11, cd12, cd14, cd15, f_tt, f_st, f_lt, f_z, f_lg, f_s, f_o13, f_o13b, w_8_7, w_9_7, w_10_7, w_14_7⟩ hf hd
        have hf' : b2 = false := hf
        subst hf'
        clear hf hd
        try simp only [List.setIfInBounds_toArray, List.set_cons_zero, List.set_cons_succ]
        intro K hK
        rw [if_pos (by rfl)]
        go_simp
        exact hK.out _ _ ⟨b0, b1, true, b3, b4, b5, b6, b7, b8, b9, b10, b11, b12, b13, b14, b15, x69, x70, (.slice (some ⟨gr, 0, none⟩) N rca), x72, x73, x74, x75, x76, x68, x77, x78, x79, x15, x16, x17, co4, cc4, ro4, rn4, rc4, pa, pn, pc, gu, (by simp only [Act.put, List.setIfInBounds_toArray, List.set_cons_zero, List.set_cons_succ]), (by simp only [Act.put, List.setIfInBounds_toArray, List.set_cons_zero, List.set_cons_succ]), hb, cd0, cd1, (fun _ => rfl), cd3, cd4, cd5, cd6, cd7, cd8, cd9, cd10, cd11, cd12, cd14, cd15, f_tt, f_st, f_lt, f_z, f_lg, f_s, f_o13, f_o13b, w_8_7, w_9_7, w_10_7, w_14_7⟩
      · rintro L a w ⟨b0, b1, b2, b3, b4, b5, b6, b7, b8, b9, b10, b11, b12, b13, b14, b15, x69, x70, x71, x72, x73, x74, x75, x76, x68, x77, x78, x79, x15, x16, x17, co4, cc4, ro4, rn4, rc4, pa, pn, pc, gu, rfl, rfl, hb, cd0, cd1, cd2, cd3, cd4, cd5, cd6, cd7, cd8, cd9, cd10, cd11, cd12, cd14, cd15, f_tt, f_st, f_lt, f_z, f_lg, f_s, f_o13, f_o13b, w_8_7, w_9_7, w_10_7, w_14_7⟩ hf hd
        have hf' : b3 = false := hf
        subst hf'
        clear hf hd
        try simp only [List.setIfInBounds_toArray, List.set_cons_zero, List.set_cons_succ]
        intro K hK
        rw [if_pos (by rfl)]
        go_simp
        exact hK.out _ _ ⟨b0, b1, b2, true, b4, b5, b6, b7, b8, b9, b10, b11, b12, b13, b14, b15, x69, x70, x71, (.pointer (some ⟨gs, 2, none⟩)), x73, x74, x75, x76, x68, x77, x78, x79, x15, x16, x17, co4, cc4, ro4, rn4, rc4, pa, pn, pc, gu, (by simp only [Act.put, List.setIfInBounds_toArray, List.set_cons_zero, List.set_cons_succ]), (by simp only [Act.put, List.setIfInBounds_toArray, List.set_cons_zero, List.set_cons_succ]), hb, cd0, cd1, cd2, (fun _ => rfl), cd4, cd5, cd6, cd7, cd8, cd9, cd10, cd11, cd12, cd14, cd15, f_tt, f_st, f_lt, f_z, f_lg, f_s, f_o13, f_o13b, w_8_7, w_9_7, w_10_7, w_14_7⟩
      · rintro L a w ⟨b0, b1, b2, b3, b4, b5, b6, b7, b8, b9, b10, b11, b12, b13, b14, b15, x69, x70, x71, x72, x73, x74, x75, x76, x68, x77, x78, x79, x15, x16, x17, co4, cc4, ro4, rn4, rc4, pa, pn, pc, gu, rfl, rfl, hb, cd0, cd1, cd2, cd3, cd4, cd5, cd6, cd7, cd8, cd9, cd10, cd11, cd12, cd14, cd15, f_tt, f_st, f_lt, f_z, f_lg, f_s, f_o13, f_o13b, w_8_7, w_9_7, w_10_7, w_14_7⟩ hf hd
        have hf' : b4 = false := hf
        subst hf'
        have d3 : b3 = true := hd ⟨3, .data⟩ (by simp) rfl
        subst d3
        obtain rfl := cd3.out rfl
        clear hf hd
        try simp only [List.setIfInBounds_toArray, List.set_cons_zero, List.set_cons_succ]
        have z0 := (hb.cell hgsB).trans z2
        intro K hK
        rw [if_pos (by rfl)]
        go_simp
        exact hK.out _ _ ⟨b0, b1, b2, true, true, b5, b6, b7, b8, b9, b10, b11, b12, b13, b14, b15, x69, x70, x71, .pointer (some ⟨gs, 2, none⟩), (.int .i64 (KI : Nat)), x74, x75, x76, x68, x77, x78, x79, x15, x16, x17, co4, cc4, ro4, rn4, rc4, pa, pn, pc, gu, (by simp only [Act.put, List.setIfInBounds_toArray, List.set_cons_zero, List.set_cons_succ]), (by simp only [Act.put, List.setIfInBounds_toArray, List.set_cons_zero, List.set_cons_succ]), hb, cd0, cd1, cd2, (fun _ => rfl), (fun _ => rfl), cd5, cd6, cd7, cd8, cd9, cd10, cd11, cd12, cd14, cd15, f_tt, f_st, f_lt, f_z, f_lg, f_s, f_o13, f_o13b, w_8_7, w_9_7, w_10_7, w_14_7⟩
      · rintro L a w ⟨b0, b1, b2, b3, b4, b5, b6, b7, b8, b9, b10, b11, b12, b13, b14, b15, x69, x70, x71, x72, x73, x74, x75, x76, x68, x77, x78, x79, x15, x16, x17, co4, cc4, ro4, rn4, rc4, pa, pn, pc, gu, rfl, rfl, hb, cd0, cd1, cd2, cd3, cd4, cd5, cd6, cd7, cd8, cd9, cd10, cd11, cd12, cd14, cd15, f_tt, f_st, f_lt, f_z, f_lg, f_s, f_o13, f_o13b, w_8_7, w_9_7, w_10_7, w_14_7⟩ hf hd
        have hf' : b5 = false := hf
        subst hf'
        have d2 : b2 = true := hd ⟨2, .data⟩ (by simp) rfl
        subst d2
        have d4 : b4 = true := hd ⟨4, .data⟩ (by simp) rfl
        subst d4
        obtain rfl := cd2.out rfl
        obtain rfl := cd4.out rfl
        clear hf hd
        try simp only [List.setIfInBounds_toArray, List.set_cons_zero, List.set_cons_succ]
        intro K hK
        rw [if_pos (by rfl)]
        go_simp
        exact hK.out _ _ ⟨b0, b1, true, b3, true, true, b6, b7, b8, b9, b10, b11, b12, b13, b14, b15, x69, x70, .slice (some ⟨gr, 0, none⟩) N rca, x72, .int .i64 (KI : Nat), (.pointer (some ⟨gr, KI * 3, none⟩)), x75, x76, x68, x77, x78, x79, x15, x16, x17, co4, cc4, ro4, rn4, rc4, pa, pn, pc, gu, (by simp only [Act.put, List.setIfInBounds_toArray, List.set_cons_zero, List.set_cons_succ]), (by simp only [Act.put, List.setIfInBounds_toArray, List.set_cons_zero, List.set_cons_succ]), hb, cd0, cd1, (fun _ => rfl), cd3, (fun _ => rfl), (fun _ => rfl), cd6, cd7, cd8, cd9, cd10, cd11, cd12, cd14, cd15, f_tt, f_st, f_lt, f_z, f_lg, f_s, f_o13, f_o13b, w_8_7, w_9_7, w_10_7, w_14_7⟩
      · rintro L a w ⟨b0, b1, b2, b3, b4, b5, b6, b7, b8, b9, b10, b11, b12, b13, b14, b15, x69, x70, x71, x72, x73, x74, x75, x76, x68, x77, x78, x79, x15, x16, x17, co4, cc4, ro4, rn4, rc4, pa, pn, pc, gu, rfl, rfl, hb, cd0, cd1, cd2, cd3, cd4, cd5, cd6, cd7, cd8, cd9, cd10, cd11, cd12, cd14, cd15, f_tt, f_st, f_lt, f_z, f_lg, f_s, f_o13, f_o13b, w_8_7, w_9_7, w_10_7, w_14_7⟩ hf hd
        have hf' : b6 = false := hf
        subst hf'
        have d5 : b5 = true := hd ⟨5, .data⟩ (by simp) rfl
        subst d5
        obtain rfl := cd5.out rfl
        clear hf hd
        try simp only [List.setIfInBounds_toArray, List.set_cons_zero, List.set_cons_succ]
        have z0 := (hb.cell hgrB).trans v0
        have z1 := (hb.cell hgrB).trans v1
        have z2 := (hb.cell hgrB).trans v2
        intro K hK
        rw [if_pos (by rfl)]
        go_simp
        exact hK.out _ _ ⟨b0, b1, b2, b3, b4, true, true, b7, b8, b9, b10, b11, b12, b13, b14, b15, x69, x70, x71, x72, x73, .pointer (some ⟨gr, KI * 3, none⟩), (.agg #[.int .i64 k, .int .i64 m, .string s]), x76, x68, x77, x78, x79, x15, x16, x17, co4, cc4, ro4, rn4, rc4, pa, pn, pc, gu, (by simp only [Act.put, List.setIfInBounds_toArray, List.set_cons_zero, List.set_cons_succ]), (by simp only [Act.put, List.setIfInBounds_toArray, List.set_cons_zero, List.set_cons_succ]), hb, cd0, cd1, cd2, cd3, cd4, (fun _ => rfl), (fun _ => rfl), cd7, cd8, cd9, cd10, cd11, cd12, cd14, cd15, f_tt, f_st, f_lt, f_z, f_lg, f_s, f_o13, f_o13b, w_8_7, w_9_7, w_10_7, w_14_7⟩
      · rintro L a w ⟨b0, b1, b2, b3, b4, b5, b6, b7, b8, b9, b10, b11, b12, b13, b14, b15, x69, x70, x71, x72, x73, x74, x75, x76, x68, x77, x78, x79, x15, x16, x17, co4, cc4, ro4, rn4, rc4, pa, pn, pc, gu, rfl, rfl, hb, cd0, cd1, cd2, cd3, cd4, cd5, cd6, cd7, cd8, cd9, cd10, cd11, cd12, cd14, cd15, f_tt, f_st, f_lt, f_z, f_lg, f_s, f_o13, f_o13b, w_8_7, w_9_7, w_10_7, w_14_7⟩ hf hd
        have hf' : b7 = false := hf
        subst hf'
        have d1 : b1 = true := hd ⟨1, .data⟩ (by simp) rfl
        subst d1
        have d6 : b6 = true := hd ⟨6, .data⟩ (by simp) rfl
        subst d6
        obtain rfl := cd1.out rfl
        obtain rfl := cd6.out rfl
        clear hf hd
        try simp only [List.setIfInBounds_toArray, List.set_cons_zero, List.set_cons_succ]
        intro K hK
        rw [if_pos (by rfl)]
        go_simp
        go_at_call 27
        refine (HTk _ hb).mono ?_
        rintro e w' ⟨co3, cc3, ro3, rn3, rc3, pa3, pn3, pc3, rfl, i1, bx⟩
        have e_8 : b8 = false := by cases hq : b8 with | false => rfl | true => exact absurd (w_8_7.out hq) (by simp)
        subst e_8
        have e_9 : b9 = false := by cases hq : b9 with | false => rfl | true => exact absurd (w_9_7.out hq) (by simp)
        subst e_9
        have e_10 : b10 = false := by cases hq : b10 with | false => rfl | true => exact absurd (w_10_7.out hq) (by simp)
        subst e_10
        have e_14 : b14 = false := by cases hq : b14 with | false => rfl | true => exact absurd (w_14_7.out hq) (by simp)
        subst e_14
        exact hK.out _ _ ⟨b0, true, b2, b3, b4, b5, true, true, false, false, false, b11, b12, b13, false, b15, x69, .agg #[.string (bsOf NM), .slice (some ⟨g, 0, none⟩) N cg, .int .i64 (KI : Nat), .bool only, .slice none 0 0], x71, x72, x73, x74, .agg #[.int .i64 k, .int .i64 m, .string s], (.tuple #[.agg #[.string (bsOf NM), .slice co3 N cc3, .int .i64 (KI : Nat), .bool only, .slice ro3 rn3 rc3], .slice pa3 pn3 pc3, .int .i64 2]), x68, x77, x78, x79, x15, x16, x17, co3, cc3, ro3, rn3, rc3, pa3, pn3, pc3, gu, (by simp only [Act.put, List.setIfInBounds_toArray, List.set_cons_zero, List.set_cons_succ]), (by simp only [Act.put, List.setIfInBounds_toArray, List.set_cons_zero, List.set_cons_succ]), hb.trans (bx.mono (Nat.le_trans hB0 hb.size)), cd0, (fun _ => rfl), cd2, cd3, cd4, cd5, (fun _ => rfl), (fun _ => rfl), (fun h => by cases h), (fun h => by cases h), (fun h => by cases h), cd11, cd12, (fun h => by cases h), cd15, (fun _ => i1.mono hb.size), (fun _ _ => fun h w'' gw => (i1.grown gw (f_lt.out h)).mono hb.size), (fun h0 => Nat.lt_of_lt_of_le (f_lt.out h0) bx.size), (fun h0 h1 => (f_z.out h0 h1).past bx), f_lg, (fun h0 => absurd (f_o13.out h0) (by simp)), (fun _ => rfl), f_o13b, (fun _ => rfl), (fun _ => rfl), (fun _ => rfl), (fun _ => rfl)⟩
      · rintro L a w ⟨b0, b1, b2, b3, b4, b5, b6, b7, b8, b9, b10, b11, b12, b13, b14, b15, x69, x70, x71, x72, x73, x74, x75, x76, x68, x77, x78, x79, x15, x16, x17, co4, cc4, ro4, rn4, rc4, pa, pn, pc, gu, rfl, rfl, hb, cd0, cd1, cd2, cd3, cd4, cd5, cd6, cd7, cd8, cd9, cd10, cd11, cd12, cd14, cd15, f_tt, f_st, f_lt, f_z, f_lg, f_s, f_o13, f_o13b, w_8_7, w_9_7, w_10_7, w_14_7⟩ hf hd
        have hf' : b8 = false := hf
        subst hf'
        have d7 : b7 = true := hd ⟨7, .data⟩ (by simp) rfl
        subst d7
        obtain rfl := cd7.out rfl
        clear hf hd
        have W_tt := f_tt.out rfl
        try simp only [List.setIfInBounds_toArray, List.set_cons_zero, List.set_cons_succ]
        intro K hK
        rw [if_pos (by rfl)]
        go_simp
        exact hK.out _ _ ⟨b0, b1, b2, b3, b4, b5, b6, true, true, b9, b10, b11, b12, b13, b14, b15, x69, x70, x71, x72, x73, x74, x75, .tuple #[.agg #[.string (bsOf NM), .slice co4 N cc4, .int .i64 (KI : Nat), .bool only, .slice ro4 rn4 rc4], .slice pa pn pc, .int .i64 2], (.tuple #[.agg #[.string (bsOf NM), .slice co4 N cc4, .int .i64 (KI : Nat), .bool only, .slice ro4 rn4 rc4], .slice pa pn pc, .int .i64 2]), x77, x78, x79, x15, x16, x17, co4, cc4, ro4, rn4, rc4, pa, pn, pc, gu, (by simp only [Act.put, List.setIfInBounds_toArray, List.set_cons_zero, List.set_cons_succ]), (by simp only [Act.put, List.setIfInBounds_toArray, List.set_cons_zero, List.set_cons_succ]), hb, cd0, cd1, cd2, cd3, cd4, cd5, cd6, (fun _ => rfl), (fun _ => rfl), cd9, cd10, cd11, cd12, cd14, cd15, f_tt, f_st, f_lt, f_z, f_lg, f_s, f_o13, f_o13b, (fun _ => rfl), (fun _ => rfl), (fun _ => rfl), (fun _ => rfl)⟩
      · rintro L a w ⟨b0, b1, b2, b3, b4, b5, b6, b7, b8, b9, b10, b11, b12, b13, b14, b15, x69, x70, x71, x72, x73, x74, x75, x76, x68, x77, x78, x79, x15, x16, x17, co4, cc4, ro4, rn4, rc4, pa, pn, pc, gu, rfl, rfl, hb, cd0, cd1, cd2, cd3, cd4, cd5, cd6, cd7, cd8, cd9, cd10, cd11, cd12, cd14, cd15, f_tt, f_st, f_lt, f_z, f_lg, f_s, f_o13, f_o13b, w_8_7, w_9_7, w_10_7, w_14_7⟩ hf hd
        have hf' : b9 = false := hf
        subst hf'
        have d8 : b8 = true := hd ⟨8, .data⟩ (by simp) rfl
        subst d8
        obtain rfl := cd8.out rfl
        clear hf hd
        try simp only [List.setIfInBounds_toArray, List.set_cons_zero, List.set_cons_succ]
        intro K hK
        rw [if_pos (by rfl)]
        go_simp
        exact hK.out _ _ ⟨b0, b1, b2, b3, b4, b5, b6, b7, true, true, b10, b11, b12, b13, b14, b15, x69, x70, x71, x72, x73, x74, x75, x76, .tuple #[.agg #[.string (bsOf NM), .slice co4 N cc4, .int .i64 (KI : Nat), .bool only, .slice ro4 rn4 rc4], .slice pa pn pc, .int .i64 2], (.agg #[.string (bsOf NM), .slice co4 N cc4, .int .i64 (KI : Nat), .bool only, .slice ro4 rn4 rc4]), x78, x79, x15, x16, x17, co4, cc4, ro4, rn4, rc4, pa, pn, pc, gu, (by simp only [Act.put, List.setIfInBounds_toArray, List.set_cons_zero, List.set_cons_succ]), (by simp only [Act.put, List.setIfInBounds_toArray, List.set_cons_zero, List.set_cons_succ]), hb, cd0, cd1, cd2, cd3, cd4, cd5, cd6, cd7, (fun _ => rfl), (fun _ => rfl), cd10, cd11, cd12, cd14, cd15, f_tt, f_st, f_lt, f_z, f_lg, f_s, f_o13, f_o13b, w_8_7, (fun _ => w_8_7.out rfl), w_10_7, w_14_7⟩
      · rintro L a w ⟨b0, b1, b2, b3, b4, b5, b6, b7, b8, b9, b10, b11, b12, b13, b14, b15, x69, x70, x71, x72, x73, x74, x75, x76, x68, x77, x78, x79, x15, x16, x17, co4, cc4, ro4, rn4, rc4, pa, pn, pc, gu, rfl, rfl, hb, cd0, cd1, cd2, cd3, cd4, cd5, cd6, cd7, cd8, cd9, cd10, cd11, cd12, cd14, cd15, f_tt, f_st, f_lt, f_z, f_lg, f_s, f_o13, f_o13b, w_8_7, w_9_7, w_10_7, w_14_7⟩ hf hd
        have hf' : b10 = false := hf
        subst hf'
        have d8 : b8 = true := hd ⟨8, .data⟩ (by simp) rfl
        subst d8
        obtain rfl := cd8.out rfl
        clear hf hd
        try simp only [List.setIfInBounds_toArray, List.set_cons_zero, List.set_cons_succ]
        intro K hK
        rw [if_pos (by rfl)]
        go_simp
        exact hK.out _ _ ⟨b0, b1, b2, b3, b4, b5, b6, b7, true, b9, true, b11, b12, b13, b14, b15, x69, x70, x71, x72, x73, x74, x75, x76, .tuple #[.agg #[.string (bsOf NM), .slice co4 N cc4, .int .i64 (KI : Nat), .bool only, .slice ro4 rn4 rc4], .slice pa pn pc, .int .i64 2], x77, (.slice pa pn pc), x79, x15, x16, x17, co4, cc4, ro4, rn4, rc4, pa, pn, pc, gu, (by simp only [Act.put, List.setIfInBounds_toArray, List.set_cons_zero, List.set_cons_succ]), (by simp only [Act.put, List.setIfInBounds_toArray, List.set_cons_zero, List.set_cons_succ]), hb, cd0, cd1, cd2, cd3, cd4, cd5, cd6, cd7, (fun _ => rfl), cd9, (fun _ => rfl), cd11, cd12, cd14, cd15, f_tt, f_st, f_lt, f_z, f_lg, f_s, f_o13, f_o13b, w_8_7, w_9_7, (fun _ => w_8_7.out rfl), w_14_7⟩
      · rintro L a w ⟨b0, b1, b2, b3, b4, b5, b6, b7, b8, b9, b10, b11, b12, b13, b14, b15, x69, x70, x71, x72, x73, x74, x75, x76, x68, x77, x78, x79, x15, x16, x17, co4, cc4, ro4, rn4, rc4, pa, pn, pc, gu, rfl, rfl, hb, cd0, cd1, cd2, cd3, cd4, cd5, cd6, cd7, cd8, cd9, cd10, cd11, cd12, cd14, cd15, f_tt, f_st, f_lt, f_z, f_lg, f_s, f_o13, f_o13b, w_8_7, w_9_7, w_10_7, w_14_7⟩ hf hd
        have hf' : b11 = false := hf
        subst hf'
        have d8 : b8 = true := hd ⟨8, .data⟩ (by simp) rfl
        subst d8
        obtain rfl := cd8.out rfl
        clear hf hd
        try simp only [List.setIfInBounds_toArray, List.set_cons_zero, List.set_cons_succ]
        intro K hK
        rw [if_pos (by rfl)]
        go_simp
        exact hK.out _ _ ⟨b0, b1, b2, b3, b4, b5, b6, b7, true, b9, b10, true, b12, b13, b14, b15, x69, x70, x71, x72, x73, x74, x75, x76, .tuple #[.agg #[.string (bsOf NM), .slice co4 N cc4, .int .i64 (KI : Nat), .bool only, .slice ro4 rn4 rc4], .slice pa pn pc, .int .i64 2], x77, x78, (.int .i64 2), x15, x16, x17, co4, cc4, ro4, rn4, rc4, pa, pn, pc, gu, (by simp only [Act.put, List.setIfInBounds_toArray, List.set_cons_zero, List.set_cons_succ]), (by simp only [Act.put, List.setIfInBounds_toArray, List.set_cons_zero, List.set_cons_succ]), hb, cd0, cd1, cd2, cd3, cd4, cd5, cd6, cd7, (fun _ => rfl), cd9, cd10, (fun _ => rfl), cd12, cd14, cd15, f_tt, f_st, f_lt, f_z, f_lg, f_s, f_o13, f_o13b, w_8_7, w_9_7, w_10_7, w_14_7⟩
      · rintro L a w ⟨b0, b1, b2, b3, b4, b5, b6, b7, b8, b9, b10, b11, b12, b13, b14, b15, x69, x70, x71, x72, x73, x74, x75, x76, x68, x77, x78, x79, x15, x16, x17, co4, cc4, ro4, rn4, rc4, pa, pn, pc, gu, rfl, rfl, hb, cd0, cd1, cd2, cd3, cd4, cd5, cd6, cd7, cd8, cd9, cd10, cd11, cd12, cd14, cd15, f_tt, f_st, f_lt, f_z, f_lg, f_s, f_o13, f_o13b, w_8_7, w_9_7, w_10_7, w_14_7⟩ hf hd
        have hf' : b12 = false := hf
        subst hf'
        clear hf hd
        try simp only [List.setIfInBounds_toArray, List.set_cons_zero, List.set_cons_succ]
        intro K hK
        rw [if_pos (by rfl)]
        go_simp
        have bx : Below w.heap.size w (w.alloc (.cells #[.string ⟨#[]⟩, .slice none 0 0, .int .i64 0, .bool false, .slice none 0 0] 47)) := (Below.refl _ _).alloc (Nat.le_refl _) _
        have i2 : Bk (w.alloc (.cells #[.string ⟨#[]⟩, .slice none 0 0, .int .i64 0, .bool false, .slice none 0 0] 47)) w.heap.size (tbC [] none 0 0 0 false none 0 0) 47 := Bk.new w _ _
        exact hK.out _ _ ⟨b0, b1, b2, b3, b4, b5, b6, b7, b8, b9, b10, b11, true, b13, b14, b15, x69, x70, x71, x72, x73, x74, x75, x76, x68, x77, x78, x79, (.pointer (some ⟨(w.heap.size), 0, none⟩)), x16, x17, co4, cc4, ro4, rn4, rc4, pa, pn, pc, w.heap.size, (by simp only [Act.put, List.setIfInBounds_toArray, List.set_cons_zero, List.set_cons_succ]), (by simp only [Act.put, List.setIfInBounds_toArray, List.set_cons_zero, List.set_cons_succ]), hb.trans (bx.mono (Nat.le_trans hB0 hb.size)), cd0, cd1, cd2, cd3, cd4, cd5, cd6, cd7, cd8, cd9, cd10, cd11, (fun _ => rfl), cd14, cd15, (fun h0 => (f_tt.out h0).past bx), (fun h0 _ _ w'' gw => (f_tt.out h0).past (below_new gw)), (fun _ => by rw [World.size_alloc]; omega), (fun _ _ => i2), (fun _ => hb.size), (fun h0 => absurd (f_o13b.out h0) (by simp)), f_o13, (fun _ => rfl), w_8_7, w_9_7, w_10_7, w_14_7⟩
      · rintro L a w ⟨b0, b1, b2, b3, b4, b5, b6, b7, b8, b9, b10, b11, b12, b13, b14, b15, x69, x70, x71, x72, x73, x74, x75, x76, x68, x77, x78, x79, x15, x16, x17, co4, cc4, ro4, rn4, rc4, pa, pn, pc, gu, rfl, rfl, hb, cd0, cd1, cd2, cd3, cd4, cd5, cd6, cd7, cd8, cd9, cd10, cd11, cd12, cd14, cd15, f_tt, f_st, f_lt, f_z, f_lg, f_s, f_o13, f_o13b, w_8_7, w_9_7, w_10_7, w_14_7⟩ hf hd
        have hf' : b13 = false := hf
        subst hf'
        have d12 : b12 = true := hd ⟨12, .data⟩ (by simp) rfl
        subst d12
        have d9 : b9 = true := hd ⟨9, .data⟩ (by simp) rfl
        subst d9
        have d7 : b7 = true := hd ⟨7, .chain⟩ (by simp) rfl
        subst d7
        have d0 : b0 = true := hd ⟨0, .phase⟩ (by simp) rfl
        subst d0
        have d1 : b1 = true := hd ⟨1, .phase⟩ (by simp) rfl
        subst d1
        have d2 : b2 = true := hd ⟨2, .phase⟩ (by simp) rfl
        subst d2
        have d3 : b3 = true := hd ⟨3, .phase⟩ (by simp) rfl
        subst d3
        have d4 : b4 = true := hd ⟨4, .phase⟩ (by simp) rfl
        subst d4
        have d5 : b5 = true := hd ⟨5, .phase⟩ (by simp) rfl
        subst d5
        have d6 : b6 = true := hd ⟨6, .phase⟩ (by simp) rfl
        subst d6
        have d8 : b8 = true := hd ⟨8, .phase⟩ (by simp) rfl
        subst d8
        obtain rfl := cd12.out rfl
        obtain rfl := cd9.out rfl
        obtain rfl := cd7.out rfl
        obtain rfl := cd0.out rfl
        obtain rfl := cd1.out rfl
        obtain rfl := cd2.out rfl
        obtain rfl := cd3.out rfl
        obtain rfl := cd4.out rfl
        obtain rfl := cd5.out rfl
        obtain rfl := cd6.out rfl
        obtain rfl := cd8.out rfl
        clear hf hd
        have W_tt := f_tt.out rfl
        have W_st := f_st.out rfl rfl
        have W_lt := f_lt.out rfl
        have W_z := f_z.out rfl rfl
        have W_lg := f_lg.out rfl
        try simp only [List.setIfInBounds_toArray, List.set_cons_zero, List.set_cons_succ]
        intro K hK
        rw [if_pos (by rfl)]
        refine wp_store_blkT 47 _ _ rfl gu _ (tbC NM co4 N cc4 (KI : Nat) only ro4 rn4 rc4) rfl rfl _ (Lib.hid W_z) 5 szTb (tbC_size ..) (tbC_size ..) (tbC_all ..) fun w2 h8 g8 => ?_
        have hb2 := hb.grown g8 (Nat.le_trans hB0 hb.size) (fun z hz => by cases hz; exact Nat.le_trans hB0 W_lg)
        exact hK.out _ _ ⟨true, true, true, true, true, true, true, true, true, true, b10, b11, true, true, b14, b15, .agg #[.string (bsOf NM), .slice (some ⟨g, 0, none⟩) N cg, .int .i64 (KI : Nat), .bool only], .agg #[.string (bsOf NM), .slice (some ⟨g, 0, none⟩) N cg, .int .i64 (KI : Nat), .bool only, .slice none 0 0], .slice (some ⟨gr, 0, none⟩) N rca, .pointer (some ⟨gs, 2, none⟩), .int .i64 (KI : Nat), .pointer (some ⟨gr, KI * 3, none⟩), .agg #[.int .i64 k, .int .i64 m, .string s], .tuple #[.agg #[.string (bsOf NM), .slice co4 N cc4, .int .i64 (KI : Nat), .bool only, .slice ro4 rn4 rc4], .slice pa pn pc, .int .i64 2], .tuple #[.agg #[.string (bsOf NM), .slice co4 N cc4, .int .i64 (KI : Nat), .bool only, .slice ro4 rn4 rc4], .slice pa pn pc, .int .i64 2], .agg #[.string (bsOf NM), .slice co4 N cc4, .int .i64 (KI : Nat), .bool only, .slice ro4 rn4 rc4], x78, x79, .pointer (some ⟨gu, 0, none⟩), x16, x17, co4, cc4, ro4, rn4, rc4, pa, pn, pc, gu, (by simp only [Act.put, List.setIfInBounds_toArray, List.set_cons_zero, List.set_cons_succ]), (by simp only [Act.put, List.setIfInBounds_toArray, List.set_cons_zero, List.set_cons_succ]), hb2, (fun _ => rfl), (fun _ => rfl), (fun _ => rfl), (fun _ => rfl), (fun _ => rfl), (fun _ => rfl), (fun _ => rfl), (fun _ => rfl), (fun _ => rfl), (fun _ => rfl), cd10, cd11, (fun _ => rfl), cd14, cd15, (fun h0 => (f_st.out h0 rfl rfl) _ g8), (fun _ h => by cases h), (fun h0 => Nat.lt_of_lt_of_le ((f_lt.out h0)) g8.size), (fun _ h => by cases h), f_lg, (fun _ => h8.out), (fun _ => rfl), (fun _ => rfl), (fun _ => rfl), (fun _ => rfl), (fun _ => rfl), (fun _ => rfl)⟩
      · rintro L a w ⟨b0, b1, b2, b3, b4, b5, b6, b7, b8, b9, b10, b11, b12, b13, b14, b15, x69, x70, x71, x72, x73, x74, x75, x76, x68, x77, x78, x79, x15, x16, x17, co4, cc4, ro4, rn4, rc4, pa, pn, pc, gu, rfl, rfl, hb, cd0, cd1, cd2, cd3, cd4, cd5, cd6, cd7, cd8, cd9, cd10, cd11, cd12, cd14, cd15, f_tt, f_st, f_lt, f_z, f_lg, f_s, f_o13, f_o13b, w_8_7, w_9_7, w_10_7, w_14_7⟩ hf hd
        have hf' : b14 = false := hf
        subst hf'
        have d10 : b10 = true := hd ⟨10, .data⟩ (by simp) rfl
        subst d10
        have d13 : b13 = true := hd ⟨13, .chain⟩ (by simp) rfl
        subst d13
        have d0 : b0 = true := hd ⟨0, .phase⟩ (by simp) rfl
        subst d0
        have d1 : b1 = true := hd ⟨1, .phase⟩ (by simp) rfl
        subst d1
        have d2 : b2 = true := hd ⟨2, .phase⟩ (by simp) rfl
        subst d2
        have d3 : b3 = true := hd ⟨3, .phase⟩ (by simp) rfl
        subst d3
        have d4 : b4 = true := hd ⟨4, .phase⟩ (by simp) rfl
        subst d4
        have d5 : b5 = true := hd ⟨5, .phase⟩ (by simp) rfl
        subst d5
        have d6 : b6 = true := hd ⟨6, .phase⟩ (by simp) rfl
        subst d6
        have d7 : b7 = true := hd ⟨7, .phase⟩ (by simp) rfl
        subst d7
        have d8 : b8 = true := hd ⟨8, .phase⟩ (by simp) rfl
        subst d8
        have d9 : b9 = true := hd ⟨9, .phase⟩ (by simp) rfl
        subst d9
        have d12 : b12 = true := hd ⟨12, .phase⟩ (by simp) rfl
        subst d12
        obtain rfl := cd10.out rfl
        obtain rfl := cd0.out rfl
        obtain rfl := cd1.out rfl
        obtain rfl := cd2.out rfl
        obtain rfl := cd3.out rfl
        obtain rfl := cd4.out rfl
        obtain rfl := cd5.out rfl
        obtain rfl := cd6.out rfl
        obtain rfl := cd7.out rfl
        obtain rfl := cd8.out rfl
        obtain rfl := cd9.out rfl
        obtain rfl := cd12.out rfl
        clear hf hd
        have W_tt := f_tt.out rfl
        have W_lt := f_lt.out rfl
        have W_lg := f_lg.out rfl
        have W_s := f_s.out rfl
        have W_o13 := f_o13.out rfl
        have W_o13b := f_o13b.out rfl
        try simp only [List.setIfInBounds_toArray, List.set_cons_zero, List.set_cons_succ]
        intro K hK
        rw [if_pos (by rfl)]
        go_simp
        exact hK.out _ _ ⟨true, true, true, true, true, true, true, true, true, true, true, b11, true, true, true, b15, .agg #[.string (bsOf NM), .slice (some ⟨g, 0, none⟩) N cg, .int .i64 (KI : Nat), .bool only], .agg #[.string (bsOf NM), .slice (some ⟨g, 0, none⟩) N cg, .int .i64 (KI : Nat), .bool only, .slice none 0 0], .slice (some ⟨gr, 0, none⟩) N rca, .pointer (some ⟨gs, 2, none⟩), .int .i64 (KI : Nat), .pointer (some ⟨gr, KI * 3, none⟩), .agg #[.int .i64 k, .int .i64 m, .string s], .tuple #[.agg #[.string (bsOf NM), .slice co4 N cc4, .int .i64 (KI : Nat), .bool only, .slice ro4 rn4 rc4], .slice pa pn pc, .int .i64 2], .tuple #[.agg #[.string (bsOf NM), .slice co4 N cc4, .int .i64 (KI : Nat), .bool only, .slice ro4 rn4 rc4], .slice pa pn pc, .int .i64 2], .agg #[.string (bsOf NM), .slice co4 N cc4, .int .i64 (KI : Nat), .bool only, .slice ro4 rn4 rc4], .slice pa pn pc, x79, .pointer (some ⟨gu, 0, none⟩), (.slice pa pn pc), x17, co4, cc4, ro4, rn4, rc4, pa, pn, pc, gu, (by simp only [Act.put, List.setIfInBounds_toArray, List.set_cons_zero, List.set_cons_succ]), (by simp only [Act.put, List.setIfInBounds_toArray, List.set_cons_zero, List.set_cons_succ]), hb, (fun _ => rfl), (fun _ => rfl), (fun _ => rfl), (fun _ => rfl), (fun _ => rfl), (fun _ => rfl), (fun _ => rfl), (fun _ => rfl), (fun _ => rfl), (fun _ => rfl), (fun _ => rfl), cd11, (fun _ => rfl), (fun _ => rfl), cd15, f_tt, (fun _ h => by cases h), f_lt, (fun _ h => by cases h), f_lg, f_s, f_o13, f_o13b, (fun _ => rfl), (fun _ => rfl), (fun _ => rfl), (fun _ => rfl)⟩
      · rintro L a w ⟨b0, b1, b2, b3, b4, b5, b6, b7, b8, b9, b10, b11, b12, b13, b14, b15, x69, x70, x71, x72, x73, x74, x75, x76, x68, x77, x78, x79, x15, x16, x17, co4, cc4, ro4, rn4, rc4, pa, pn, pc, gu, rfl, rfl, hb, cd0, cd1, cd2, cd3, cd4, cd5, cd6, cd7, cd8, cd9, cd10, cd11, cd12, cd14, cd15, f_tt, f_st, f_lt, f_z, f_lg, f_s, f_o13, f_o13b, w_8_7, w_9_7, w_10_7, w_14_7⟩ hf hd
        have hf' : b15 = false := hf
        subst hf'
        have d11 : b11 = true := hd ⟨11, .data⟩ (by simp) rfl
        subst d11
        have d14 : b14 = true := hd ⟨14, .chain⟩ (by simp) rfl
        subst d14
        have d0 : b0 = true := hd ⟨0, .phase⟩ (by simp) rfl
        subst d0
        have d1 : b1 = true := hd ⟨1, .phase⟩ (by simp) rfl
        subst d1
        have d2 : b2 = true := hd ⟨2, .phase⟩ (by simp) rfl
        subst d2
        have d3 : b3 = true := hd ⟨3, .phase⟩ (by simp) rfl
        subst d3
        have d4 : b4 = true := hd ⟨4, .phase⟩ (by simp) rfl
        subst d4
        have d5 : b5 = true := hd ⟨5, .phase⟩ (by simp) rfl
        subst d5
        have d6 : b6 = true := hd ⟨6, .phase⟩ (by simp) rfl
        subst d6
        have d7 : b7 = true := hd ⟨7, .phase⟩ (by simp) rfl
        subst d7
        have d8 : b8 = true := hd ⟨8, .phase⟩ (by simp) rfl
        subst d8
        have d9 : b9 = true := hd ⟨9, .phase⟩ (by simp) rfl
        subst d9
        have d10 : b10 = true := hd ⟨10, .phase⟩ (by simp) rfl
        subst d10
        have d12 : b12 = true := hd ⟨12, .phase⟩ (by simp) rfl
        subst d12
        have d13 : b13 = true := hd ⟨13, .phase⟩ (by simp) rfl
        subst d13
        obtain rfl := cd11.out rfl
        obtain rfl := cd14.out rfl
        obtain rfl := cd0.out rfl
        obtain rfl := cd1.out rfl
        obtain rfl := cd2.out rfl
        obtain rfl := cd3.out rfl
        obtain rfl := cd4.out rfl
        obtain rfl := cd5.out rfl
        obtain rfl := cd6.out rfl
        obtain rfl := cd7.out rfl
        obtain rfl := cd8.out rfl
        obtain rfl := cd9.out rfl
        obtain rfl := cd10.out rfl
        obtain rfl := cd12.out rfl
        clear hf hd
        have W_tt := f_tt.out rfl
        have W_lt := f_lt.out rfl
        have W_lg := f_lg.out rfl
        have W_s := f_s.out rfl
        have W_o13 := f_o13.out rfl
        have W_o13b := f_o13b.out rfl
        try simp only [List.setIfInBounds_toArray, List.set_cons_zero, List.set_cons_succ]
        intro K hK
        rw [if_pos (by rfl)]
        go_simp
        exact hK.out _ _ ⟨true, true, true, true, true, true, true, true, true, true, true, true, true, true, true, true, .agg #[.string (bsOf NM), .slice (some ⟨g, 0, none⟩) N cg, .int .i64 (KI : Nat), .bool only], .agg #[.string (bsOf NM), .slice (some ⟨g, 0, none⟩) N cg, .int .i64 (KI : Nat), .bool only, .slice none 0 0], .slice (some ⟨gr, 0, none⟩) N rca, .pointer (some ⟨gs, 2, none⟩), .int .i64 (KI : Nat), .pointer (some ⟨gr, KI * 3, none⟩), .agg #[.int .i64 k, .int .i64 m, .string s], .tuple #[.agg #[.string (bsOf NM), .slice co4 N cc4, .int .i64 (KI : Nat), .bool only, .slice ro4 rn4 rc4], .slice pa pn pc, .int .i64 2], .tuple #[.agg #[.string (bsOf NM), .slice co4 N cc4, .int .i64 (KI : Nat), .bool only, .slice ro4 rn4 rc4], .slice pa pn pc, .int .i64 2], .agg #[.string (bsOf NM), .slice co4 N cc4, .int .i64 (KI : Nat), .bool only, .slice ro4 rn4 rc4], .slice pa pn pc, .int .i64 2, .pointer (some ⟨gu, 0, none⟩), .slice pa pn pc, (.int .i64 2), co4, cc4, ro4, rn4, rc4, pa, pn, pc, gu, (by simp only [Act.put, List.setIfInBounds_toArray, List.set_cons_zero, List.set_cons_succ]), (by simp only [Act.put, List.setIfInBounds_toArray, List.set_cons_zero, List.set_cons_succ]), hb, (fun _ => rfl), (fun _ => rfl), (fun _ => rfl), (fun _ => rfl), (fun _ => rfl), (fun _ => rfl), (fun _ => rfl), (fun _ => rfl), (fun _ => rfl), (fun _ => rfl), (fun _ => rfl), (fun _ => rfl), (fun _ => rfl), (fun _ => rfl), (fun _ => rfl), f_tt, (fun _ h => by cases h), f_lt, (fun _ h => by cases h), f_lg, f_s, f_o13, f_o13b, (fun _ => rfl), (fun _ => rfl), (fun _ => rfl), (fun _ => rfl)⟩
    · rintro act V3 ⟨b0, b1, b2, b3, b4, b5, b6, b7, b8, b9, b10, b11, b12, b13, b14, b15, x69, x70, x71, x72, x73, x74, x75, x76, x68, x77, x78, x79, x15, x16, x17, co4, cc4, ro4, rn4, rc4, pa, pn, pc, gu, hL, rfl, hb, cd0, cd1, cd2, cd3, cd4, cd5, cd6, cd7, cd8, cd9, cd10, cd11, cd12, cd14, cd15, f_tt, f_st, f_lt, f_z, f_lg, f_s, f_o13, f_o13b, w_8_7, w_9_7, w_10_7, w_14_7⟩
      have hL' : [true, true, true, true, true, true, true, true, true, true, true, true, true, true, true, true] = [b0, b1, b2, b3, b4, b5, b6, b7, b8, b9, b10, b11, b12, b13, b14, b15] := congrArg Array.toList hL
      simp only [List.cons.injEq, and_true] at hL'
      obtain ⟨rfl, rfl, rfl, rfl, rfl, rfl, rfl, rfl, rfl, rfl, rfl, rfl, rfl, rfl, rfl, rfl⟩ := hL'
      obtain rfl := cd0.out rfl
      obtain rfl := cd1.out rfl
      obtain rfl := cd2.out rfl
      obtain rfl := cd3.out rfl
      obtain rfl := cd4.out rfl
      obtain rfl := cd5.out rfl
      obtain rfl := cd6.out rfl
      obtain rfl := cd7.out rfl
      obtain rfl := cd8.out rfl
      obtain rfl := cd9.out rfl
      obtain rfl := cd10.out rfl
      obtain rfl := cd11.out rfl
      obtain rfl := cd12.out rfl
      obtain rfl := cd14.out rfl
      obtain rfl := cd15.out rfl
      have W_tt := f_tt.out rfl
      have W_lt := f_lt.out rfl
      have W_lg := f_lg.out rfl
      have W_s := f_s.out rfl
      have W_o13 := f_o13.out rfl
      have W_o13b := f_o13b.out rfl
      clear hL f_tt f_st f_lt f_z f_lg f_s f_o13 f_o13b cd0 cd1 cd2 cd3 cd4 cd5 cd6 cd7 cd8 cd9 cd10 cd11 cd12 cd14 cd15 w_8_7 w_9_7 w_10_7 w_14_7
      simp only [List.setIfInBounds_toArray, List.set_cons_zero, List.set_cons_succ]
      have bV3 : Below V2.heap.size V2 V3 := (Below.refl _ _).drew.trans hb
      have hT3 := hT2.past bV3
      have hU3 := hU2.past bV3
      have BV3 := BV2.trans (bV3.mono hpV2)
      obtain rfl : 0 = rn4 := W_tt.rows.len
      obtain ⟨t0, t1, t2, t3, t4⟩ := tb_cells hT3
      obtain ⟨u0, u1, u2, u3, u4⟩ := tb_cells hU3
      obtain ⟨y0, y1, y2, y3, y4⟩ := tb_cells W_s
      have HSm := tsame_any V3 NM F N (KI : Nat) only 0 0 co3 cc3 ro3 1 rc3 [fitRow F nn] co1 cc1 ro1 1 rc1 [fitRow F nn] (i3.past bV3) (iT2.past bV3) (by omega)
      rw [(eqRs_iff _ _).2 rfl] at HSm
      unfold tbV at HSm
      clear hb W_lt W_lg W_o13 W_o13b
      go_wp2_with (go_at_call 26; refine HSm.mono ?_; rintro en w9 ⟨rfl, b9⟩; have y5 : w9.cell? ⟨gu, 4, none⟩ = some (.slice ro4 0 rc4) := (Bk.past W_s b9).c rfl)
      go_ret
      exact ⟨rfl, by rw [HP.out]; exact BV3.trans (b9.mono (Nat.le_trans hpV2 bV3.size))⟩
end Go.Proofs.Ytppgafnepnkabaa
