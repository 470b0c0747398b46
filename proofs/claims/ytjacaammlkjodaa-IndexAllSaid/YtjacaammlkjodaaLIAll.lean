/-
  IndexAll, walked (by gen_iall.py).
-/
import Derived.Test.YtjacaammlkjodaaIxN
import Derived.Test.YtjacaammlkjodaaRSame5
namespace Go.Proofs.Ytjacaammlkjodaa
open Go.RowKit
set_option linter.unusedSimpArgs false
theorem wp_append_txtR {α : Type} {E : Enc α} {zero : α} {P : Program} {w : World} {o : Oper} {a : Act} {K : Act → World → Prop} {Q : Exit → Act → World → Prop} (s x : Operand) (t tx : TypeId)
    (ho : o.op = .call { callee := .builtin .append, args := #[s, x], argTypes := #[t, tx] }) (e : TypeId) (hB : RowTy E P t e zero) (B : Nat) (ao : Option Addr) (n c : Nat) (l : List α) (hsv : a.eval s = .slice ao n c) (h : TxtR E w e B ao n c l) (hBw : B ≤ w.heap.size)
    (X : Value) (hx : a.eval x = X) (m : Nat) (cs : List α) (hs : Src P E.sz tx X m (E.all cs) w) (hcl : cs.length = m) (hmax : n + m ≤ 1000000)
    (hK : ∀ ao' c' w', TxtR E w' e B ao' (n + m) c' (l ++ cs) → Below B w w' → K (a.put o.dst (.slice ao' (n + m) c')) w') : o.wp P a w K Q := by
  rcases h.either with ⟨rfl, rfl, rfl, rfl⟩ | ⟨g, rfl, ow, hg⟩
  · by_cases hm : 0 < m
    · obtain ⟨cap', w', hr, h1, h2⟩ := run_append_nr (P := P) w t tx o.type e hB 0 rfl X m cs hs hcl hm (by omega)
      unfold Oper.wp execOp
      simp only [ho, resolve, invoke, builtin, Sem.run_bind, Sem.run_pure, Result.andThen_ok, List.map_toArray, List.map_cons, List.map_nil, hsv, hx, hr]
      have e0 : 0 + m = m := Nat.zero_add m
      have hh := hK (some ⟨w.heap.size, 0, none⟩) cap' w' ⟨.inr ⟨_, rfl, by rw [e0]; exact h1, hBw⟩⟩ (h2.mono hBw)
      rw [e0] at hh
      exact hh
    · obtain rfl : m = 0 := by omega
      obtain rfl : cs = [] := List.eq_nil_of_length_eq_zero hcl
      obtain ⟨i, z, hi, hz, hsize, hzc, hby⟩ := hB.info
      have hr := run_append_none (P := P) t tx o.type e i hB.ht hi X (by rw [hsize]; exact hs)
      unfold Oper.wp execOp
      simp only [ho, resolve, invoke, builtin, Sem.run_bind, Sem.run_pure, Result.andThen_ok, List.map_toArray, List.map_cons, List.map_nil, hsv, hx, hr]
      exact hK none 0 w (TxtR.nil _ _ _) (Below.refl _ _)
  · obtain ⟨g', cap', w', hr, h1, h2, h3⟩ := run_append_or (P := P) w t tx o.type e hB g n c l ow X m cs hs hcl hmax
    unfold Oper.wp execOp
    simp only [ho, resolve, invoke, builtin, Sem.run_bind, Sem.run_pure, Result.andThen_ok, List.map_toArray, List.map_cons, List.map_nil, hsv, hx, hr]
    exact hK (some ⟨g', 0, none⟩) cap' w' ⟨.inr ⟨_, rfl, h1, by rcases h3 with rfl | h3; exact hg; exact Nat.le_trans hBw h3⟩⟩ (h2.below hg hBw)
theorem vok_val {v : V} (h : Vok v) : Val v.k v.n v.s := by
  cases h with
  | none => exact .none
  | bool n h => exact .bool _ (by simp only; omega) (by simp only; omega)
  | int n h => exact .int _
  | text s h => exact .text _ h
theorem TxtR.below16 {α : Type} {E : Enc α} {w w' : World} {e : TypeId} {B : Nat} {ao : Option Addr} {n c : Nat} {l : List α} (h : TxtR E w e B ao n c l) (b : Below w.heap.size w w') : TxtR E w' e B ao n c l := h.past b
/-- What stands while the region's operations come up. -/
inductive IAll16 (B : Nat) (gt : Nat) (b : Nat) (off : Nat) (rn : Nat) (rc : Nat) (q : Nat) (zb : Nat) (zo : Nat) (zn : Nat) (zc : Nat) (C : Nat) (j : Nat) (yb : Nat) (yo : Nat) (yn : Nat) (yc : Nat) (k1 : Int) (m1 : Int) (s1 : ByteArray) (k2 : Int) (m2 : Int) (s2 : ByteArray) (CM : Int) (a0 : Act) (w0 : World) (L : Array Bool) (a : Act) (w : World) : Prop
  | mk (b0 b1 b2 b3 b4 b5 b6 b7 b8 b9 b10 b11 b12 b13 b14 b15 b16 b17 : Bool) (x46 x47 x48 x49 x50 x51 x52 x53 x54 x55 x56 x57 x58 x59 x60 x61 x62 x63 : Value) (hL : L = #[b0, b1, b2, b3, b4, b5, b6, b7, b8, b9, b10, b11, b12, b13, b14, b15, b16, b17]) (ha : a = ⟨((((((((((((((((((a0.tmps.setIfInBounds 46 x46).setIfInBounds 47 x47).setIfInBounds 48 x48).setIfInBounds 49 x49).setIfInBounds 50 x50).setIfInBounds 51 x51).setIfInBounds 52 x52).setIfInBounds 53 x53).setIfInBounds 54 x54).setIfInBounds 55 x55).setIfInBounds 56 x56).setIfInBounds 57 x57).setIfInBounds 58 x58).setIfInBounds 59 x59).setIfInBounds 60 x60).setIfInBounds 61 x61).setIfInBounds 62 x62).setIfInBounds 63 x63), a0.defers⟩) (hb : Below B w0 w) (cd0 : Hid (b0 = true → x46 = .pointer (some ⟨gt, 4, none⟩))) (cd1 : Hid (b1 = true → x47 = .slice (some ⟨b, off, none⟩) rn rc)) (cd2 : Hid (b2 = true → x48 = .int .i64 (q : Nat))) (cd3 : Hid (b3 = true → x49 = .pointer (some ⟨b, off + q, none⟩))) (cd4 : Hid (b4 = true → x50 = .slice (some ⟨zb, zo, none⟩) zn zc)) (cd5 : Hid (b5 = true → x51 = .int .i64 (C : Nat))) (cd6 : Hid (b6 = true → x52 = .pointer (some ⟨zb, zo + C * 3, none⟩))) (cd7 : Hid (b7 = true → x53 = .agg #[.int .i64 k1, .int .i64 m1, .string s1])) (cd8 : Hid (b8 = true → x54 = .pointer (some ⟨gt, 4, none⟩))) (cd9 : Hid (b9 = true → x55 = .slice (some ⟨b, off, none⟩) rn rc)) (cd10 : Hid (b10 = true → x56 = .int .i64 (j : Nat))) (cd11 : Hid (b11 = true → x57 = .pointer (some ⟨b, off + j, none⟩))) (cd12 : Hid (b12 = true → x58 = .slice (some ⟨yb, yo, none⟩) yn yc)) (cd13 : Hid (b13 = true → x59 = .int .i64 (C : Nat))) (cd14 : Hid (b14 = true → x60 = .pointer (some ⟨yb, yo + C * 3, none⟩))) (cd15 : Hid (b15 = true → x61 = .agg #[.int .i64 k2, .int .i64 m2, .string s2])) (cd16 : Hid (b16 = true → x62 = .int .i64 CM)) (cd17 : Hid (b17 = true → x63 = .bool (CM == 0))) : IAll16 B gt b off rn rc q zb zo zn zc C j yb yo yn yc k1 m1 s1 k2 m2 s2 CM a0 w0 L a w
/-- What stands while the region's operations come up. -/
inductive IAll17 (B : Nat) (gt : Nat) (b : Nat) (off : Nat) (rn : Nat) (rc : Nat) (q : Nat) (zb : Nat) (zo : Nat) (zn : Nat) (zc : Nat) (gs : Nat) (KI : Nat) (wa : Option Addr) (wn : Nat) (wc : Nat) (k3 : Int) (m3 : Int) (s3 : ByteArray) (ws : List V) (a0 : Act) (w0 : World) (L : Array Bool) (a : Act) (w : World) : Prop
  | mk (b0 b1 b2 b3 b4 b5 b6 b7 b8 b9 b10 b11 b12 : Bool) (x64 x65 x66 x67 x68 x69 x70 x71 x72 x73 x74 x75 x11 : Value) (gl : Nat) (wb : Option Addr) (wd : Nat) (hL : L = #[b0, b1, b2, b3, b4, b5, b6, b7, b8, b9, b10, b11, b12]) (ha : a = ⟨(((((((((((((a0.tmps.setIfInBounds 64 x64).setIfInBounds 65 x65).setIfInBounds 66 x66).setIfInBounds 67 x67).setIfInBounds 68 x68).setIfInBounds 69 x69).setIfInBounds 70 x70).setIfInBounds 71 x71).setIfInBounds 72 x72).setIfInBounds 73 x73).setIfInBounds 74 x74).setIfInBounds 75 x75).setIfInBounds 11 x11), a0.defers⟩) (hb : Below B w0 w) (cd0 : Hid (b0 = true → x64 = .slice wa wn wc)) (cd1 : Hid (b1 = true → x65 = .pointer (some ⟨gt, 4, none⟩))) (cd2 : Hid (b2 = true → x66 = .slice (some ⟨b, off, none⟩) rn rc)) (cd3 : Hid (b3 = true → x67 = .int .i64 (q : Nat))) (cd4 : Hid (b4 = true → x68 = .pointer (some ⟨b, off + q, none⟩))) (cd5 : Hid (b5 = true → x69 = .slice (some ⟨zb, zo, none⟩) zn zc)) (cd6 : Hid (b6 = true → x70 = .pointer (some ⟨gs, 2, none⟩))) (cd7 : Hid (b7 = true → x71 = .int .i64 (KI : Nat))) (cd8 : Hid (b8 = true → x72 = .pointer (some ⟨zb, zo + KI * 3, none⟩))) (cd9 : Hid (b9 = true → x73 = .agg #[.int .i64 k3, .int .i64 m3, .string s3])) (cd10 : Hid (b10 = true → x74 = .slice (some ⟨gl, 0, none⟩) 1 1)) (cd11 : Hid (b11 = true → x75 = .slice wb (wn + 1) wd)) (cd12 : Hid (b12 = true → x11 = .slice wb (wn + 1) wd)) (f_wt : Hid (b11 = false → TxtR EV w 46 B wa wn wc ws)) (f_l : Hid (b10 = true → b11 = false → IsR EV w (some ⟨gl, 0, none⟩) 1 1 [⟨k3, m3, s3⟩])) (f_o : Hid (b11 = true → TxtR EV w 46 B wb (wn + 1) wd (ws ++ [⟨k3, m3, s3⟩]))) (f_o12 : Hid (b12 = true → b0 = true)) (f_s11 : Hid (b12 = false → x11 = .slice wa wn wc)) (w_12_11 : Hid (b12 = true → b11 = true)) : IAll17 B gt b off rn rc q zb zo zn zc gs KI wa wn wc k3 m3 s3 ws a0 w0 L a w
/-- What stands while the region's operations come up. -/
inductive IAll20 (B : Nat) (x : Nat) (gt : Nat) (ro : Option Addr) (rn : Nat) (rc : Nat) (a0 : Act) (w0 : World) (L : Array Bool) (a : Act) (w : World) : Prop
  | mk (b0 b1 b2 b3 b4 b5 b6 : Bool) (x89 x90 x91 x92 x93 x94 x6 : Value) (hL : L = #[b0, b1, b2, b3, b4, b5, b6]) (ha : a = ⟨(((((((a0.tmps.setIfInBounds 89 x89).setIfInBounds 90 x90).setIfInBounds 91 x91).setIfInBounds 92 x92).setIfInBounds 93 x93).setIfInBounds 94 x94).setIfInBounds 6 x6), a0.defers⟩) (hb : Below B w0 w) (cd0 : Hid (b0 = true → x89 = .pointer (some ⟨x, 0, none⟩))) (cd1 : Hid (b1 = true → x90 = .int .i64 (rn : Nat))) (cd2 : Hid (b2 = true → x91 = .pointer (some ⟨gt, 4, none⟩))) (cd3 : Hid (b3 = true → x92 = .slice ro rn rc)) (cd4 : Hid (b4 = true → x93 = .int .i64 (rn : Nat))) (cd5 : Hid (b5 = true → x94 = .bool true)) (cd6 : Hid (b6 = true → x6 = .bool true)) : IAll20 B x gt ro rn rc a0 w0 L a w
set_option maxRecDepth 100000 in
set_option maxHeartbeats 8000000 in
theorem indexAll_walk (l : List UInt8) (ao : Option Addr) (n c : Nat) (key : Int) (only : Bool) (cs : List Co) (na : Option Addr) (nl nc : Nat) (ns : List Int) (cl : Int) (w : World) (_hl : l.length ≤ maxLen) (_hkey : (Lit.int .i64 key).wf = true) (h : IsR encCo w ao n c cs) (_hcs : ∀ x ∈ cs, (Lit.int .i64 x.kind).wf = true ∧ x.name.length ≤ maxLen) (hI : IsR EI w na nl nc ns) (hIw : ∀ x ∈ ns, (Lit.int .i64 x).wf = true) (_ : (Lit.int .i64 cl).wf = true) :
    Calls Try.prog 5 #[scV l ao n c key only, .slice na nl nc, .int .i64 cl] w (Told w true) := by
  unfold scV
  have X0 := ScB.new w l ao n c key only
  have B0 := (Below.refl w.heap.size w).alloc (Nat.le_refl _) (.cells #[.string (bsOf l), .slice ao n c, .int .i64 key, .bool only] 24)
  go_enter Try.func5, Try.ntmps5
  go_upto_region 1 with fail
  generalize w.alloc (.cells #[.string (bsOf l), .slice ao n c, .int .i64 key, .bool only] 24) = W0 at X0 B0 ⊢
  obtain ⟨p0, hp0⟩ : ∃ p0, w.heap.size = p0 := ⟨_, rfl⟩
  have HP := Lib.hid hp0
  rw [hp0] at X0 B0
  simp only [hp0]
  clear hp0
  have hW0 : p0 ≤ W0.heap.size := Nat.le_of_lt X0.lt
  go_upto_region 3 with (go_at_call 13; refine (known11 _).mono ?_; rintro e w1 ⟨rfl, b1⟩)
  have X1 := X0.past b1
  have B1 := B0.trans (b1.mono hW0)
  have hW1 := Nat.le_trans hW0 b1.size
  have h1 : IsR encCo w1 ao n c cs := h.past (by rw [HP.out]; exact B1)
  have HFw := few9_any w1 l ao n c cs key only h1
  unfold scV at HFw
  have y0 : w1.cell? ⟨p0, 0, none⟩ = some (.string (bsOf l)) := cell_blk X1 rfl
  have y1 : w1.cell? ⟨p0, 1, none⟩ = some (.slice ao n c) := cell_blk X1 rfl
  have y2 : w1.cell? ⟨p0, 2, none⟩ = some (.int .i64 key) := cell_blk X1 rfl
  have y3 : w1.cell? ⟨p0, 3, none⟩ = some (.bool only) := cell_blk X1 rfl
  cases hfw : fewS l cs
  · rw [hfw] at HFw
    go_wp2_with (go_at_call 14; refine HFw.mono ?_; rintro e w2 ⟨rfl, b2⟩)
    go_ret
    exact ⟨rfl, by rw [HP.out]; exact B1.trans (b2.mono hW1)⟩
  rw [hfw] at HFw
  have hn9 : n ≤ 9 := by
    unfold fewS at hfw
    simp only [Bool.and_eq_true, decide_eq_true_eq] at hfw
    have := h.len
    omega
  clear hfw
  go_upto_region 5 with (go_at_call 14; refine HFw.mono ?_; rintro e w2 ⟨rfl, b2⟩)
  have X2 := X1.past b2
  have B2 := B1.trans (b2.mono hW1)
  have hW2 := Nat.le_trans hW1 b2.size
  have h2 := h1.past b2
  clear y0 y1 y2 y3 HFw
  have y0 : w2.cell? ⟨p0, 0, none⟩ = some (.string (bsOf l)) := cell_blk X2 rfl
  have y1 : w2.cell? ⟨p0, 1, none⟩ = some (.slice ao n c) := cell_blk X2 rfl
  have y2 : w2.cell? ⟨p0, 2, none⟩ = some (.int .i64 key) := cell_blk X2 rfl
  have y3 : w2.cell? ⟨p0, 3, none⟩ = some (.bool only) := cell_blk X2 rfl
  have HG := good9_any w2 l ao n c cs key 3 only h2 (by omega)
  unfold GoodIs scV at HG
  have hNp := gN_pos cs
  have hKl := (gKey_lt cs key).1
  have hFl := gFin_len cs key
  have hFk := gFin_kinds cs key
  have hFn := gFin_keyN cs key
  obtain ⟨N, hN⟩ : ∃ N, gN cs = N := ⟨_, rfl⟩
  obtain ⟨KI, hKI⟩ : ∃ KI, gKey cs key = KI := ⟨_, rfl⟩
  obtain ⟨F, hF⟩ : ∃ F, gFin cs key = F := ⟨_, rfl⟩
  obtain ⟨NM, hNM⟩ : ∃ NM, gNm 3 = NM := ⟨_, rfl⟩
  simp only [hN, hKI, hF, hNM] at HG hNp hKl hFl hFk hFn
  clear hN hKI hF hNM
  go_upto_region 6 with (go_at_call 15; refine HG.mono ?_; rintro e w3 ⟨g, cg, rfl, og, b3, q3⟩)
  have hW3 := Nat.le_trans hW2 b3.size
  have B3 : Below p0 w (w3.alloc (.cells #[.string (bsOf NM), .slice (some ⟨g, 0, none⟩) N cg, .int .i64 (KI : Nat), .bool only] 24)) := (B2.trans (b3.mono hW2)).alloc hW3 _
  have XS : Bk (w3.alloc (.cells #[.string (bsOf NM), .slice (some ⟨g, 0, none⟩) N cg, .int .i64 (KI : Nat), .bool only] 24)) w3.heap.size (scC NM (some ⟨g, 0, none⟩) N cg (KI : Nat) only) 24 := Bk.new w3 _ _
  have oG := og.alloc (.cells #[.string (bsOf NM), .slice (some ⟨g, 0, none⟩) N cg, .int .i64 (KI : Nat), .bool only] 24)
  have hgl := og.lt
  have hg0 : p0 ≤ g := Nat.le_trans hW2 q3
  generalize w3.alloc (.cells #[.string (bsOf NM), .slice (some ⟨g, 0, none⟩) N cg, .int .i64 (KI : Nat), .bool only] 24) = W at B3 XS oG ⊢
  obtain ⟨gs, hgs⟩ : ∃ gs, w3.heap.size = gs := ⟨_, rfl⟩
  rw [hgs] at XS hgl hW3
  simp only [hgs]
  obtain ⟨z0, z1, z2, z3⟩ := sc_cells XS
  have hgsW : gs < W.heap.size := XS.lt
  have iG := oG.isR
  clear hgs og b3 q3 HG y0 y1 y2 y3 X2 X1 X0 B2 B1 B0 b1 b2 h2 h1 hW2 hW1 hW0
  have hpW : p0 ≤ W.heap.size := by omega
  obtain ⟨C, hC, hCl0⟩ := wth_of cl N (by omega)
  have hCl : C < N := by omega
  have HWi := fun w => within11_any cl N w (by omega) (by omega)
  rw [hC] at HWi
  have hgW : g < W.heap.size := by omega
  go_upto_region 7 with (first
    | (go_at_call 16; (with_reducible refine (HWi _).mono ?_); rintro e w' ⟨rfl, rfl⟩))
  have HFl := fill_any W NM g N cg KI only F iG hFl hNp hFk hKl na nl nc ns (hI.past (by rw [HP.out]; exact B3)) hIw hgW
  unfold scV at HFl
  go_upto_region 8 with (go_at_call 17; refine HFl.mono ?_; rintro e w5 ⟨ro, rn, rc, rs, rfl, iR, hFi, hrn, b5⟩; unfold tbV)
  have bT : Below W.heap.size W (w5.alloc (.cells #[.string (bsOf NM), .slice (some ⟨g, 0, none⟩) N cg, .int .i64 (KI : Nat), .bool only, .slice ro rn rc] 33)) := b5.alloc b5.size _
  have hT0 : Bk (w5.alloc (.cells #[.string (bsOf NM), .slice (some ⟨g, 0, none⟩) N cg, .int .i64 (KI : Nat), .bool only, .slice ro rn rc] 33)) w5.heap.size (tbC NM (some ⟨g, 0, none⟩) N cg (KI : Nat) only ro rn rc) 33 := Bk.new w5 _ _
  have iR0 := iR.past ((Below.refl w5.heap.size w5).alloc (Nat.le_refl _) (.cells #[.string (bsOf NM), .slice (some ⟨g, 0, none⟩) N cg, .int .i64 (KI : Nat), .bool only, .slice ro rn rc] 33))
  generalize w5.alloc (.cells #[.string (bsOf NM), .slice (some ⟨g, 0, none⟩) N cg, .int .i64 (KI : Nat), .bool only, .slice ro rn rc] 33) = w6 at bT hT0 iR0 ⊢
  obtain ⟨gt, hgt⟩ : ∃ gt, w5.heap.size = gt := ⟨_, rfl⟩
  rw [hgt] at hT0
  simp only [hgt]
  clear hgt HFl iR b5
  have XS6 := XS.past bT
  have B6 := B3.trans (bT.mono hpW)
  have hp6 := Nat.le_trans hpW bT.size
  obtain ⟨t0, t1, t2, t3, t4⟩ := tb_cells hT0
  have HO := of_any w6 NM (some ⟨g, 0, none⟩) N cg KI only ro rn rc
  unfold tbV at HO
  go_upto_region 9 with (first
    | (go_at_call 19; refine HO.mono ?_; rintro e w7 ⟨rfl, b7⟩; have HB := build_any w7 NM (some ⟨g, 0, none⟩) N cg KI only ro rn rc _ rs (iR0.past b7) C (fits_vok hFl hKl hCl hFi) (by omega); unfold tbV at HB)
    | (go_at_call 18; refine HB.mono ?_; rintro e Z ⟨x, rfl, hX, b8⟩))
  have bZ := b7.trans (b8.mono b7.size)
  have hT := hT0.past bZ
  have XZ := XS6.past bZ
  have iRZ := iR0.past bZ
  have BZ := B6.trans (bZ.mono hp6)
  have hpZ := Nat.le_trans hp6 bZ.size
  obtain ⟨lo, hlo⟩ : ∃ lo, w7.heap.size = lo := ⟨_, rfl⟩
  rw [hlo] at hX
  have hrl := iRZ.len
  clear HO HB t0 t1 t2 t3 t4 z0 z1 z2 z3 hT0 iR0 XS6 B6 b7 b8 bT XS iG oG B3
  have hgtZ := hT.lt
  have hgsZ := XZ.lt
  have hel := ix_len hFl hKl hCl hFi
  have hKR := fun (v : V) (hv : Vok v) => keys_rows hFl hKl hCl hFi (v := v) hv
  have hVok := fits_vok hFl hKl hCl hFi
  obtain ⟨es, hes⟩ : ∃ es, ixOf C KI rs = es := ⟨_, rfl⟩
  simp only [hes] at hX hel hKR
  clear hes
  have hEn : es.length ≤ 1000 := by omega
  have HKR := Lib.hid hKR
  have HVO := Lib.hid hVok
  have HEL := Lib.hid hel
  clear hKR hVok hel
  go_wp2_with fail
  go_loopw [10] (fun i wr => ∃ j : Nat, j ≤ rn ∧ i = .int .i64 (j : Nat) ∧ Below Z.heap.size Z wr) (fun i _ => rn - (intOf i).toNat)
  case atStart => exact ⟨0, Nat.zero_le _, rfl, Below.refl _ _⟩
  case round =>
    obtain ⟨j, hj, rfl, hB⟩ := hrel
    obtain ⟨t0, t1, t2, t3, t4⟩ := tb_cells (hT.past hB)
    have hgtw := (hT.past hB).lt
    by_cases hlt : j < rn
    · have hlti : (j : Int) < (rn : Int) := by omega
      obtain ⟨rj, hrj⟩ : ∃ r, rs[j]? = some r := ⟨rs[j]'(by omega), List.getElem?_eq_getElem _⟩
      obtain ⟨b, off, hd, rfl, hbZ, hcj0, hyR⟩ := iRZ.at hrj
      obtain ⟨hv1, hv2, hv3, hv4⟩ := HVO.out rj (List.mem_of_getElem? hrj)
      obtain ⟨v, hvj⟩ : ∃ v, rj[C]? = some v := ⟨rj[C]'hv1, List.getElem?_eq_getElem _⟩
      rw [kOf_get hvj] at hv3
      obtain ⟨ya, yn, yc⟩ := hd
      simp only at hcj0 hyR
      obtain ⟨yb, yo, rfl, hyZ, hycc⟩ := hyR.open (by have := hyR.len; omega) (by decide)
      obtain ⟨d0', d1', d2'⟩ := cells_v hycc C v hvj
      have hyl := hyR.len
      have hCy : (C : Int) < (yn : Int) := by omega
      have HKS := HKR.out v hv3
      have HCJ := Lib.hid hcj0
      have D0 := Lib.hid d0'
      have D1 := Lib.hid d1'
      have D2 := Lib.hid d2'
      have HV3 := Lib.hid hv3
      clear hcj0 d0' d1' d2' hycc hyR hvj hrj hv1 hv2 hv4 t0 t1 t2 t3
      go_wp2_with fail
      obtain ⟨wo, rfl⟩ : ∃ wo, wo = wr := ⟨wr, rfl⟩
      obtain ⟨k2, m2, s2⟩ := v
      simp only at D0 D1 D2 HV3 HKS
      have T4 : Hid (Z.cell? ⟨gt, 4, none⟩ = some (.slice (some ⟨b, off, none⟩) rn rc)) := hT.c rfl
      have Z2 : Hid (Z.cell? ⟨gs, 2, none⟩ = some (.int .i64 (KI : Nat))) := XZ.c rfl
      clear t4
      go_loopw [11, 12] (fun z i wr => ∃ (q : Nat) (wa : Option Addr) (wn wc : Nat), q ≤ rn ∧ z = .slice wa wn wc ∧ i = .int .i64 (q : Nat) ∧ TxtR EV wr 46 Z.heap.size wa wn wc (((rs.take q).filter fun r => (kOf C r).cmp ⟨k2, m2, s2⟩ == 0).map (kOf KI)) ∧ Below Z.heap.size Z wr) (fun _ i _ => rn - (intOf i).toNat)
      case atStart => exact ⟨0, none, 0, 0, Nat.zero_le _, rfl, rfl, by simpa using TxtR.nil _ _ _, hB⟩
      case round =>
        obtain ⟨q, wa, wn, wc, hq, rfl, rfl, oW, hB2⟩ := hrel
        have t4 := (hB2.cell hgtZ).trans T4.out
        have hcj := (hB2.cell hbZ).trans HCJ.out
        have d0 := (hB2.cell hyZ).trans D0.out
        have d1 := (hB2.cell hyZ).trans D1.out
        have d2 := (hB2.cell hyZ).trans D2.out
        have hBs := hB2.size
        have hgtB := Nat.lt_of_lt_of_le hgtZ hBs
        have hbB := Nat.lt_of_lt_of_le hbZ hBs
        have hyB := Nat.lt_of_lt_of_le hyZ hBs
        by_cases hqlt : q < rn
        · have hqi : (q : Int) < (rn : Int) := by omega
          obtain ⟨rq, hrq⟩ : ∃ r, rs[q]? = some r := ⟨rs[q]'(by omega), List.getElem?_eq_getElem _⟩
          obtain ⟨b', off', hd2, hbo, -, hcq0, hzR⟩ := iRZ.at hrq
          cases hbo
          obtain ⟨hv1, hv2, hv3, hv4⟩ := HVO.out rq (List.mem_of_getElem? hrq)
          obtain ⟨u1, hu1⟩ : ∃ v, rq[C]? = some v := ⟨rq[C]'hv1, List.getElem?_eq_getElem _⟩
          obtain ⟨u3, hu3⟩ : ∃ v, rq[KI]? = some v := ⟨rq[KI]'hv2, List.getElem?_eq_getElem _⟩
          have hko := kOf_get hu3
          rw [kOf_get hu1] at hv3
          obtain ⟨za, zn, zc⟩ := hd2
          simp only at hcq0 hzR
          obtain ⟨zb, zo, rfl, hzZ, hzcc⟩ := hzR.open (by have := hzR.len; omega) (by decide)
          obtain ⟨e0', e1', e2'⟩ := cells_v hzcc C u1 hu1
          obtain ⟨f0', f1', f2'⟩ := cells_v hzcc KI u3 hu3
          have hzl := hzR.len
          have hCz : (C : Int) < (zn : Int) := by omega
          have hKz : (KI : Int) < (zn : Int) := by omega
          have HC0 := fun w => rcmp4_any u1.k u1.n u1.s k2 m2 s2 w (vok_val hv3) (vok_val HV3.out)
          obtain ⟨CM, hCM⟩ : ∃ CM, u1.cmp ⟨k2, m2, s2⟩ = CM := ⟨_, rfl⟩
          have HC1 : ∀ w', Calls Try.prog 35 #[vv u1.k u1.n u1.s, vv k2 m2 s2] w' fun e w'' => e = .returned (.int .i64 CM) ∧ Below w'.heap.size w' w'' := by rw [← hCM]; exact HC0
          have HCM : Hid ((kOf C rq).cmp ⟨k2, m2, s2⟩ = CM) := by
            show _ = _
            rw [kOf_get hu1, hCM]
          obtain ⟨k1, m1, s1⟩ := u1
          obtain ⟨k3, m3, s3⟩ := u3
          have HKO : Hid (kOf KI rq = ⟨k3, m3, s3⟩) := hko
          simp only at e0' e1' e2' f0' f1' f2' HC1
          have HC := HC1
          have hcq := (hB2.cell hbZ).trans hcq0
          have HCQ := Lib.hid hcq0
          have F0 := Lib.hid f0'
          have F1 := Lib.hid f1'
          have F2 := Lib.hid f2'
          have e0 := (hB2.cell hzZ).trans e0'
          have e1 := (hB2.cell hzZ).trans e1'
          have e2 := (hB2.cell hzZ).trans e2'
          have hzB := Nat.lt_of_lt_of_le hzZ hBs
          have hB0 : wr.heap.size ≤ wr.heap.size := Nat.le_refl _
          clear HC0 HC1 hCM hko hu1 hu3 hzcc hzR hv1 hv2 hv3 hv4 hcq0 e0' e1' e2' f0' f1' f2'
          go_upto_region 16 with fail
          refine region_inv (IAll16 wr.heap.size gt b off rn rc q zb zo zn zc C j yb yo yn yc k1 m1 s1 k2 m2 s2 CM) (by kernel_rfl) (by kernel_rfl) ?_ ?_ ?_
          · exact ⟨false, false, false, false, false, false, false, false, false, false, false, false, false, false, false, false, false, false, u46, u47, u48, u49, u50, u51, u52, u53, u54, u55, u56, u57, u58, u59, u60, u61, u62, u63, rfl, (by simp only [Act.put, List.setIfInBounds_toArray, List.set_cons_zero, List.set_cons_succ]), Below.refl _ _, (fun h => by cases h), (fun h => by cases h), (fun h => by cases h), (fun h => by cases h), (fun h => by cases h), (fun h => by cases h), (fun h => by cases h), (fun h => by cases h), (fun h => by cases h), (fun h => by cases h), (fun h => by cases h), (fun h => by cases h), (fun h => by cases h), (fun h => by cases h), (fun h => by cases h), (fun h => by cases h), (fun h => by cases h), (fun h => by cases h)⟩
          · refine ⟨?_, ?_, ?_, ?_, ?_, ?_, ?_, ?_, ?_, ?_, ?_, ?_, ?_, ?_, ?_, ?_, ?_, ?_, trivial⟩
            · rintro L a w ⟨b0, b1, b2, b3, b4, b5, b6, b7, b8, b9, b10, b11, b12, b13, b14, b15, b16, b17, x46, x47, x48, x49, x50, x51, x52, x53, x54, x55, x56, x57, x58, x59, x60, x61, x62, x63, rfl, rfl, hb, cd0, cd1, cd2, cd3, cd4, cd5, cd6, cd7, cd8, cd9, cd10, cd11, cd12, cd13, cd14, cd15, cd16, cd17⟩ hf hd
              have hf' : b0 = false := hf
              subst hf'
              clear hf hd
              try simp only [List.setIfInBounds_toArray, List.set_cons_zero, List.set_cons_succ]
              intro K hK
              rw [if_pos (by rfl)]
              go_simp
              exact hK.out _ _ ⟨true, b1, b2, b3, b4, b5, b6, b7, b8, b9, b10, b11, b12, b13, b14, b15, b16, b17, (.pointer (some ⟨gt, 4, none⟩)), x47, x48, x49, x50, x51, x52, x53, x54, x55, x56, x57, x58, x59, x60, x61, x62, x63, (by simp only [Act.put, List.setIfInBounds_toArray, List.set_cons_zero, List.set_cons_succ]), (by simp only [Act.put, List.setIfInBounds_toArray, List.set_cons_zero, List.set_cons_succ]), hb, (fun _ => rfl), cd1, cd2, cd3, cd4, cd5, cd6, cd7, cd8, cd9, cd10, cd11, cd12, cd13, cd14, cd15, cd16, cd17⟩
            · rintro L a w ⟨b0, b1, b2, b3, b4, b5, b6, b7, b8, b9, b10, b11, b12, b13, b14, b15, b16, b17, x46, x47, x48, x49, x50, x51, x52, x53, x54, x55, x56, x57, x58, x59, x60, x61, x62, x63, rfl, rfl, hb, cd0, cd1, cd2, cd3, cd4, cd5, cd6, cd7, cd8, cd9, cd10, cd11, cd12, cd13, cd14, cd15, cd16, cd17⟩ hf hd
              have hf' : b1 = false := hf
              subst hf'
              have d0 : b0 = true := hd ⟨0, .data⟩ (by simp) rfl
              subst d0
              obtain rfl := cd0.out rfl
              clear hf hd
              try simp only [List.setIfInBounds_toArray, List.set_cons_zero, List.set_cons_succ]
              have z0 := (hb.cell hgtB).trans t4
              intro K hK
              rw [if_pos (by rfl)]
              go_simp
              exact hK.out _ _ ⟨true, true, b2, b3, b4, b5, b6, b7, b8, b9, b10, b11, b12, b13, b14, b15, b16, b17, .pointer (some ⟨gt, 4, none⟩), (.slice (some ⟨b, off, none⟩) rn rc), x48, x49, x50, x51, x52, x53, x54, x55, x56, x57, x58, x59, x60, x61, x62, x63, (by simp only [Act.put, List.setIfInBounds_toArray, List.set_cons_zero, List.set_cons_succ]), (by simp only [Act.put, List.setIfInBounds_toArray, List.set_cons_zero, List.set_cons_succ]), hb, (fun _ => rfl), (fun _ => rfl), cd2, cd3, cd4, cd5, cd6, cd7, cd8, cd9, cd10, cd11, cd12, cd13, cd14, cd15, cd16, cd17⟩
            · rintro L a w ⟨b0, b1, b2, b3, b4, b5, b6, b7, b8, b9, b10, b11, b12, b13, b14, b15, b16, b17, x46, x47, x48, x49, x50, x51, x52, x53, x54, x55, x56, x57, x58, x59, x60, x61, x62, x63, rfl, rfl, hb, cd0, cd1, cd2, cd3, cd4, cd5, cd6, cd7, cd8, cd9, cd10, cd11, cd12, cd13, cd14, cd15, cd16, cd17⟩ hf hd
              have hf' : b2 = false := hf
              subst hf'
              clear hf hd
              try simp only [List.setIfInBounds_toArray, List.set_cons_zero, List.set_cons_succ]
              intro K hK
              rw [if_pos (by rfl)]
              go_simp
              exact hK.out _ _ ⟨b0, b1, true, b3, b4, b5, b6, b7, b8, b9, b10, b11, b12, b13, b14, b15, b16, b17, x46, x47, (.int .i64 (q : Nat)), x49, x50, x51, x52, x53, x54, x55, x56, x57, x58, x59, x60, x61, x62, x63, (by simp only [Act.put, List.setIfInBounds_toArray, List.set_cons_zero, List.set_cons_succ]), (by simp only [Act.put, List.setIfInBounds_toArray, List.set_cons_zero, List.set_cons_succ]), hb, cd0, cd1, (fun _ => rfl), cd3, cd4, cd5, cd6, cd7, cd8, cd9, cd10, cd11, cd12, cd13, cd14, cd15, cd16, cd17⟩
            · rintro L a w ⟨b0, b1, b2, b3, b4, b5, b6, b7, b8, b9, b10, b11, b12, b13, b14, b15, b16, b17, x46, x47, x48, x49, x50, x51, x52, x53, x54, x55, x56, x57, x58, x59, x60, x61, x62, x63, rfl, rfl, hb, cd0, cd1, cd2, cd3, cd4, cd5, cd6, cd7, cd8, cd9, cd10, cd11, cd12, cd13, cd14, cd15, cd16, cd17⟩ hf hd
              have hf' : b3 = false := hf
              subst hf'
              have d1 : b1 = true := hd ⟨1, .data⟩ (by simp) rfl
              subst d1
              have d2 : b2 = true := hd ⟨2, .data⟩ (by simp) rfl
              subst d2
              obtain rfl := cd1.out rfl
              obtain rfl := cd2.out rfl
              clear hf hd
              try simp only [List.setIfInBounds_toArray, List.set_cons_zero, List.set_cons_succ]
              intro K hK
              rw [if_pos (by rfl)]
              go_simp
              exact hK.out _ _ ⟨b0, true, true, true, b4, b5, b6, b7, b8, b9, b10, b11, b12, b13, b14, b15, b16, b17, x46, .slice (some ⟨b, off, none⟩) rn rc, .int .i64 (q : Nat), (.pointer (some ⟨b, off + q, none⟩)), x50, x51, x52, x53, x54, x55, x56, x57, x58, x59, x60, x61, x62, x63, (by simp only [Act.put, List.setIfInBounds_toArray, List.set_cons_zero, List.set_cons_succ]), (by simp only [Act.put, List.setIfInBounds_toArray, List.set_cons_zero, List.set_cons_succ]), hb, cd0, (fun _ => rfl), (fun _ => rfl), (fun _ => rfl), cd4, cd5, cd6, cd7, cd8, cd9, cd10, cd11, cd12, cd13, cd14, cd15, cd16, cd17⟩
            · rintro L a w ⟨b0, b1, b2, b3, b4, b5, b6, b7, b8, b9, b10, b11, b12, b13, b14, b15, b16, b17, x46, x47, x48, x49, x50, x51, x52, x53, x54, x55, x56, x57, x58, x59, x60, x61, x62, x63, rfl, rfl, hb, cd0, cd1, cd2, cd3, cd4, cd5, cd6, cd7, cd8, cd9, cd10, cd11, cd12, cd13, cd14, cd15, cd16, cd17⟩ hf hd
              have hf' : b4 = false := hf
              subst hf'
              have d3 : b3 = true := hd ⟨3, .data⟩ (by simp) rfl
              subst d3
              obtain rfl := cd3.out rfl
              clear hf hd
              try simp only [List.setIfInBounds_toArray, List.set_cons_zero, List.set_cons_succ]
              have z0 := (hb.cell hbB).trans hcq
              intro K hK
              rw [if_pos (by rfl)]
              go_simp
              exact hK.out _ _ ⟨b0, b1, b2, true, true, b5, b6, b7, b8, b9, b10, b11, b12, b13, b14, b15, b16, b17, x46, x47, x48, .pointer (some ⟨b, off + q, none⟩), (.slice (some ⟨zb, zo, none⟩) zn zc), x51, x52, x53, x54, x55, x56, x57, x58, x59, x60, x61, x62, x63, (by simp only [Act.put, List.setIfInBounds_toArray, List.set_cons_zero, List.set_cons_succ]), (by simp only [Act.put, List.setIfInBounds_toArray, List.set_cons_zero, List.set_cons_succ]), hb, cd0, cd1, cd2, (fun _ => rfl), (fun _ => rfl), cd5, cd6, cd7, cd8, cd9, cd10, cd11, cd12, cd13, cd14, cd15, cd16, cd17⟩
            · rintro L a w ⟨b0, b1, b2, b3, b4, b5, b6, b7, b8, b9, b10, b11, b12, b13, b14, b15, b16, b17, x46, x47, x48, x49, x50, x51, x52, x53, x54, x55, x56, x57, x58, x59, x60, x61, x62, x63, rfl, rfl, hb, cd0, cd1, cd2, cd3, cd4, cd5, cd6, cd7, cd8, cd9, cd10, cd11, cd12, cd13, cd14, cd15, cd16, cd17⟩ hf hd
              have hf' : b5 = false := hf
              subst hf'
              clear hf hd
              try simp only [List.setIfInBounds_toArray, List.set_cons_zero, List.set_cons_succ]
              intro K hK
              rw [if_pos (by rfl)]
              go_simp
              exact hK.out _ _ ⟨b0, b1, b2, b3, b4, true, b6, b7, b8, b9, b10, b11, b12, b13, b14, b15, b16, b17, x46, x47, x48, x49, x50, (.int .i64 (C : Nat)), x52, x53, x54, x55, x56, x57, x58, x59, x60, x61, x62, x63, (by simp only [Act.put, List.setIfInBounds_toArray, List.set_cons_zero, List.set_cons_succ]), (by simp only [Act.put, List.setIfInBounds_toArray, List.set_cons_zero, List.set_cons_succ]), hb, cd0, cd1, cd2, cd3, cd4, (fun _ => rfl), cd6, cd7, cd8, cd9, cd10, cd11, cd12, cd13, cd14, cd15, cd16, cd17⟩
            · rintro L a w ⟨b0, b1, b2, b3, b4, b5, b6, b7, b8, b9, b10, b11, b12, b13, b14, b15, b16, b17, x46, x47, x48, x49, x50, x51, x52, x53, x54, x55, x56, x57, x58, x59, x60, x61, x62, x63, rfl, rfl, hb, cd0, cd1, cd2, cd3, cd4, cd5, cd6, cd7, cd8, cd9, cd10, cd11, cd12, cd13, cd14, cd15, cd16, cd17⟩ hf hd
              have hf' : b6 = false := hf
              subst hf'
              have d4 : b4 = true := hd ⟨4, .data⟩ (by simp) rfl
              subst d4
              have d5 : b5 = true := hd ⟨5, .data⟩ (by simp) rfl
              subst d5
              obtain rfl := cd4.out rfl
              obtain rfl := cd5.out rfl
              clear hf hd
              try simp only [List.setIfInBounds_toArray, List.set_cons_zero, List.set_cons_succ]
              intro K hK
              rw [if_pos (by rfl)]
              go_simp
              exact hK.out _ _ ⟨b0, b1, b2, b3, true, true, true, b7, b8, b9, b10, b11, b12, b13, b14, b15, b16, b17, x46, x47, x48, x49, .slice (some ⟨zb, zo, none⟩) zn zc, .int .i64 (C : Nat), (.pointer (some ⟨zb, zo + C * 3, none⟩)), x53, x54, x55, x56, x57, x58, x59, x60, x61, x62, x63, (by simp only [Act.put, List.setIfInBounds_toArray, List.set_cons_zero, List.set_cons_succ]), (by simp only [Act.put, List.setIfInBounds_toArray, List.set_cons_zero, List.set_cons_succ]), hb, cd0, cd1, cd2, cd3, (fun _ => rfl), (fun _ => rfl), (fun _ => rfl), cd7, cd8, cd9, cd10, cd11, cd12, cd13, cd14, cd15, cd16, cd17⟩
            · rintro L a w ⟨b0, b1, b2, b3, b4, b5, b6, b7, b8, b9, b10, b11, b12, b13, b14, b15, b16, b17, x46, x47, x48, x49, x50, x51, x52, x53, x54, x55, x56, x57, x58, x59, x60, x61, x62, x63, rfl, rfl, hb, cd0, cd1, cd2, cd3, cd4, cd5, cd6, cd7, cd8, cd9, cd10, cd11, cd12, cd13, cd14, cd15, cd16, cd17⟩ hf hd
              have hf' : b7 = false := hf
              subst hf'
              have d6 : b6 = true := hd ⟨6, .data⟩ (by simp) rfl
              subst d6
              obtain rfl := cd6.out rfl
              clear hf hd
              try simp only [List.setIfInBounds_toArray, List.set_cons_zero, List.set_cons_succ]
              have z0 := (hb.cell hzB).trans e0
              have z1 := (hb.cell hzB).trans e1
              have z2 := (hb.cell hzB).trans e2
              intro K hK
              rw [if_pos (by rfl)]
              go_simp
              exact hK.out _ _ ⟨b0, b1, b2, b3, b4, b5, true, true, b8, b9, b10, b11, b12, b13, b14, b15, b16, b17, x46, x47, x48, x49, x50, x51, .pointer (some ⟨zb, zo + C * 3, none⟩), (.agg #[.int .i64 k1, .int .i64 m1, .string s1]), x54, x55, x56, x57, x58, x59, x60, x61, x62, x63, (by simp only [Act.put, List.setIfInBounds_toArray, List.set_cons_zero, List.set_cons_succ]), (by simp only [Act.put, List.setIfInBounds_toArray, List.set_cons_zero, List.set_cons_succ]), hb, cd0, cd1, cd2, cd3, cd4, cd5, (fun _ => rfl), (fun _ => rfl), cd8, cd9, cd10, cd11, cd12, cd13, cd14, cd15, cd16, cd17⟩
            · rintro L a w ⟨b0, b1, b2, b3, b4, b5, b6, b7, b8, b9, b10, b11, b12, b13, b14, b15, b16, b17, x46, x47, x48, x49, x50, x51, x52, x53, x54, x55, x56, x57, x58, x59, x60, x61, x62, x63, rfl, rfl, hb, cd0, cd1, cd2, cd3, cd4, cd5, cd6, cd7, cd8, cd9, cd10, cd11, cd12, cd13, cd14, cd15, cd16, cd17⟩ hf hd
              have hf' : b8 = false := hf
              subst hf'
              clear hf hd
              try simp only [List.setIfInBounds_toArray, List.set_cons_zero, List.set_cons_succ]
              intro K hK
              rw [if_pos (by rfl)]
              go_simp
              exact hK.out _ _ ⟨b0, b1, b2, b3, b4, b5, b6, b7, true, b9, b10, b11, b12, b13, b14, b15, b16, b17, x46, x47, x48, x49, x50, x51, x52, x53, (.pointer (some ⟨gt, 4, none⟩)), x55, x56, x57, x58, x59, x60, x61, x62, x63, (by simp only [Act.put, List.setIfInBounds_toArray, List.set_cons_zero, List.set_cons_succ]), (by simp only [Act.put, List.setIfInBounds_toArray, List.set_cons_zero, List.set_cons_succ]), hb, cd0, cd1, cd2, cd3, cd4, cd5, cd6, cd7, (fun _ => rfl), cd9, cd10, cd11, cd12, cd13, cd14, cd15, cd16, cd17⟩
            · rintro L a w ⟨b0, b1, b2, b3, b4, b5, b6, b7, b8, b9, b10, b11, b12, b13, b14, b15, b16, b17, x46, x47, x48, x49, x50, x51, x52, x53, x54, x55, x56, x57, x58, x59, x60, x61, x62, x63, rfl, rfl, hb, cd0, cd1, cd2, cd3, cd4, cd5, cd6, cd7, cd8, cd9, cd10, cd11, cd12, cd13, cd14, cd15, cd16, cd17⟩ hf hd
              have hf' : b9 = false := hf
              subst hf'
              have d8 : b8 = true := hd ⟨8, .data⟩ (by simp) rfl
              subst d8
              obtain rfl := cd8.out rfl
              clear hf hd
              try simp only [List.setIfInBounds_toArray, List.set_cons_zero, List.set_cons_succ]
              have z0 := (hb.cell hgtB).trans t4
              intro K hK
              rw [if_pos (by rfl)]
              go_simp
              exact hK.out _ _ ⟨b0, b1, b2, b3, b4, b5, b6, b7, true, true, b10, b11, b12, b13, b14, b15, b16, b17, x46, x47, x48, x49, x50, x51, x52, x53, .pointer (some ⟨gt, 4, none⟩), (.slice (some ⟨b, off, none⟩) rn rc), x56, x57, x58, x59, x60, x61, x62, x63, (by simp only [Act.put, List.setIfInBounds_toArray, List.set_cons_zero, List.set_cons_succ]), (by simp only [Act.put, List.setIfInBounds_toArray, List.set_cons_zero, List.set_cons_succ]), hb, cd0, cd1, cd2, cd3, cd4, cd5, cd6, cd7, (fun _ => rfl), (fun _ => rfl), cd10, cd11, cd12, cd13, cd14, cd15, cd16, cd17⟩
            · rintro L a w ⟨b0, b1, b2, b3, b4, b5, b6, b7, b8, b9, b10, b11, b12, b13, b14, b15, b16, b17, x46, x47, x48, x49, x50, x51, x52, x53, x54, x55, x56, x57, x58, x59, x60, x61, x62, x63, rfl, rfl, hb, cd0, cd1, cd2, cd3, cd4, cd5, cd6, cd7, cd8, cd9, cd10, cd11, cd12, cd13, cd14, cd15, cd16, cd17⟩ hf hd
              have hf' : b10 = false := hf
              subst hf'
              clear hf hd
              try simp only [List.setIfInBounds_toArray, List.set_cons_zero, List.set_cons_succ]
              intro K hK
              rw [if_pos (by rfl)]
              go_simp
              exact hK.out _ _ ⟨b0, b1, b2, b3, b4, b5, b6, b7, b8, b9, true, b11, b12, b13, b14, b15, b16, b17, x46, x47, x48, x49, x50, x51, x52, x53, x54, x55, (.int .i64 (j : Nat)), x57, x58, x59, x60, x61, x62, x63, (by simp only [Act.put, List.setIfInBounds_toArray, List.set_cons_zero, List.set_cons_succ]), (by simp only [Act.put, List.setIfInBounds_toArray, List.set_cons_zero, List.set_cons_succ]), hb, cd0, cd1, cd2, cd3, cd4, cd5, cd6, cd7, cd8, cd9, (fun _ => rfl), cd11, cd12, cd13, cd14, cd15, cd16, cd17⟩
            · rintro L a w ⟨b0, b1, b2, b3, b4, b5, b6, b7, b8, b9, b10, b11, b12, b13, b14, b15, b16, b17, x46, x47, x48, x49, x50, x51, x52, x53, x54, x55, x56, x57, x58, x59, x60, x61, x62, x63, rfl, rfl, hb, cd0, cd1, cd2, cd3, cd4, cd5, cd6, cd7, cd8, cd9, cd10, cd11, cd12, cd13, cd14, cd15, cd16, cd17⟩ hf hd
              have hf' : b11 = false := hf
              subst hf'
              have d9 : b9 = true := hd ⟨9, .data⟩ (by simp) rfl
              subst d9
              have d10 : b10 = true := hd ⟨10, .data⟩ (by simp) rfl
              subst d10
              obtain rfl := cd9.out rfl
              obtain rfl := cd10.out rfl
              clear hf hd
              try simp only [List.setIfInBounds_toArray, List.set_cons_zero, List.set_cons_succ]
              intro K hK
              rw [if_pos (by rfl)]
              go_simp
              exact hK.out _ _ ⟨b0, b1, b2, b3, b4, b5, b6, b7, b8, true, true, true, b12, b13, b14, b15, b16, b17, x46, x47, x48, x49, x50, x51, x52, x53, x54, .slice (some ⟨b, off, none⟩) rn rc, .int .i64 (j : Nat), (.pointer (some ⟨b, off + j, none⟩)), x58, x59, x60, x61, x62, x63, (by simp only [Act.put, List.setIfInBounds_toArray, List.set_cons_zero, List.set_cons_succ]), (by simp only [Act.put, List.setIfInBounds_toArray, List.set_cons_zero, List.set_cons_succ]), hb, cd0, cd1, cd2, cd3, cd4, cd5, cd6, cd7, cd8, (fun _ => rfl), (fun _ => rfl), (fun _ => rfl), cd12, cd13, cd14, cd15, cd16, cd17⟩
            · rintro L a w ⟨b0, b1, b2, b3, b4, b5, b6, b7, b8, b9, b10, b11, b12, b13, b14, b15, b16, b17, x46, x47, x48, x49, x50, x51, x52, x53, x54, x55, x56, x57, x58, x59, x60, x61, x62, x63, rfl, rfl, hb, cd0, cd1, cd2, cd3, cd4, cd5, cd6, cd7, cd8, cd9, cd10, cd11, cd12, cd13, cd14, cd15, cd16, cd17⟩ hf hd
              have hf' : b12 = false := hf
              subst hf'
              have d11 : b11 = true := hd ⟨11, .data⟩ (by simp) rfl
              subst d11
              obtain rfl := cd11.out rfl
              clear hf hd
              try simp only [List.setIfInBounds_toArray, List.set_cons_zero, List.set_cons_succ]
              have z0 := (hb.cell hbB).trans hcj
              intro K hK
              rw [if_pos (by rfl)]
              go_simp
              exact hK.out _ _ ⟨b0, b1, b2, b3, b4, b5, b6, b7, b8, b9, b10, true, true, b13, b14, b15, b16, b17, x46, x47, x48, x49, x50, x51, x52, x53, x54, x55, x56, .pointer (some ⟨b, off + j, none⟩), (.slice (some ⟨yb, yo, none⟩) yn yc), x59, x60, x61, x62, x63, (by simp only [Act.put, List.setIfInBounds_toArray, List.set_cons_zero, List.set_cons_succ]), (by simp only [Act.put, List.setIfInBounds_toArray, List.set_cons_zero, List.set_cons_succ]), hb, cd0, cd1, cd2, cd3, cd4, cd5, cd6, cd7, cd8, cd9, cd10, (fun _ => rfl), (fun _ => rfl), cd13, cd14, cd15, cd16, cd17⟩
            · rintro L a w ⟨b0, b1, b2, b3, b4, b5, b6, b7, b8, b9, b10, b11, b12, b13, b14, b15, b16, b17, x46, x47, x48, x49, x50, x51, x52, x53, x54, x55, x56, x57, x58, x59, x60, x61, x62, x63, rfl, rfl, hb, cd0, cd1, cd2, cd3, cd4, cd5, cd6, cd7, cd8, cd9, cd10, cd11, cd12, cd13, cd14, cd15, cd16, cd17⟩ hf hd
              have hf' : b13 = false := hf
              subst hf'
              clear hf hd
              try simp only [List.setIfInBounds_toArray, List.set_cons_zero, List.set_cons_succ]
              intro K hK
              rw [if_pos (by rfl)]
              go_simp
              exact hK.out _ _ ⟨b0, b1, b2, b3, b4, b5, b6, b7, b8, b9, b10, b11, b12, true, b14, b15, b16, b17, x46, x47, x48, x49, x50, x51, x52, x53, x54, x55, x56, x57, x58, (.int .i64 (C : Nat)), x60, x61, x62, x63, (by simp only [Act.put, List.setIfInBounds_toArray, List.set_cons_zero, List.set_cons_succ]), (by simp only [Act.put, List.setIfInBounds_toArray, List.set_cons_zero, List.set_cons_succ]), hb, cd0, cd1, cd2, cd3, cd4, cd5, cd6, cd7, cd8, cd9, cd10, cd11, cd12, (fun _ => rfl), cd14, cd15, cd16, cd17⟩
            · rintro L a w ⟨b0, b1, b2, b3, b4, b5, b6, b7, b8, b9, b10, b11, b12, b13, b14, b15, b16, b17, x46, x47, x48, x49, x50, x51, x52, x53, x54, x55, x56, x57, x58, x59, x60, x61, x62, x63, rfl, rfl, hb, cd0, cd1, cd2, cd3, cd4, cd5, cd6, cd7, cd8, cd9, cd10, cd11, cd12, cd13, cd14, cd15, cd16, cd17⟩ hf hd
              have hf' : b14 = false := hf
              subst hf'
              have d12 : b12 = true := hd ⟨12, .data⟩ (by simp) rfl
              subst d12
              have d13 : b13 = true := hd ⟨13, .data⟩ (by simp) rfl
              subst d13
              obtain rfl := cd12.out rfl
              obtain rfl := cd13.out rfl
              clear hf hd
              try simp only [List.setIfInBounds_toArray, List.set_cons_zero, List.set_cons_succ]
              intro K hK
              rw [if_pos (by rfl)]
              go_simp
              exact hK.out _ _ ⟨b0, b1, b2, b3, b4, b5, b6, b7, b8, b9, b10, b11, true, true, true, b15, b16, b17, x46, x47, x48, x49, x50, x51, x52, x53, x54, x55, x56, x57, .slice (some ⟨yb, yo, none⟩) yn yc, .int .i64 (C : Nat), (.pointer (some ⟨yb, yo + C * 3, none⟩)), x61, x62, x63, (by simp only [Act.put, List.setIfInBounds_toArray, List.set_cons_zero, List.set_cons_succ]), (by simp only [Act.put, List.setIfInBounds_toArray, List.set_cons_zero, List.set_cons_succ]), hb, cd0, cd1, cd2, cd3, cd4, cd5, cd6, cd7, cd8, cd9, cd10, cd11, (fun _ => rfl), (fun _ => rfl), (fun _ => rfl), cd15, cd16, cd17⟩
            · rintro L a w ⟨b0, b1, b2, b3, b4, b5, b6, b7, b8, b9, b10, b11, b12, b13, b14, b15, b16, b17, x46, x47, x48, x49, x50, x51, x52, x53, x54, x55, x56, x57, x58, x59, x60, x61, x62, x63, rfl, rfl, hb, cd0, cd1, cd2, cd3, cd4, cd5, cd6, cd7, cd8, cd9, cd10, cd11, cd12, cd13, cd14, cd15, cd16, cd17⟩ hf hd
              have hf' : b15 = false := hf
              subst hf'
              have d14 : b14 = true := hd ⟨14, .data⟩ (by simp) rfl
              subst d14
              obtain rfl := cd14.out rfl
              clear hf hd
              try simp only [List.setIfInBounds_toArray, List.set_cons_zero, List.set_cons_succ]
              have z0 := (hb.cell hyB).trans d0
              have z1 := (hb.cell hyB).trans d1
              have z2 := (hb.cell hyB).trans d2
              intro K hK
              rw [if_pos (by rfl)]
              go_simp
              exact hK.out _ _ ⟨b0, b1, b2, b3, b4, b5, b6, b7, b8, b9, b10, b11, b12, b13, true, true, b16, b17, x46, x47, x48, x49, x50, x51, x52, x53, x54, x55, x56, x57, x58, x59, .pointer (some ⟨yb, yo + C * 3, none⟩), (.agg #[.int .i64 k2, .int .i64 m2, .string s2]), x62, x63, (by simp only [Act.put, List.setIfInBounds_toArray, List.set_cons_zero, List.set_cons_succ]), (by simp only [Act.put, List.setIfInBounds_toArray, List.set_cons_zero, List.set_cons_succ]), hb, cd0, cd1, cd2, cd3, cd4, cd5, cd6, cd7, cd8, cd9, cd10, cd11, cd12, cd13, (fun _ => rfl), (fun _ => rfl), cd16, cd17⟩
            · rintro L a w ⟨b0, b1, b2, b3, b4, b5, b6, b7, b8, b9, b10, b11, b12, b13, b14, b15, b16, b17, x46, x47, x48, x49, x50, x51, x52, x53, x54, x55, x56, x57, x58, x59, x60, x61, x62, x63, rfl, rfl, hb, cd0, cd1, cd2, cd3, cd4, cd5, cd6, cd7, cd8, cd9, cd10, cd11, cd12, cd13, cd14, cd15, cd16, cd17⟩ hf hd
              have hf' : b16 = false := hf
              subst hf'
              have d7 : b7 = true := hd ⟨7, .data⟩ (by simp) rfl
              subst d7
              have d15 : b15 = true := hd ⟨15, .data⟩ (by simp) rfl
              subst d15
              obtain rfl := cd7.out rfl
              obtain rfl := cd15.out rfl
              clear hf hd
              try simp only [List.setIfInBounds_toArray, List.set_cons_zero, List.set_cons_succ]
              intro K hK
              rw [if_pos (by rfl)]
              go_simp
              go_at_call 35
              refine (HC _).mono ?_
              rintro e w' ⟨rfl, bx⟩
              exact hK.out _ _ ⟨b0, b1, b2, b3, b4, b5, b6, true, b8, b9, b10, b11, b12, b13, b14, true, true, b17, x46, x47, x48, x49, x50, x51, x52, .agg #[.int .i64 k1, .int .i64 m1, .string s1], x54, x55, x56, x57, x58, x59, x60, .agg #[.int .i64 k2, .int .i64 m2, .string s2], (.int .i64 CM), x63, (by simp only [Act.put, List.setIfInBounds_toArray, List.set_cons_zero, List.set_cons_succ]), (by simp only [Act.put, List.setIfInBounds_toArray, List.set_cons_zero, List.set_cons_succ]), hb.trans (bx.mono (Nat.le_trans hB0 hb.size)), cd0, cd1, cd2, cd3, cd4, cd5, cd6, (fun _ => rfl), cd8, cd9, cd10, cd11, cd12, cd13, cd14, (fun _ => rfl), (fun _ => rfl), cd17⟩
            · rintro L a w ⟨b0, b1, b2, b3, b4, b5, b6, b7, b8, b9, b10, b11, b12, b13, b14, b15, b16, b17, x46, x47, x48, x49, x50, x51, x52, x53, x54, x55, x56, x57, x58, x59, x60, x61, x62, x63, rfl, rfl, hb, cd0, cd1, cd2, cd3, cd4, cd5, cd6, cd7, cd8, cd9, cd10, cd11, cd12, cd13, cd14, cd15, cd16, cd17⟩ hf hd
              have hf' : b17 = false := hf
              subst hf'
              have d16 : b16 = true := hd ⟨16, .data⟩ (by simp) rfl
              subst d16
              obtain rfl := cd16.out rfl
              clear hf hd
              try simp only [List.setIfInBounds_toArray, List.set_cons_zero, List.set_cons_succ]
              intro K hK
              rw [if_pos (by rfl)]
              go_simp
              exact hK.out _ _ ⟨b0, b1, b2, b3, b4, b5, b6, b7, b8, b9, b10, b11, b12, b13, b14, b15, true, true, x46, x47, x48, x49, x50, x51, x52, x53, x54, x55, x56, x57, x58, x59, x60, x61, .int .i64 CM, (.bool (CM == 0)), (by simp only [Act.put, List.setIfInBounds_toArray, List.set_cons_zero, List.set_cons_succ]), (by simp only [Act.put, List.setIfInBounds_toArray, List.set_cons_zero, List.set_cons_succ]), hb, cd0, cd1, cd2, cd3, cd4, cd5, cd6, cd7, cd8, cd9, cd10, cd11, cd12, cd13, cd14, cd15, (fun _ => rfl), (fun _ => rfl)⟩
          · rintro act V16 ⟨b0, b1, b2, b3, b4, b5, b6, b7, b8, b9, b10, b11, b12, b13, b14, b15, b16, b17, x46, x47, x48, x49, x50, x51, x52, x53, x54, x55, x56, x57, x58, x59, x60, x61, x62, x63, hL, rfl, hb, cd0, cd1, cd2, cd3, cd4, cd5, cd6, cd7, cd8, cd9, cd10, cd11, cd12, cd13, cd14, cd15, cd16, cd17⟩
            have hL' : [true, true, true, true, true, true, true, true, true, true, true, true, true, true, true, true, true, true] = [b0, b1, b2, b3, b4, b5, b6, b7, b8, b9, b10, b11, b12, b13, b14, b15, b16, b17] := congrArg Array.toList hL
            simp only [List.cons.injEq, and_true] at hL'
            obtain ⟨rfl, rfl, rfl, rfl, rfl, rfl, rfl, rfl, rfl, rfl, rfl, rfl, rfl, rfl, rfl, rfl, rfl, rfl⟩ := hL'
            obtain rfl := cd0.out rfl
            obtain rfl := cd1.out rfl
            obtain rfl := cd2.out rfl
            obtain rfl := cd3.out rfl
            obtain rfl := cd4.out rfl
            obtain rfl := cd5.out rfl
            obtain rfl := cd6.out rfl
            obtain rfl := cd7.out rfl
            obtain rfl := cd8.out rfl
            obtain rfl := cd9.out rfl
            obtain rfl := cd10.out rfl
            obtain rfl := cd11.out rfl
            obtain rfl := cd12.out rfl
            obtain rfl := cd13.out rfl
            obtain rfl := cd14.out rfl
            obtain rfl := cd15.out rfl
            obtain rfl := cd16.out rfl
            obtain rfl := cd17.out rfl
            clear hL cd0 cd1 cd2 cd3 cd4 cd5 cd6 cd7 cd8 cd9 cd10 cd11 cd12 cd13 cd14 cd15 cd16 cd17
            simp only [List.setIfInBounds_toArray, List.set_cons_zero, List.set_cons_succ]
            have bV16 : Below Z.heap.size Z V16 := hB2.trans (((Below.refl _ _).drew.trans hb).mono hB2.size)
            have oW16 := oW.below16 ((Below.refl _ _).drew.trans hb)
            clear hb
            cases hg : (CM == 0) with
            | false =>
              have HNX : Hid ((((rs.take (q + 1)).filter fun r => (kOf C r).cmp ⟨k2, m2, s2⟩ == 0).map (kOf KI)) = (((rs.take q).filter fun r => (kOf C r).cmp ⟨k2, m2, s2⟩ == 0).map (kOf KI))) := by
                show _ = _
                rw [take_next_f hrq, HCM.out, hg]
                rfl
              clear hrq
              go_wp2_with fail
              go_roundw
              case rel => exact ⟨q + 1, wa, wn, wc, by omega, rfl, by go_num, by rw [HNX.out]; exact oW16, bV16⟩
              case measure => simp [intOf]; omega
            | true =>
              have HNX : Hid ((((rs.take (q + 1)).filter fun r => (kOf C r).cmp ⟨k2, m2, s2⟩ == 0).map (kOf KI)) = (((rs.take q).filter fun r => (kOf C r).cmp ⟨k2, m2, s2⟩ == 0).map (kOf KI)) ++ [⟨k3, m3, s3⟩]) := by
                show _ = _
                rw [take_next_f hrq, HCM.out, hg, HKO.out]
                rfl
              have hwn2 := oW16.isR.len
              have hwn3 : wn ≤ 60 := by rw [← hwn2, List.length_map]; exact Nat.le_trans (List.length_filter_le _ _) (by rw [List.length_take]; omega)
              have hB17 : Z.heap.size ≤ V16.heap.size := bV16.size
              have t4 := (bV16.cell hgtZ).trans T4.out
              have z2 := (bV16.cell hgsZ).trans Z2.out
              have hcq := (bV16.cell hbZ).trans HCQ.out
              have f0 := (bV16.cell hzZ).trans F0.out
              have f1 := (bV16.cell hzZ).trans F1.out
              have f2 := (bV16.cell hzZ).trans F2.out
              have hgtB := hgtZ
              have hgsB := hgsZ
              have hbB := hbZ
              have hzB := hzZ
              have hKi : (KI : Int) < (zn : Int) := by omega
              have hB0 := hB17
              have hwm : wn + 1 ≤ 1000000 := by omega
              clear hrq hwn2
              go_upto_region 17 with fail
              obtain ⟨ws, hws⟩ : ∃ ws, (((rs.take q).filter fun r => (kOf C r).cmp ⟨k2, m2, s2⟩ == 0).map (kOf KI)) = ws := ⟨_, rfl⟩
              rw [hws] at oW16
              have HWS := Lib.hid hws
              clear hws
              refine region_inv (IAll17 Z.heap.size gt b off rn rc q zb zo zn zc gs KI wa wn wc k3 m3 s3 ws) (by kernel_rfl) (by kernel_rfl) ?_ ?_ ?_
              · exact ⟨false, false, false, false, false, false, false, false, false, false, false, false, false, u64, u65, u66, u67, u68, u69, u70, u71, u72, u73, u74, u75, .slice wa wn wc, 0, none, 0, rfl, (by simp only [Act.put, List.setIfInBounds_toArray, List.set_cons_zero, List.set_cons_succ]), Below.refl _ _, (fun h => by cases h), (fun h => by cases h), (fun h => by cases h), (fun h => by cases h), (fun h => by cases h), (fun h => by cases h), (fun h => by cases h), (fun h => by cases h), (fun h => by cases h), (fun h => by cases h), (fun h => by cases h), (fun h => by cases h), (fun h => by cases h), (fun h1 => oW16.past (Below.refl _ _).drew), (fun h => by cases h), (fun h => by cases h), (fun h => by cases h), (fun h1 => rfl), (fun h => by cases h)⟩
              · refine ⟨?_, ?_, ?_, ?_, ?_, ?_, ?_, ?_, ?_, ?_, ?_, ?_, ?_, trivial⟩
                · rintro L a w ⟨b0, b1, b2, b3, b4, b5, b6, b7, b8, b9, b10, b11, b12, x64, x65, x66, x67, x68, x69, x70, x71, x72, x73, x74, x75, x11, gl, wb, wd, rfl, rfl, hb, cd0, cd1, cd2, cd3, cd4, cd5, cd6, cd7, cd8, cd9, cd10, cd11, cd12, f_wt, f_l, f_o, f_o12, f_s11, w_12_11⟩ hf hd
                  have hf' : b0 = false := hf
                  subst hf'
                  clear hf hd
                  have e12 : b12 = false := by cases hq : b12 with | false => rfl | true => exact absurd (f_o12.out hq) (by simp)
                  subst e12
                  obtain rfl := f_s11.out rfl
                  try simp only [List.setIfInBounds_toArray, List.set_cons_zero, List.set_cons_succ]
                  intro K hK
                  rw [if_pos (by rfl)]
                  go_simp
                  exact hK.out _ _ ⟨true, b1, b2, b3, b4, b5, b6, b7, b8, b9, b10, b11, false, (.slice wa wn wc), x65, x66, x67, x68, x69, x70, x71, x72, x73, x74, x75, (.slice wa wn wc), gl, wb, wd, (by simp only [Act.put, List.setIfInBounds_toArray, List.set_cons_zero, List.set_cons_succ]), (by simp only [Act.put, List.setIfInBounds_toArray, List.set_cons_zero, List.set_cons_succ]), hb, (fun _ => rfl), cd1, cd2, cd3, cd4, cd5, cd6, cd7, cd8, cd9, cd10, cd11, cd12, f_wt, f_l, f_o, (fun _ => rfl), f_s11, w_12_11⟩
                · rintro L a w ⟨b0, b1, b2, b3, b4, b5, b6, b7, b8, b9, b10, b11, b12, x64, x65, x66, x67, x68, x69, x70, x71, x72, x73, x74, x75, x11, gl, wb, wd, rfl, rfl, hb, cd0, cd1, cd2, cd3, cd4, cd5, cd6, cd7, cd8, cd9, cd10, cd11, cd12, f_wt, f_l, f_o, f_o12, f_s11, w_12_11⟩ hf hd
                  have hf' : b1 = false := hf
                  subst hf'
                  clear hf hd
                  try simp only [List.setIfInBounds_toArray, List.set_cons_zero, List.set_cons_succ]
                  intro K hK
                  rw [if_pos (by rfl)]
                  go_simp
                  exact hK.out _ _ ⟨b0, true, b2, b3, b4, b5, b6, b7, b8, b9, b10, b11, b12, x64, (.pointer (some ⟨gt, 4, none⟩)), x66, x67, x68, x69, x70, x71, x72, x73, x74, x75, x11, gl, wb, wd, (by simp only [Act.put, List.setIfInBounds_toArray, List.set_cons_zero, List.set_cons_succ]), (by simp only [Act.put, List.setIfInBounds_toArray, List.set_cons_zero, List.set_cons_succ]), hb, cd0, (fun _ => rfl), cd2, cd3, cd4, cd5, cd6, cd7, cd8, cd9, cd10, cd11, cd12, f_wt, f_l, f_o, f_o12, f_s11, w_12_11⟩
                · rintro L a w ⟨b0, b1, b2, b3, b4, b5, b6, b7, b8, b9, b10, b11, b12, x64, x65, x66, x67, x68, x69, x70, x71, x72, x73, x74, x75, x11, gl, wb, wd, rfl, rfl, hb, cd0, cd1, cd2, cd3, cd4, cd5, cd6, cd7, cd8, cd9, cd10, cd11, cd12, f_wt, f_l, f_o, f_o12, f_s11, w_12_11⟩ hf hd
                  have hf' : b2 = false := hf
                  subst hf'
                  have d1 : b1 = true := hd ⟨1, .data⟩ (by simp) rfl
                  subst d1
                  obtain rfl := cd1.out rfl
                  clear hf hd
                  try simp only [List.setIfInBounds_toArray, List.set_cons_zero, List.set_cons_succ]
                  have z0 := (hb.cell hgtB).trans t4
                  intro K hK
                  rw [if_pos (by rfl)]
                  go_simp
                  exact hK.out _ _ ⟨b0, true, true, b3, b4, b5, b6, b7, b8, b9, b10, b11, b12, x64, .pointer (some ⟨gt, 4, none⟩), (.slice (some ⟨b, off, none⟩) rn rc), x67, x68, x69, x70, x71, x72, x73, x74, x75, x11, gl, wb, wd, (by simp only [Act.put, List.setIfInBounds_toArray, List.set_cons_zero, List.set_cons_succ]), (by simp only [Act.put, List.setIfInBounds_toArray, List.set_cons_zero, List.set_cons_succ]), hb, cd0, (fun _ => rfl), (fun _ => rfl), cd3, cd4, cd5, cd6, cd7, cd8, cd9, cd10, cd11, cd12, f_wt, f_l, f_o, f_o12, f_s11, w_12_11⟩
                · rintro L a w ⟨b0, b1, b2, b3, b4, b5, b6, b7, b8, b9, b10, b11, b12, x64, x65, x66, x67, x68, x69, x70, x71, x72, x73, x74, x75, x11, gl, wb, wd, rfl, rfl, hb, cd0, cd1, cd2, cd3, cd4, cd5, cd6, cd7, cd8, cd9, cd10, cd11, cd12, f_wt, f_l, f_o, f_o12, f_s11, w_12_11⟩ hf hd
                  have hf' : b3 = false := hf
                  subst hf'
                  clear hf hd
                  try simp only [List.setIfInBounds_toArray, List.set_cons_zero, List.set_cons_succ]
                  intro K hK
                  rw [if_pos (by rfl)]
                  go_simp
                  exact hK.out _ _ ⟨b0, b1, b2, true, b4, b5, b6, b7, b8, b9, b10, b11, b12, x64, x65, x66, (.int .i64 (q : Nat)), x68, x69, x70, x71, x72, x73, x74, x75, x11, gl, wb, wd, (by simp only [Act.put, List.setIfInBounds_toArray, List.set_cons_zero, List.set_cons_succ]), (by simp only [Act.put, List.setIfInBounds_toArray, List.set_cons_zero, List.set_cons_succ]), hb, cd0, cd1, cd2, (fun _ => rfl), cd4, cd5, cd6, cd7, cd8, cd9, cd10, cd11, cd12, f_wt, f_l, f_o, f_o12, f_s11, w_12_11⟩
                · rintro L a w ⟨b0, b1, b2, b3, b4, b5, b6, b7, b8, b9, b10, b11, b12, x64, x65, x66, x67, x68, x69, x70, x71, x72, x73, x74, x75, x11, gl, wb, wd, rfl, rfl, hb, cd0, cd1, cd2, cd3, cd4, cd5, cd6, cd7, cd8, cd9, cd10, cd11, cd12, f_wt, f_l, f_o, f_o12, f_s11, w_12_11⟩ hf hd
                  have hf' : b4 = false := hf
                  subst hf'
                  have d2 : b2 = true := hd ⟨2, .data⟩ (by simp) rfl
                  subst d2
                  have d3 : b3 = true := hd ⟨3, .data⟩ (by simp) rfl
                  subst d3
                  obtain rfl := cd2.out rfl
                  obtain rfl := cd3.out rfl
                  clear hf hd
                  try simp only [List.setIfInBounds_toArray, List.set_cons_zero, List.set_cons_succ]
                  intro K hK
                  rw [if_pos (by rfl)]
                  go_simp
                  exact hK.out _ _ ⟨b0, b1, true, true, true, b5, b6, b7, b8, b9, b10, b11, b12, x64, x65, .slice (some ⟨b, off, none⟩) rn rc, .int .i64 (q : Nat), (.pointer (some ⟨b, off + q, none⟩)), x69, x70, x71, x72, x73, x74, x75, x11, gl, wb, wd, (by simp only [Act.put, List.setIfInBounds_toArray, List.set_cons_zero, List.set_cons_succ]), (by simp only [Act.put, List.setIfInBounds_toArray, List.set_cons_zero, List.set_cons_succ]), hb, cd0, cd1, (fun _ => rfl), (fun _ => rfl), (fun _ => rfl), cd5, cd6, cd7, cd8, cd9, cd10, cd11, cd12, f_wt, f_l, f_o, f_o12, f_s11, w_12_11⟩
                · rintro L a w ⟨b0, b1, b2, b3, b4, b5, b6, b7, b8, b9, b10, b11, b12, x64, x65, x66, x67, x68, x69, x70, x71, x72, x73, x74, x75, x11, gl, wb, wd, rfl, rfl, hb, cd0, cd1, cd2, cd3, cd4, cd5, cd6, cd7, cd8, cd9, cd10, cd11, cd12, f_wt, f_l, f_o, f_o12, f_s11, w_12_11⟩ hf hd
                  have hf' : b5 = false := hf
                  subst hf'
                  have d4 : b4 = true := hd ⟨4, .data⟩ (by simp) rfl
                  subst d4
                  obtain rfl := cd4.out rfl
                  clear hf hd
                  try simp only [List.setIfInBounds_toArray, List.set_cons_zero, List.set_cons_succ]
                  have z0 := (hb.cell hbB).trans hcq
                  intro K hK
                  rw [if_pos (by rfl)]
                  go_simp
                  exact hK.out _ _ ⟨b0, b1, b2, b3, true, true, b6, b7, b8, b9, b10, b11, b12, x64, x65, x66, x67, .pointer (some ⟨b, off + q, none⟩), (.slice (some ⟨zb, zo, none⟩) zn zc), x70, x71, x72, x73, x74, x75, x11, gl, wb, wd, (by simp only [Act.put, List.setIfInBounds_toArray, List.set_cons_zero, List.set_cons_succ]), (by simp only [Act.put, List.setIfInBounds_toArray, List.set_cons_zero, List.set_cons_succ]), hb, cd0, cd1, cd2, cd3, (fun _ => rfl), (fun _ => rfl), cd6, cd7, cd8, cd9, cd10, cd11, cd12, f_wt, f_l, f_o, f_o12, f_s11, w_12_11⟩
                · rintro L a w ⟨b0, b1, b2, b3, b4, b5, b6, b7, b8, b9, b10, b11, b12, x64, x65, x66, x67, x68, x69, x70, x71, x72, x73, x74, x75, x11, gl, wb, wd, rfl, rfl, hb, cd0, cd1, cd2, cd3, cd4, cd5, cd6, cd7, cd8, cd9, cd10, cd11, cd12, f_wt, f_l, f_o, f_o12, f_s11, w_12_11⟩ hf hd
                  have hf' : b6 = false := hf
                  subst hf'
                  clear hf hd
                  try simp only [List.setIfInBounds_toArray, List.set_cons_zero, List.set_cons_succ]
                  intro K hK
                  rw [if_pos (by rfl)]
                  go_simp
                  exact hK.out _ _ ⟨b0, b1, b2, b3, b4, b5, true, b7, b8, b9, b10, b11, b12, x64, x65, x66, x67, x68, x69, (.pointer (some ⟨gs, 2, none⟩)), x71, x72, x73, x74, x75, x11, gl, wb, wd, (by simp only [Act.put, List.setIfInBounds_toArray, List.set_cons_zero, List.set_cons_succ]), (by simp only [Act.put, List.setIfInBounds_toArray, List.set_cons_zero, List.set_cons_succ]), hb, cd0, cd1, cd2, cd3, cd4, cd5, (fun _ => rfl), cd7, cd8, cd9, cd10, cd11, cd12, f_wt, f_l, f_o, f_o12, f_s11, w_12_11⟩
                · rintro L a w ⟨b0, b1, b2, b3, b4, b5, b6, b7, b8, b9, b10, b11, b12, x64, x65, x66, x67, x68, x69, x70, x71, x72, x73, x74, x75, x11, gl, wb, wd, rfl, rfl, hb, cd0, cd1, cd2, cd3, cd4, cd5, cd6, cd7, cd8, cd9, cd10, cd11, cd12, f_wt, f_l, f_o, f_o12, f_s11, w_12_11⟩ hf hd
                  have hf' : b7 = false := hf
                  subst hf'
                  have d6 : b6 = true := hd ⟨6, .data⟩ (by simp) rfl
                  subst d6
                  obtain rfl := cd6.out rfl
                  clear hf hd
                  try simp only [List.setIfInBounds_toArray, List.set_cons_zero, List.set_cons_succ]
                  have z0 := (hb.cell hgsB).trans z2
                  intro K hK
                  rw [if_pos (by rfl)]
                  go_simp
                  exact hK.out _ _ ⟨b0, b1, b2, b3, b4, b5, true, true, b8, b9, b10, b11, b12, x64, x65, x66, x67, x68, x69, .pointer (some ⟨gs, 2, none⟩), (.int .i64 (KI : Nat)), x72, x73, x74, x75, x11, gl, wb, wd, (by simp only [Act.put, List.setIfInBounds_toArray, List.set_cons_zero, List.set_cons_succ]), (by simp only [Act.put, List.setIfInBounds_toArray, List.set_cons_zero, List.set_cons_succ]), hb, cd0, cd1, cd2, cd3, cd4, cd5, (fun _ => rfl), (fun _ => rfl), cd8, cd9, cd10, cd11, cd12, f_wt, f_l, f_o, f_o12, f_s11, w_12_11⟩
                · rintro L a w ⟨b0, b1, b2, b3, b4, b5, b6, b7, b8, b9, b10, b11, b12, x64, x65, x66, x67, x68, x69, x70, x71, x72, x73, x74, x75, x11, gl, wb, wd, rfl, rfl, hb, cd0, cd1, cd2, cd3, cd4, cd5, cd6, cd7, cd8, cd9, cd10, cd11, cd12, f_wt, f_l, f_o, f_o12, f_s11, w_12_11⟩ hf hd
                  have hf' : b8 = false := hf
                  subst hf'
                  have d5 : b5 = true := hd ⟨5, .data⟩ (by simp) rfl
                  subst d5
                  have d7 : b7 = true := hd ⟨7, .data⟩ (by simp) rfl
                  subst d7
                  obtain rfl := cd5.out rfl
                  obtain rfl := cd7.out rfl
                  clear hf hd
                  try simp only [List.setIfInBounds_toArray, List.set_cons_zero, List.set_cons_succ]
                  intro K hK
                  rw [if_pos (by rfl)]
                  go_simp
                  exact hK.out _ _ ⟨b0, b1, b2, b3, b4, true, b6, true, true, b9, b10, b11, b12, x64, x65, x66, x67, x68, .slice (some ⟨zb, zo, none⟩) zn zc, x70, .int .i64 (KI : Nat), (.pointer (some ⟨zb, zo + KI * 3, none⟩)), x73, x74, x75, x11, gl, wb, wd, (by simp only [Act.put, List.setIfInBounds_toArray, List.set_cons_zero, List.set_cons_succ]), (by simp only [Act.put, List.setIfInBounds_toArray, List.set_cons_zero, List.set_cons_succ]), hb, cd0, cd1, cd2, cd3, cd4, (fun _ => rfl), cd6, (fun _ => rfl), (fun _ => rfl), cd9, cd10, cd11, cd12, f_wt, f_l, f_o, f_o12, f_s11, w_12_11⟩
                · rintro L a w ⟨b0, b1, b2, b3, b4, b5, b6, b7, b8, b9, b10, b11, b12, x64, x65, x66, x67, x68, x69, x70, x71, x72, x73, x74, x75, x11, gl, wb, wd, rfl, rfl, hb, cd0, cd1, cd2, cd3, cd4, cd5, cd6, cd7, cd8, cd9, cd10, cd11, cd12, f_wt, f_l, f_o, f_o12, f_s11, w_12_11⟩ hf hd
                  have hf' : b9 = false := hf
                  subst hf'
                  have d8 : b8 = true := hd ⟨8, .data⟩ (by simp) rfl
                  subst d8
                  obtain rfl := cd8.out rfl
                  clear hf hd
                  try simp only [List.setIfInBounds_toArray, List.set_cons_zero, List.set_cons_succ]
                  have z0 := (hb.cell hzB).trans f0
                  have z1 := (hb.cell hzB).trans f1
                  have z2 := (hb.cell hzB).trans f2
                  intro K hK
                  rw [if_pos (by rfl)]
                  go_simp
                  exact hK.out _ _ ⟨b0, b1, b2, b3, b4, b5, b6, b7, true, true, b10, b11, b12, x64, x65, x66, x67, x68, x69, x70, x71, .pointer (some ⟨zb, zo + KI * 3, none⟩), (.agg #[.int .i64 k3, .int .i64 m3, .string s3]), x74, x75, x11, gl, wb, wd, (by simp only [Act.put, List.setIfInBounds_toArray, List.set_cons_zero, List.set_cons_succ]), (by simp only [Act.put, List.setIfInBounds_toArray, List.set_cons_zero, List.set_cons_succ]), hb, cd0, cd1, cd2, cd3, cd4, cd5, cd6, cd7, (fun _ => rfl), (fun _ => rfl), cd10, cd11, cd12, f_wt, f_l, f_o, f_o12, f_s11, w_12_11⟩
                · rintro L a w ⟨b0, b1, b2, b3, b4, b5, b6, b7, b8, b9, b10, b11, b12, x64, x65, x66, x67, x68, x69, x70, x71, x72, x73, x74, x75, x11, gl, wb, wd, rfl, rfl, hb, cd0, cd1, cd2, cd3, cd4, cd5, cd6, cd7, cd8, cd9, cd10, cd11, cd12, f_wt, f_l, f_o, f_o12, f_s11, w_12_11⟩ hf hd
                  have hf' : b10 = false := hf
                  subst hf'
                  have d9 : b9 = true := hd ⟨9, .data⟩ (by simp) rfl
                  subst d9
                  obtain rfl := cd9.out rfl
                  clear hf hd
                  try simp only [List.setIfInBounds_toArray, List.set_cons_zero, List.set_cons_succ]
                  intro K hK
                  rw [if_pos (by rfl)]
                  go_simp
                  have bx : Below w.heap.size w (w.alloc (.cells #[.int .i64 k3, .int .i64 m3, .string s3] 46)) := (Below.refl _ _).alloc (Nat.le_refl _) _
                  have i1 : IsR EV (w.alloc (.cells #[.int .i64 k3, .int .i64 m3, .string s3] 46)) (some ⟨w.heap.size, 0, none⟩) 1 1 [⟨k3, m3, s3⟩] := (OwnR.ofBlk (E := EV) (l := [⟨k3, m3, s3⟩]) (n := 1) (heap_alloc_new w _) rfl rfl (by omega)).isR
                  exact hK.out _ _ ⟨b0, b1, b2, b3, b4, b5, b6, b7, b8, true, true, b11, b12, x64, x65, x66, x67, x68, x69, x70, x71, x72, .agg #[.int .i64 k3, .int .i64 m3, .string s3], (.slice (some ⟨(w.heap.size), 0, none⟩) 1 1), x75, x11, w.heap.size, wb, wd, (by simp only [Act.put, List.setIfInBounds_toArray, List.set_cons_zero, List.set_cons_succ]), (by simp only [Act.put, List.setIfInBounds_toArray, List.set_cons_zero, List.set_cons_succ]), hb.trans (bx.mono (Nat.le_trans hB0 hb.size)), cd0, cd1, cd2, cd3, cd4, cd5, cd6, cd7, cd8, (fun _ => rfl), (fun _ => rfl), cd11, cd12, (fun h1 => (f_wt.out h1).past bx), (fun _ _ => i1), (fun h0 => (f_o.out h0).past bx), f_o12, f_s11, w_12_11⟩
                · rintro L a w ⟨b0, b1, b2, b3, b4, b5, b6, b7, b8, b9, b10, b11, b12, x64, x65, x66, x67, x68, x69, x70, x71, x72, x73, x74, x75, x11, gl, wb, wd, rfl, rfl, hb, cd0, cd1, cd2, cd3, cd4, cd5, cd6, cd7, cd8, cd9, cd10, cd11, cd12, f_wt, f_l, f_o, f_o12, f_s11, w_12_11⟩ hf hd
                  have hf' : b11 = false := hf
                  subst hf'
                  have d0 : b0 = true := hd ⟨0, .data⟩ (by simp) rfl
                  subst d0
                  have d10 : b10 = true := hd ⟨10, .data⟩ (by simp) rfl
                  subst d10
                  obtain rfl := cd0.out rfl
                  obtain rfl := cd10.out rfl
                  clear hf hd
                  have W_wt := f_wt.out rfl
                  have W_l := f_l.out rfl rfl
                  try simp only [List.setIfInBounds_toArray, List.set_cons_zero, List.set_cons_succ]
                  intro K hK
                  rw [if_pos (by rfl)]
                  refine wp_append_txtR (.tmp 64) (.tmp 74) 41 41 rfl 46 rowTyV Z.heap.size wa wn wc _ rfl W_wt (Nat.le_trans hB0 hb.size) _ rfl 1 [⟨k3, m3, s3⟩] (W_l.src Try.underlying41) rfl hwm fun a9 c9 w2 oz bz => ?_
                  have hb2 := hb.trans bz
                  have e_12 : b12 = false := by cases hq : b12 with | false => rfl | true => exact absurd (w_12_11.out hq) (by simp)
                  subst e_12
                  exact hK.out _ _ ⟨true, b1, b2, b3, b4, b5, b6, b7, b8, b9, true, true, false, .slice wa wn wc, x65, x66, x67, x68, x69, x70, x71, x72, x73, .slice (some ⟨gl, 0, none⟩) 1 1, (.slice a9 (wn + 1) c9), x11, gl, a9, c9, (by simp only [Act.put, List.setIfInBounds_toArray, List.set_cons_zero, List.set_cons_succ]), (by simp only [Act.put, List.setIfInBounds_toArray, List.set_cons_zero, List.set_cons_succ]), hb2, (fun _ => rfl), cd1, cd2, cd3, cd4, cd5, cd6, cd7, cd8, cd9, (fun _ => rfl), (fun _ => rfl), (fun h => by cases h), (fun h => by cases h), (fun _ h => by cases h), (fun _ => oz), f_o12, f_s11, (fun _ => rfl)⟩
                · rintro L a w ⟨b0, b1, b2, b3, b4, b5, b6, b7, b8, b9, b10, b11, b12, x64, x65, x66, x67, x68, x69, x70, x71, x72, x73, x74, x75, x11, gl, wb, wd, rfl, rfl, hb, cd0, cd1, cd2, cd3, cd4, cd5, cd6, cd7, cd8, cd9, cd10, cd11, cd12, f_wt, f_l, f_o, f_o12, f_s11, w_12_11⟩ hf hd
                  have hf' : b12 = false := hf
                  subst hf'
                  have d11 : b11 = true := hd ⟨11, .data⟩ (by simp) rfl
                  subst d11
                  have d0 : b0 = true := hd ⟨0, .phase⟩ (by simp) rfl
                  subst d0
                  have d1 : b1 = true := hd ⟨1, .phase⟩ (by simp) rfl
                  subst d1
                  have d2 : b2 = true := hd ⟨2, .phase⟩ (by simp) rfl
                  subst d2
                  have d3 : b3 = true := hd ⟨3, .phase⟩ (by simp) rfl
                  subst d3
                  have d4 : b4 = true := hd ⟨4, .phase⟩ (by simp) rfl
                  subst d4
                  have d5 : b5 = true := hd ⟨5, .phase⟩ (by simp) rfl
                  subst d5
                  have d6 : b6 = true := hd ⟨6, .phase⟩ (by simp) rfl
                  subst d6
                  have d7 : b7 = true := hd ⟨7, .phase⟩ (by simp) rfl
                  subst d7
                  have d8 : b8 = true := hd ⟨8, .phase⟩ (by simp) rfl
                  subst d8
                  have d9 : b9 = true := hd ⟨9, .phase⟩ (by simp) rfl
                  subst d9
                  have d10 : b10 = true := hd ⟨10, .phase⟩ (by simp) rfl
                  subst d10
                  obtain rfl := cd11.out rfl
                  obtain rfl := cd0.out rfl
                  obtain rfl := cd1.out rfl
                  obtain rfl := cd2.out rfl
                  obtain rfl := cd3.out rfl
                  obtain rfl := cd4.out rfl
                  obtain rfl := cd5.out rfl
                  obtain rfl := cd6.out rfl
                  obtain rfl := cd7.out rfl
                  obtain rfl := cd8.out rfl
                  obtain rfl := cd9.out rfl
                  obtain rfl := cd10.out rfl
                  clear hf hd
                  have W_o := f_o.out rfl
                  have W_s11 := f_s11.out rfl
                  try simp only [List.setIfInBounds_toArray, List.set_cons_zero, List.set_cons_succ]
                  intro K hK
                  rw [if_pos (by rfl)]
                  go_simp
                  exact hK.out _ _ ⟨true, true, true, true, true, true, true, true, true, true, true, true, true, .slice wa wn wc, .pointer (some ⟨gt, 4, none⟩), .slice (some ⟨b, off, none⟩) rn rc, .int .i64 (q : Nat), .pointer (some ⟨b, off + q, none⟩), .slice (some ⟨zb, zo, none⟩) zn zc, .pointer (some ⟨gs, 2, none⟩), .int .i64 (KI : Nat), .pointer (some ⟨zb, zo + KI * 3, none⟩), .agg #[.int .i64 k3, .int .i64 m3, .string s3], .slice (some ⟨gl, 0, none⟩) 1 1, .slice wb (wn + 1) wd, (.slice wb (wn + 1) wd), gl, wb, wd, (by simp only [Act.put, List.setIfInBounds_toArray, List.set_cons_zero, List.set_cons_succ]), (by simp only [Act.put, List.setIfInBounds_toArray, List.set_cons_zero, List.set_cons_succ]), hb, (fun _ => rfl), (fun _ => rfl), (fun _ => rfl), (fun _ => rfl), (fun _ => rfl), (fun _ => rfl), (fun _ => rfl), (fun _ => rfl), (fun _ => rfl), (fun _ => rfl), (fun _ => rfl), (fun _ => rfl), (fun _ => rfl), (fun h => by cases h), (fun _ h => by cases h), f_o, (fun _ => rfl), (fun h => by cases h), (fun _ => rfl)⟩
              · rintro act V17 ⟨b0, b1, b2, b3, b4, b5, b6, b7, b8, b9, b10, b11, b12, x64, x65, x66, x67, x68, x69, x70, x71, x72, x73, x74, x75, x11, gl, wb, wd, hL, rfl, hb, cd0, cd1, cd2, cd3, cd4, cd5, cd6, cd7, cd8, cd9, cd10, cd11, cd12, f_wt, f_l, f_o, f_o12, f_s11, w_12_11⟩
                have hL' : [true, true, true, true, true, true, true, true, true, true, true, true, true] = [b0, b1, b2, b3, b4, b5, b6, b7, b8, b9, b10, b11, b12] := congrArg Array.toList hL
                simp only [List.cons.injEq, and_true] at hL'
                obtain ⟨rfl, rfl, rfl, rfl, rfl, rfl, rfl, rfl, rfl, rfl, rfl, rfl, rfl⟩ := hL'
                obtain rfl := cd0.out rfl
                obtain rfl := cd1.out rfl
                obtain rfl := cd2.out rfl
                obtain rfl := cd3.out rfl
                obtain rfl := cd4.out rfl
                obtain rfl := cd5.out rfl
                obtain rfl := cd6.out rfl
                obtain rfl := cd7.out rfl
                obtain rfl := cd8.out rfl
                obtain rfl := cd9.out rfl
                obtain rfl := cd10.out rfl
                obtain rfl := cd11.out rfl
                obtain rfl := cd12.out rfl
                have W_o := f_o.out rfl
                have W_o12 := f_o12.out rfl
                clear hL f_wt f_l f_o f_o12 f_s11 cd0 cd1 cd2 cd3 cd4 cd5 cd6 cd7 cd8 cd9 cd10 cd11 cd12 w_12_11
                simp only [List.setIfInBounds_toArray, List.set_cons_zero, List.set_cons_succ]
                have bV17 := bV16.trans ((Below.refl _ _).drew.trans hb)
                clear hb
                go_wp2_with fail
                go_roundw
                case rel => exact ⟨q + 1, wb, wn + 1, wd, by omega, rfl, by go_num, by rw [HNX.out, HWS.out]; exact W_o, bV17⟩
                case measure => simp [intOf]; omega
        · have hqi : ¬ ((q : Int) < (rn : Int)) := by omega
          have hqe : q = rn := by omega
          have HK := keys_any wr _ _ x C KI es (hX.past hB2) hEn ⟨k2, m2, s2⟩ HV3.out
          have HEQ : Hid ((((rs.take q).filter fun r => (kOf C r).cmp ⟨k2, m2, s2⟩ == 0).map (kOf KI)) = keysE ⟨k2, m2, s2⟩ es) := by
            show _ = _
            rw [HKS, List.take_of_length_le (by omega)]
          rw [HEQ.out] at oW
          obtain ⟨KS, hKS⟩ : ∃ KS, keysE ⟨k2, m2, s2⟩ es = KS := ⟨_, rfl⟩
          rw [hKS] at HK oW
          simp only at HK
          clear HEQ hKS hqe
          go_wp2_with (first
            | (go_at_call 31; refine HK.mono ?_; rintro e w3 ⟨ak, ck, rfl, o3, b3⟩; have HS := rsame_any ak KS.length ck KS wa wn wc KS w3 o3.isR (oW.past b3).isR; rw [(eqVs_iff KS KS).2 rfl] at HS)
            | (go_at_call 30; refine HS.mono ?_; rintro e w4 ⟨rfl, b4⟩))
          go_roundw
          case rel => exact ⟨j + 1, by omega, by go_num, (hB2.trans (b3.mono hBs)).trans (b4.mono (Nat.le_trans hBs b3.size))⟩
          case measure => simp [intOf]; omega
    · have hlti : ¬ ((j : Int) < (rn : Int)) := by omega
      obtain rfl : j = rn := by omega
      have HL : ∀ w', Below wr.heap.size wr.drew w' → Calls Try.prog 29 #[.pointer (some ⟨x, 0, none⟩)] w' fun e w'' => e = .returned (.int .i64 (j : Nat)) ∧ w' = w'' := fun w' hb => by
        have := len_any w' _ _ x C KI es (hX.past (hB.trans (((Below.refl _ _).drew.trans hb).mono hB.size)))
        rw [HEL.out, hrl] at this
        exact this
      have hB0 : wr.heap.size ≤ wr.heap.size := Nat.le_refl _
      have hgtB := hgtw
      clear t0 t1 t2 t3
      go_upto_region 20 with fail
      refine region_inv (IAll20 wr.heap.size x gt ro j rc) (by kernel_rfl) (by kernel_rfl) ?_ ?_ ?_
      · exact ⟨false, false, false, false, false, false, false, undef, undef, undef, undef, undef, undef, u6, rfl, (by simp only [Act.put, List.setIfInBounds_toArray, List.set_cons_zero, List.set_cons_succ]), Below.refl _ _, (fun h => by cases h), (fun h => by cases h), (fun h => by cases h), (fun h => by cases h), (fun h => by cases h), (fun h => by cases h), (fun h => by cases h)⟩
      · refine ⟨?_, ?_, ?_, ?_, ?_, ?_, ?_, trivial⟩
        · rintro L a w ⟨b0, b1, b2, b3, b4, b5, b6, x89, x90, x91, x92, x93, x94, x6, rfl, rfl, hb, cd0, cd1, cd2, cd3, cd4, cd5, cd6⟩ hf hd
          have hf' : b0 = false := hf
          subst hf'
          clear hf hd
          try simp only [List.setIfInBounds_toArray, List.set_cons_zero, List.set_cons_succ]
          intro K hK
          rw [if_pos (by rfl)]
          go_simp
          exact hK.out _ _ ⟨true, b1, b2, b3, b4, b5, b6, (.pointer (some ⟨x, 0, none⟩)), x90, x91, x92, x93, x94, x6, (by simp only [Act.put, List.setIfInBounds_toArray, List.set_cons_zero, List.set_cons_succ]), (by simp only [Act.put, List.setIfInBounds_toArray, List.set_cons_zero, List.set_cons_succ]), hb, (fun _ => rfl), cd1, cd2, cd3, cd4, cd5, cd6⟩
        · rintro L a w ⟨b0, b1, b2, b3, b4, b5, b6, x89, x90, x91, x92, x93, x94, x6, rfl, rfl, hb, cd0, cd1, cd2, cd3, cd4, cd5, cd6⟩ hf hd
          have hf' : b1 = false := hf
          subst hf'
          have d0 : b0 = true := hd ⟨0, .data⟩ (by simp) rfl
          subst d0
          obtain rfl := cd0.out rfl
          clear hf hd
          try simp only [List.setIfInBounds_toArray, List.set_cons_zero, List.set_cons_succ]
          intro K hK
          rw [if_pos (by rfl)]
          go_simp
          go_at_call 29
          refine (HL _ hb).mono ?_
          rintro e w' ⟨rfl, rfl⟩
          exact hK.out _ _ ⟨true, true, b2, b3, b4, b5, b6, .pointer (some ⟨x, 0, none⟩), (.int .i64 (j : Nat)), x91, x92, x93, x94, x6, (by simp only [Act.put, List.setIfInBounds_toArray, List.set_cons_zero, List.set_cons_succ]), (by simp only [Act.put, List.setIfInBounds_toArray, List.set_cons_zero, List.set_cons_succ]), hb, (fun _ => rfl), (fun _ => rfl), cd2, cd3, cd4, cd5, cd6⟩
        · rintro L a w ⟨b0, b1, b2, b3, b4, b5, b6, x89, x90, x91, x92, x93, x94, x6, rfl, rfl, hb, cd0, cd1, cd2, cd3, cd4, cd5, cd6⟩ hf hd
          have hf' : b2 = false := hf
          subst hf'
          clear hf hd
          try simp only [List.setIfInBounds_toArray, List.set_cons_zero, List.set_cons_succ]
          intro K hK
          rw [if_pos (by rfl)]
          go_simp
          exact hK.out _ _ ⟨b0, b1, true, b3, b4, b5, b6, x89, x90, (.pointer (some ⟨gt, 4, none⟩)), x92, x93, x94, x6, (by simp only [Act.put, List.setIfInBounds_toArray, List.set_cons_zero, List.set_cons_succ]), (by simp only [Act.put, List.setIfInBounds_toArray, List.set_cons_zero, List.set_cons_succ]), hb, cd0, cd1, (fun _ => rfl), cd3, cd4, cd5, cd6⟩
        · rintro L a w ⟨b0, b1, b2, b3, b4, b5, b6, x89, x90, x91, x92, x93, x94, x6, rfl, rfl, hb, cd0, cd1, cd2, cd3, cd4, cd5, cd6⟩ hf hd
          have hf' : b3 = false := hf
          subst hf'
          have d2 : b2 = true := hd ⟨2, .data⟩ (by simp) rfl
          subst d2
          obtain rfl := cd2.out rfl
          clear hf hd
          try simp only [List.setIfInBounds_toArray, List.set_cons_zero, List.set_cons_succ]
          have z0 := (hb.cell hgtB).trans t4
          intro K hK
          rw [if_pos (by rfl)]
          go_simp
          exact hK.out _ _ ⟨b0, b1, true, true, b4, b5, b6, x89, x90, .pointer (some ⟨gt, 4, none⟩), (.slice ro j rc), x93, x94, x6, (by simp only [Act.put, List.setIfInBounds_toArray, List.set_cons_zero, List.set_cons_succ]), (by simp only [Act.put, List.setIfInBounds_toArray, List.set_cons_zero, List.set_cons_succ]), hb, cd0, cd1, (fun _ => rfl), (fun _ => rfl), cd4, cd5, cd6⟩
        · rintro L a w ⟨b0, b1, b2, b3, b4, b5, b6, x89, x90, x91, x92, x93, x94, x6, rfl, rfl, hb, cd0, cd1, cd2, cd3, cd4, cd5, cd6⟩ hf hd
          have hf' : b4 = false := hf
          subst hf'
          have d3 : b3 = true := hd ⟨3, .data⟩ (by simp) rfl
          subst d3
          obtain rfl := cd3.out rfl
          clear hf hd
          try simp only [List.setIfInBounds_toArray, List.set_cons_zero, List.set_cons_succ]
          intro K hK
          rw [if_pos (by rfl)]
          go_simp
          exact hK.out _ _ ⟨b0, b1, b2, true, true, b5, b6, x89, x90, x91, .slice ro j rc, (.int .i64 (j : Nat)), x94, x6, (by simp only [Act.put, List.setIfInBounds_toArray, List.set_cons_zero, List.set_cons_succ]), (by simp only [Act.put, List.setIfInBounds_toArray, List.set_cons_zero, List.set_cons_succ]), hb, cd0, cd1, cd2, (fun _ => rfl), (fun _ => rfl), cd5, cd6⟩
        · rintro L a w ⟨b0, b1, b2, b3, b4, b5, b6, x89, x90, x91, x92, x93, x94, x6, rfl, rfl, hb, cd0, cd1, cd2, cd3, cd4, cd5, cd6⟩ hf hd
          have hf' : b5 = false := hf
          subst hf'
          have d1 : b1 = true := hd ⟨1, .data⟩ (by simp) rfl
          subst d1
          have d4 : b4 = true := hd ⟨4, .data⟩ (by simp) rfl
          subst d4
          obtain rfl := cd1.out rfl
          obtain rfl := cd4.out rfl
          clear hf hd
          try simp only [List.setIfInBounds_toArray, List.set_cons_zero, List.set_cons_succ]
          intro K hK
          rw [if_pos (by rfl)]
          go_simp
          exact hK.out _ _ ⟨b0, true, b2, b3, true, true, b6, x89, .int .i64 (j : Nat), x91, x92, .int .i64 (j : Nat), (.bool true), x6, (by simp only [Act.put, List.setIfInBounds_toArray, List.set_cons_zero, List.set_cons_succ]), (by simp only [Act.put, List.setIfInBounds_toArray, List.set_cons_zero, List.set_cons_succ]), hb, cd0, (fun _ => rfl), cd2, cd3, (fun _ => rfl), (fun _ => rfl), cd6⟩
        · rintro L a w ⟨b0, b1, b2, b3, b4, b5, b6, x89, x90, x91, x92, x93, x94, x6, rfl, rfl, hb, cd0, cd1, cd2, cd3, cd4, cd5, cd6⟩ hf hd
          have hf' : b6 = false := hf
          subst hf'
          have d5 : b5 = true := hd ⟨5, .data⟩ (by simp) rfl
          subst d5
          have d1 : b1 = true := hd ⟨1, .chain⟩ (by simp) rfl
          subst d1
          have d0 : b0 = true := hd ⟨0, .phase⟩ (by simp) rfl
          subst d0
          have d2 : b2 = true := hd ⟨2, .phase⟩ (by simp) rfl
          subst d2
          have d3 : b3 = true := hd ⟨3, .phase⟩ (by simp) rfl
          subst d3
          have d4 : b4 = true := hd ⟨4, .phase⟩ (by simp) rfl
          subst d4
          obtain rfl := cd5.out rfl
          obtain rfl := cd1.out rfl
          obtain rfl := cd0.out rfl
          obtain rfl := cd2.out rfl
          obtain rfl := cd3.out rfl
          obtain rfl := cd4.out rfl
          clear hf hd
          try simp only [List.setIfInBounds_toArray, List.set_cons_zero, List.set_cons_succ]
          intro K hK
          rw [if_pos (by rfl)]
          go_simp
          exact hK.out _ _ ⟨true, true, true, true, true, true, true, .pointer (some ⟨x, 0, none⟩), .int .i64 (j : Nat), .pointer (some ⟨gt, 4, none⟩), .slice ro j rc, .int .i64 (j : Nat), .bool true, (.bool true), (by simp only [Act.put, List.setIfInBounds_toArray, List.set_cons_zero, List.set_cons_succ]), (by simp only [Act.put, List.setIfInBounds_toArray, List.set_cons_zero, List.set_cons_succ]), hb, (fun _ => rfl), (fun _ => rfl), (fun _ => rfl), (fun _ => rfl), (fun _ => rfl), (fun _ => rfl), (fun _ => rfl)⟩
      · rintro act V ⟨b0, b1, b2, b3, b4, b5, b6, x89, x90, x91, x92, x93, x94, x6, hL, rfl, hb, cd0, cd1, cd2, cd3, cd4, cd5, cd6⟩
        have hL' : [true, true, true, true, true, true, true] = [b0, b1, b2, b3, b4, b5, b6] := congrArg Array.toList hL
        simp only [List.cons.injEq, and_true] at hL'
        obtain ⟨rfl, rfl, rfl, rfl, rfl, rfl, rfl⟩ := hL'
        obtain rfl := cd0.out rfl
        obtain rfl := cd1.out rfl
        obtain rfl := cd2.out rfl
        obtain rfl := cd3.out rfl
        obtain rfl := cd4.out rfl
        obtain rfl := cd5.out rfl
        obtain rfl := cd6.out rfl
        clear hL cd0 cd1 cd2 cd3 cd4 cd5 cd6
        simp only [List.setIfInBounds_toArray, List.set_cons_zero, List.set_cons_succ]
        have bV := hB.trans ((Below.refl _ _).drew.trans (hb.mono hB.size))
        clear hb
        go_wp2_with fail
        go_ret
        exact ⟨rfl, by rw [HP.out]; exact BZ.trans (bV.mono hpZ)⟩
end Go.Proofs.Ytjacaammlkjodaa
