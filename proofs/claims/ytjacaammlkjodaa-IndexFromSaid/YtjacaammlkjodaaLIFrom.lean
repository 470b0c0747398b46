/-
  IndexFrom, walked (by gen_ifrom.py).
-/
import Derived.Test.YtjacaammlkjodaaAt11
import Derived.Test.YtjacaammlkjodaaIxFr
namespace Go.Proofs.Ytjacaammlkjodaa
open Go.RowKit
set_option linter.unusedSimpArgs false
theorem vok_valF {v : V} (h : Vok v) : Val v.k v.n v.s := by
  cases h with
  | none => exact .none
  | bool n h => exact .bool _ (by simp only; omega) (by simp only; omega)
  | int n h => exact .int _
  | text s h => exact .text _ h
theorem srt_uniqF {K : Nat} {rs : List (List V)} (h : Srt K rs) {i j : Nat} {a b : List V} (ha : rs[i]? = some a) (hb : rs[j]? = some b) (e : kOf K a = kOf K b) : i = j := by
  have h' : rs.Pairwise fun a b => (kOf K a).cmp (kOf K b) < 0 := h
  obtain ⟨h1, rfl⟩ := List.getElem?_eq_some_iff.1 ha
  obtain ⟨h2, rfl⟩ := List.getElem?_eq_some_iff.1 hb
  rw [List.pairwise_iff_getElem] at h'
  rcases Nat.lt_trichotomy i j with q | q | q
  · have := h' i j h1 h2 q
    rw [e, V.cmp_self] at this
    omega
  · exact q
  · have := h' j i h2 h1 q
    rw [e, V.cmp_self] at this
    omega
/-- at over rows that fit: one answer, in whatever world. -/
theorem at_fitsF {F : List Co} {N K : Nat} (hl : F.length = N) (hK : K < N) {rs : List (List V)} (h : Fits F K rs) (v : V) (hn : rs.length ≤ 1000) : ∃ AI : Int, (∀ (w : World) (B : Nat) (ro : Option Addr) (rn rc : Nat), IsRR EV w B ro rn rc rs → Calls Try.prog 36 #[.slice ro rn rc, .int .i64 (K : Nat), vv v.k v.n v.s] w fun e w' => e = .returned (.int .i64 AI) ∧ Below w.heap.size w w') ∧ ((∃ (i : Nat) (r : List V), AI = (i : Int) ∧ rs[i]? = some r ∧ kOf K r = v) ∨ AI = -1 ∧ ∀ r ∈ rs, kOf K r ≠ v) := by
  have hV : ∀ r ∈ rs, K < r.length := fun r hr => (fits_at hl hK h hr).1
  by_cases hq : ∃ (i : Nat) (r : List V), rs[i]? = some r ∧ kOf K r = v
  · obtain ⟨i, r, h1, h2⟩ := hq
    refine ⟨(i : Int), fun w B ro rn rc hR => (at11_any w B ro rn rc rs hR K hV v (by have := hR.len; omega)).mono ?_, .inl ⟨i, r, rfl, h1, h2⟩⟩
    rintro e w' ⟨⟨j, r', rfl, h3, h4⟩ | ⟨rfl, h3⟩, bx⟩
    · obtain rfl := srt_uniqF h.srt h1 h3 (h2.trans h4.symm)
      exact ⟨rfl, bx⟩
    · exact absurd h2 (h3 r (List.mem_of_getElem? h1))
  · refine ⟨-1, fun w B ro rn rc hR => (at11_any w B ro rn rc rs hR K hV v (by have := hR.len; omega)).mono ?_, .inr ⟨rfl, fun r hr e => ?_⟩⟩
    · rintro e w' ⟨⟨j, r', rfl, h3, h4⟩ | ⟨rfl, h3⟩, bx⟩
      · exact absurd ⟨j, r', h3, h4⟩ hq
      · exact ⟨rfl, bx⟩
    · obtain ⟨i, hi⟩ := List.getElem?_of_mem hr
      exact hq ⟨i, r, hi, e⟩
/-- What stands while the region's operations come up. -/
inductive IFrom15 (B : Nat) (gt : Nat) (gv : Nat) (b : Nat) (off : Nat) (rn : Nat) (rc : Nat) (q : Nat) (zb : Nat) (zo : Nat) (zn : Nat) (zc : Nat) (C : Nat) (k1 : Int) (m1 : Int) (s1 : ByteArray) (k2 : Int) (m2 : Int) (s2 : ByteArray) (CM : Int) (GE : Bool) (a0 : Act) (w0 : World) (L : Array Bool) (a : Act) (w : World) : Prop
  | mk (b0 b1 b2 b3 b4 b5 b6 b7 b8 b9 b10 : Bool) (x59 x60 x61 x62 x63 x64 x65 x66 x67 x68 x69 : Value) (hL : L = #[b0, b1, b2, b3, b4, b5, b6, b7, b8, b9, b10]) (ha : a = ⟨(((((((((((a0.tmps.setIfInBounds 59 x59).setIfInBounds 60 x60).setIfInBounds 61 x61).setIfInBounds 62 x62).setIfInBounds 63 x63).setIfInBounds 64 x64).setIfInBounds 65 x65).setIfInBounds 66 x66).setIfInBounds 67 x67).setIfInBounds 68 x68).setIfInBounds 69 x69), a0.defers⟩) (hb : Below B w0 w) (cd0 : Hid (b0 = true → x59 = .pointer (some ⟨gt, 4, none⟩))) (cd1 : Hid (b1 = true → x60 = .slice (some ⟨b, off, none⟩) rn rc)) (cd2 : Hid (b2 = true → x61 = .int .i64 (q : Nat))) (cd3 : Hid (b3 = true → x62 = .pointer (some ⟨b, off + q, none⟩))) (cd4 : Hid (b4 = true → x63 = .slice (some ⟨zb, zo, none⟩) zn zc)) (cd5 : Hid (b5 = true → x64 = .int .i64 (C : Nat))) (cd6 : Hid (b6 = true → x65 = .pointer (some ⟨zb, zo + C * 3, none⟩))) (cd7 : Hid (b7 = true → x66 = .agg #[.int .i64 k1, .int .i64 m1, .string s1])) (cd8 : Hid (b8 = true → x67 = .agg #[.int .i64 k2, .int .i64 m2, .string s2])) (cd9 : Hid (b9 = true → x68 = .int .i64 CM)) (cd10 : Hid (b10 = true → x69 = .bool GE)) : IFrom15 B gt gv b off rn rc q zb zo zn zc C k1 m1 s1 k2 m2 s2 CM GE a0 w0 L a w
/-- What stands while the region's operations come up. -/
inductive IFrom23 (B : Nat) (gt : Nat) (gs : Nat) (b : Nat) (off : Nat) (rn : Nat) (rc : Nat) (KI : Nat) (lb : Nat) (lo : Nat) (ln : Nat) (lc : Nat) (j : Nat) (k5 : Int) (m5 : Int) (s5 : ByteArray) (i0 : Nat) (a0 : Act) (w0 : World) (L : Array Bool) (a : Act) (w : World) : Prop
  | mk (b0 b1 b2 b3 b4 b5 b6 b7 b8 b9 : Bool) (x92 x93 x94 x95 x96 x97 x98 x99 x100 x20 : Value) (hL : L = #[b0, b1, b2, b3, b4, b5, b6, b7, b8, b9]) (ha : a = ⟨((((((((((a0.tmps.setIfInBounds 92 x92).setIfInBounds 93 x93).setIfInBounds 94 x94).setIfInBounds 95 x95).setIfInBounds 96 x96).setIfInBounds 97 x97).setIfInBounds 98 x98).setIfInBounds 99 x99).setIfInBounds 100 x100).setIfInBounds 20 x20), a0.defers⟩) (hb : Below B w0 w) (cd0 : Hid (b0 = true → x92 = .pointer (some ⟨gt, 4, none⟩))) (cd1 : Hid (b1 = true → x93 = .slice (some ⟨b, off, none⟩) rn rc)) (cd2 : Hid (b2 = true → x94 = .pointer (some ⟨gs, 2, none⟩))) (cd3 : Hid (b3 = true → x95 = .int .i64 (KI : Nat))) (cd4 : Hid (b4 = true → x96 = .slice (some ⟨lb, lo, none⟩) ln lc)) (cd5 : Hid (b5 = true → x97 = .int .i64 (j : Nat))) (cd6 : Hid (b6 = true → x98 = .pointer (some ⟨lb, lo + j * 3, none⟩))) (cd7 : Hid (b7 = true → x99 = .agg #[.int .i64 k5, .int .i64 m5, .string s5])) (cd8 : Hid (b8 = true → x100 = .int .i64 (i0 : Nat))) (cd9 : Hid (b9 = true → x20 = .int .i64 (i0 : Nat))) : IFrom23 B gt gs b off rn rc KI lb lo ln lc j k5 m5 s5 i0 a0 w0 L a w
/-- What stands while the region's operations come up. -/
inductive IFrom24 (B : Nat) (gt : Nat) (gl : Nat) (b : Nat) (off : Nat) (rn : Nat) (rc : Nat) (i0 : Nat) (zb : Nat) (zo : Nat) (zn : Nat) (zc : Nat) (C : Nat) (k1 : Int) (m1 : Int) (s1 : ByteArray) (k3 : Int) (m3 : Int) (s3 : ByteArray) (CM : Int) (a0 : Act) (w0 : World) (L : Array Bool) (a : Act) (w : World) : Prop
  | mk (b0 b1 b2 b3 b4 b5 b6 b7 b8 b9 b10 b11 b12 b13 b14 : Bool) (x101 x102 x103 x104 x105 x106 x107 x108 x109 x110 x111 x112 x113 x114 x115 : Value) (hL : L = #[b0, b1, b2, b3, b4, b5, b6, b7, b8, b9, b10, b11, b12, b13, b14]) (ha : a = ⟨(((((((((((((((a0.tmps.setIfInBounds 101 x101).setIfInBounds 102 x102).setIfInBounds 103 x103).setIfInBounds 104 x104).setIfInBounds 105 x105).setIfInBounds 106 x106).setIfInBounds 107 x107).setIfInBounds 108 x108).setIfInBounds 109 x109).setIfInBounds 110 x110).setIfInBounds 111 x111).setIfInBounds 112 x112).setIfInBounds 113 x113).setIfInBounds 114 x114).setIfInBounds 115 x115), a0.defers⟩) (hb : Below B w0 w) (cd0 : Hid (b0 = true → x101 = .int .i64 (i0 : Nat))) (cd1 : Hid (b1 = true → x102 = .bool false)) (cd2 : Hid (b2 = true → x103 = .bool false)) (cd3 : Hid (b3 = true → x104 = .pointer (some ⟨gt, 4, none⟩))) (cd4 : Hid (b4 = true → x105 = .slice (some ⟨b, off, none⟩) rn rc)) (cd5 : Hid (b5 = true → x106 = .int .i64 (i0 : Nat))) (cd6 : Hid (b6 = true → x107 = .pointer (some ⟨b, off + i0, none⟩))) (cd7 : Hid (b7 = true → x108 = .slice (some ⟨zb, zo, none⟩) zn zc)) (cd8 : Hid (b8 = true → x109 = .int .i64 (C : Nat))) (cd9 : Hid (b9 = true → x110 = .pointer (some ⟨zb, zo + C * 3, none⟩))) (cd10 : Hid (b10 = true → x111 = .agg #[.int .i64 k1, .int .i64 m1, .string s1])) (cd11 : Hid (b11 = true → x112 = .agg #[.int .i64 k3, .int .i64 m3, .string s3])) (cd12 : Hid (b12 = true → x113 = .int .i64 CM)) (cd13 : Hid (b13 = true → x114 = .bool false)) (cd14 : Hid (b14 = true → x115 = .bool false)) : IFrom24 B gt gl b off rn rc i0 zb zo zn zc C k1 m1 s1 k3 m3 s3 CM a0 w0 L a w
set_option maxRecDepth 100000 in
set_option maxHeartbeats 8000000 in
theorem indexFrom_walk (l : List UInt8) (ao : Option Addr) (n c : Nat) (key : Int) (only : Bool) (cs : List Co) (na : Option Addr) (nl nc : Nat) (ns : List Int) (cl nn mo : Int) (w : World) (_hl : l.length ≤ maxLen) (_hkey : (Lit.int .i64 key).wf = true) (h : IsR encCo w ao n c cs) (_hcs : ∀ x ∈ cs, (Lit.int .i64 x.kind).wf = true ∧ x.name.length ≤ maxLen) (hI : IsR EI w na nl nc ns) (hIw : ∀ x ∈ ns, (Lit.int .i64 x).wf = true) (_ : (Lit.int .i64 cl).wf = true) (hnn : (Lit.int .i64 nn).wf = true) (_ : (Lit.int .i64 mo).wf = true) :
    Calls Try.prog 6 #[scV l ao n c key only, .slice na nl nc, .int .i64 cl, .int .i64 nn, .int .i64 mo] w (Told w true) := by
  unfold scV
  have X0 := ScB.new w l ao n c key only
  have B0 := (Below.refl w.heap.size w).alloc (Nat.le_refl _) (.cells #[.string (bsOf l), .slice ao n c, .int .i64 key, .bool only] 24)
  go_enter Try.func6, Try.ntmps6
  go_upto_region 1 with fail
  generalize w.alloc (.cells #[.string (bsOf l), .slice ao n c, .int .i64 key, .bool only] 24) = W0 at X0 B0 ⊢
  obtain ⟨p0, hp0⟩ : ∃ p0, w.heap.size = p0 := ⟨_, rfl⟩
  have HP := Lib.hid hp0
  rw [hp0] at X0 B0
  simp only [hp0]
  clear hp0
  have hW0 : p0 ≤ W0.heap.size := Nat.le_of_lt X0.lt
  go_upto_region 3 with (go_at_call 13; refine (known11 _).mono ?_; rintro e w1 ⟨rfl, b1⟩)
  have X1 := X0.past b1
  have B1 := B0.trans (b1.mono hW0)
  have hW1 := Nat.le_trans hW0 b1.size
  have h1 : IsR encCo w1 ao n c cs := h.past (by rw [HP.out]; exact B1)
  have HFw := few9_any w1 l ao n c cs key only h1
  unfold scV at HFw
  have y0 : w1.cell? ⟨p0, 0, none⟩ = some (.string (bsOf l)) := cell_blk X1 rfl
  have y1 : w1.cell? ⟨p0, 1, none⟩ = some (.slice ao n c) := cell_blk X1 rfl
  have y2 : w1.cell? ⟨p0, 2, none⟩ = some (.int .i64 key) := cell_blk X1 rfl
  have y3 : w1.cell? ⟨p0, 3, none⟩ = some (.bool only) := cell_blk X1 rfl
  cases hfw : fewS l cs
  · rw [hfw] at HFw
    go_wp2_with (go_at_call 14; refine HFw.mono ?_; rintro e w2 ⟨rfl, b2⟩)
    go_ret
    exact ⟨rfl, by rw [HP.out]; exact B1.trans (b2.mono hW1)⟩
  rw [hfw] at HFw
  have hn9 : n ≤ 9 := by
    unfold fewS at hfw
    simp only [Bool.and_eq_true, decide_eq_true_eq] at hfw
    have := h.len
    omega
  clear hfw
  go_upto_region 5 with (go_at_call 14; refine HFw.mono ?_; rintro e w2 ⟨rfl, b2⟩)
  have X2 := X1.past b2
  have B2 := B1.trans (b2.mono hW1)
  have hW2 := Nat.le_trans hW1 b2.size
  have h2 := h1.past b2
  clear y0 y1 y2 y3 HFw
  have y0 : w2.cell? ⟨p0, 0, none⟩ = some (.string (bsOf l)) := cell_blk X2 rfl
  have y1 : w2.cell? ⟨p0, 1, none⟩ = some (.slice ao n c) := cell_blk X2 rfl
  have y2 : w2.cell? ⟨p0, 2, none⟩ = some (.int .i64 key) := cell_blk X2 rfl
  have y3 : w2.cell? ⟨p0, 3, none⟩ = some (.bool only) := cell_blk X2 rfl
  have HG := good9_any w2 l ao n c cs key 3 only h2 (by omega)
  unfold GoodIs scV at HG
  have hNp := gN_pos cs
  have hKl := (gKey_lt cs key).1
  have hFl := gFin_len cs key
  have hFk := gFin_kinds cs key
  have hFn := gFin_keyN cs key
  obtain ⟨N, hN⟩ : ∃ N, gN cs = N := ⟨_, rfl⟩
  obtain ⟨KI, hKI⟩ : ∃ KI, gKey cs key = KI := ⟨_, rfl⟩
  obtain ⟨F, hF⟩ : ∃ F, gFin cs key = F := ⟨_, rfl⟩
  obtain ⟨NM, hNM⟩ : ∃ NM, gNm 3 = NM := ⟨_, rfl⟩
  simp only [hN, hKI, hF, hNM] at HG hNp hKl hFl hFk hFn
  clear hN hKI hF hNM
  go_upto_region 6 with (go_at_call 15; refine HG.mono ?_; rintro e w3 ⟨g, cg, rfl, og, b3, q3⟩)
  have hW3 := Nat.le_trans hW2 b3.size
  have B3 : Below p0 w (w3.alloc (.cells #[.string (bsOf NM), .slice (some ⟨g, 0, none⟩) N cg, .int .i64 (KI : Nat), .bool only] 24)) := (B2.trans (b3.mono hW2)).alloc hW3 _
  have XS : Bk (w3.alloc (.cells #[.string (bsOf NM), .slice (some ⟨g, 0, none⟩) N cg, .int .i64 (KI : Nat), .bool only] 24)) w3.heap.size (scC NM (some ⟨g, 0, none⟩) N cg (KI : Nat) only) 24 := Bk.new w3 _ _
  have oG := og.alloc (.cells #[.string (bsOf NM), .slice (some ⟨g, 0, none⟩) N cg, .int .i64 (KI : Nat), .bool only] 24)
  have hgl := og.lt
  have hg0 : p0 ≤ g := Nat.le_trans hW2 q3
  generalize w3.alloc (.cells #[.string (bsOf NM), .slice (some ⟨g, 0, none⟩) N cg, .int .i64 (KI : Nat), .bool only] 24) = W at B3 XS oG ⊢
  obtain ⟨gs, hgs⟩ : ∃ gs, w3.heap.size = gs := ⟨_, rfl⟩
  rw [hgs] at XS hgl hW3
  simp only [hgs]
  obtain ⟨z0, z1, z2, z3⟩ := sc_cells XS
  have hgsW : gs < W.heap.size := XS.lt
  have iG := oG.isR
  clear hgs og b3 q3 HG y0 y1 y2 y3 X2 X1 X0 B2 B1 B0 b1 b2 h2 h1 hW2 hW1 hW0
  obtain ⟨M, hM, hMl0⟩ := wth_of mo 12 (by omega)
  have hMl : M < 12 := by omega
  have HWm := fun w => within11_any mo 12 w (by omega) (by omega)
  rw [hM] at HWm
  have hpW : p0 ≤ W.heap.size := by omega
  obtain ⟨C, hC, hCl0⟩ := wth_of cl N (by omega)
  have hCl : C < N := by omega
  have HWi := fun w => within11_any cl N w (by omega) (by omega)
  rw [hC] at HWi
  have hgW : g < W.heap.size := by omega
  go_upto_region 7 with (first
    | (go_at_call 16; (with_reducible refine (HWm _).mono ?_); rintro e w' ⟨rfl, rfl⟩)
    | (go_at_call 16; (with_reducible refine (HWi _).mono ?_); rintro e w' ⟨rfl, rfl⟩))
  have HFl := fill_any W NM g N cg KI only F iG hFl hNp hFk hKl na nl nc ns (hI.past (by rw [HP.out]; exact B3)) hIw hgW
  unfold scV at HFl
  go_upto_region 8 with (go_at_call 17; refine HFl.mono ?_; rintro e w5 ⟨ro, rn, rc, rs, rfl, iR, hFi, hrn, b5⟩; unfold tbV)
  have bT : Below W.heap.size W (w5.alloc (.cells #[.string (bsOf NM), .slice (some ⟨g, 0, none⟩) N cg, .int .i64 (KI : Nat), .bool only, .slice ro rn rc] 33)) := b5.alloc b5.size _
  have hT0 : Bk (w5.alloc (.cells #[.string (bsOf NM), .slice (some ⟨g, 0, none⟩) N cg, .int .i64 (KI : Nat), .bool only, .slice ro rn rc] 33)) w5.heap.size (tbC NM (some ⟨g, 0, none⟩) N cg (KI : Nat) only ro rn rc) 33 := Bk.new w5 _ _
  have iR0 := iR.past ((Below.refl w5.heap.size w5).alloc (Nat.le_refl _) (.cells #[.string (bsOf NM), .slice (some ⟨g, 0, none⟩) N cg, .int .i64 (KI : Nat), .bool only, .slice ro rn rc] 33))
  generalize w5.alloc (.cells #[.string (bsOf NM), .slice (some ⟨g, 0, none⟩) N cg, .int .i64 (KI : Nat), .bool only, .slice ro rn rc] 33) = w6 at bT hT0 iR0 ⊢
  obtain ⟨gt, hgt⟩ : ∃ gt, w5.heap.size = gt := ⟨_, rfl⟩
  rw [hgt] at hT0
  simp only [hgt]
  clear hgt HFl iR b5
  have XS6 := XS.past bT
  have B6 := B3.trans (bT.mono hpW)
  have hp6 := Nat.le_trans hpW bT.size
  obtain ⟨t0, t1, t2, t3, t4⟩ := tb_cells hT0
  have HO := of_any w6 NM (some ⟨g, 0, none⟩) N cg KI only ro rn rc
  unfold tbV at HO
  go_upto_region 9 with (first
    | (go_at_call 19; refine HO.mono ?_; rintro e w7 ⟨rfl, b7⟩; have HB := build_any w7 NM (some ⟨g, 0, none⟩) N cg KI only ro rn rc _ rs (iR0.past b7) C (fits_vok hFl hKl hCl hFi) (by omega); unfold tbV at HB)
    | (go_at_call 18; refine HB.mono ?_; rintro e Z ⟨x, rfl, hX, b8⟩))
  have bZ := b7.trans (b8.mono b7.size)
  have hT := hT0.past bZ
  have XZ := XS6.past bZ
  have iRZ := iR0.past bZ
  have BZ := B6.trans (bZ.mono hp6)
  have hpZ := Nat.le_trans hp6 bZ.size
  obtain ⟨lo, hlo⟩ : ∃ lo, w7.heap.size = lo := ⟨_, rfl⟩
  rw [hlo] at hX
  have hrl := iRZ.len
  have iGZ := (iG.past bT).past bZ
  clear HO HB t0 t1 t2 t3 t4 z0 z1 z2 z3 hT0 iR0 XS6 B6 b7 b8 bT XS iG oG B3
  have hgtZ := hT.lt
  have hgsZ := XZ.lt
  have hel := ix_len hFl hKl hCl hFi
  have hVok := fits_vok hFl hKl hCl hFi
  have HVO := Lib.hid hVok
  obtain ⟨co, hco⟩ : ∃ c, F[C]? = some c := ⟨F[C]'(by omega), List.getElem?_eq_getElem _⟩
  have hvok : Vok (fitVal nn C co) := fit_vok _ _ _
  obtain ⟨⟨k2, m2, s2⟩, hkv⟩ : ∃ v, fitVal nn C co = v := ⟨_, rfl⟩
  have hkr : (fitRow F nn)[C]? = some ⟨k2, m2, s2⟩ := (fitRow_get hco).trans (by rw [hkv])
  rw [hkv] at hvok
  obtain ⟨L, hL1, hL2, hL3, hL4, hL5⟩ := from_rows hFl hKl hCl hFi hvok M
  have hLn := from_neg hFl hKl hCl hFi hvok
  obtain ⟨es, hes⟩ : ∃ es, ixOf C KI rs = es := ⟨_, rfl⟩
  simp only [hes] at hX hel hL1 hLn
  obtain ⟨ln, hln⟩ : ∃ ln, L.length = ln := ⟨_, rfl⟩
  have HLL := Lib.hid hln
  rw [hln] at hL2
  have HL1 := Lib.hid hL1
  have HL2 := Lib.hid hL2
  have HL3 := Lib.hid hL3
  have HL4 := Lib.hid hL4
  have HL5 := Lib.hid hL5
  have HLN := Lib.hid hLn
  clear hL1 hL2 hL3 hL4 hL5 hLn hln
  have hEn : es.length ≤ 1000 := by omega
  obtain ⟨z0, z1, z2, z3⟩ := sc_cells XZ
  have hCi : (C : Int) < (N : Int) := by omega
  have HFt := fit_any Z NM (some ⟨g, 0, none⟩) N cg F KI only iGZ (by omega) hFk nn hnn
  unfold scV at HFt
  clear hes hVok hkv hco
  go_upto_region 10 with (go_at_call 21; refine HFt.mono ?_; rintro e w9 ⟨fa, fc, rfl, oF, b9⟩; obtain ⟨fb, fo, rfl, hfB, hcc⟩ := oF.isR.open (by omega) (by decide); obtain ⟨f0, f1, f2⟩ := cells_v hcc C _ hkr; clear hcc)
  have hV0 : VAt (w9.alloc (.cells #[.int .i64 k2, .int .i64 m2, .string s2] 46)) w9.heap.size k2 m2 s2 := VAt.new w9 k2 m2 s2
  have bv : Below Z.heap.size Z (w9.alloc (.cells #[.int .i64 k2, .int .i64 m2, .string s2] 46)) := b9.alloc b9.size _
  generalize w9.alloc (.cells #[.int .i64 k2, .int .i64 m2, .string s2] 46) = w10 at hV0 bv ⊢
  obtain ⟨gv, hgv⟩ : ∃ gv, w9.heap.size = gv := ⟨_, rfl⟩
  have HGV := Lib.hid hgv
  rw [hgv] at hV0
  simp only [hgv]
  clear hgv HFt oF f0 f1 f2 z0 z1 z2 z3 hfB
  have hX10 := hX.past bv
  obtain ⟨g0, g1, g2, -, -, -, hgvl⟩ := id hV0
  have hZw := bv.size
  have HFr := from_any w10 _ _ x C KI es hX10 hZw hEn ⟨k2, m2, s2⟩ hvok (M : Int)
  rw [HL1.out, List.length_map, HLL.out] at HFr
  go_upto_region 11 with (go_at_call 33; refine HFr.mono ?_; rintro e Y ⟨la, lc, rfl, oL, by0⟩)
  have bY := bv.trans (by0.mono hZw)
  have hTY := hT.past bY
  have XY := XZ.past bY
  have hXY := hX.past bY
  have hVY := hV0.past by0
  have iRY := iRZ.past bY
  have BY := BZ.trans (bY.mono hpZ)
  have hpY := Nat.le_trans hpZ bY.size
  have hgtY := hTY.lt
  have hgsY := XY.lt
  have hgvY := hVY.lt
  have T4 : Hid (Y.cell? ⟨gt, 4, none⟩ = some (.slice ro rn rc)) := hTY.c rfl
  have Z2 : Hid (Y.cell? ⟨gs, 2, none⟩ = some (.int .i64 (KI : Nat))) := XY.c rfl
  clear HFr g0 g1 g2 hX10 hV0 hgvl iRZ hT XZ bv b9 by0 bZ iGZ hkr hX
  go_wp2_with fail
  go_loopw [16, 17] (fun z i wr => ∃ (q cn : Nat), q ≤ rn ∧ z = .int .i64 (cn : Nat) ∧ i = .int .i64 (q : Nat) ∧ Below Y.heap.size Y wr ∧ Hid (cntF C ⟨k2, m2, s2⟩ (rs.take q) = cn)) (fun _ i _ => rn - (intOf i).toNat)
  case atStart => exact ⟨0, 0, Nat.zero_le _, rfl, rfl, Below.refl _ _, rfl⟩
  case round =>
    obtain ⟨q, cn, hq, rfl, rfl, hB, hcn⟩ := hrel
    have t4 := (hB.cell hgtY).trans T4.out
    have hBs := hB.size
    have hgtB := Nat.lt_of_lt_of_le hgtY hBs
    have hcnl : cn ≤ 50 := by rw [← hcn.out]; exact Nat.le_trans (List.length_filter_le _ _) (by rw [List.length_take]; omega)
    by_cases hqlt : q < rn
    · have hqi : (q : Int) < (rn : Int) := by omega
      obtain ⟨rq, hrq⟩ : ∃ r, rs[q]? = some r := ⟨rs[q]'(by omega), List.getElem?_eq_getElem _⟩
      obtain ⟨b, off, hd2, rfl, hbZ, hcq0, hzR⟩ := iRY.at hrq
      obtain ⟨hv1, hv2, hv3, hv4⟩ := HVO.out rq (List.mem_of_getElem? hrq)
      obtain ⟨u1, hu1⟩ : ∃ v, rq[C]? = some v := ⟨rq[C]'hv1, List.getElem?_eq_getElem _⟩
      rw [kOf_get hu1] at hv3
      obtain ⟨za, zn, zc⟩ := hd2
      simp only at hcq0 hzR
      obtain ⟨zb, zo, rfl, hzZ, hzcc⟩ := hzR.open (by have := hzR.len; omega) (by decide)
      obtain ⟨e0', e1', e2'⟩ := cells_v hzcc C u1 hu1
      have hzl := hzR.len
      have hCz : (C : Int) < (zn : Int) := by omega
      obtain ⟨g0, g1, g2, -, -, -, hgvB⟩ := hVY.past hB
      have HC0 := fun w => rcmp4_any u1.k u1.n u1.s k2 m2 s2 w (vok_valF hv3) (vok_valF hvok)
      obtain ⟨CM, hCM⟩ : ∃ CM, u1.cmp ⟨k2, m2, s2⟩ = CM := ⟨_, rfl⟩
      have HC1 : ∀ w', Calls Try.prog 35 #[vv u1.k u1.n u1.s, vv k2 m2 s2] w' fun e w'' => e = .returned (.int .i64 CM) ∧ Below w'.heap.size w' w'' := by rw [← hCM]; exact HC0
      obtain ⟨GE, hGE⟩ : ∃ b, decide (0 ≤ CM) = b := ⟨_, rfl⟩
      have HGE := Lib.hid hGE
      have HNX : Hid (cntF C ⟨k2, m2, s2⟩ (rs.take (q + 1)) = cn + if GE then 1 else 0) := by
        show _ = _
        have := hcn.out
        unfold cntF at this ⊢
        rw [cnt_next hrq, this, kOf_get hu1, hCM, hGE]
      obtain ⟨k1, m1, s1⟩ := u1
      simp only at e0' e1' e2' HC1
      have HC := HC1
      have hcq := (hB.cell hbZ).trans hcq0
      have e0 := (hB.cell hzZ).trans e0'
      have e1 := (hB.cell hzZ).trans e1'
      have e2 := (hB.cell hzZ).trans e2'
      have hbB := Nat.lt_of_lt_of_le hbZ hBs
      have hzB := Nat.lt_of_lt_of_le hzZ hBs
      have hB0 : wr.heap.size ≤ wr.heap.size := Nat.le_refl _
      clear HC0 HC1 hCM hGE hu1 hrq hzcc hzR hv1 hv2 hv3 hv4 hcq0 e0' e1' e2' hcn
      go_upto_region 15 with fail
      refine region_inv (IFrom15 wr.heap.size gt gv b off rn rc q zb zo zn zc C k1 m1 s1 k2 m2 s2 CM GE) (by kernel_rfl) (by kernel_rfl) ?_ ?_ ?_
      · exact ⟨false, false, false, false, false, false, false, false, false, false, false, u59, u60, u61, u62, u63, u64, u65, u66, u67, u68, u69, rfl, (by simp only [Act.put, List.setIfInBounds_toArray, List.set_cons_zero, List.set_cons_succ]), Below.refl _ _, (fun h => by cases h), (fun h => by cases h), (fun h => by cases h), (fun h => by cases h), (fun h => by cases h), (fun h => by cases h), (fun h => by cases h), (fun h => by cases h), (fun h => by cases h), (fun h => by cases h), (fun h => by cases h)⟩
      · refine ⟨?_, ?_, ?_, ?_, ?_, ?_, ?_, ?_, ?_, ?_, ?_, trivial⟩
        · rintro L a w ⟨b0, b1, b2, b3, b4, b5, b6, b7, b8, b9, b10, x59, x60, x61, x62, x63, x64, x65, x66, x67, x68, x69, rfl, rfl, hb, cd0, cd1, cd2, cd3, cd4, cd5, cd6, cd7, cd8, cd9, cd10⟩ hf hd
          have hf' : b0 = false := hf
          subst hf'
          clear hf hd
          try simp only [List.setIfInBounds_toArray, List.set_cons_zero, List.set_cons_succ]
          intro K hK
          rw [if_pos (by rfl)]
          go_simp
          exact hK.out _ _ ⟨true, b1, b2, b3, b4, b5, b6, b7, b8, b9, b10, (.pointer (some ⟨gt, 4, none⟩)), x60, x61, x62, x63, x64, x65, x66, x67, x68, x69, (by simp only [Act.put, List.setIfInBounds_toArray, List.set_cons_zero, List.set_cons_succ]), (by simp only [Act.put, List.setIfInBounds_toArray, List.set_cons_zero, List.set_cons_succ]), hb, (fun _ => rfl), cd1, cd2, cd3, cd4, cd5, cd6, cd7, cd8, cd9, cd10⟩
        · rintro L a w ⟨b0, b1, b2, b3, b4, b5, b6, b7, b8, b9, b10, x59, x60, x61, x62, x63, x64, x65, x66, x67, x68, x69, rfl, rfl, hb, cd0, cd1, cd2, cd3, cd4, cd5, cd6, cd7, cd8, cd9, cd10⟩ hf hd
          have hf' : b1 = false := hf
          subst hf'
          have d0 : b0 = true := hd ⟨0, .data⟩ (by simp) rfl
          subst d0
          obtain rfl := cd0.out rfl
          clear hf hd
          try simp only [List.setIfInBounds_toArray, List.set_cons_zero, List.set_cons_succ]
          have z0 := (hb.cell hgtB).trans t4
          intro K hK
          rw [if_pos (by rfl)]
          go_simp
          exact hK.out _ _ ⟨true, true, b2, b3, b4, b5, b6, b7, b8, b9, b10, .pointer (some ⟨gt, 4, none⟩), (.slice (some ⟨b, off, none⟩) rn rc), x61, x62, x63, x64, x65, x66, x67, x68, x69, (by simp only [Act.put, List.setIfInBounds_toArray, List.set_cons_zero, List.set_cons_succ]), (by simp only [Act.put, List.setIfInBounds_toArray, List.set_cons_zero, List.set_cons_succ]), hb, (fun _ => rfl), (fun _ => rfl), cd2, cd3, cd4, cd5, cd6, cd7, cd8, cd9, cd10⟩
        · rintro L a w ⟨b0, b1, b2, b3, b4, b5, b6, b7, b8, b9, b10, x59, x60, x61, x62, x63, x64, x65, x66, x67, x68, x69, rfl, rfl, hb, cd0, cd1, cd2, cd3, cd4, cd5, cd6, cd7, cd8, cd9, cd10⟩ hf hd
          have hf' : b2 = false := hf
          subst hf'
          clear hf hd
          try simp only [List.setIfInBounds_toArray, List.set_cons_zero, List.set_cons_succ]
          intro K hK
          rw [if_pos (by rfl)]
          go_simp
          exact hK.out _ _ ⟨b0, b1, true, b3, b4, b5, b6, b7, b8, b9, b10, x59, x60, (.int .i64 (q : Nat)), x62, x63, x64, x65, x66, x67, x68, x69, (by simp only [Act.put, List.setIfInBounds_toArray, List.set_cons_zero, List.set_cons_succ]), (by simp only [Act.put, List.setIfInBounds_toArray, List.set_cons_zero, List.set_cons_succ]), hb, cd0, cd1, (fun _ => rfl), cd3, cd4, cd5, cd6, cd7, cd8, cd9, cd10⟩
        · rintro L a w ⟨b0, b1, b2, b3, b4, b5, b6, b7, b8, b9, b10, x59, x60, x61, x62, x63, x64, x65, x66, x67, x68, x69, rfl, rfl, hb, cd0, cd1, cd2, cd3, cd4, cd5, cd6, cd7, cd8, cd9, cd10⟩ hf hd
          have hf' : b3 = false := hf
          subst hf'
          have d1 : b1 = true := hd ⟨1, .data⟩ (by simp) rfl
          subst d1
          have d2 : b2 = true := hd ⟨2, .data⟩ (by simp) rfl
          subst d2
          obtain rfl := cd1.out rfl
          obtain rfl := cd2.out rfl
          clear hf hd
          try simp only [List.setIfInBounds_toArray, List.set_cons_zero, List.set_cons_succ]
          intro K hK
          rw [if_pos (by rfl)]
          go_simp
          exact hK.out _ _ ⟨b0, true, true, true, b4, b5, b6, b7, b8, b9, b10, x59, .slice (some ⟨b, off, none⟩) rn rc, .int .i64 (q : Nat), (.pointer (some ⟨b, off + q, none⟩)), x63, x64, x65, x66, x67, x68, x69, (by simp only [Act.put, List.setIfInBounds_toArray, List.set_cons_zero, List.set_cons_succ]), (by simp only [Act.put, List.setIfInBounds_toArray, List.set_cons_zero, List.set_cons_succ]), hb, cd0, (fun _ => rfl), (fun _ => rfl), (fun _ => rfl), cd4, cd5, cd6, cd7, cd8, cd9, cd10⟩
        · rintro L a w ⟨b0, b1, b2, b3, b4, b5, b6, b7, b8, b9, b10, x59, x60, x61, x62, x63, x64, x65, x66, x67, x68, x69, rfl, rfl, hb, cd0, cd1, cd2, cd3, cd4, cd5, cd6, cd7, cd8, cd9, cd10⟩ hf hd
          have hf' : b4 = false := hf
          subst hf'
          have d3 : b3 = true := hd ⟨3, .data⟩ (by simp) rfl
          subst d3
          obtain rfl := cd3.out rfl
          clear hf hd
          try simp only [List.setIfInBounds_toArray, List.set_cons_zero, List.set_cons_succ]
          have z0 := (hb.cell hbB).trans hcq
          intro K hK
          rw [if_pos (by rfl)]
          go_simp
          exact hK.out _ _ ⟨b0, b1, b2, true, true, b5, b6, b7, b8, b9, b10, x59, x60, x61, .pointer (some ⟨b, off + q, none⟩), (.slice (some ⟨zb, zo, none⟩) zn zc), x64, x65, x66, x67, x68, x69, (by simp only [Act.put, List.setIfInBounds_toArray, List.set_cons_zero, List.set_cons_succ]), (by simp only [Act.put, List.setIfInBounds_toArray, List.set_cons_zero, List.set_cons_succ]), hb, cd0, cd1, cd2, (fun _ => rfl), (fun _ => rfl), cd5, cd6, cd7, cd8, cd9, cd10⟩
        · rintro L a w ⟨b0, b1, b2, b3, b4, b5, b6, b7, b8, b9, b10, x59, x60, x61, x62, x63, x64, x65, x66, x67, x68, x69, rfl, rfl, hb, cd0, cd1, cd2, cd3, cd4, cd5, cd6, cd7, cd8, cd9, cd10⟩ hf hd
          have hf' : b5 = false := hf
          subst hf'
          clear hf hd
          try simp only [List.setIfInBounds_toArray, List.set_cons_zero, List.set_cons_succ]
          intro K hK
          rw [if_pos (by rfl)]
          go_simp
          exact hK.out _ _ ⟨b0, b1, b2, b3, b4, true, b6, b7, b8, b9, b10, x59, x60, x61, x62, x63, (.int .i64 (C : Nat)), x65, x66, x67, x68, x69, (by simp only [Act.put, List.setIfInBounds_toArray, List.set_cons_zero, List.set_cons_succ]), (by simp only [Act.put, List.setIfInBounds_toArray, List.set_cons_zero, List.set_cons_succ]), hb, cd0, cd1, cd2, cd3, cd4, (fun _ => rfl), cd6, cd7, cd8, cd9, cd10⟩
        · rintro L a w ⟨b0, b1, b2, b3, b4, b5, b6, b7, b8, b9, b10, x59, x60, x61, x62, x63, x64, x65, x66, x67, x68, x69, rfl, rfl, hb, cd0, cd1, cd2, cd3, cd4, cd5, cd6, cd7, cd8, cd9, cd10⟩ hf hd
          have hf' : b6 = false := hf
          subst hf'
          have d4 : b4 = true := hd ⟨4, .data⟩ (by simp) rfl
          subst d4
          have d5 : b5 = true := hd ⟨5, .data⟩ (by simp) rfl
          subst d5
          obtain rfl := cd4.out rfl
          obtain rfl := cd5.out rfl
          clear hf hd
          try simp only [List.setIfInBounds_toArray, List.set_cons_zero, List.set_cons_succ]
          intro K hK
          rw [if_pos (by rfl)]
          go_simp
          exact hK.out _ _ ⟨b0, b1, b2, b3, true, true, true, b7, b8, b9, b10, x59, x60, x61, x62, .slice (some ⟨zb, zo, none⟩) zn zc, .int .i64 (C : Nat), (.pointer (some ⟨zb, zo + C * 3, none⟩)), x66, x67, x68, x69, (by simp only [Act.put, List.setIfInBounds_toArray, List.set_cons_zero, List.set_cons_succ]), (by simp only [Act.put, List.setIfInBounds_toArray, List.set_cons_zero, List.set_cons_succ]), hb, cd0, cd1, cd2, cd3, (fun _ => rfl), (fun _ => rfl), (fun _ => rfl), cd7, cd8, cd9, cd10⟩
        · rintro L a w ⟨b0, b1, b2, b3, b4, b5, b6, b7, b8, b9, b10, x59, x60, x61, x62, x63, x64, x65, x66, x67, x68, x69, rfl, rfl, hb, cd0, cd1, cd2, cd3, cd4, cd5, cd6, cd7, cd8, cd9, cd10⟩ hf hd
          have hf' : b7 = false := hf
          subst hf'
          have d6 : b6 = true := hd ⟨6, .data⟩ (by simp) rfl
          subst d6
          obtain rfl := cd6.out rfl
          clear hf hd
          try simp only [List.setIfInBounds_toArray, List.set_cons_zero, List.set_cons_succ]
          have z0 := (hb.cell hzB).trans e0
          have z1 := (hb.cell hzB).trans e1
          have z2 := (hb.cell hzB).trans e2
          intro K hK
          rw [if_pos (by rfl)]
          go_simp
          exact hK.out _ _ ⟨b0, b1, b2, b3, b4, b5, true, true, b8, b9, b10, x59, x60, x61, x62, x63, x64, .pointer (some ⟨zb, zo + C * 3, none⟩), (.agg #[.int .i64 k1, .int .i64 m1, .string s1]), x67, x68, x69, (by simp only [Act.put, List.setIfInBounds_toArray, List.set_cons_zero, List.set_cons_succ]), (by simp only [Act.put, List.setIfInBounds_toArray, List.set_cons_zero, List.set_cons_succ]), hb, cd0, cd1, cd2, cd3, cd4, cd5, (fun _ => rfl), (fun _ => rfl), cd8, cd9, cd10⟩
        · rintro L a w ⟨b0, b1, b2, b3, b4, b5, b6, b7, b8, b9, b10, x59, x60, x61, x62, x63, x64, x65, x66, x67, x68, x69, rfl, rfl, hb, cd0, cd1, cd2, cd3, cd4, cd5, cd6, cd7, cd8, cd9, cd10⟩ hf hd
          have hf' : b8 = false := hf
          subst hf'
          clear hf hd
          try simp only [List.setIfInBounds_toArray, List.set_cons_zero, List.set_cons_succ]
          have z0 := (hb.cell hgvB).trans g0
          have z1 := (hb.cell hgvB).trans g1
          have z2 := (hb.cell hgvB).trans g2
          intro K hK
          rw [if_pos (by rfl)]
          go_simp
          exact hK.out _ _ ⟨b0, b1, b2, b3, b4, b5, b6, b7, true, b9, b10, x59, x60, x61, x62, x63, x64, x65, x66, (.agg #[.int .i64 k2, .int .i64 m2, .string s2]), x68, x69, (by simp only [Act.put, List.setIfInBounds_toArray, List.set_cons_zero, List.set_cons_succ]), (by simp only [Act.put, List.setIfInBounds_toArray, List.set_cons_zero, List.set_cons_succ]), hb, cd0, cd1, cd2, cd3, cd4, cd5, cd6, cd7, (fun _ => rfl), cd9, cd10⟩
        · rintro L a w ⟨b0, b1, b2, b3, b4, b5, b6, b7, b8, b9, b10, x59, x60, x61, x62, x63, x64, x65, x66, x67, x68, x69, rfl, rfl, hb, cd0, cd1, cd2, cd3, cd4, cd5, cd6, cd7, cd8, cd9, cd10⟩ hf hd
          have hf' : b9 = false := hf
          subst hf'
          have d7 : b7 = true := hd ⟨7, .data⟩ (by simp) rfl
          subst d7
          have d8 : b8 = true := hd ⟨8, .data⟩ (by simp) rfl
          subst d8
          obtain rfl := cd7.out rfl
          obtain rfl := cd8.out rfl
          clear hf hd
          try simp only [List.setIfInBounds_toArray, List.set_cons_zero, List.set_cons_succ]
          intro K hK
          rw [if_pos (by rfl)]
          go_simp
          go_at_call 35
          refine (HC _).mono ?_
          rintro e w' ⟨rfl, bx⟩
          exact hK.out _ _ ⟨b0, b1, b2, b3, b4, b5, b6, true, true, true, b10, x59, x60, x61, x62, x63, x64, x65, .agg #[.int .i64 k1, .int .i64 m1, .string s1], .agg #[.int .i64 k2, .int .i64 m2, .string s2], (.int .i64 CM), x69, (by simp only [Act.put, List.setIfInBounds_toArray, List.set_cons_zero, List.set_cons_succ]), (by simp only [Act.put, List.setIfInBounds_toArray, List.set_cons_zero, List.set_cons_succ]), hb.trans (bx.mono (Nat.le_trans hB0 hb.size)), cd0, cd1, cd2, cd3, cd4, cd5, cd6, (fun _ => rfl), (fun _ => rfl), (fun _ => rfl), cd10⟩
        · rintro L a w ⟨b0, b1, b2, b3, b4, b5, b6, b7, b8, b9, b10, x59, x60, x61, x62, x63, x64, x65, x66, x67, x68, x69, rfl, rfl, hb, cd0, cd1, cd2, cd3, cd4, cd5, cd6, cd7, cd8, cd9, cd10⟩ hf hd
          have hf' : b10 = false := hf
          subst hf'
          have d9 : b9 = true := hd ⟨9, .data⟩ (by simp) rfl
          subst d9
          obtain rfl := cd9.out rfl
          clear hf hd
          try simp only [List.setIfInBounds_toArray, List.set_cons_zero, List.set_cons_succ]
          intro K hK
          rw [if_pos (by rfl)]
          go_simp
          rw [HGE.out]
          exact hK.out _ _ ⟨b0, b1, b2, b3, b4, b5, b6, b7, b8, true, true, x59, x60, x61, x62, x63, x64, x65, x66, x67, .int .i64 CM, (.bool GE), (by simp only [Act.put, List.setIfInBounds_toArray, List.set_cons_zero, List.set_cons_succ]), (by simp only [Act.put, List.setIfInBounds_toArray, List.set_cons_zero, List.set_cons_succ]), hb, cd0, cd1, cd2, cd3, cd4, cd5, cd6, cd7, cd8, (fun _ => rfl), (fun _ => rfl)⟩
      · rintro act V15 ⟨b0, b1, b2, b3, b4, b5, b6, b7, b8, b9, b10, x59, x60, x61, x62, x63, x64, x65, x66, x67, x68, x69, hL, rfl, hb, cd0, cd1, cd2, cd3, cd4, cd5, cd6, cd7, cd8, cd9, cd10⟩
        have hL' : [true, true, true, true, true, true, true, true, true, true, true] = [b0, b1, b2, b3, b4, b5, b6, b7, b8, b9, b10] := congrArg Array.toList hL
        simp only [List.cons.injEq, and_true] at hL'
        obtain ⟨rfl, rfl, rfl, rfl, rfl, rfl, rfl, rfl, rfl, rfl, rfl⟩ := hL'
        obtain rfl := cd0.out rfl
        obtain rfl := cd1.out rfl
        obtain rfl := cd2.out rfl
        obtain rfl := cd3.out rfl
        obtain rfl := cd4.out rfl
        obtain rfl := cd5.out rfl
        obtain rfl := cd6.out rfl
        obtain rfl := cd7.out rfl
        obtain rfl := cd8.out rfl
        obtain rfl := cd9.out rfl
        obtain rfl := cd10.out rfl
        clear hL cd0 cd1 cd2 cd3 cd4 cd5 cd6 cd7 cd8 cd9 cd10
        simp only [List.setIfInBounds_toArray, List.set_cons_zero, List.set_cons_succ]
        have bV : Below Y.heap.size Y V15 := hB.trans (((Below.refl _ _).drew.trans hb).mono hB.size)
        clear hb
        cases GE with
        | true =>
          have hN1 : cntF C ⟨k2, m2, s2⟩ (rs.take (q + 1)) = cn + 1 := HNX.out
          go_wp2_with fail
          go_roundw
          case rel => exact ⟨q + 1, cn + 1, by omega, by go_num, by go_num, bV, hN1⟩
          case measure => simp [intOf]; omega
        | false =>
          have hN1 : cntF C ⟨k2, m2, s2⟩ (rs.take (q + 1)) = cn := HNX.out
          go_wp2_with fail
          go_roundw
          case rel => exact ⟨q + 1, cn, by omega, rfl, by go_num, bV, hN1⟩
          case measure => simp [intOf]; omega
    · have hqi : ¬ ((q : Int) < (rn : Int)) := by omega
      have hqe : cntF C ⟨k2, m2, s2⟩ rs = cn := by
        have := hcn.out
        rwa [List.take_of_length_le (by omega)] at this
      have hmi : ((ln : Int) != min (cn : Int) (M : Int)) = false := by
        have hlm : ln = min cn M := by rw [HL2.out, hqe]
        have : (ln : Int) = min (cn : Int) (M : Int) := by omega
        rw [this]
        simp
      obtain ⟨g0, g1, g2, -, -, -, hgvB⟩ := hVY.past hB
      have hXw := hXY.past hB
      have HFn := from_any wr _ _ x C KI es hXw (by have := bY.size; omega) hEn ⟨k2, m2, s2⟩ hvok (-1)
      rw [HLN.out] at HFn
      have HFn1 : Calls Try.prog 33 #[.pointer (some ⟨x, 0, none⟩), .agg #[.int .i64 k2, .int .i64 m2, .string s2], .int .i64 (-1)] wr fun e w' => ∃ ao c, e = .returned (.slice ao 0 c) ∧ Below wr.heap.size wr w' := HFn.mono fun e w' ⟨ao, c, h1, h2, h3⟩ => ⟨ao, c, h1, h3⟩
      clear HFn
      go_upto_region 19 with (go_at_call 33; refine HFn1.mono ?_; rintro e w11 ⟨a4, c4, rfl, b11⟩; obtain ⟨g0', g1', g2', -, -, -, -⟩ := (hVY.past hB).past b11)
      have hV11 := (hVY.past hB).past b11
      have B11 := hB.trans (b11.mono hBs)
      go_upto_region 20 with fail
      have hL0 : VAt (w11.alloc (.cells #[.int .i64 k2, .int .i64 m2, .string s2] 46)) w11.heap.size k2 m2 s2 := VAt.new w11 k2 m2 s2
      have bl := B11.alloc B11.size (.cells #[.int .i64 k2, .int .i64 m2, .string s2] 46)
      have hYg := B11.size
      generalize w11.alloc (.cells #[.int .i64 k2, .int .i64 m2, .string s2] 46) = w12 at hL0 bl ⊢
      obtain ⟨gl, hgl⟩ : ∃ gl, w11.heap.size = gl := ⟨_, rfl⟩
      rw [hgl] at hL0 hYg
      simp only [hgl]
      obtain ⟨wo, rfl⟩ : ∃ wo, wo = wr := ⟨wr, rfl⟩
      have hYgl := hYg
      clear hgl hYg g0 g1 g2 g0' g1' g2' hV11 B11 b11 HFn1 t4 hmi hqe hXw hqi hqlt hcn hq hgtB
      go_wp2_with fail
      go_loopw [19] (fun i wr => ∃ (j : Nat) (k3 m3 : Int) (s3 : ByteArray), j ≤ ln ∧ i = .int .i64 (j : Nat) ∧ VAt wr gl k3 m3 s3 ∧ Vok ⟨k3, m3, s3⟩ ∧ Hid (∀ e, L[j]? = some e → 0 ≤ e.v.cmp ⟨k3, m3, s3⟩) ∧ Below Y.heap.size Y wr) (fun i _ => ln - (intOf i).toNat)
      case atStart => exact ⟨0, k2, m2, s2, Nat.zero_le _, rfl, hL0, hvok, HL3.out, bl⟩
      case round =>
        clear hL0 bl hB hBs
        obtain ⟨j, k3, m3, s3, hj, rfl, hVl, hv3k, hLj, hB⟩ := hrel
        have hlM : ln ≤ M := by rw [HL2.out]; exact Nat.min_le_right _ _
        by_cases hjlt : j < ln
        · have hjli : (j : Int) < (ln : Int) := by omega
          have hBs := hB.size
          obtain ⟨e, hej⟩ : ∃ e, L[j]? = some e := ⟨L[j]'(by have := HLL.out; omega), List.getElem?_eq_getElem _⟩
          obtain ⟨i0, rq, hrq, hee⟩ := HL5.out j e hej
          obtain ⟨lb, lo, rfl, hlY, hlcc⟩ := oL.isR.open (by omega) (by decide)
          obtain ⟨l0', l1', l2'⟩ := cells_v hlcc j e.k (by rw [List.getElem?_map, hej]; rfl)
          obtain ⟨AI, hAt, hAI⟩ := at_fitsF hFl hKl hFi e.k (by omega)
          have hkq : kOf KI rq = e.k := by rw [hee]; rfl
          have hAi : AI = (i0 : Int) := by
            rcases hAI with ⟨i, r, rfl, h3, h4⟩ | ⟨-, h3⟩
            · rw [srt_uniqF hFi.srt h3 hrq (h4.trans hkq.symm)]
            · exact absurd hkq (h3 rq (List.mem_of_getElem? hrq))
          subst hAi
          have hi0 : i0 < rn := by have := (List.getElem?_eq_some_iff.1 hrq).1; omega
          have hi0i : (i0 : Int) < (rn : Int) := by omega
          have HI0N : Hid (decide ((i0 : Int) < 0) = false) := decide_eq_false (by omega)
          have hev : e.v = kOf C rq := by rw [hee]; rfl
          have h0e := hLj.out e hej
          obtain ⟨b, off, hd2, rfl, hbZ, hcq0, hzR⟩ := iRY.at hrq
          obtain ⟨hv1, hv2, hv3, hv4⟩ := HVO.out rq (List.mem_of_getElem? hrq)
          obtain ⟨u1, hu1⟩ : ∃ v, rq[C]? = some v := ⟨rq[C]'hv1, List.getElem?_eq_getElem _⟩
          rw [kOf_get hu1] at hv3
          obtain ⟨za, zn, zc⟩ := hd2
          simp only at hcq0 hzR
          obtain ⟨zb, zo, rfl, hzZ, hzcc⟩ := hzR.open (by have := hzR.len; omega) (by decide)
          obtain ⟨e0', e1', e2'⟩ := cells_v hzcc C u1 hu1
          have hzl := hzR.len
          have hCz : (C : Int) < (zn : Int) := by omega
          rw [hev, kOf_get hu1] at h0e
          have HN : Hid (∀ f, L[j + 1]? = some f → 0 ≤ f.v.cmp ⟨u1.k, u1.n, u1.s⟩) := fun f hf => by
            have := HL4.out j e f hej hf
            rwa [hev, kOf_get hu1] at this
          have HC0 := fun w => rcmp4_any u1.k u1.n u1.s k3 m3 s3 w (vok_valF hv3) (vok_valF hv3k)
          obtain ⟨CM, hCM⟩ : ∃ CM, u1.cmp ⟨k3, m3, s3⟩ = CM := ⟨_, rfl⟩
          have HC1 : ∀ w', Calls Try.prog 35 #[vv u1.k u1.n u1.s, vv k3 m3 s3] w' fun e w'' => e = .returned (.int .i64 CM) ∧ Below w'.heap.size w' w'' := by rw [← hCM]; exact HC0
          rw [hCM] at h0e
          have HCN : Hid (decide (CM < 0) = false) := decide_eq_false (by omega)
          have HV1 : Hid (Vok ⟨u1.k, u1.n, u1.s⟩) := hv3
          obtain ⟨k1, m1, s1⟩ := u1
          obtain ⟨⟨k5, m5, s5⟩, hk5⟩ : ∃ v, e.k = v := ⟨_, rfl⟩
          rw [hk5] at hAt l0' l1' l2'
          simp only at e0' e1' e2' HC1 HN HV1 l0' l1' l2'
          have HC := HC1
          have HCQ := Lib.hid hcq0
          have E0 := Lib.hid e0'
          have E1 := Lib.hid e1'
          have E2 := Lib.hid e2'
          have HA0 : ∀ w', Below wr.heap.size wr.drew w' → Calls Try.prog 36 #[.slice (some ⟨b, off, none⟩) rn rc, .int .i64 (KI : Nat), .agg #[.int .i64 k5, .int .i64 m5, .string s5]] w' fun e w'' => e = .returned (.int .i64 (i0 : Nat)) ∧ Below w'.heap.size w' w'' := fun w' hb => hAt w' _ _ rn rc (iRY.past (hB.trans (((Below.refl _ _).drew.trans hb).mono hB.size)))
          have HA := HA0
          have t4 := (hB.cell hgtY).trans T4.out
          have z2 := (hB.cell hgsY).trans Z2.out
          have l0 := (hB.cell hlY).trans l0'
          have l1 := (hB.cell hlY).trans l1'
          have l2 := (hB.cell hlY).trans l2'
          have hgtB := Nat.lt_of_lt_of_le hgtY hBs
          have hgsB := Nat.lt_of_lt_of_le hgsY hBs
          have hlB := Nat.lt_of_lt_of_le hlY hBs
          have hB0 : wr.heap.size ≤ wr.heap.size := Nat.le_refl _
          clear HC0 HC1 hCM h0e hev hkq hAt HA0 hAI hu1 hrq hzcc hzR hv1 hv2 hv4 hv3 hcq0 e0' e1' e2' l0' l1' l2' hlcc hej hee hk5 hLj
          go_upto_region 23 with fail
          refine region_inv (IFrom23 wr.heap.size gt gs b off rn rc KI lb lo ln lc j k5 m5 s5 i0) (by kernel_rfl) (by kernel_rfl) ?_ ?_ ?_
          · exact ⟨false, false, false, false, false, false, false, false, false, false, u92, u93, u94, u95, u96, u97, u98, u99, u100, u20, rfl, (by simp only [Act.put, List.setIfInBounds_toArray, List.set_cons_zero, List.set_cons_succ]), Below.refl _ _, (fun h => by cases h), (fun h => by cases h), (fun h => by cases h), (fun h => by cases h), (fun h => by cases h), (fun h => by cases h), (fun h => by cases h), (fun h => by cases h), (fun h => by cases h), (fun h => by cases h)⟩
          · refine ⟨?_, ?_, ?_, ?_, ?_, ?_, ?_, ?_, ?_, ?_, trivial⟩
            · rintro L a w ⟨b0, b1, b2, b3, b4, b5, b6, b7, b8, b9, x92, x93, x94, x95, x96, x97, x98, x99, x100, x20, rfl, rfl, hb, cd0, cd1, cd2, cd3, cd4, cd5, cd6, cd7, cd8, cd9⟩ hf hd
              have hf' : b0 = false := hf
              subst hf'
              clear hf hd
              try simp only [List.setIfInBounds_toArray, List.set_cons_zero, List.set_cons_succ]
              intro K hK
              rw [if_pos (by rfl)]
              go_simp
              exact hK.out _ _ ⟨true, b1, b2, b3, b4, b5, b6, b7, b8, b9, (.pointer (some ⟨gt, 4, none⟩)), x93, x94, x95, x96, x97, x98, x99, x100, x20, (by simp only [Act.put, List.setIfInBounds_toArray, List.set_cons_zero, List.set_cons_succ]), (by simp only [Act.put, List.setIfInBounds_toArray, List.set_cons_zero, List.set_cons_succ]), hb, (fun _ => rfl), cd1, cd2, cd3, cd4, cd5, cd6, cd7, cd8, cd9⟩
            · rintro L a w ⟨b0, b1, b2, b3, b4, b5, b6, b7, b8, b9, x92, x93, x94, x95, x96, x97, x98, x99, x100, x20, rfl, rfl, hb, cd0, cd1, cd2, cd3, cd4, cd5, cd6, cd7, cd8, cd9⟩ hf hd
              have hf' : b1 = false := hf
              subst hf'
              have d0 : b0 = true := hd ⟨0, .data⟩ (by simp) rfl
              subst d0
              obtain rfl := cd0.out rfl
              clear hf hd
              try simp only [List.setIfInBounds_toArray, List.set_cons_zero, List.set_cons_succ]
              have z0 := (hb.cell hgtB).trans t4
              intro K hK
              rw [if_pos (by rfl)]
              go_simp
              exact hK.out _ _ ⟨true, true, b2, b3, b4, b5, b6, b7, b8, b9, .pointer (some ⟨gt, 4, none⟩), (.slice (some ⟨b, off, none⟩) rn rc), x94, x95, x96, x97, x98, x99, x100, x20, (by simp only [Act.put, List.setIfInBounds_toArray, List.set_cons_zero, List.set_cons_succ]), (by simp only [Act.put, List.setIfInBounds_toArray, List.set_cons_zero, List.set_cons_succ]), hb, (fun _ => rfl), (fun _ => rfl), cd2, cd3, cd4, cd5, cd6, cd7, cd8, cd9⟩
            · rintro L a w ⟨b0, b1, b2, b3, b4, b5, b6, b7, b8, b9, x92, x93, x94, x95, x96, x97, x98, x99, x100, x20, rfl, rfl, hb, cd0, cd1, cd2, cd3, cd4, cd5, cd6, cd7, cd8, cd9⟩ hf hd
              have hf' : b2 = false := hf
              subst hf'
              clear hf hd
              try simp only [List.setIfInBounds_toArray, List.set_cons_zero, List.set_cons_succ]
              intro K hK
              rw [if_pos (by rfl)]
              go_simp
              exact hK.out _ _ ⟨b0, b1, true, b3, b4, b5, b6, b7, b8, b9, x92, x93, (.pointer (some ⟨gs, 2, none⟩)), x95, x96, x97, x98, x99, x100, x20, (by simp only [Act.put, List.setIfInBounds_toArray, List.set_cons_zero, List.set_cons_succ]), (by simp only [Act.put, List.setIfInBounds_toArray, List.set_cons_zero, List.set_cons_succ]), hb, cd0, cd1, (fun _ => rfl), cd3, cd4, cd5, cd6, cd7, cd8, cd9⟩
            · rintro L a w ⟨b0, b1, b2, b3, b4, b5, b6, b7, b8, b9, x92, x93, x94, x95, x96, x97, x98, x99, x100, x20, rfl, rfl, hb, cd0, cd1, cd2, cd3, cd4, cd5, cd6, cd7, cd8, cd9⟩ hf hd
              have hf' : b3 = false := hf
              subst hf'
              have d2 : b2 = true := hd ⟨2, .data⟩ (by simp) rfl
              subst d2
              obtain rfl := cd2.out rfl
              clear hf hd
              try simp only [List.setIfInBounds_toArray, List.set_cons_zero, List.set_cons_succ]
              have z0 := (hb.cell hgsB).trans z2
              intro K hK
              rw [if_pos (by rfl)]
              go_simp
              exact hK.out _ _ ⟨b0, b1, true, true, b4, b5, b6, b7, b8, b9, x92, x93, .pointer (some ⟨gs, 2, none⟩), (.int .i64 (KI : Nat)), x96, x97, x98, x99, x100, x20, (by simp only [Act.put, List.setIfInBounds_toArray, List.set_cons_zero, List.set_cons_succ]), (by simp only [Act.put, List.setIfInBounds_toArray, List.set_cons_zero, List.set_cons_succ]), hb, cd0, cd1, (fun _ => rfl), (fun _ => rfl), cd4, cd5, cd6, cd7, cd8, cd9⟩
            · rintro L a w ⟨b0, b1, b2, b3, b4, b5, b6, b7, b8, b9, x92, x93, x94, x95, x96, x97, x98, x99, x100, x20, rfl, rfl, hb, cd0, cd1, cd2, cd3, cd4, cd5, cd6, cd7, cd8, cd9⟩ hf hd
              have hf' : b4 = false := hf
              subst hf'
              clear hf hd
              try simp only [List.setIfInBounds_toArray, List.set_cons_zero, List.set_cons_succ]
              intro K hK
              rw [if_pos (by rfl)]
              go_simp
              exact hK.out _ _ ⟨b0, b1, b2, b3, true, b5, b6, b7, b8, b9, x92, x93, x94, x95, (.slice (some ⟨lb, lo, none⟩) ln lc), x97, x98, x99, x100, x20, (by simp only [Act.put, List.setIfInBounds_toArray, List.set_cons_zero, List.set_cons_succ]), (by simp only [Act.put, List.setIfInBounds_toArray, List.set_cons_zero, List.set_cons_succ]), hb, cd0, cd1, cd2, cd3, (fun _ => rfl), cd5, cd6, cd7, cd8, cd9⟩
            · rintro L a w ⟨b0, b1, b2, b3, b4, b5, b6, b7, b8, b9, x92, x93, x94, x95, x96, x97, x98, x99, x100, x20, rfl, rfl, hb, cd0, cd1, cd2, cd3, cd4, cd5, cd6, cd7, cd8, cd9⟩ hf hd
              have hf' : b5 = false := hf
              subst hf'
              clear hf hd
              try simp only [List.setIfInBounds_toArray, List.set_cons_zero, List.set_cons_succ]
              intro K hK
              rw [if_pos (by rfl)]
              go_simp
              exact hK.out _ _ ⟨b0, b1, b2, b3, b4, true, b6, b7, b8, b9, x92, x93, x94, x95, x96, (.int .i64 (j : Nat)), x98, x99, x100, x20, (by simp only [Act.put, List.setIfInBounds_toArray, List.set_cons_zero, List.set_cons_succ]), (by simp only [Act.put, List.setIfInBounds_toArray, List.set_cons_zero, List.set_cons_succ]), hb, cd0, cd1, cd2, cd3, cd4, (fun _ => rfl), cd6, cd7, cd8, cd9⟩
            · rintro L a w ⟨b0, b1, b2, b3, b4, b5, b6, b7, b8, b9, x92, x93, x94, x95, x96, x97, x98, x99, x100, x20, rfl, rfl, hb, cd0, cd1, cd2, cd3, cd4, cd5, cd6, cd7, cd8, cd9⟩ hf hd
              have hf' : b6 = false := hf
              subst hf'
              have d4 : b4 = true := hd ⟨4, .data⟩ (by simp) rfl
              subst d4
              have d5 : b5 = true := hd ⟨5, .data⟩ (by simp) rfl
              subst d5
              obtain rfl := cd4.out rfl
              obtain rfl := cd5.out rfl
              clear hf hd
              try simp only [List.setIfInBounds_toArray, List.set_cons_zero, List.set_cons_succ]
              intro K hK
              rw [if_pos (by rfl)]
              go_simp
              exact hK.out _ _ ⟨b0, b1, b2, b3, true, true, true, b7, b8, b9, x92, x93, x94, x95, .slice (some ⟨lb, lo, none⟩) ln lc, .int .i64 (j : Nat), (.pointer (some ⟨lb, lo + j * 3, none⟩)), x99, x100, x20, (by simp only [Act.put, List.setIfInBounds_toArray, List.set_cons_zero, List.set_cons_succ]), (by simp only [Act.put, List.setIfInBounds_toArray, List.set_cons_zero, List.set_cons_succ]), hb, cd0, cd1, cd2, cd3, (fun _ => rfl), (fun _ => rfl), (fun _ => rfl), cd7, cd8, cd9⟩
            · rintro L a w ⟨b0, b1, b2, b3, b4, b5, b6, b7, b8, b9, x92, x93, x94, x95, x96, x97, x98, x99, x100, x20, rfl, rfl, hb, cd0, cd1, cd2, cd3, cd4, cd5, cd6, cd7, cd8, cd9⟩ hf hd
              have hf' : b7 = false := hf
              subst hf'
              have d6 : b6 = true := hd ⟨6, .data⟩ (by simp) rfl
              subst d6
              obtain rfl := cd6.out rfl
              clear hf hd
              try simp only [List.setIfInBounds_toArray, List.set_cons_zero, List.set_cons_succ]
              have z0 := (hb.cell hlB).trans l0
              have z1 := (hb.cell hlB).trans l1
              have z2 := (hb.cell hlB).trans l2
              intro K hK
              rw [if_pos (by rfl)]
              go_simp
              exact hK.out _ _ ⟨b0, b1, b2, b3, b4, b5, true, true, b8, b9, x92, x93, x94, x95, x96, x97, .pointer (some ⟨lb, lo + j * 3, none⟩), (.agg #[.int .i64 k5, .int .i64 m5, .string s5]), x100, x20, (by simp only [Act.put, List.setIfInBounds_toArray, List.set_cons_zero, List.set_cons_succ]), (by simp only [Act.put, List.setIfInBounds_toArray, List.set_cons_zero, List.set_cons_succ]), hb, cd0, cd1, cd2, cd3, cd4, cd5, (fun _ => rfl), (fun _ => rfl), cd8, cd9⟩
            · rintro L a w ⟨b0, b1, b2, b3, b4, b5, b6, b7, b8, b9, x92, x93, x94, x95, x96, x97, x98, x99, x100, x20, rfl, rfl, hb, cd0, cd1, cd2, cd3, cd4, cd5, cd6, cd7, cd8, cd9⟩ hf hd
              have hf' : b8 = false := hf
              subst hf'
              have d1 : b1 = true := hd ⟨1, .data⟩ (by simp) rfl
              subst d1
              have d3 : b3 = true := hd ⟨3, .data⟩ (by simp) rfl
              subst d3
              have d7 : b7 = true := hd ⟨7, .data⟩ (by simp) rfl
              subst d7
              obtain rfl := cd1.out rfl
              obtain rfl := cd3.out rfl
              obtain rfl := cd7.out rfl
              clear hf hd
              try simp only [List.setIfInBounds_toArray, List.set_cons_zero, List.set_cons_succ]
              intro K hK
              rw [if_pos (by rfl)]
              go_simp
              go_at_call 36
              refine (HA _ hb).mono ?_
              rintro e w' ⟨rfl, bx⟩
              exact hK.out _ _ ⟨b0, true, b2, true, b4, b5, b6, true, true, b9, x92, .slice (some ⟨b, off, none⟩) rn rc, x94, .int .i64 (KI : Nat), x96, x97, x98, .agg #[.int .i64 k5, .int .i64 m5, .string s5], (.int .i64 (i0 : Nat)), x20, (by simp only [Act.put, List.setIfInBounds_toArray, List.set_cons_zero, List.set_cons_succ]), (by simp only [Act.put, List.setIfInBounds_toArray, List.set_cons_zero, List.set_cons_succ]), hb.trans (bx.mono (Nat.le_trans hB0 hb.size)), cd0, (fun _ => rfl), cd2, (fun _ => rfl), cd4, cd5, cd6, (fun _ => rfl), (fun _ => rfl), cd9⟩
            · rintro L a w ⟨b0, b1, b2, b3, b4, b5, b6, b7, b8, b9, x92, x93, x94, x95, x96, x97, x98, x99, x100, x20, rfl, rfl, hb, cd0, cd1, cd2, cd3, cd4, cd5, cd6, cd7, cd8, cd9⟩ hf hd
              have hf' : b9 = false := hf
              subst hf'
              have d8 : b8 = true := hd ⟨8, .data⟩ (by simp) rfl
              subst d8
              have d0 : b0 = true := hd ⟨0, .phase⟩ (by simp) rfl
              subst d0
              have d1 : b1 = true := hd ⟨1, .phase⟩ (by simp) rfl
              subst d1
              have d2 : b2 = true := hd ⟨2, .phase⟩ (by simp) rfl
              subst d2
              have d3 : b3 = true := hd ⟨3, .phase⟩ (by simp) rfl
              subst d3
              have d4 : b4 = true := hd ⟨4, .phase⟩ (by simp) rfl
              subst d4
              have d5 : b5 = true := hd ⟨5, .phase⟩ (by simp) rfl
              subst d5
              have d6 : b6 = true := hd ⟨6, .phase⟩ (by simp) rfl
              subst d6
              have d7 : b7 = true := hd ⟨7, .phase⟩ (by simp) rfl
              subst d7
              obtain rfl := cd8.out rfl
              obtain rfl := cd0.out rfl
              obtain rfl := cd1.out rfl
              obtain rfl := cd2.out rfl
              obtain rfl := cd3.out rfl
              obtain rfl := cd4.out rfl
              obtain rfl := cd5.out rfl
              obtain rfl := cd6.out rfl
              obtain rfl := cd7.out rfl
              clear hf hd
              try simp only [List.setIfInBounds_toArray, List.set_cons_zero, List.set_cons_succ]
              intro K hK
              rw [if_pos (by rfl)]
              go_simp
              exact hK.out _ _ ⟨true, true, true, true, true, true, true, true, true, true, .pointer (some ⟨gt, 4, none⟩), .slice (some ⟨b, off, none⟩) rn rc, .pointer (some ⟨gs, 2, none⟩), .int .i64 (KI : Nat), .slice (some ⟨lb, lo, none⟩) ln lc, .int .i64 (j : Nat), .pointer (some ⟨lb, lo + j * 3, none⟩), .agg #[.int .i64 k5, .int .i64 m5, .string s5], .int .i64 (i0 : Nat), (.int .i64 (i0 : Nat)), (by simp only [Act.put, List.setIfInBounds_toArray, List.set_cons_zero, List.set_cons_succ]), (by simp only [Act.put, List.setIfInBounds_toArray, List.set_cons_zero, List.set_cons_succ]), hb, (fun _ => rfl), (fun _ => rfl), (fun _ => rfl), (fun _ => rfl), (fun _ => rfl), (fun _ => rfl), (fun _ => rfl), (fun _ => rfl), (fun _ => rfl), (fun _ => rfl)⟩
          · rintro act V23 ⟨b0, b1, b2, b3, b4, b5, b6, b7, b8, b9, x92, x93, x94, x95, x96, x97, x98, x99, x100, x20, hL, rfl, hb, cd0, cd1, cd2, cd3, cd4, cd5, cd6, cd7, cd8, cd9⟩
            have hL' : [true, true, true, true, true, true, true, true, true, true] = [b0, b1, b2, b3, b4, b5, b6, b7, b8, b9] := congrArg Array.toList hL
            simp only [List.cons.injEq, and_true] at hL'
            obtain ⟨rfl, rfl, rfl, rfl, rfl, rfl, rfl, rfl, rfl, rfl⟩ := hL'
            obtain rfl := cd0.out rfl
            obtain rfl := cd1.out rfl
            obtain rfl := cd2.out rfl
            obtain rfl := cd3.out rfl
            obtain rfl := cd4.out rfl
            obtain rfl := cd5.out rfl
            obtain rfl := cd6.out rfl
            obtain rfl := cd7.out rfl
            obtain rfl := cd8.out rfl
            obtain rfl := cd9.out rfl
            clear hL cd0 cd1 cd2 cd3 cd4 cd5 cd6 cd7 cd8 cd9
            simp only [List.setIfInBounds_toArray, List.set_cons_zero, List.set_cons_succ]
            have bV23 : Below Y.heap.size Y V23 := hB.trans (((Below.refl _ _).drew.trans hb).mono hB.size)
            have hVl23 := hVl.past ((Below.refl _ _).drew.trans hb)
            clear hb t4 z2 l0 l1 l2 hgtB hgsB hlB hB0
            have t4 := (bV23.cell hgtY).trans T4.out
            have hcq := (bV23.cell hbZ).trans HCQ.out
            have e0 := (bV23.cell hzZ).trans E0.out
            have e1 := (bV23.cell hzZ).trans E1.out
            have e2 := (bV23.cell hzZ).trans E2.out
            obtain ⟨d0, d1, d2, -, -, -, hglB⟩ := id hVl23
            have hBs3 := bV23.size
            have hgtB := Nat.lt_of_lt_of_le hgtY hBs3
            have hbB := Nat.lt_of_lt_of_le hbZ hBs3
            have hzB := Nat.lt_of_lt_of_le hzZ hBs3
            have hB0 : V23.heap.size ≤ V23.heap.size := Nat.le_refl _
            go_upto_region 24 with fail
            refine region_inv (IFrom24 V23.heap.size gt gl b off rn rc i0 zb zo zn zc C k1 m1 s1 k3 m3 s3 CM) (by kernel_rfl) (by kernel_rfl) ?_ ?_ ?_
            · exact ⟨false, false, false, false, false, false, false, false, false, false, false, false, false, false, false, u101, u102, u103, u104, u105, u106, u107, u108, u109, u110, u111, u112, u113, u114, u115, rfl, (by simp only [Act.put, List.setIfInBounds_toArray, List.set_cons_zero, List.set_cons_succ]), Below.refl _ _, (fun h => by cases h), (fun h => by cases h), (fun h => by cases h), (fun h => by cases h), (fun h => by cases h), (fun h => by cases h), (fun h => by cases h), (fun h => by cases h), (fun h => by cases h), (fun h => by cases h), (fun h => by cases h), (fun h => by cases h), (fun h => by cases h), (fun h => by cases h), (fun h => by cases h)⟩
            · refine ⟨?_, ?_, ?_, ?_, ?_, ?_, ?_, ?_, ?_, ?_, ?_, ?_, ?_, ?_, ?_, trivial⟩
              · rintro L a w ⟨b0, b1, b2, b3, b4, b5, b6, b7, b8, b9, b10, b11, b12, b13, b14, x101, x102, x103, x104, x105, x106, x107, x108, x109, x110, x111, x112, x113, x114, x115, rfl, rfl, hb, cd0, cd1, cd2, cd3, cd4, cd5, cd6, cd7, cd8, cd9, cd10, cd11, cd12, cd13, cd14⟩ hf hd
                have hf' : b0 = false := hf
                subst hf'
                clear hf hd
                try simp only [List.setIfInBounds_toArray, List.set_cons_zero, List.set_cons_succ]
                intro K hK
                rw [if_pos (by rfl)]
                go_simp
                exact hK.out _ _ ⟨true, b1, b2, b3, b4, b5, b6, b7, b8, b9, b10, b11, b12, b13, b14, (.int .i64 (i0 : Nat)), x102, x103, x104, x105, x106, x107, x108, x109, x110, x111, x112, x113, x114, x115, (by simp only [Act.put, List.setIfInBounds_toArray, List.set_cons_zero, List.set_cons_succ]), (by simp only [Act.put, List.setIfInBounds_toArray, List.set_cons_zero, List.set_cons_succ]), hb, (fun _ => rfl), cd1, cd2, cd3, cd4, cd5, cd6, cd7, cd8, cd9, cd10, cd11, cd12, cd13, cd14⟩
              · rintro L a w ⟨b0, b1, b2, b3, b4, b5, b6, b7, b8, b9, b10, b11, b12, b13, b14, x101, x102, x103, x104, x105, x106, x107, x108, x109, x110, x111, x112, x113, x114, x115, rfl, rfl, hb, cd0, cd1, cd2, cd3, cd4, cd5, cd6, cd7, cd8, cd9, cd10, cd11, cd12, cd13, cd14⟩ hf hd
                have hf' : b1 = false := hf
                subst hf'
                have d0 : b0 = true := hd ⟨0, .data⟩ (by simp) rfl
                subst d0
                obtain rfl := cd0.out rfl
                clear hf hd
                try simp only [List.setIfInBounds_toArray, List.set_cons_zero, List.set_cons_succ]
                intro K hK
                rw [if_pos (by rfl)]
                go_simp
                rw [HI0N.out]
                exact hK.out _ _ ⟨true, true, b2, b3, b4, b5, b6, b7, b8, b9, b10, b11, b12, b13, b14, .int .i64 (i0 : Nat), (.bool false), x103, x104, x105, x106, x107, x108, x109, x110, x111, x112, x113, x114, x115, (by simp only [Act.put, List.setIfInBounds_toArray, List.set_cons_zero, List.set_cons_succ]), (by simp only [Act.put, List.setIfInBounds_toArray, List.set_cons_zero, List.set_cons_succ]), hb, (fun _ => rfl), (fun _ => rfl), cd2, cd3, cd4, cd5, cd6, cd7, cd8, cd9, cd10, cd11, cd12, cd13, cd14⟩
              · rintro L a w ⟨b0, b1, b2, b3, b4, b5, b6, b7, b8, b9, b10, b11, b12, b13, b14, x101, x102, x103, x104, x105, x106, x107, x108, x109, x110, x111, x112, x113, x114, x115, rfl, rfl, hb, cd0, cd1, cd2, cd3, cd4, cd5, cd6, cd7, cd8, cd9, cd10, cd11, cd12, cd13, cd14⟩ hf hd
                have hf' : b2 = false := hf
                subst hf'
                have d1 : b1 = true := hd ⟨1, .data⟩ (by simp) rfl
                subst d1
                obtain rfl := cd1.out rfl
                clear hf hd
                try simp only [List.setIfInBounds_toArray, List.set_cons_zero, List.set_cons_succ]
                intro K hK
                rw [if_pos (by rfl)]
                go_simp
                exact hK.out _ _ ⟨b0, true, true, b3, b4, b5, b6, b7, b8, b9, b10, b11, b12, b13, b14, x101, .bool false, (.bool false), x104, x105, x106, x107, x108, x109, x110, x111, x112, x113, x114, x115, (by simp only [Act.put, List.setIfInBounds_toArray, List.set_cons_zero, List.set_cons_succ]), (by simp only [Act.put, List.setIfInBounds_toArray, List.set_cons_zero, List.set_cons_succ]), hb, cd0, (fun _ => rfl), (fun _ => rfl), cd3, cd4, cd5, cd6, cd7, cd8, cd9, cd10, cd11, cd12, cd13, cd14⟩
              · rintro L a w ⟨b0, b1, b2, b3, b4, b5, b6, b7, b8, b9, b10, b11, b12, b13, b14, x101, x102, x103, x104, x105, x106, x107, x108, x109, x110, x111, x112, x113, x114, x115, rfl, rfl, hb, cd0, cd1, cd2, cd3, cd4, cd5, cd6, cd7, cd8, cd9, cd10, cd11, cd12, cd13, cd14⟩ hf hd
                have hf' : b3 = false := hf
                subst hf'
                have d2 : b2 = true := hd ⟨2, .guard⟩ (by simp) rfl
                subst d2
                obtain rfl := cd2.out rfl
                clear hf hd
                try simp only [List.setIfInBounds_toArray, List.set_cons_zero, List.set_cons_succ]
                intro K hK
                rw [if_pos (by rfl)]
                go_simp
                exact hK.out _ _ ⟨b0, b1, true, true, b4, b5, b6, b7, b8, b9, b10, b11, b12, b13, b14, x101, x102, .bool false, (.pointer (some ⟨gt, 4, none⟩)), x105, x106, x107, x108, x109, x110, x111, x112, x113, x114, x115, (by simp only [Act.put, List.setIfInBounds_toArray, List.set_cons_zero, List.set_cons_succ]), (by simp only [Act.put, List.setIfInBounds_toArray, List.set_cons_zero, List.set_cons_succ]), hb, cd0, cd1, (fun _ => rfl), (fun _ => rfl), cd4, cd5, cd6, cd7, cd8, cd9, cd10, cd11, cd12, cd13, cd14⟩
              · rintro L a w ⟨b0, b1, b2, b3, b4, b5, b6, b7, b8, b9, b10, b11, b12, b13, b14, x101, x102, x103, x104, x105, x106, x107, x108, x109, x110, x111, x112, x113, x114, x115, rfl, rfl, hb, cd0, cd1, cd2, cd3, cd4, cd5, cd6, cd7, cd8, cd9, cd10, cd11, cd12, cd13, cd14⟩ hf hd
                have hf' : b4 = false := hf
                subst hf'
                have d3 : b3 = true := hd ⟨3, .data⟩ (by simp) rfl
                subst d3
                have d2 : b2 = true := hd ⟨2, .guard⟩ (by simp) rfl
                subst d2
                obtain rfl := cd3.out rfl
                obtain rfl := cd2.out rfl
                clear hf hd
                try simp only [List.setIfInBounds_toArray, List.set_cons_zero, List.set_cons_succ]
                have z0 := (hb.cell hgtB).trans t4
                intro K hK
                rw [if_pos (by rfl)]
                go_simp
                exact hK.out _ _ ⟨b0, b1, true, true, true, b5, b6, b7, b8, b9, b10, b11, b12, b13, b14, x101, x102, .bool false, .pointer (some ⟨gt, 4, none⟩), (.slice (some ⟨b, off, none⟩) rn rc), x106, x107, x108, x109, x110, x111, x112, x113, x114, x115, (by simp only [Act.put, List.setIfInBounds_toArray, List.set_cons_zero, List.set_cons_succ]), (by simp only [Act.put, List.setIfInBounds_toArray, List.set_cons_zero, List.set_cons_succ]), hb, cd0, cd1, (fun _ => rfl), (fun _ => rfl), (fun _ => rfl), cd5, cd6, cd7, cd8, cd9, cd10, cd11, cd12, cd13, cd14⟩
              · rintro L a w ⟨b0, b1, b2, b3, b4, b5, b6, b7, b8, b9, b10, b11, b12, b13, b14, x101, x102, x103, x104, x105, x106, x107, x108, x109, x110, x111, x112, x113, x114, x115, rfl, rfl, hb, cd0, cd1, cd2, cd3, cd4, cd5, cd6, cd7, cd8, cd9, cd10, cd11, cd12, cd13, cd14⟩ hf hd
                have hf' : b5 = false := hf
                subst hf'
                have d2 : b2 = true := hd ⟨2, .guard⟩ (by simp) rfl
                subst d2
                obtain rfl := cd2.out rfl
                clear hf hd
                try simp only [List.setIfInBounds_toArray, List.set_cons_zero, List.set_cons_succ]
                intro K hK
                rw [if_pos (by rfl)]
                go_simp
                exact hK.out _ _ ⟨b0, b1, true, b3, b4, true, b6, b7, b8, b9, b10, b11, b12, b13, b14, x101, x102, .bool false, x104, x105, (.int .i64 (i0 : Nat)), x107, x108, x109, x110, x111, x112, x113, x114, x115, (by simp only [Act.put, List.setIfInBounds_toArray, List.set_cons_zero, List.set_cons_succ]), (by simp only [Act.put, List.setIfInBounds_toArray, List.set_cons_zero, List.set_cons_succ]), hb, cd0, cd1, (fun _ => rfl), cd3, cd4, (fun _ => rfl), cd6, cd7, cd8, cd9, cd10, cd11, cd12, cd13, cd14⟩
              · rintro L a w ⟨b0, b1, b2, b3, b4, b5, b6, b7, b8, b9, b10, b11, b12, b13, b14, x101, x102, x103, x104, x105, x106, x107, x108, x109, x110, x111, x112, x113, x114, x115, rfl, rfl, hb, cd0, cd1, cd2, cd3, cd4, cd5, cd6, cd7, cd8, cd9, cd10, cd11, cd12, cd13, cd14⟩ hf hd
                have hf' : b6 = false := hf
                subst hf'
                have d4 : b4 = true := hd ⟨4, .data⟩ (by simp) rfl
                subst d4
                have d5 : b5 = true := hd ⟨5, .data⟩ (by simp) rfl
                subst d5
                have d2 : b2 = true := hd ⟨2, .guard⟩ (by simp) rfl
                subst d2
                obtain rfl := cd4.out rfl
                obtain rfl := cd5.out rfl
                obtain rfl := cd2.out rfl
                clear hf hd
                try simp only [List.setIfInBounds_toArray, List.set_cons_zero, List.set_cons_succ]
                intro K hK
                rw [if_pos (by rfl)]
                go_simp
                exact hK.out _ _ ⟨b0, b1, true, b3, true, true, true, b7, b8, b9, b10, b11, b12, b13, b14, x101, x102, .bool false, x104, .slice (some ⟨b, off, none⟩) rn rc, .int .i64 (i0 : Nat), (.pointer (some ⟨b, off + i0, none⟩)), x108, x109, x110, x111, x112, x113, x114, x115, (by simp only [Act.put, List.setIfInBounds_toArray, List.set_cons_zero, List.set_cons_succ]), (by simp only [Act.put, List.setIfInBounds_toArray, List.set_cons_zero, List.set_cons_succ]), hb, cd0, cd1, (fun _ => rfl), cd3, (fun _ => rfl), (fun _ => rfl), (fun _ => rfl), cd7, cd8, cd9, cd10, cd11, cd12, cd13, cd14⟩
              · rintro L a w ⟨b0, b1, b2, b3, b4, b5, b6, b7, b8, b9, b10, b11, b12, b13, b14, x101, x102, x103, x104, x105, x106, x107, x108, x109, x110, x111, x112, x113, x114, x115, rfl, rfl, hb, cd0, cd1, cd2, cd3, cd4, cd5, cd6, cd7, cd8, cd9, cd10, cd11, cd12, cd13, cd14⟩ hf hd
                have hf' : b7 = false := hf
                subst hf'
                have d6 : b6 = true := hd ⟨6, .data⟩ (by simp) rfl
                subst d6
                have d2 : b2 = true := hd ⟨2, .guard⟩ (by simp) rfl
                subst d2
                obtain rfl := cd6.out rfl
                obtain rfl := cd2.out rfl
                clear hf hd
                try simp only [List.setIfInBounds_toArray, List.set_cons_zero, List.set_cons_succ]
                have z0 := (hb.cell hbB).trans hcq
                intro K hK
                rw [if_pos (by rfl)]
                go_simp
                exact hK.out _ _ ⟨b0, b1, true, b3, b4, b5, true, true, b8, b9, b10, b11, b12, b13, b14, x101, x102, .bool false, x104, x105, x106, .pointer (some ⟨b, off + i0, none⟩), (.slice (some ⟨zb, zo, none⟩) zn zc), x109, x110, x111, x112, x113, x114, x115, (by simp only [Act.put, List.setIfInBounds_toArray, List.set_cons_zero, List.set_cons_succ]), (by simp only [Act.put, List.setIfInBounds_toArray, List.set_cons_zero, List.set_cons_succ]), hb, cd0, cd1, (fun _ => rfl), cd3, cd4, cd5, (fun _ => rfl), (fun _ => rfl), cd8, cd9, cd10, cd11, cd12, cd13, cd14⟩
              · rintro L a w ⟨b0, b1, b2, b3, b4, b5, b6, b7, b8, b9, b10, b11, b12, b13, b14, x101, x102, x103, x104, x105, x106, x107, x108, x109, x110, x111, x112, x113, x114, x115, rfl, rfl, hb, cd0, cd1, cd2, cd3, cd4, cd5, cd6, cd7, cd8, cd9, cd10, cd11, cd12, cd13, cd14⟩ hf hd
                have hf' : b8 = false := hf
                subst hf'
                have d2 : b2 = true := hd ⟨2, .guard⟩ (by simp) rfl
                subst d2
                obtain rfl := cd2.out rfl
                clear hf hd
                try simp only [List.setIfInBounds_toArray, List.set_cons_zero, List.set_cons_succ]
                intro K hK
                rw [if_pos (by rfl)]
                go_simp
                exact hK.out _ _ ⟨b0, b1, true, b3, b4, b5, b6, b7, true, b9, b10, b11, b12, b13, b14, x101, x102, .bool false, x104, x105, x106, x107, x108, (.int .i64 (C : Nat)), x110, x111, x112, x113, x114, x115, (by simp only [Act.put, List.setIfInBounds_toArray, List.set_cons_zero, List.set_cons_succ]), (by simp only [Act.put, List.setIfInBounds_toArray, List.set_cons_zero, List.set_cons_succ]), hb, cd0, cd1, (fun _ => rfl), cd3, cd4, cd5, cd6, cd7, (fun _ => rfl), cd9, cd10, cd11, cd12, cd13, cd14⟩
              · rintro L a w ⟨b0, b1, b2, b3, b4, b5, b6, b7, b8, b9, b10, b11, b12, b13, b14, x101, x102, x103, x104, x105, x106, x107, x108, x109, x110, x111, x112, x113, x114, x115, rfl, rfl, hb, cd0, cd1, cd2, cd3, cd4, cd5, cd6, cd7, cd8, cd9, cd10, cd11, cd12, cd13, cd14⟩ hf hd
                have hf' : b9 = false := hf
                subst hf'
                have d7 : b7 = true := hd ⟨7, .data⟩ (by simp) rfl
                subst d7
                have d8 : b8 = true := hd ⟨8, .data⟩ (by simp) rfl
                subst d8
                have d2 : b2 = true := hd ⟨2, .guard⟩ (by simp) rfl
                subst d2
                obtain rfl := cd7.out rfl
                obtain rfl := cd8.out rfl
                obtain rfl := cd2.out rfl
                clear hf hd
                try simp only [List.setIfInBounds_toArray, List.set_cons_zero, List.set_cons_succ]
                intro K hK
                rw [if_pos (by rfl)]
                go_simp
                exact hK.out _ _ ⟨b0, b1, true, b3, b4, b5, b6, true, true, true, b10, b11, b12, b13, b14, x101, x102, .bool false, x104, x105, x106, x107, .slice (some ⟨zb, zo, none⟩) zn zc, .int .i64 (C : Nat), (.pointer (some ⟨zb, zo + C * 3, none⟩)), x111, x112, x113, x114, x115, (by simp only [Act.put, List.setIfInBounds_toArray, List.set_cons_zero, List.set_cons_succ]), (by simp only [Act.put, List.setIfInBounds_toArray, List.set_cons_zero, List.set_cons_succ]), hb, cd0, cd1, (fun _ => rfl), cd3, cd4, cd5, cd6, (fun _ => rfl), (fun _ => rfl), (fun _ => rfl), cd10, cd11, cd12, cd13, cd14⟩
              · rintro L a w ⟨b0, b1, b2, b3, b4, b5, b6, b7, b8, b9, b10, b11, b12, b13, b14, x101, x102, x103, x104, x105, x106, x107, x108, x109, x110, x111, x112, x113, x114, x115, rfl, rfl, hb, cd0, cd1, cd2, cd3, cd4, cd5, cd6, cd7, cd8, cd9, cd10, cd11, cd12, cd13, cd14⟩ hf hd
                have hf' : b10 = false := hf
                subst hf'
                have d9 : b9 = true := hd ⟨9, .data⟩ (by simp) rfl
                subst d9
                have d2 : b2 = true := hd ⟨2, .guard⟩ (by simp) rfl
                subst d2
                obtain rfl := cd9.out rfl
                obtain rfl := cd2.out rfl
                clear hf hd
                try simp only [List.setIfInBounds_toArray, List.set_cons_zero, List.set_cons_succ]
                have z0 := (hb.cell hzB).trans e0
                have z1 := (hb.cell hzB).trans e1
                have z2 := (hb.cell hzB).trans e2
                intro K hK
                rw [if_pos (by rfl)]
                go_simp
                exact hK.out _ _ ⟨b0, b1, true, b3, b4, b5, b6, b7, b8, true, true, b11, b12, b13, b14, x101, x102, .bool false, x104, x105, x106, x107, x108, x109, .pointer (some ⟨zb, zo + C * 3, none⟩), (.agg #[.int .i64 k1, .int .i64 m1, .string s1]), x112, x113, x114, x115, (by simp only [Act.put, List.setIfInBounds_toArray, List.set_cons_zero, List.set_cons_succ]), (by simp only [Act.put, List.setIfInBounds_toArray, List.set_cons_zero, List.set_cons_succ]), hb, cd0, cd1, (fun _ => rfl), cd3, cd4, cd5, cd6, cd7, cd8, (fun _ => rfl), (fun _ => rfl), cd11, cd12, cd13, cd14⟩
              · rintro L a w ⟨b0, b1, b2, b3, b4, b5, b6, b7, b8, b9, b10, b11, b12, b13, b14, x101, x102, x103, x104, x105, x106, x107, x108, x109, x110, x111, x112, x113, x114, x115, rfl, rfl, hb, cd0, cd1, cd2, cd3, cd4, cd5, cd6, cd7, cd8, cd9, cd10, cd11, cd12, cd13, cd14⟩ hf hd
                have hf' : b11 = false := hf
                subst hf'
                have d2 : b2 = true := hd ⟨2, .guard⟩ (by simp) rfl
                subst d2
                obtain rfl := cd2.out rfl
                clear hf hd
                try simp only [List.setIfInBounds_toArray, List.set_cons_zero, List.set_cons_succ]
                have z0 := (hb.cell hglB).trans d0
                have z1 := (hb.cell hglB).trans d1
                have z2 := (hb.cell hglB).trans d2
                intro K hK
                rw [if_pos (by rfl)]
                go_simp
                exact hK.out _ _ ⟨b0, b1, true, b3, b4, b5, b6, b7, b8, b9, b10, true, b12, b13, b14, x101, x102, .bool false, x104, x105, x106, x107, x108, x109, x110, x111, (.agg #[.int .i64 k3, .int .i64 m3, .string s3]), x113, x114, x115, (by simp only [Act.put, List.setIfInBounds_toArray, List.set_cons_zero, List.set_cons_succ]), (by simp only [Act.put, List.setIfInBounds_toArray, List.set_cons_zero, List.set_cons_succ]), hb, cd0, cd1, (fun _ => rfl), cd3, cd4, cd5, cd6, cd7, cd8, cd9, cd10, (fun _ => rfl), cd12, cd13, cd14⟩
              · rintro L a w ⟨b0, b1, b2, b3, b4, b5, b6, b7, b8, b9, b10, b11, b12, b13, b14, x101, x102, x103, x104, x105, x106, x107, x108, x109, x110, x111, x112, x113, x114, x115, rfl, rfl, hb, cd0, cd1, cd2, cd3, cd4, cd5, cd6, cd7, cd8, cd9, cd10, cd11, cd12, cd13, cd14⟩ hf hd
                have hf' : b12 = false := hf
                subst hf'
                have d10 : b10 = true := hd ⟨10, .data⟩ (by simp) rfl
                subst d10
                have d11 : b11 = true := hd ⟨11, .data⟩ (by simp) rfl
                subst d11
                have d2 : b2 = true := hd ⟨2, .chain⟩ (by simp) rfl
                subst d2
                obtain rfl := cd10.out rfl
                obtain rfl := cd11.out rfl
                obtain rfl := cd2.out rfl
                clear hf hd
                try simp only [List.setIfInBounds_toArray, List.set_cons_zero, List.set_cons_succ]
                intro K hK
                rw [if_pos (by rfl)]
                go_simp
                go_at_call 35
                refine (HC _).mono ?_
                rintro e w' ⟨rfl, bx⟩
                exact hK.out _ _ ⟨b0, b1, true, b3, b4, b5, b6, b7, b8, b9, true, true, true, b13, b14, x101, x102, .bool false, x104, x105, x106, x107, x108, x109, x110, .agg #[.int .i64 k1, .int .i64 m1, .string s1], .agg #[.int .i64 k3, .int .i64 m3, .string s3], (.int .i64 CM), x114, x115, (by simp only [Act.put, List.setIfInBounds_toArray, List.set_cons_zero, List.set_cons_succ]), (by simp only [Act.put, List.setIfInBounds_toArray, List.set_cons_zero, List.set_cons_succ]), hb.trans (bx.mono (Nat.le_trans hB0 hb.size)), cd0, cd1, (fun _ => rfl), cd3, cd4, cd5, cd6, cd7, cd8, cd9, (fun _ => rfl), (fun _ => rfl), (fun _ => rfl), cd13, cd14⟩
              · rintro L a w ⟨b0, b1, b2, b3, b4, b5, b6, b7, b8, b9, b10, b11, b12, b13, b14, x101, x102, x103, x104, x105, x106, x107, x108, x109, x110, x111, x112, x113, x114, x115, rfl, rfl, hb, cd0, cd1, cd2, cd3, cd4, cd5, cd6, cd7, cd8, cd9, cd10, cd11, cd12, cd13, cd14⟩ hf hd
                have hf' : b13 = false := hf
                subst hf'
                have d12 : b12 = true := hd ⟨12, .data⟩ (by simp) rfl
                subst d12
                have d2 : b2 = true := hd ⟨2, .guard⟩ (by simp) rfl
                subst d2
                obtain rfl := cd12.out rfl
                obtain rfl := cd2.out rfl
                clear hf hd
                try simp only [List.setIfInBounds_toArray, List.set_cons_zero, List.set_cons_succ]
                intro K hK
                rw [if_pos (by rfl)]
                go_simp
                rw [HCN.out]
                exact hK.out _ _ ⟨b0, b1, true, b3, b4, b5, b6, b7, b8, b9, b10, b11, true, true, b14, x101, x102, .bool false, x104, x105, x106, x107, x108, x109, x110, x111, x112, .int .i64 CM, (.bool false), x115, (by simp only [Act.put, List.setIfInBounds_toArray, List.set_cons_zero, List.set_cons_succ]), (by simp only [Act.put, List.setIfInBounds_toArray, List.set_cons_zero, List.set_cons_succ]), hb, cd0, cd1, (fun _ => rfl), cd3, cd4, cd5, cd6, cd7, cd8, cd9, cd10, cd11, (fun _ => rfl), (fun _ => rfl), cd14⟩
              · rintro L a w ⟨b0, b1, b2, b3, b4, b5, b6, b7, b8, b9, b10, b11, b12, b13, b14, x101, x102, x103, x104, x105, x106, x107, x108, x109, x110, x111, x112, x113, x114, x115, rfl, rfl, hb, cd0, cd1, cd2, cd3, cd4, cd5, cd6, cd7, cd8, cd9, cd10, cd11, cd12, cd13, cd14⟩ hf hd
                have hf' : b14 = false := hf
                subst hf'
                have d2 : b2 = true := hd ⟨2, .data⟩ (by simp) rfl
                subst d2
                have d13 : b13 = true := hd ⟨13, .data⟩ (by simp) rfl
                subst d13
                obtain rfl := cd2.out rfl
                obtain rfl := cd13.out rfl
                clear hf hd
                try simp only [List.setIfInBounds_toArray, List.set_cons_zero, List.set_cons_succ]
                intro K hK
                rw [if_pos (by rfl)]
                go_simp
                exact hK.out _ _ ⟨b0, b1, true, b3, b4, b5, b6, b7, b8, b9, b10, b11, b12, true, true, x101, x102, .bool false, x104, x105, x106, x107, x108, x109, x110, x111, x112, x113, .bool false, (.bool false), (by simp only [Act.put, List.setIfInBounds_toArray, List.set_cons_zero, List.set_cons_succ]), (by simp only [Act.put, List.setIfInBounds_toArray, List.set_cons_zero, List.set_cons_succ]), hb, cd0, cd1, (fun _ => rfl), cd3, cd4, cd5, cd6, cd7, cd8, cd9, cd10, cd11, cd12, (fun _ => rfl), (fun _ => rfl)⟩
            · rintro act V24 ⟨b0, b1, b2, b3, b4, b5, b6, b7, b8, b9, b10, b11, b12, b13, b14, x101, x102, x103, x104, x105, x106, x107, x108, x109, x110, x111, x112, x113, x114, x115, hL, rfl, hb, cd0, cd1, cd2, cd3, cd4, cd5, cd6, cd7, cd8, cd9, cd10, cd11, cd12, cd13, cd14⟩
              have hL' : [true, true, true, true, true, true, true, true, true, true, true, true, true, true, true] = [b0, b1, b2, b3, b4, b5, b6, b7, b8, b9, b10, b11, b12, b13, b14] := congrArg Array.toList hL
              simp only [List.cons.injEq, and_true] at hL'
              obtain ⟨rfl, rfl, rfl, rfl, rfl, rfl, rfl, rfl, rfl, rfl, rfl, rfl, rfl, rfl, rfl⟩ := hL'
              obtain rfl := cd0.out rfl
              obtain rfl := cd1.out rfl
              obtain rfl := cd2.out rfl
              obtain rfl := cd3.out rfl
              obtain rfl := cd4.out rfl
              obtain rfl := cd5.out rfl
              obtain rfl := cd6.out rfl
              obtain rfl := cd7.out rfl
              obtain rfl := cd8.out rfl
              obtain rfl := cd9.out rfl
              obtain rfl := cd10.out rfl
              obtain rfl := cd11.out rfl
              obtain rfl := cd12.out rfl
              obtain rfl := cd13.out rfl
              obtain rfl := cd14.out rfl
              clear hL cd0 cd1 cd2 cd3 cd4 cd5 cd6 cd7 cd8 cd9 cd10 cd11 cd12 cd13 cd14
              simp only [List.setIfInBounds_toArray, List.set_cons_zero, List.set_cons_succ]
              have bV24 := bV23.trans (((Below.refl _ _).drew.trans hb).mono bV23.size)
              have hVl24 := hVl23.past ((Below.refl _ _).drew.trans hb)
              clear hb
              have t4 := (bV24.cell hgtY).trans T4.out
              have hcq := (bV24.cell hbZ).trans HCQ.out
              have e0 := (bV24.cell hzZ).trans E0.out
              have e1 := (bV24.cell hzZ).trans E1.out
              have e2 := (bV24.cell hzZ).trans E2.out
              obtain ⟨c0, c1, c2, d3, d4, d5, -⟩ := id hVl24
              go_wp2_with fail
              go_roundw
              case rel => exact ⟨j + 1, k1, m1, s1, by omega, by go_num, hVl24.set k1 m1 s1, HV1.out, HN.out, ((bV24.setCell (p := ⟨gl, 0, none⟩) hYgl _).setCell (p := ⟨gl, 1, none⟩) hYgl _).setCell (p := ⟨gl, 2, none⟩) hYgl _⟩
              case measure => simp [intOf]; omega
        · have hjli : ¬ ((j : Int) < (ln : Int)) := by omega
          go_wp2_with fail
          go_ret
          exact ⟨rfl, by rw [HP.out]; exact BY.trans (hB.mono hpY)⟩
end Go.Proofs.Ytjacaammlkjodaa
