/-
  IndexTwo, walked (by gen_itwo.py).
-/
import Derived.Test.YtjacaammlkjodaaAt11
import Derived.Test.YtjacaammlkjodaaIxN
import Derived.Test.YtjacaammlkjodaaRSame5
import Derived.Test.YtjacaammlkjodaaOwnV
namespace Go.Proofs.Ytjacaammlkjodaa
open Go.RowKit
set_option linter.unusedSimpArgs false
def HiLe (w : World) (n : Nat) : Prop := n ≤ w.heap.size
theorem HiLe.past {w w' : World} {n : Nat} (h : HiLe w n) (b : Below w.heap.size w w') : HiLe w' n := Nat.le_trans h b.size
def IsXs (w : World) (lo x : Nat) (col key : Int) (es : List En) : Prop := ∃ hi, hi ≤ w.heap.size ∧ IsX w lo hi x col key es
theorem IsXs.past {w w' : World} {lo x : Nat} {col key : Int} {es : List En} (h : IsXs w lo x col key es) (b : Below w.heap.size w w') : IsXs w' lo x col key es := by
  obtain ⟨hi, h1, h2⟩ := h
  exact ⟨hi, Nat.le_trans h1 b.size, h2.past b⟩
def VCell (w : World) (b o : Nat) (k m : Int) (s : ByteArray) : Prop := b < w.heap.size ∧ w.cell? ⟨b, o, none⟩ = some (.int .i64 k) ∧ w.cell? ⟨b, o + 1, none⟩ = some (.int .i64 m) ∧ w.cell? ⟨b, o + 2, none⟩ = some (.string s)
theorem VCell.past {w w' : World} {b o : Nat} {k m : Int} {s : ByteArray} (h : VCell w b o k m s) (bx : Below w.heap.size w w') : VCell w' b o k m s := by
  obtain ⟨h1, h2, h3, h4⟩ := h
  exact ⟨Nat.lt_of_lt_of_le h1 bx.size, (bx.cell h1).trans h2, (bx.cell h1).trans h3, (bx.cell h1).trans h4⟩
theorem VCell.grown {w w' : World} {b o x : Nat} {k m : Int} {s : ByteArray} (h : VCell w b o k m s) (g : w.grownBy w' (some x)) (hne : b ≠ x) : VCell w' b o k m s := by
  obtain ⟨h1, h2, h3, h4⟩ := h
  have q : ∀ i, (some (⟨b, i, none⟩ : Addr).block) ≠ some x := fun i e => hne (Option.some.inj e)
  exact ⟨Nat.lt_of_lt_of_le h1 g.size, g.cell h2 (q _), g.cell h3 (q _), g.cell h4 (q _)⟩
theorem IsX.ge {w : World} {lo hi x : Nat} {col key : Int} {es : List En} (h : IsX w lo hi x col key es) : lo ≤ x ∧ x < hi := by
  obtain ⟨p, h1, h2, h3, h4, h5⟩ := h
  exact ⟨h2, h3⟩
theorem srt_uniq {K : Nat} {rs : List (List V)} (h : Srt K rs) {i j : Nat} {a b : List V} (ha : rs[i]? = some a) (hb : rs[j]? = some b) (e : kOf K a = kOf K b) : i = j := by
  have h' : rs.Pairwise fun a b => (kOf K a).cmp (kOf K b) < 0 := h
  obtain ⟨h1, rfl⟩ := List.getElem?_eq_some_iff.1 ha
  obtain ⟨h2, rfl⟩ := List.getElem?_eq_some_iff.1 hb
  rw [List.pairwise_iff_getElem] at h'
  rcases Nat.lt_trichotomy i j with q | q | q
  · have := h' i j h1 h2 q
    rw [e, V.cmp_self] at this
    omega
  · exact q
  · have := h' j i h2 h1 q
    rw [e, V.cmp_self] at this
    omega
/-- at over rows that fit: one answer, in whatever world. -/
theorem at_fits {F : List Co} {N K : Nat} (hl : F.length = N) (hK : K < N) {rs : List (List V)} (h : Fits F K rs) (v : V) (hn : rs.length ≤ 1000) : ∃ AI : Int, (∀ (w : World) (B : Nat) (ro : Option Addr) (rn rc : Nat), IsRR EV w B ro rn rc rs → Calls Try.prog 36 #[.slice ro rn rc, .int .i64 (K : Nat), vv v.k v.n v.s] w fun e w' => e = .returned (.int .i64 AI) ∧ Below w.heap.size w w') ∧ ((∃ (i : Nat) (r : List V), AI = (i : Int) ∧ rs[i]? = some r ∧ kOf K r = v) ∨ AI = -1 ∧ ∀ r ∈ rs, kOf K r ≠ v) := by
  have hV : ∀ r ∈ rs, K < r.length := fun r hr => (fits_at hl hK h hr).1
  by_cases hq : ∃ (i : Nat) (r : List V), rs[i]? = some r ∧ kOf K r = v
  · obtain ⟨i, r, h1, h2⟩ := hq
    refine ⟨(i : Int), fun w B ro rn rc hR => (at11_any w B ro rn rc rs hR K hV v (by have := hR.len; omega)).mono ?_, .inl ⟨i, r, rfl, h1, h2⟩⟩
    rintro e w' ⟨⟨j, r', rfl, h3, h4⟩ | ⟨rfl, h3⟩, bx⟩
    · obtain rfl := srt_uniq h.srt h1 h3 (h2.trans h4.symm)
      exact ⟨rfl, bx⟩
    · exact absurd h2 (h3 r (List.mem_of_getElem? h1))
  · refine ⟨-1, fun w B ro rn rc hR => (at11_any w B ro rn rc rs hR K hV v (by have := hR.len; omega)).mono ?_, .inr ⟨rfl, fun r hr e => ?_⟩⟩
    · rintro e w' ⟨⟨j, r', rfl, h3, h4⟩ | ⟨rfl, h3⟩, bx⟩
      · exact absurd ⟨j, r', h3, h4⟩ hq
      · exact ⟨rfl, bx⟩
    · obtain ⟨i, hi⟩ := List.getElem?_of_mem hr
      exact hq ⟨i, r, hi, e⟩
/-- What stands while the region's operations come up. -/
inductive ITwo7 (B : Nat) (gt : Nat) (gs : Nat) (NM : List UInt8) (g : Nat) (N : Nat) (cg : Nat) (KI : Nat) (only : Bool) (ro : Option Addr) (rn : Nat) (rc : Nat) (EX : List En) (EY : List En) (a0 : Act) (w0 : World) (L : Array Bool) (a : Act) (w : World) : Prop
  | mk (b0 b1 b2 b3 b4 b5 b6 b7 b8 b9 : Bool) (x24 x25 x26 x27 x28 x29 x30 x31 x9 x10 : Value) (xa : Nat) (lx : Nat) (hx : Nat) (ya : Nat) (ly : Nat) (hy : Nat) (hL : L = #[b0, b1, b2, b3, b4, b5, b6, b7, b8, b9]) (ha : a = ⟨((((((((((a0.tmps.setIfInBounds 24 x24).setIfInBounds 25 x25).setIfInBounds 26 x26).setIfInBounds 27 x27).setIfInBounds 28 x28).setIfInBounds 29 x29).setIfInBounds 30 x30).setIfInBounds 31 x31).setIfInBounds 9 x9).setIfInBounds 10 x10), a0.defers⟩) (hb : Below B w0 w) (cd0 : Hid (b0 = true → x24 = .agg #[.string (bsOf NM), .slice (some ⟨g, 0, none⟩) N cg, .int .i64 (KI : Nat), .bool only, .slice ro rn rc])) (cd1 : Hid (b1 = true → x25 = .agg #[.string (bsOf NM), .slice (some ⟨g, 0, none⟩) N cg, .int .i64 (KI : Nat), .bool only, .slice ro rn rc])) (cd2 : Hid (b2 = true → x26 = .pointer (some ⟨gs, 2, none⟩))) (cd3 : Hid (b3 = true → x27 = .int .i64 (KI : Nat))) (cd4 : Hid (b4 = true → x28 = .pointer (some ⟨xa, 0, none⟩))) (cd5 : Hid (b5 = true → x29 = .agg #[.string (bsOf NM), .slice (some ⟨g, 0, none⟩) N cg, .int .i64 (KI : Nat), .bool only, .slice ro rn rc])) (cd6 : Hid (b6 = true → x30 = .agg #[.string (bsOf NM), .slice (some ⟨g, 0, none⟩) N cg, .int .i64 (KI : Nat), .bool only, .slice ro rn rc])) (cd7 : Hid (b7 = true → x31 = .pointer (some ⟨ya, 0, none⟩))) (cd8 : Hid (b8 = true → x9 = .pointer (some ⟨xa, 0, none⟩))) (cd9 : Hid (b9 = true → x10 = .pointer (some ⟨ya, 0, none⟩))) (f_x : Hid (b4 = true → IsX w lx hx xa KI KI EX)) (f_y : Hid (b7 = true → IsX w ly hy ya 0 KI EY)) (f_hx : Hid (b4 = true → HiLe w hx)) (f_hy : Hid (b7 = true → HiLe w hy)) (f_lx : Hid (b4 = true → B ≤ lx)) (f_ly : Hid (b7 = true → B ≤ ly)) (f_d : Hid ((b4 = true → b7 = true → hx ≤ ly ∨ hy ≤ lx))) (w_8_4 : Hid (b8 = true → b4 = true)) (w_9_7 : Hid (b9 = true → b7 = true)) : ITwo7 B gt gs NM g N cg KI only ro rn rc EX EY a0 w0 L a w
/-- What stands while the region's operations come up. -/
inductive ITwo10 (B : Nat) (gt : Nat) (gs : Nat) (ro : Option Addr) (rn : Nat) (rc : Nat) (fb : Nat) (fo : Nat) (N : Nat) (fc : Nat) (KI : Nat) (k1 : Int) (m1 : Int) (s1 : ByteArray) (AI : Int) (a0 : Act) (w0 : World) (L : Array Bool) (a : Act) (w : World) : Prop
  | mk (b0 b1 b2 b3 b4 b5 b6 b7 b8 b9 b10 : Bool) (x38 x39 x40 x41 x42 x43 x44 x45 x46 x47 x48 : Value) (hL : L = #[b0, b1, b2, b3, b4, b5, b6, b7, b8, b9, b10]) (ha : a = ⟨(((((((((((a0.tmps.setIfInBounds 38 x38).setIfInBounds 39 x39).setIfInBounds 40 x40).setIfInBounds 41 x41).setIfInBounds 42 x42).setIfInBounds 43 x43).setIfInBounds 44 x44).setIfInBounds 45 x45).setIfInBounds 46 x46).setIfInBounds 47 x47).setIfInBounds 48 x48), a0.defers⟩) (hb : Below B w0 w) (cd0 : Hid (b0 = true → x38 = .pointer (some ⟨gt, 4, none⟩))) (cd1 : Hid (b1 = true → x39 = .slice ro rn rc)) (cd2 : Hid (b2 = true → x40 = .pointer (some ⟨gs, 2, none⟩))) (cd3 : Hid (b3 = true → x41 = .int .i64 (KI : Nat))) (cd4 : Hid (b4 = true → x42 = .slice (some ⟨fb, fo, none⟩) N fc)) (cd5 : Hid (b5 = true → x43 = .pointer (some ⟨gs, 2, none⟩))) (cd6 : Hid (b6 = true → x44 = .int .i64 (KI : Nat))) (cd7 : Hid (b7 = true → x45 = .pointer (some ⟨fb, fo + KI * 3, none⟩))) (cd8 : Hid (b8 = true → x46 = .agg #[.int .i64 k1, .int .i64 m1, .string s1])) (cd9 : Hid (b9 = true → x47 = .int .i64 AI)) (cd10 : Hid (b10 = true → x48 = .bool (decide (AI < 0)))) : ITwo10 B gt gs ro rn rc fb fo N fc KI k1 m1 s1 AI a0 w0 L a w
/-- What stands while the region's operations come up. -/
inductive ITwo12 (B : Nat) (xa : Nat) (ya : Nat) (gt : Nat) (gs : Nat) (b : Nat) (off : Nat) (rn : Nat) (rc : Nat) (fb : Nat) (fo : Nat) (N : Nat) (fc : Nat) (KI : Nat) (k1 : Int) (m1 : Int) (s1 : ByteArray) (i0 : Nat) (za : Option Addr) (zn : Nat) (zc : Nat) (wa : Option Addr) (wn : Nat) (wc : Nat) (FS : List V) (lx : Nat) (hx : Nat) (ly : Nat) (hy : Nat) (EX : List En) (EY : List En) (es2 : List En) (a0 : Act) (w0 : World) (L : Array Bool) (a : Act) (w : World) : Prop
  | mk (b0 b1 b2 b3 b4 b5 b6 b7 b8 b9 b10 b11 b12 b13 b14 b15 : Bool) (x52 x53 x54 x55 x56 x57 x58 x59 x60 x61 x62 x63 x64 x65 x66 x67 : Value) (hL : L = #[b0, b1, b2, b3, b4, b5, b6, b7, b8, b9, b10, b11, b12, b13, b14, b15]) (ha : a = ⟨((((((((((((((((a0.tmps.setIfInBounds 52 x52).setIfInBounds 53 x53).setIfInBounds 54 x54).setIfInBounds 55 x55).setIfInBounds 56 x56).setIfInBounds 57 x57).setIfInBounds 58 x58).setIfInBounds 59 x59).setIfInBounds 60 x60).setIfInBounds 61 x61).setIfInBounds 62 x62).setIfInBounds 63 x63).setIfInBounds 64 x64).setIfInBounds 65 x65).setIfInBounds 66 x66).setIfInBounds 67 x67), a0.defers⟩) (hb : Below B w0 w) (cd0 : Hid (b0 = true → x52 = .pointer (some ⟨xa, 0, none⟩))) (cd1 : Hid (b1 = true → x53 = .pointer (some ⟨gt, 4, none⟩))) (cd2 : Hid (b2 = true → x54 = .slice (some ⟨b, off, none⟩) rn rc)) (cd3 : Hid (b3 = true → x55 = .pointer (some ⟨gt, 4, none⟩))) (cd4 : Hid (b4 = true → x56 = .slice (some ⟨b, off, none⟩) rn rc)) (cd5 : Hid (b5 = true → x57 = .pointer (some ⟨gs, 2, none⟩))) (cd6 : Hid (b6 = true → x58 = .int .i64 (KI : Nat))) (cd7 : Hid (b7 = true → x59 = .slice (some ⟨fb, fo, none⟩) N fc)) (cd8 : Hid (b8 = true → x60 = .pointer (some ⟨gs, 2, none⟩))) (cd9 : Hid (b9 = true → x61 = .int .i64 (KI : Nat))) (cd10 : Hid (b10 = true → x62 = .pointer (some ⟨fb, fo + KI * 3, none⟩))) (cd11 : Hid (b11 = true → x63 = .agg #[.int .i64 k1, .int .i64 m1, .string s1])) (cd12 : Hid (b12 = true → x64 = .int .i64 (i0 : Nat))) (cd13 : Hid (b13 = true → x65 = .pointer (some ⟨b, off + i0, none⟩))) (cd14 : Hid (b14 = true → x66 = .slice za zn zc)) (cd15 : Hid (b15 = true → x67 = .tuple #[])) (f_x : Hid (b15 = false → IsX w lx hx xa KI KI EX)) (f_xs : Hid (b15 = true → IsXs w lx xa KI KI es2)) (f_y : Hid (IsX w ly hy ya 0 KI EY)) (f_w : Hid (IsR EV w wa wn wc FS)) (f_v : Hid (VCell w fb (fo + KI * 3) k1 m1 s1)) : ITwo12 B xa ya gt gs b off rn rc fb fo N fc KI k1 m1 s1 i0 za zn zc wa wn wc FS lx hx ly hy EX EY es2 a0 w0 L a w
set_option maxRecDepth 100000 in
set_option maxHeartbeats 8000000 in
theorem indexTwo_walk (l : List UInt8) (ao : Option Addr) (n c : Nat) (key : Int) (only : Bool) (cs : List Co) (na : Option Addr) (nl nc : Nat) (ns : List Int) (nn : Int) (w : World) (_hl : l.length ≤ maxLen) (_hkey : (Lit.int .i64 key).wf = true) (h : IsR encCo w ao n c cs) (_hcs : ∀ x ∈ cs, (Lit.int .i64 x.kind).wf = true ∧ x.name.length ≤ maxLen) (hI : IsR EI w na nl nc ns) (hIw : ∀ x ∈ ns, (Lit.int .i64 x).wf = true) (hnn : (Lit.int .i64 nn).wf = true) :
    Calls Try.prog 7 #[scV l ao n c key only, .slice na nl nc, .int .i64 nn] w (Told w true) := by
  unfold scV
  have X0 := ScB.new w l ao n c key only
  have B0 := (Below.refl w.heap.size w).alloc (Nat.le_refl _) (.cells #[.string (bsOf l), .slice ao n c, .int .i64 key, .bool only] 24)
  go_enter Try.func7, Try.ntmps7
  go_upto_region 1 with fail
  generalize w.alloc (.cells #[.string (bsOf l), .slice ao n c, .int .i64 key, .bool only] 24) = W0 at X0 B0 ⊢
  obtain ⟨p0, hp0⟩ : ∃ p0, w.heap.size = p0 := ⟨_, rfl⟩
  have HP := Lib.hid hp0
  rw [hp0] at X0 B0
  simp only [hp0]
  clear hp0
  have hW0 : p0 ≤ W0.heap.size := Nat.le_of_lt X0.lt
  go_upto_region 3 with (go_at_call 13; refine (known11 _).mono ?_; rintro e w1 ⟨rfl, b1⟩)
  have X1 := X0.past b1
  have B1 := B0.trans (b1.mono hW0)
  have hW1 := Nat.le_trans hW0 b1.size
  have h1 : IsR encCo w1 ao n c cs := h.past (by rw [HP.out]; exact B1)
  have HFw := few9_any w1 l ao n c cs key only h1
  unfold scV at HFw
  have y0 : w1.cell? ⟨p0, 0, none⟩ = some (.string (bsOf l)) := cell_blk X1 rfl
  have y1 : w1.cell? ⟨p0, 1, none⟩ = some (.slice ao n c) := cell_blk X1 rfl
  have y2 : w1.cell? ⟨p0, 2, none⟩ = some (.int .i64 key) := cell_blk X1 rfl
  have y3 : w1.cell? ⟨p0, 3, none⟩ = some (.bool only) := cell_blk X1 rfl
  cases hfw : fewS l cs
  · rw [hfw] at HFw
    go_wp2_with (go_at_call 14; refine HFw.mono ?_; rintro e w2 ⟨rfl, b2⟩)
    go_ret
    exact ⟨rfl, by rw [HP.out]; exact B1.trans (b2.mono hW1)⟩
  rw [hfw] at HFw
  have hn9 : n ≤ 9 := by
    unfold fewS at hfw
    simp only [Bool.and_eq_true, decide_eq_true_eq] at hfw
    have := h.len
    omega
  clear hfw
  go_upto_region 5 with (go_at_call 14; refine HFw.mono ?_; rintro e w2 ⟨rfl, b2⟩)
  have X2 := X1.past b2
  have B2 := B1.trans (b2.mono hW1)
  have hW2 := Nat.le_trans hW1 b2.size
  have h2 := h1.past b2
  clear y0 y1 y2 y3 HFw
  have y0 : w2.cell? ⟨p0, 0, none⟩ = some (.string (bsOf l)) := cell_blk X2 rfl
  have y1 : w2.cell? ⟨p0, 1, none⟩ = some (.slice ao n c) := cell_blk X2 rfl
  have y2 : w2.cell? ⟨p0, 2, none⟩ = some (.int .i64 key) := cell_blk X2 rfl
  have y3 : w2.cell? ⟨p0, 3, none⟩ = some (.bool only) := cell_blk X2 rfl
  have HG := good9_any w2 l ao n c cs key 3 only h2 (by omega)
  unfold GoodIs scV at HG
  have hNp := gN_pos cs
  have hKl := (gKey_lt cs key).1
  have hFl := gFin_len cs key
  have hFk := gFin_kinds cs key
  have hFn := gFin_keyN cs key
  obtain ⟨N, hN⟩ : ∃ N, gN cs = N := ⟨_, rfl⟩
  obtain ⟨KI, hKI⟩ : ∃ KI, gKey cs key = KI := ⟨_, rfl⟩
  obtain ⟨F, hF⟩ : ∃ F, gFin cs key = F := ⟨_, rfl⟩
  obtain ⟨NM, hNM⟩ : ∃ NM, gNm 3 = NM := ⟨_, rfl⟩
  simp only [hN, hKI, hF, hNM] at HG hNp hKl hFl hFk hFn
  clear hN hKI hF hNM
  go_upto_region 6 with (go_at_call 15; refine HG.mono ?_; rintro e w3 ⟨g, cg, rfl, og, b3, q3⟩)
  have hW3 := Nat.le_trans hW2 b3.size
  have B3 : Below p0 w (w3.alloc (.cells #[.string (bsOf NM), .slice (some ⟨g, 0, none⟩) N cg, .int .i64 (KI : Nat), .bool only] 24)) := (B2.trans (b3.mono hW2)).alloc hW3 _
  have XS : Bk (w3.alloc (.cells #[.string (bsOf NM), .slice (some ⟨g, 0, none⟩) N cg, .int .i64 (KI : Nat), .bool only] 24)) w3.heap.size (scC NM (some ⟨g, 0, none⟩) N cg (KI : Nat) only) 24 := Bk.new w3 _ _
  have oG := og.alloc (.cells #[.string (bsOf NM), .slice (some ⟨g, 0, none⟩) N cg, .int .i64 (KI : Nat), .bool only] 24)
  have hgl := og.lt
  have hg0 : p0 ≤ g := Nat.le_trans hW2 q3
  generalize w3.alloc (.cells #[.string (bsOf NM), .slice (some ⟨g, 0, none⟩) N cg, .int .i64 (KI : Nat), .bool only] 24) = W at B3 XS oG ⊢
  obtain ⟨gs, hgs⟩ : ∃ gs, w3.heap.size = gs := ⟨_, rfl⟩
  rw [hgs] at XS hgl hW3
  simp only [hgs]
  obtain ⟨z0, z1, z2, z3⟩ := sc_cells XS
  have hgsW : gs < W.heap.size := XS.lt
  have iG := oG.isR
  clear hgs og b3 q3 HG y0 y1 y2 y3 X2 X1 X0 B2 B1 B0 b1 b2 h2 h1 hW2 hW1 hW0
  have hpW : p0 ≤ W.heap.size := by omega
  have hgW : g < W.heap.size := by omega
  have HFl := fill_any W NM g N cg KI only F iG hFl hNp hFk hKl na nl nc ns (hI.past (by rw [HP.out]; exact B3)) hIw hgW
  unfold scV at HFl
  go_upto_region 7 with (go_at_call 17; refine HFl.mono ?_; rintro e w5 ⟨ro, rn, rc, rs, rfl, iR, hFi, hrn, b5⟩; unfold tbV)
  have bT : Below W.heap.size W (w5.alloc (.cells #[.string (bsOf NM), .slice (some ⟨g, 0, none⟩) N cg, .int .i64 (KI : Nat), .bool only, .slice ro rn rc] 33)) := b5.alloc b5.size _
  have hT : Bk (w5.alloc (.cells #[.string (bsOf NM), .slice (some ⟨g, 0, none⟩) N cg, .int .i64 (KI : Nat), .bool only, .slice ro rn rc] 33)) w5.heap.size (tbC NM (some ⟨g, 0, none⟩) N cg (KI : Nat) only ro rn rc) 33 := Bk.new w5 _ _
  have iR6 := iR.past ((Below.refl w5.heap.size w5).alloc (Nat.le_refl _) (.cells #[.string (bsOf NM), .slice (some ⟨g, 0, none⟩) N cg, .int .i64 (KI : Nat), .bool only, .slice ro rn rc] 33))
  generalize w5.alloc (.cells #[.string (bsOf NM), .slice (some ⟨g, 0, none⟩) N cg, .int .i64 (KI : Nat), .bool only, .slice ro rn rc] 33) = Z6 at bT hT iR6 ⊢
  obtain ⟨gt, hgt⟩ : ∃ gt, w5.heap.size = gt := ⟨_, rfl⟩
  rw [hgt] at hT
  simp only [hgt]
  clear hgt HFl iR b5
  have X6 := XS.past bT
  have iG6 := iG.past bT
  have B6 := B3.trans (bT.mono hpW)
  have hp6 := Nat.le_trans hpW bT.size
  have hgt6 := hT.lt
  have hgs6 := X6.lt
  have hrl := iR6.len
  have HO0 := fun w => of_any w NM (some ⟨g, 0, none⟩) N cg KI only ro rn rc
  unfold tbV at HO0
  have HO := HO0
  have HBx : ∀ w', Below Z6.heap.size Z6.drew w' → _ := fun w' hb => build_any w' NM (some ⟨g, 0, none⟩) N cg KI only ro rn rc _ rs (iR6.past ((Below.refl _ _).drew.trans hb)) KI (fits_vok hFl hKl hKl hFi) (by omega)
  have HBy0 : ∀ w', Below Z6.heap.size Z6.drew w' → _ := fun w' hb => build_any w' NM (some ⟨g, 0, none⟩) N cg KI only ro rn rc _ rs (iR6.past ((Below.refl _ _).drew.trans hb)) 0 (fits_vok hFl hKl (show 0 < N by omega) hFi) (by omega)
  have hEX := ix_len hFl hKl hKl hFi
  have hEYl := ix_len hFl hKl (show 0 < N by omega) hFi
  obtain ⟨-, hMX⟩ := ix_spec hFl hKl hKl hFi
  have HVK := Lib.hid (fits_vok hFl hKl hKl hFi)
  obtain ⟨EX, hex⟩ : ∃ es, ixOf KI KI rs = es := ⟨_, rfl⟩
  obtain ⟨EY, hey⟩ : ∃ es, ixOf 0 KI rs = es := ⟨_, rfl⟩
  simp only [hex] at HBx hEX hMX
  simp only [hey] at HBy0 hEYl
  unfold tbV at HBx HBy0
  have HBy : ∀ w', Below Z6.heap.size Z6.drew w' → Calls Try.prog 18 #[.agg #[.string (bsOf NM), .slice (some ⟨g, 0, none⟩) N cg, .int .i64 (KI : Nat), .bool only, .slice ro rn rc], .int .i64 0] w' fun e w'' => ∃ x, e = .returned (.pointer (some ⟨x, 0, none⟩)) ∧ IsX w'' w'.heap.size w''.heap.size x 0 KI EY ∧ Below w'.heap.size w' w'' := HBy0
  rw [hrl] at hEX hEYl
  have HMX := Lib.hid hMX
  obtain ⟨t0, t1, t2, t3, t4⟩ := tb_cells hT
  clear z0 z1 z2 z3
  obtain ⟨z0, z1, z2, z3⟩ := sc_cells X6
  have T4 := Lib.hid t4
  have Z2 := Lib.hid z2
  have Z0 := Lib.hid z0
  have Z1 := Lib.hid z1
  have Z3 := Lib.hid z3
  have hgtB := hgt6
  have hgsB := hgs6
  have hB0 := Nat.le_refl Z6.heap.size
  obtain ⟨AI, hAt, hAI⟩ := at_fits hFl hKl hFi (kOf KI (fitRow F nn)) (by omega)
  have HAT := Lib.hid hAt
  have HAI := Lib.hid hAI
  have HFV : Hid (Vok (kOf KI (fitRow F nn))) := by
    obtain ⟨co, hco⟩ : ∃ c, F[KI]? = some c := ⟨F[KI]'(by omega), List.getElem?_eq_getElem _⟩
    show Vok _
    rw [kOf_fit hco]
    exact fit_vok _ _ _
  clear HO0 HBy0 hex hey hMX hAt hAI
  refine region_inv (ITwo7 Z6.heap.size gt gs NM g N cg KI only ro rn rc EX EY) (by kernel_rfl) (by kernel_rfl) ?_ ?_ ?_
  · exact ⟨false, false, false, false, false, false, false, false, false, false, undef, undef, undef, undef, undef, undef, undef, undef, undef, undef, 0, 0, 0, 0, 0, 0, rfl, (by simp only [Act.put, List.setIfInBounds_toArray, List.set_cons_zero, List.set_cons_succ]), Below.refl _ _, (fun h => by cases h), (fun h => by cases h), (fun h => by cases h), (fun h => by cases h), (fun h => by cases h), (fun h => by cases h), (fun h => by cases h), (fun h => by cases h), (fun h => by cases h), (fun h => by cases h), (fun h => by cases h), (fun h => by cases h), (fun h => by cases h), (fun h => by cases h), (fun h => by cases h), (fun h => by cases h), (fun h _ => by cases h), (fun h => by cases h), (fun h => by cases h)⟩
  · refine ⟨?_, ?_, ?_, ?_, ?_, ?_, ?_, ?_, ?_, ?_, trivial⟩
    · rintro L a w ⟨b0, b1, b2, b3, b4, b5, b6, b7, b8, b9, x24, x25, x26, x27, x28, x29, x30, x31, x9, x10, xa, lx, hx, ya, ly, hy, rfl, rfl, hb, cd0, cd1, cd2, cd3, cd4, cd5, cd6, cd7, cd8, cd9, f_x, f_y, f_hx, f_hy, f_lx, f_ly, f_d, w_8_4, w_9_7⟩ hf hd
      have hf' : b0 = false := hf
      subst hf'
      clear hf hd
      have W_d := f_d.out
      try simp only [List.setIfInBounds_toArray, List.set_cons_zero, List.set_cons_succ]
      have z0 := (hb.cell hgtB).trans t0
      have z1 := (hb.cell hgtB).trans t1
      have z2 := (hb.cell hgtB).trans t2
      have z3 := (hb.cell hgtB).trans t3
      have z4 := (hb.cell hgtB).trans t4
      intro K hK
      rw [if_pos (by rfl)]
      go_simp
      exact hK.out _ _ ⟨true, b1, b2, b3, b4, b5, b6, b7, b8, b9, (.agg #[.string (bsOf NM), .slice (some ⟨g, 0, none⟩) N cg, .int .i64 (KI : Nat), .bool only, .slice ro rn rc]), x25, x26, x27, x28, x29, x30, x31, x9, x10, xa, lx, hx, ya, ly, hy, (by simp only [Act.put, List.setIfInBounds_toArray, List.set_cons_zero, List.set_cons_succ]), (by simp only [Act.put, List.setIfInBounds_toArray, List.set_cons_zero, List.set_cons_succ]), hb, (fun _ => rfl), cd1, cd2, cd3, cd4, cd5, cd6, cd7, cd8, cd9, f_x, f_y, f_hx, f_hy, f_lx, f_ly, f_d, w_8_4, w_9_7⟩
    · rintro L a w ⟨b0, b1, b2, b3, b4, b5, b6, b7, b8, b9, x24, x25, x26, x27, x28, x29, x30, x31, x9, x10, xa, lx, hx, ya, ly, hy, rfl, rfl, hb, cd0, cd1, cd2, cd3, cd4, cd5, cd6, cd7, cd8, cd9, f_x, f_y, f_hx, f_hy, f_lx, f_ly, f_d, w_8_4, w_9_7⟩ hf hd
      have hf' : b1 = false := hf
      subst hf'
      have d0 : b0 = true := hd ⟨0, .data⟩ (by simp) rfl
      subst d0
      obtain rfl := cd0.out rfl
      clear hf hd
      have W_d := f_d.out
      try simp only [List.setIfInBounds_toArray, List.set_cons_zero, List.set_cons_succ]
      intro K hK
      rw [if_pos (by rfl)]
      go_simp
      go_at_call 19
      refine (HO _).mono ?_
      rintro e w' ⟨rfl, bx⟩
      exact hK.out _ _ ⟨true, true, b2, b3, b4, b5, b6, b7, b8, b9, .agg #[.string (bsOf NM), .slice (some ⟨g, 0, none⟩) N cg, .int .i64 (KI : Nat), .bool only, .slice ro rn rc], (.agg #[.string (bsOf NM), .slice (some ⟨g, 0, none⟩) N cg, .int .i64 (KI : Nat), .bool only, .slice ro rn rc]), x26, x27, x28, x29, x30, x31, x9, x10, xa, lx, hx, ya, ly, hy, (by simp only [Act.put, List.setIfInBounds_toArray, List.set_cons_zero, List.set_cons_succ]), (by simp only [Act.put, List.setIfInBounds_toArray, List.set_cons_zero, List.set_cons_succ]), hb.trans (bx.mono (Nat.le_trans hB0 hb.size)), (fun _ => rfl), (fun _ => rfl), cd2, cd3, cd4, cd5, cd6, cd7, cd8, cd9, (fun h0 => (f_x.out h0).past bx), (fun h0 => (f_y.out h0).past bx), (fun h0 => (f_hx.out h0).past bx), (fun h0 => (f_hy.out h0).past bx), f_lx, f_ly, f_d, w_8_4, w_9_7⟩
    · rintro L a w ⟨b0, b1, b2, b3, b4, b5, b6, b7, b8, b9, x24, x25, x26, x27, x28, x29, x30, x31, x9, x10, xa, lx, hx, ya, ly, hy, rfl, rfl, hb, cd0, cd1, cd2, cd3, cd4, cd5, cd6, cd7, cd8, cd9, f_x, f_y, f_hx, f_hy, f_lx, f_ly, f_d, w_8_4, w_9_7⟩ hf hd
      have hf' : b2 = false := hf
      subst hf'
      clear hf hd
      have W_d := f_d.out
      try simp only [List.setIfInBounds_toArray, List.set_cons_zero, List.set_cons_succ]
      intro K hK
      rw [if_pos (by rfl)]
      go_simp
      exact hK.out _ _ ⟨b0, b1, true, b3, b4, b5, b6, b7, b8, b9, x24, x25, (.pointer (some ⟨gs, 2, none⟩)), x27, x28, x29, x30, x31, x9, x10, xa, lx, hx, ya, ly, hy, (by simp only [Act.put, List.setIfInBounds_toArray, List.set_cons_zero, List.set_cons_succ]), (by simp only [Act.put, List.setIfInBounds_toArray, List.set_cons_zero, List.set_cons_succ]), hb, cd0, cd1, (fun _ => rfl), cd3, cd4, cd5, cd6, cd7, cd8, cd9, f_x, f_y, f_hx, f_hy, f_lx, f_ly, f_d, w_8_4, w_9_7⟩
    · rintro L a w ⟨b0, b1, b2, b3, b4, b5, b6, b7, b8, b9, x24, x25, x26, x27, x28, x29, x30, x31, x9, x10, xa, lx, hx, ya, ly, hy, rfl, rfl, hb, cd0, cd1, cd2, cd3, cd4, cd5, cd6, cd7, cd8, cd9, f_x, f_y, f_hx, f_hy, f_lx, f_ly, f_d, w_8_4, w_9_7⟩ hf hd
      have hf' : b3 = false := hf
      subst hf'
      have d2 : b2 = true := hd ⟨2, .data⟩ (by simp) rfl
      subst d2
      obtain rfl := cd2.out rfl
      clear hf hd
      have W_d := f_d.out
      try simp only [List.setIfInBounds_toArray, List.set_cons_zero, List.set_cons_succ]
      have z0 := (hb.cell hgsB).trans z2
      intro K hK
      rw [if_pos (by rfl)]
      go_simp
      exact hK.out _ _ ⟨b0, b1, true, true, b4, b5, b6, b7, b8, b9, x24, x25, .pointer (some ⟨gs, 2, none⟩), (.int .i64 (KI : Nat)), x28, x29, x30, x31, x9, x10, xa, lx, hx, ya, ly, hy, (by simp only [Act.put, List.setIfInBounds_toArray, List.set_cons_zero, List.set_cons_succ]), (by simp only [Act.put, List.setIfInBounds_toArray, List.set_cons_zero, List.set_cons_succ]), hb, cd0, cd1, (fun _ => rfl), (fun _ => rfl), cd4, cd5, cd6, cd7, cd8, cd9, f_x, f_y, f_hx, f_hy, f_lx, f_ly, f_d, w_8_4, w_9_7⟩
    · rintro L a w ⟨b0, b1, b2, b3, b4, b5, b6, b7, b8, b9, x24, x25, x26, x27, x28, x29, x30, x31, x9, x10, xa, lx, hx, ya, ly, hy, rfl, rfl, hb, cd0, cd1, cd2, cd3, cd4, cd5, cd6, cd7, cd8, cd9, f_x, f_y, f_hx, f_hy, f_lx, f_ly, f_d, w_8_4, w_9_7⟩ hf hd
      have hf' : b4 = false := hf
      subst hf'
      have d1 : b1 = true := hd ⟨1, .data⟩ (by simp) rfl
      subst d1
      have d3 : b3 = true := hd ⟨3, .data⟩ (by simp) rfl
      subst d3
      obtain rfl := cd1.out rfl
      obtain rfl := cd3.out rfl
      clear hf hd
      have W_d := f_d.out
      try simp only [List.setIfInBounds_toArray, List.set_cons_zero, List.set_cons_succ]
      intro K hK
      rw [if_pos (by rfl)]
      go_simp
      go_at_call 18
      refine (HBx _ hb).mono ?_
      rintro e w' ⟨nx, rfl, hX9, bx⟩
      have e_8 : b8 = false := by cases hq : b8 with | false => rfl | true => exact absurd (w_8_4.out hq) (by simp)
      subst e_8
      exact hK.out _ _ ⟨b0, true, b2, true, true, b5, b6, b7, false, b9, x24, .agg #[.string (bsOf NM), .slice (some ⟨g, 0, none⟩) N cg, .int .i64 (KI : Nat), .bool only, .slice ro rn rc], x26, .int .i64 (KI : Nat), (.pointer (some ⟨nx, 0, none⟩)), x29, x30, x31, x9, x10, nx, w.heap.size, w'.heap.size, ya, ly, hy, (by simp only [Act.put, List.setIfInBounds_toArray, List.set_cons_zero, List.set_cons_succ]), (by simp only [Act.put, List.setIfInBounds_toArray, List.set_cons_zero, List.set_cons_succ]), hb.trans (bx.mono (Nat.le_trans hB0 hb.size)), cd0, (fun _ => rfl), cd2, (fun _ => rfl), (fun _ => rfl), cd5, cd6, cd7, (fun h => by cases h), cd9, (fun _ => hX9), (fun h0 => (f_y.out h0).past bx), (fun _ => Nat.le_refl _), (fun h0 => (f_hy.out h0).past bx), (fun _ => Nat.le_trans hB0 hb.size), f_ly, (fun _ h7 => .inr (f_hy.out h7)), (fun _ => rfl), w_9_7⟩
    · rintro L a w ⟨b0, b1, b2, b3, b4, b5, b6, b7, b8, b9, x24, x25, x26, x27, x28, x29, x30, x31, x9, x10, xa, lx, hx, ya, ly, hy, rfl, rfl, hb, cd0, cd1, cd2, cd3, cd4, cd5, cd6, cd7, cd8, cd9, f_x, f_y, f_hx, f_hy, f_lx, f_ly, f_d, w_8_4, w_9_7⟩ hf hd
      have hf' : b5 = false := hf
      subst hf'
      clear hf hd
      have W_d := f_d.out
      try simp only [List.setIfInBounds_toArray, List.set_cons_zero, List.set_cons_succ]
      have z0 := (hb.cell hgtB).trans t0
      have z1 := (hb.cell hgtB).trans t1
      have z2 := (hb.cell hgtB).trans t2
      have z3 := (hb.cell hgtB).trans t3
      have z4 := (hb.cell hgtB).trans t4
      intro K hK
      rw [if_pos (by rfl)]
      go_simp
      exact hK.out _ _ ⟨b0, b1, b2, b3, b4, true, b6, b7, b8, b9, x24, x25, x26, x27, x28, (.agg #[.string (bsOf NM), .slice (some ⟨g, 0, none⟩) N cg, .int .i64 (KI : Nat), .bool only, .slice ro rn rc]), x30, x31, x9, x10, xa, lx, hx, ya, ly, hy, (by simp only [Act.put, List.setIfInBounds_toArray, List.set_cons_zero, List.set_cons_succ]), (by simp only [Act.put, List.setIfInBounds_toArray, List.set_cons_zero, List.set_cons_succ]), hb, cd0, cd1, cd2, cd3, cd4, (fun _ => rfl), cd6, cd7, cd8, cd9, f_x, f_y, f_hx, f_hy, f_lx, f_ly, f_d, w_8_4, w_9_7⟩
    · rintro L a w ⟨b0, b1, b2, b3, b4, b5, b6, b7, b8, b9, x24, x25, x26, x27, x28, x29, x30, x31, x9, x10, xa, lx, hx, ya, ly, hy, rfl, rfl, hb, cd0, cd1, cd2, cd3, cd4, cd5, cd6, cd7, cd8, cd9, f_x, f_y, f_hx, f_hy, f_lx, f_ly, f_d, w_8_4, w_9_7⟩ hf hd
      have hf' : b6 = false := hf
      subst hf'
      have d5 : b5 = true := hd ⟨5, .data⟩ (by simp) rfl
      subst d5
      have d4 : b4 = true := hd ⟨4, .chain⟩ (by simp) rfl
      subst d4
      obtain rfl := cd5.out rfl
      obtain rfl := cd4.out rfl
      clear hf hd
      have W_x := f_x.out rfl
      have W_hx := f_hx.out rfl
      have W_lx := f_lx.out rfl
      have W_d := f_d.out
      try simp only [List.setIfInBounds_toArray, List.set_cons_zero, List.set_cons_succ]
      intro K hK
      rw [if_pos (by rfl)]
      go_simp
      go_at_call 19
      refine (HO _).mono ?_
      rintro e w' ⟨rfl, bx⟩
      exact hK.out _ _ ⟨b0, b1, b2, b3, true, true, true, b7, b8, b9, x24, x25, x26, x27, .pointer (some ⟨xa, 0, none⟩), .agg #[.string (bsOf NM), .slice (some ⟨g, 0, none⟩) N cg, .int .i64 (KI : Nat), .bool only, .slice ro rn rc], (.agg #[.string (bsOf NM), .slice (some ⟨g, 0, none⟩) N cg, .int .i64 (KI : Nat), .bool only, .slice ro rn rc]), x31, x9, x10, xa, lx, hx, ya, ly, hy, (by simp only [Act.put, List.setIfInBounds_toArray, List.set_cons_zero, List.set_cons_succ]), (by simp only [Act.put, List.setIfInBounds_toArray, List.set_cons_zero, List.set_cons_succ]), hb.trans (bx.mono (Nat.le_trans hB0 hb.size)), cd0, cd1, cd2, cd3, (fun _ => rfl), (fun _ => rfl), (fun _ => rfl), cd7, cd8, cd9, (fun h0 => (f_x.out h0).past bx), (fun h0 => (f_y.out h0).past bx), (fun h0 => (f_hx.out h0).past bx), (fun h0 => (f_hy.out h0).past bx), f_lx, f_ly, f_d, (fun _ => rfl), w_9_7⟩
    · rintro L a w ⟨b0, b1, b2, b3, b4, b5, b6, b7, b8, b9, x24, x25, x26, x27, x28, x29, x30, x31, x9, x10, xa, lx, hx, ya, ly, hy, rfl, rfl, hb, cd0, cd1, cd2, cd3, cd4, cd5, cd6, cd7, cd8, cd9, f_x, f_y, f_hx, f_hy, f_lx, f_ly, f_d, w_8_4, w_9_7⟩ hf hd
      have hf' : b7 = false := hf
      subst hf'
      have d6 : b6 = true := hd ⟨6, .data⟩ (by simp) rfl
      subst d6
      obtain rfl := cd6.out rfl
      clear hf hd
      have W_d := f_d.out
      try simp only [List.setIfInBounds_toArray, List.set_cons_zero, List.set_cons_succ]
      intro K hK
      rw [if_pos (by rfl)]
      go_simp
      go_at_call 18
      refine (HBy _ hb).mono ?_
      rintro e w' ⟨nx, rfl, hX9, bx⟩
      have e_9 : b9 = false := by cases hq : b9 with | false => rfl | true => exact absurd (w_9_7.out hq) (by simp)
      subst e_9
      exact hK.out _ _ ⟨b0, b1, b2, b3, b4, b5, true, true, b8, false, x24, x25, x26, x27, x28, x29, .agg #[.string (bsOf NM), .slice (some ⟨g, 0, none⟩) N cg, .int .i64 (KI : Nat), .bool only, .slice ro rn rc], (.pointer (some ⟨nx, 0, none⟩)), x9, x10, xa, lx, hx, nx, w.heap.size, w'.heap.size, (by simp only [Act.put, List.setIfInBounds_toArray, List.set_cons_zero, List.set_cons_succ]), (by simp only [Act.put, List.setIfInBounds_toArray, List.set_cons_zero, List.set_cons_succ]), hb.trans (bx.mono (Nat.le_trans hB0 hb.size)), cd0, cd1, cd2, cd3, cd4, cd5, (fun _ => rfl), (fun _ => rfl), cd8, (fun h => by cases h), (fun h0 => (f_x.out h0).past bx), (fun _ => hX9), (fun h0 => (f_hx.out h0).past bx), (fun _ => Nat.le_refl _), f_lx, (fun _ => Nat.le_trans hB0 hb.size), (fun h4 _ => .inl (f_hx.out h4)), w_8_4, (fun _ => rfl)⟩
    · rintro L a w ⟨b0, b1, b2, b3, b4, b5, b6, b7, b8, b9, x24, x25, x26, x27, x28, x29, x30, x31, x9, x10, xa, lx, hx, ya, ly, hy, rfl, rfl, hb, cd0, cd1, cd2, cd3, cd4, cd5, cd6, cd7, cd8, cd9, f_x, f_y, f_hx, f_hy, f_lx, f_ly, f_d, w_8_4, w_9_7⟩ hf hd
      have hf' : b8 = false := hf
      subst hf'
      have d4 : b4 = true := hd ⟨4, .data⟩ (by simp) rfl
      subst d4
      have d7 : b7 = true := hd ⟨7, .chain⟩ (by simp) rfl
      subst d7
      have d0 : b0 = true := hd ⟨0, .phase⟩ (by simp) rfl
      subst d0
      have d1 : b1 = true := hd ⟨1, .phase⟩ (by simp) rfl
      subst d1
      have d2 : b2 = true := hd ⟨2, .phase⟩ (by simp) rfl
      subst d2
      have d3 : b3 = true := hd ⟨3, .phase⟩ (by simp) rfl
      subst d3
      obtain rfl := cd4.out rfl
      obtain rfl := cd7.out rfl
      obtain rfl := cd0.out rfl
      obtain rfl := cd1.out rfl
      obtain rfl := cd2.out rfl
      obtain rfl := cd3.out rfl
      clear hf hd
      have W_x := f_x.out rfl
      have W_y := f_y.out rfl
      have W_hx := f_hx.out rfl
      have W_hy := f_hy.out rfl
      have W_lx := f_lx.out rfl
      have W_ly := f_ly.out rfl
      have W_d := f_d.out
      try simp only [List.setIfInBounds_toArray, List.set_cons_zero, List.set_cons_succ]
      intro K hK
      rw [if_pos (by rfl)]
      go_simp
      exact hK.out _ _ ⟨true, true, true, true, true, b5, b6, true, true, b9, .agg #[.string (bsOf NM), .slice (some ⟨g, 0, none⟩) N cg, .int .i64 (KI : Nat), .bool only, .slice ro rn rc], .agg #[.string (bsOf NM), .slice (some ⟨g, 0, none⟩) N cg, .int .i64 (KI : Nat), .bool only, .slice ro rn rc], .pointer (some ⟨gs, 2, none⟩), .int .i64 (KI : Nat), .pointer (some ⟨xa, 0, none⟩), x29, x30, .pointer (some ⟨ya, 0, none⟩), (.pointer (some ⟨xa, 0, none⟩)), x10, xa, lx, hx, ya, ly, hy, (by simp only [Act.put, List.setIfInBounds_toArray, List.set_cons_zero, List.set_cons_succ]), (by simp only [Act.put, List.setIfInBounds_toArray, List.set_cons_zero, List.set_cons_succ]), hb, (fun _ => rfl), (fun _ => rfl), (fun _ => rfl), (fun _ => rfl), (fun _ => rfl), cd5, cd6, (fun _ => rfl), (fun _ => rfl), cd9, f_x, f_y, f_hx, f_hy, f_lx, f_ly, f_d, (fun _ => rfl), (fun _ => rfl)⟩
    · rintro L a w ⟨b0, b1, b2, b3, b4, b5, b6, b7, b8, b9, x24, x25, x26, x27, x28, x29, x30, x31, x9, x10, xa, lx, hx, ya, ly, hy, rfl, rfl, hb, cd0, cd1, cd2, cd3, cd4, cd5, cd6, cd7, cd8, cd9, f_x, f_y, f_hx, f_hy, f_lx, f_ly, f_d, w_8_4, w_9_7⟩ hf hd
      have hf' : b9 = false := hf
      subst hf'
      have d7 : b7 = true := hd ⟨7, .data⟩ (by simp) rfl
      subst d7
      have d8 : b8 = true := hd ⟨8, .chain⟩ (by simp) rfl
      subst d8
      have d0 : b0 = true := hd ⟨0, .phase⟩ (by simp) rfl
      subst d0
      have d1 : b1 = true := hd ⟨1, .phase⟩ (by simp) rfl
      subst d1
      have d2 : b2 = true := hd ⟨2, .phase⟩ (by simp) rfl
      subst d2
      have d3 : b3 = true := hd ⟨3, .phase⟩ (by simp) rfl
      subst d3
      have d4 : b4 = true := hd ⟨4, .phase⟩ (by simp) rfl
      subst d4
      have d5 : b5 = true := hd ⟨5, .phase⟩ (by simp) rfl
      subst d5
      have d6 : b6 = true := hd ⟨6, .phase⟩ (by simp) rfl
      subst d6
      obtain rfl := cd7.out rfl
      obtain rfl := cd8.out rfl
      obtain rfl := cd0.out rfl
      obtain rfl := cd1.out rfl
      obtain rfl := cd2.out rfl
      obtain rfl := cd3.out rfl
      obtain rfl := cd4.out rfl
      obtain rfl := cd5.out rfl
      obtain rfl := cd6.out rfl
      clear hf hd
      have W_x := f_x.out rfl
      have W_y := f_y.out rfl
      have W_hx := f_hx.out rfl
      have W_hy := f_hy.out rfl
      have W_lx := f_lx.out rfl
      have W_ly := f_ly.out rfl
      have W_d := f_d.out
      try simp only [List.setIfInBounds_toArray, List.set_cons_zero, List.set_cons_succ]
      intro K hK
      rw [if_pos (by rfl)]
      go_simp
      exact hK.out _ _ ⟨true, true, true, true, true, true, true, true, true, true, .agg #[.string (bsOf NM), .slice (some ⟨g, 0, none⟩) N cg, .int .i64 (KI : Nat), .bool only, .slice ro rn rc], .agg #[.string (bsOf NM), .slice (some ⟨g, 0, none⟩) N cg, .int .i64 (KI : Nat), .bool only, .slice ro rn rc], .pointer (some ⟨gs, 2, none⟩), .int .i64 (KI : Nat), .pointer (some ⟨xa, 0, none⟩), .agg #[.string (bsOf NM), .slice (some ⟨g, 0, none⟩) N cg, .int .i64 (KI : Nat), .bool only, .slice ro rn rc], .agg #[.string (bsOf NM), .slice (some ⟨g, 0, none⟩) N cg, .int .i64 (KI : Nat), .bool only, .slice ro rn rc], .pointer (some ⟨ya, 0, none⟩), .pointer (some ⟨xa, 0, none⟩), (.pointer (some ⟨ya, 0, none⟩)), xa, lx, hx, ya, ly, hy, (by simp only [Act.put, List.setIfInBounds_toArray, List.set_cons_zero, List.set_cons_succ]), (by simp only [Act.put, List.setIfInBounds_toArray, List.set_cons_zero, List.set_cons_succ]), hb, (fun _ => rfl), (fun _ => rfl), (fun _ => rfl), (fun _ => rfl), (fun _ => rfl), (fun _ => rfl), (fun _ => rfl), (fun _ => rfl), (fun _ => rfl), (fun _ => rfl), f_x, f_y, f_hx, f_hy, f_lx, f_ly, f_d, (fun _ => rfl), (fun _ => rfl)⟩
  · rintro act V7 ⟨b0, b1, b2, b3, b4, b5, b6, b7, b8, b9, x24, x25, x26, x27, x28, x29, x30, x31, x9, x10, xa, lx, hx, ya, ly, hy, hL, rfl, hb, cd0, cd1, cd2, cd3, cd4, cd5, cd6, cd7, cd8, cd9, f_x, f_y, f_hx, f_hy, f_lx, f_ly, f_d, w_8_4, w_9_7⟩
    have hL' : [true, true, true, true, true, true, true, true, true, true] = [b0, b1, b2, b3, b4, b5, b6, b7, b8, b9] := congrArg Array.toList hL
    simp only [List.cons.injEq, and_true] at hL'
    obtain ⟨rfl, rfl, rfl, rfl, rfl, rfl, rfl, rfl, rfl, rfl⟩ := hL'
    obtain rfl := cd0.out rfl
    obtain rfl := cd1.out rfl
    obtain rfl := cd2.out rfl
    obtain rfl := cd3.out rfl
    obtain rfl := cd4.out rfl
    obtain rfl := cd5.out rfl
    obtain rfl := cd6.out rfl
    obtain rfl := cd7.out rfl
    obtain rfl := cd8.out rfl
    obtain rfl := cd9.out rfl
    have W_x := f_x.out rfl
    have W_y := f_y.out rfl
    have W_hx := f_hx.out rfl
    have W_hy := f_hy.out rfl
    have W_lx := f_lx.out rfl
    have W_ly := f_ly.out rfl
    have W_d := f_d.out
    clear hL f_x f_y f_hx f_hy f_lx f_ly f_d cd0 cd1 cd2 cd3 cd4 cd5 cd6 cd7 cd8 cd9 w_8_4 w_9_7
    simp only [List.setIfInBounds_toArray, List.set_cons_zero, List.set_cons_succ]
    have W_d2 := W_d rfl rfl
    have bV := (Below.refl Z6.heap.size Z6).drew.trans hb
    clear W_d hb
    obtain ⟨x, hxx⟩ : ∃ x, xa = x := ⟨_, rfl⟩
    obtain ⟨y, hyy⟩ : ∃ y, ya = y := ⟨_, rfl⟩
    subst hxx hyy
    clear HBx HBy HO t0 t1 t2 t3 t4 z0 z1 z2 z3 hgtB hgsB
    have hxg := W_x.ge
    have hyg := W_y.ge
    have hxd : xa < ly ∨ hy ≤ xa := by omega
    have hxB : Z6.heap.size ≤ xa := by omega
    have hxp : p0 ≤ xa := by omega
    have hy7 : hy ≤ V7.heap.size := W_hy
    have hx7 : hx ≤ V7.heap.size := W_hx
    have B7 := B6.trans (bV.mono hp6)
    have hp7 := Nat.le_trans hp6 bV.size
    have HF1 := from_any V7 _ _ ya 0 KI EY W_y hy7 (by omega) V0 Vok.none 99
    obtain ⟨FS, hFS⟩ : ∃ FS, fromE V0 99 EY = FS := ⟨_, rfl⟩
    have HFS := Lib.hid hFS
    rw [hFS] at HF1
    obtain ⟨wn, hwn⟩ : ∃ wn, FS.length = wn := ⟨_, rfl⟩
    have HWN := Lib.hid hwn
    rw [hwn] at HF1
    have HF2 : Calls Try.prog 33 #[.pointer (some ⟨ya, 0, none⟩), .agg #[.int .i64 0, .int .i64 0, .string ⟨#[]⟩], .int .i64 99] V7 fun e w' => ∃ ao c, e = .returned (.slice ao wn c) ∧ TxtR EV w' 46 V7.heap.size ao wn c FS ∧ Below V7.heap.size V7 w' := HF1
    clear hFS hwn HF1
    go_upto_region 9 with (go_at_call 33; refine HF2.mono ?_; rintro e w8 ⟨wa, wc, rfl, oW, b8⟩)
    have hwx : ∀ a, wa = some a → some a.block ≠ some xa := fun a ha e => by
      rcases oW.either with ⟨rfl, -, -, -⟩ | ⟨gq, rfl, -, hq⟩
      · cases ha
      · obtain rfl := Option.some.inj ha
        have := Option.some.inj e
        simp only at this
        omega
    have bZ8 := bV.trans (b8.mono bV.size)
    have z0 := (bZ8.cell hgs6).trans Z0.out
    have z1 := (bZ8.cell hgs6).trans Z1.out
    have z2 := (bZ8.cell hgs6).trans Z2.out
    have z3 := (bZ8.cell hgs6).trans Z3.out
    have hgs8 := Nat.lt_of_lt_of_le hgs6 bZ8.size
    have HFt := fit_any w8 NM (some ⟨g, 0, none⟩) N cg F KI only (iG6.past bZ8) (by omega) hFk nn hnn
    unfold scV at HFt
    go_upto_region 10 with (go_at_call 21; refine HFt.mono ?_; rintro e Z9 ⟨fa, fc, rfl, oF, b9⟩)
    have hfa : ∀ a, fa = some a → w8.heap.size ≤ a.block := fun a ha => by
      rcases oF.either with ⟨rfl, -, -, -⟩ | ⟨gq, rfl, -, hq⟩
      · cases ha
      · obtain rfl := Option.some.inj ha
        exact hq
    obtain ⟨fb, fo, rfl, hfB, hcc⟩ := oF.isR.open (by omega) (by decide)
    have hfb : w8.heap.size ≤ fb := hfa _ rfl
    have bZ := bZ8.trans (b9.mono bZ8.size)
    have b89 := b8.trans (b9.mono b8.size)
    have X9 := W_x.past b89
    have Y9 := W_y.past b89
    have iW9 := oW.isR.past b9
    have iF9 := oF.isR
    have B9 := B7.trans (b89.mono hp7)
    have hp9 := Nat.le_trans hp7 b89.size
    have hy9 := Nat.le_trans hy7 b89.size
    have hfx : fb ≠ xa := by have := b8.size; omega
    clear z0 z1 z2 z3 W_x W_y oW oF HFt HF2 b8 b9 b89 bZ8 bV B7 W_hx W_hy W_d2
    obtain ⟨co, hco⟩ : ∃ c, F[KI]? = some c := ⟨F[KI]'(by omega), List.getElem?_eq_getElem _⟩
    obtain ⟨⟨k1, m1, s1⟩, hkv⟩ : ∃ v, fitVal nn KI co = v := ⟨_, rfl⟩
    have hkr : (fitRow F nn)[KI]? = some ⟨k1, m1, s1⟩ := (fitRow_get hco).trans (by rw [hkv])
    obtain ⟨f0, f1, f2⟩ := cells_v hcc KI _ hkr
    have hKF := kOf_get hkr
    have HA0 : ∀ w', Below Z9.heap.size Z9.drew w' → Calls Try.prog 36 #[.slice ro rn rc, .int .i64 (KI : Nat), .agg #[.int .i64 k1, .int .i64 m1, .string s1]] w' fun e w'' => e = .returned (.int .i64 AI) ∧ Below w'.heap.size w' w'' := fun w' hb => by
      have := HAT.out w' _ ro rn rc (iR6.past (bZ.trans ((Below.refl _ _).drew.trans (hb.mono bZ.size))))
      rw [hKF] at this
      exact this
    have HA := HA0
    have hV9 : VCell Z9 fb (fo + KI * 3) k1 m1 s1 := ⟨hfB, f0, f1, f2⟩
    have t4 := (bZ.cell hgt6).trans T4.out
    have z2 := (bZ.cell hgs6).trans Z2.out
    have hgtB := Nat.lt_of_lt_of_le hgt6 bZ.size
    have hgsB := Nat.lt_of_lt_of_le hgs6 bZ.size
    have hB9 := Nat.le_refl Z9.heap.size
    have hKn : (KI : Int) < (N : Int) := by omega
    clear hco hkr hcc HA0 hB0
    have hB0 := hB9
    refine region_inv (ITwo10 Z9.heap.size gt gs ro rn rc fb fo N fc KI k1 m1 s1 AI) (by kernel_rfl) (by kernel_rfl) ?_ ?_ ?_
    · exact ⟨false, false, false, false, false, false, false, false, false, false, false, undef, undef, undef, undef, undef, undef, undef, undef, undef, undef, undef, rfl, (by simp only [Act.put, List.setIfInBounds_toArray, List.set_cons_zero, List.set_cons_succ]), Below.refl _ _, (fun h => by cases h), (fun h => by cases h), (fun h => by cases h), (fun h => by cases h), (fun h => by cases h), (fun h => by cases h), (fun h => by cases h), (fun h => by cases h), (fun h => by cases h), (fun h => by cases h), (fun h => by cases h)⟩
    · refine ⟨?_, ?_, ?_, ?_, ?_, ?_, ?_, ?_, ?_, ?_, ?_, trivial⟩
      · rintro L a w ⟨b0, b1, b2, b3, b4, b5, b6, b7, b8, b9, b10, x38, x39, x40, x41, x42, x43, x44, x45, x46, x47, x48, rfl, rfl, hb, cd0, cd1, cd2, cd3, cd4, cd5, cd6, cd7, cd8, cd9, cd10⟩ hf hd
        have hf' : b0 = false := hf
        subst hf'
        clear hf hd
        try simp only [List.setIfInBounds_toArray, List.set_cons_zero, List.set_cons_succ]
        intro K hK
        rw [if_pos (by rfl)]
        go_simp
        exact hK.out _ _ ⟨true, b1, b2, b3, b4, b5, b6, b7, b8, b9, b10, (.pointer (some ⟨gt, 4, none⟩)), x39, x40, x41, x42, x43, x44, x45, x46, x47, x48, (by simp only [Act.put, List.setIfInBounds_toArray, List.set_cons_zero, List.set_cons_succ]), (by simp only [Act.put, List.setIfInBounds_toArray, List.set_cons_zero, List.set_cons_succ]), hb, (fun _ => rfl), cd1, cd2, cd3, cd4, cd5, cd6, cd7, cd8, cd9, cd10⟩
      · rintro L a w ⟨b0, b1, b2, b3, b4, b5, b6, b7, b8, b9, b10, x38, x39, x40, x41, x42, x43, x44, x45, x46, x47, x48, rfl, rfl, hb, cd0, cd1, cd2, cd3, cd4, cd5, cd6, cd7, cd8, cd9, cd10⟩ hf hd
        have hf' : b1 = false := hf
        subst hf'
        have d0 : b0 = true := hd ⟨0, .data⟩ (by simp) rfl
        subst d0
        obtain rfl := cd0.out rfl
        clear hf hd
        try simp only [List.setIfInBounds_toArray, List.set_cons_zero, List.set_cons_succ]
        have z0 := (hb.cell hgtB).trans t4
        intro K hK
        rw [if_pos (by rfl)]
        go_simp
        exact hK.out _ _ ⟨true, true, b2, b3, b4, b5, b6, b7, b8, b9, b10, .pointer (some ⟨gt, 4, none⟩), (.slice ro rn rc), x40, x41, x42, x43, x44, x45, x46, x47, x48, (by simp only [Act.put, List.setIfInBounds_toArray, List.set_cons_zero, List.set_cons_succ]), (by simp only [Act.put, List.setIfInBounds_toArray, List.set_cons_zero, List.set_cons_succ]), hb, (fun _ => rfl), (fun _ => rfl), cd2, cd3, cd4, cd5, cd6, cd7, cd8, cd9, cd10⟩
      · rintro L a w ⟨b0, b1, b2, b3, b4, b5, b6, b7, b8, b9, b10, x38, x39, x40, x41, x42, x43, x44, x45, x46, x47, x48, rfl, rfl, hb, cd0, cd1, cd2, cd3, cd4, cd5, cd6, cd7, cd8, cd9, cd10⟩ hf hd
        have hf' : b2 = false := hf
        subst hf'
        clear hf hd
        try simp only [List.setIfInBounds_toArray, List.set_cons_zero, List.set_cons_succ]
        intro K hK
        rw [if_pos (by rfl)]
        go_simp
        exact hK.out _ _ ⟨b0, b1, true, b3, b4, b5, b6, b7, b8, b9, b10, x38, x39, (.pointer (some ⟨gs, 2, none⟩)), x41, x42, x43, x44, x45, x46, x47, x48, (by simp only [Act.put, List.setIfInBounds_toArray, List.set_cons_zero, List.set_cons_succ]), (by simp only [Act.put, List.setIfInBounds_toArray, List.set_cons_zero, List.set_cons_succ]), hb, cd0, cd1, (fun _ => rfl), cd3, cd4, cd5, cd6, cd7, cd8, cd9, cd10⟩
      · rintro L a w ⟨b0, b1, b2, b3, b4, b5, b6, b7, b8, b9, b10, x38, x39, x40, x41, x42, x43, x44, x45, x46, x47, x48, rfl, rfl, hb, cd0, cd1, cd2, cd3, cd4, cd5, cd6, cd7, cd8, cd9, cd10⟩ hf hd
        have hf' : b3 = false := hf
        subst hf'
        have d2 : b2 = true := hd ⟨2, .data⟩ (by simp) rfl
        subst d2
        obtain rfl := cd2.out rfl
        clear hf hd
        try simp only [List.setIfInBounds_toArray, List.set_cons_zero, List.set_cons_succ]
        have z0 := (hb.cell hgsB).trans z2
        intro K hK
        rw [if_pos (by rfl)]
        go_simp
        exact hK.out _ _ ⟨b0, b1, true, true, b4, b5, b6, b7, b8, b9, b10, x38, x39, .pointer (some ⟨gs, 2, none⟩), (.int .i64 (KI : Nat)), x42, x43, x44, x45, x46, x47, x48, (by simp only [Act.put, List.setIfInBounds_toArray, List.set_cons_zero, List.set_cons_succ]), (by simp only [Act.put, List.setIfInBounds_toArray, List.set_cons_zero, List.set_cons_succ]), hb, cd0, cd1, (fun _ => rfl), (fun _ => rfl), cd4, cd5, cd6, cd7, cd8, cd9, cd10⟩
      · rintro L a w ⟨b0, b1, b2, b3, b4, b5, b6, b7, b8, b9, b10, x38, x39, x40, x41, x42, x43, x44, x45, x46, x47, x48, rfl, rfl, hb, cd0, cd1, cd2, cd3, cd4, cd5, cd6, cd7, cd8, cd9, cd10⟩ hf hd
        have hf' : b4 = false := hf
        subst hf'
        clear hf hd
        try simp only [List.setIfInBounds_toArray, List.set_cons_zero, List.set_cons_succ]
        intro K hK
        rw [if_pos (by rfl)]
        go_simp
        exact hK.out _ _ ⟨b0, b1, b2, b3, true, b5, b6, b7, b8, b9, b10, x38, x39, x40, x41, (.slice (some ⟨fb, fo, none⟩) N fc), x43, x44, x45, x46, x47, x48, (by simp only [Act.put, List.setIfInBounds_toArray, List.set_cons_zero, List.set_cons_succ]), (by simp only [Act.put, List.setIfInBounds_toArray, List.set_cons_zero, List.set_cons_succ]), hb, cd0, cd1, cd2, cd3, (fun _ => rfl), cd5, cd6, cd7, cd8, cd9, cd10⟩
      · rintro L a w ⟨b0, b1, b2, b3, b4, b5, b6, b7, b8, b9, b10, x38, x39, x40, x41, x42, x43, x44, x45, x46, x47, x48, rfl, rfl, hb, cd0, cd1, cd2, cd3, cd4, cd5, cd6, cd7, cd8, cd9, cd10⟩ hf hd
        have hf' : b5 = false := hf
        subst hf'
        clear hf hd
        try simp only [List.setIfInBounds_toArray, List.set_cons_zero, List.set_cons_succ]
        intro K hK
        rw [if_pos (by rfl)]
        go_simp
        exact hK.out _ _ ⟨b0, b1, b2, b3, b4, true, b6, b7, b8, b9, b10, x38, x39, x40, x41, x42, (.pointer (some ⟨gs, 2, none⟩)), x44, x45, x46, x47, x48, (by simp only [Act.put, List.setIfInBounds_toArray, List.set_cons_zero, List.set_cons_succ]), (by simp only [Act.put, List.setIfInBounds_toArray, List.set_cons_zero, List.set_cons_succ]), hb, cd0, cd1, cd2, cd3, cd4, (fun _ => rfl), cd6, cd7, cd8, cd9, cd10⟩
      · rintro L a w ⟨b0, b1, b2, b3, b4, b5, b6, b7, b8, b9, b10, x38, x39, x40, x41, x42, x43, x44, x45, x46, x47, x48, rfl, rfl, hb, cd0, cd1, cd2, cd3, cd4, cd5, cd6, cd7, cd8, cd9, cd10⟩ hf hd
        have hf' : b6 = false := hf
        subst hf'
        have d5 : b5 = true := hd ⟨5, .data⟩ (by simp) rfl
        subst d5
        obtain rfl := cd5.out rfl
        clear hf hd
        try simp only [List.setIfInBounds_toArray, List.set_cons_zero, List.set_cons_succ]
        have z0 := (hb.cell hgsB).trans z2
        intro K hK
        rw [if_pos (by rfl)]
        go_simp
        exact hK.out _ _ ⟨b0, b1, b2, b3, b4, true, true, b7, b8, b9, b10, x38, x39, x40, x41, x42, .pointer (some ⟨gs, 2, none⟩), (.int .i64 (KI : Nat)), x45, x46, x47, x48, (by simp only [Act.put, List.setIfInBounds_toArray, List.set_cons_zero, List.set_cons_succ]), (by simp only [Act.put, List.setIfInBounds_toArray, List.set_cons_zero, List.set_cons_succ]), hb, cd0, cd1, cd2, cd3, cd4, (fun _ => rfl), (fun _ => rfl), cd7, cd8, cd9, cd10⟩
      · rintro L a w ⟨b0, b1, b2, b3, b4, b5, b6, b7, b8, b9, b10, x38, x39, x40, x41, x42, x43, x44, x45, x46, x47, x48, rfl, rfl, hb, cd0, cd1, cd2, cd3, cd4, cd5, cd6, cd7, cd8, cd9, cd10⟩ hf hd
        have hf' : b7 = false := hf
        subst hf'
        have d4 : b4 = true := hd ⟨4, .data⟩ (by simp) rfl
        subst d4
        have d6 : b6 = true := hd ⟨6, .data⟩ (by simp) rfl
        subst d6
        obtain rfl := cd4.out rfl
        obtain rfl := cd6.out rfl
        clear hf hd
        try simp only [List.setIfInBounds_toArray, List.set_cons_zero, List.set_cons_succ]
        intro K hK
        rw [if_pos (by rfl)]
        go_simp
        exact hK.out _ _ ⟨b0, b1, b2, b3, true, b5, true, true, b8, b9, b10, x38, x39, x40, x41, .slice (some ⟨fb, fo, none⟩) N fc, x43, .int .i64 (KI : Nat), (.pointer (some ⟨fb, fo + KI * 3, none⟩)), x46, x47, x48, (by simp only [Act.put, List.setIfInBounds_toArray, List.set_cons_zero, List.set_cons_succ]), (by simp only [Act.put, List.setIfInBounds_toArray, List.set_cons_zero, List.set_cons_succ]), hb, cd0, cd1, cd2, cd3, (fun _ => rfl), cd5, (fun _ => rfl), (fun _ => rfl), cd8, cd9, cd10⟩
      · rintro L a w ⟨b0, b1, b2, b3, b4, b5, b6, b7, b8, b9, b10, x38, x39, x40, x41, x42, x43, x44, x45, x46, x47, x48, rfl, rfl, hb, cd0, cd1, cd2, cd3, cd4, cd5, cd6, cd7, cd8, cd9, cd10⟩ hf hd
        have hf' : b8 = false := hf
        subst hf'
        have d7 : b7 = true := hd ⟨7, .data⟩ (by simp) rfl
        subst d7
        obtain rfl := cd7.out rfl
        clear hf hd
        try simp only [List.setIfInBounds_toArray, List.set_cons_zero, List.set_cons_succ]
        have z0 := (hb.cell hfB).trans f0
        have z1 := (hb.cell hfB).trans f1
        have z2 := (hb.cell hfB).trans f2
        intro K hK
        rw [if_pos (by rfl)]
        go_simp
        exact hK.out _ _ ⟨b0, b1, b2, b3, b4, b5, b6, true, true, b9, b10, x38, x39, x40, x41, x42, x43, x44, .pointer (some ⟨fb, fo + KI * 3, none⟩), (.agg #[.int .i64 k1, .int .i64 m1, .string s1]), x47, x48, (by simp only [Act.put, List.setIfInBounds_toArray, List.set_cons_zero, List.set_cons_succ]), (by simp only [Act.put, List.setIfInBounds_toArray, List.set_cons_zero, List.set_cons_succ]), hb, cd0, cd1, cd2, cd3, cd4, cd5, cd6, (fun _ => rfl), (fun _ => rfl), cd9, cd10⟩
      · rintro L a w ⟨b0, b1, b2, b3, b4, b5, b6, b7, b8, b9, b10, x38, x39, x40, x41, x42, x43, x44, x45, x46, x47, x48, rfl, rfl, hb, cd0, cd1, cd2, cd3, cd4, cd5, cd6, cd7, cd8, cd9, cd10⟩ hf hd
        have hf' : b9 = false := hf
        subst hf'
        have d1 : b1 = true := hd ⟨1, .data⟩ (by simp) rfl
        subst d1
        have d3 : b3 = true := hd ⟨3, .data⟩ (by simp) rfl
        subst d3
        have d8 : b8 = true := hd ⟨8, .data⟩ (by simp) rfl
        subst d8
        obtain rfl := cd1.out rfl
        obtain rfl := cd3.out rfl
        obtain rfl := cd8.out rfl
        clear hf hd
        try simp only [List.setIfInBounds_toArray, List.set_cons_zero, List.set_cons_succ]
        intro K hK
        rw [if_pos (by rfl)]
        go_simp
        go_at_call 36
        refine (HA _ hb).mono ?_
        rintro e w' ⟨rfl, bx⟩
        exact hK.out _ _ ⟨b0, true, b2, true, b4, b5, b6, b7, true, true, b10, x38, .slice ro rn rc, x40, .int .i64 (KI : Nat), x42, x43, x44, x45, .agg #[.int .i64 k1, .int .i64 m1, .string s1], (.int .i64 AI), x48, (by simp only [Act.put, List.setIfInBounds_toArray, List.set_cons_zero, List.set_cons_succ]), (by simp only [Act.put, List.setIfInBounds_toArray, List.set_cons_zero, List.set_cons_succ]), hb.trans (bx.mono (Nat.le_trans hB0 hb.size)), cd0, (fun _ => rfl), cd2, (fun _ => rfl), cd4, cd5, cd6, cd7, (fun _ => rfl), (fun _ => rfl), cd10⟩
      · rintro L a w ⟨b0, b1, b2, b3, b4, b5, b6, b7, b8, b9, b10, x38, x39, x40, x41, x42, x43, x44, x45, x46, x47, x48, rfl, rfl, hb, cd0, cd1, cd2, cd3, cd4, cd5, cd6, cd7, cd8, cd9, cd10⟩ hf hd
        have hf' : b10 = false := hf
        subst hf'
        have d9 : b9 = true := hd ⟨9, .data⟩ (by simp) rfl
        subst d9
        obtain rfl := cd9.out rfl
        clear hf hd
        try simp only [List.setIfInBounds_toArray, List.set_cons_zero, List.set_cons_succ]
        intro K hK
        rw [if_pos (by rfl)]
        go_simp
        exact hK.out _ _ ⟨b0, b1, b2, b3, b4, b5, b6, b7, b8, true, true, x38, x39, x40, x41, x42, x43, x44, x45, x46, .int .i64 AI, (.bool (decide (AI < 0))), (by simp only [Act.put, List.setIfInBounds_toArray, List.set_cons_zero, List.set_cons_succ]), (by simp only [Act.put, List.setIfInBounds_toArray, List.set_cons_zero, List.set_cons_succ]), hb, cd0, cd1, cd2, cd3, cd4, cd5, cd6, cd7, cd8, (fun _ => rfl), (fun _ => rfl)⟩
    · rintro act V10 ⟨b0, b1, b2, b3, b4, b5, b6, b7, b8, b9, b10, x38, x39, x40, x41, x42, x43, x44, x45, x46, x47, x48, hL, rfl, hb, cd0, cd1, cd2, cd3, cd4, cd5, cd6, cd7, cd8, cd9, cd10⟩
      have hL' : [true, true, true, true, true, true, true, true, true, true, true] = [b0, b1, b2, b3, b4, b5, b6, b7, b8, b9, b10] := congrArg Array.toList hL
      simp only [List.cons.injEq, and_true] at hL'
      obtain ⟨rfl, rfl, rfl, rfl, rfl, rfl, rfl, rfl, rfl, rfl, rfl⟩ := hL'
      obtain rfl := cd0.out rfl
      obtain rfl := cd1.out rfl
      obtain rfl := cd2.out rfl
      obtain rfl := cd3.out rfl
      obtain rfl := cd4.out rfl
      obtain rfl := cd5.out rfl
      obtain rfl := cd6.out rfl
      obtain rfl := cd7.out rfl
      obtain rfl := cd8.out rfl
      obtain rfl := cd9.out rfl
      obtain rfl := cd10.out rfl
      clear hL cd0 cd1 cd2 cd3 cd4 cd5 cd6 cd7 cd8 cd9 cd10
      simp only [List.setIfInBounds_toArray, List.set_cons_zero, List.set_cons_succ]
      have bV := (Below.refl Z9.heap.size Z9).drew.trans hb
      have BV := B9.trans (bV.mono hp9)
      have hpV := Nat.le_trans hp9 bV.size
      have X10 := X9.past bV
      have Y10 := Y9.past bV
      have iW10 := iW9.past bV
      have iF10 := iF9.past bV
      have hcN := True.intro
      have hyV := Nat.le_trans hy9 bV.size
      rcases HAI.out with ⟨i0, r0, rfl, hr0, hk0⟩ | ⟨rfl, hno⟩
      · have hAlt : ¬ ((i0 : Int) < 0) := by omega
        simp only [show (decide ((i0 : Int) < 0)) = false from decide_eq_false hAlt]
        have bZV := bZ.trans (bV.mono bZ.size)
        have hV10 := hV9.past bV
        obtain ⟨b, off, hd, rfl, hbZ, dl0, iR⟩ := iR6.at hr0
        obtain ⟨za, zn, zc⟩ := hd
        simp only at dl0 iR
        obtain ⟨hv1, hv2, hv3, hv4⟩ := HVK.out r0 (List.mem_of_getElem? hr0)
        have hzl := iR.len
        have hmE : entOf KI KI r0 ∈ EX := (HMX.out _).2 ⟨r0, List.mem_of_getElem? hr0, rfl⟩
        have hok : Eok (entOf KI KI r0) := ⟨hv3, hv4⟩
        have hxl2 := X10.ents.drop_len hok hmE
        have HDr0 := fun (w' : World) (hb : Below Z6.heap.size V10.drew w') (h : IsX w' lx hx xa KI KI EX) => drop_any w' _ _ xa KI KI EX h za zn zc r0 (iR.past (bZV.trans ((Below.refl _ _).drew.trans hb))) (by omega) (by omega) hv3 hv4 (by omega)
        obtain ⟨es2, hes2⟩ : ∃ es2, dropE (entOf KI KI r0) EX = es2 := ⟨_, rfl⟩
        simp only [hes2] at HDr0 hxl2
        have hln2 : es2.length ≤ 1000 ∧ ¬ (es2.length : Int) = (rn : Int) := by omega
        have hlnI := hln2.2
        have HDr := HDr0
        have HA20 : ∀ w', Below Z6.heap.size V10.drew w' → Calls Try.prog 36 #[.slice (some ⟨b, off, none⟩) rn rc, .int .i64 (KI : Nat), .agg #[.int .i64 k1, .int .i64 m1, .string s1]] w' fun e w'' => e = .returned (.int .i64 (i0 : Nat)) ∧ Below w'.heap.size w' w'' := fun w' hb => by
          have := HAT.out w' _ _ rn rc (iR6.past (bZV.trans ((Below.refl _ _).drew.trans hb)))
          rw [hKF] at this
          exact this
        have HA2 := HA20
        have t4 := (bZV.cell hgt6).trans T4.out
        have z2 := (bZV.cell hgs6).trans Z2.out
        have dl := (bZV.cell hbZ).trans dl0
        have hgtB := hgt6
        have hgsB := hgs6
        have hbB := hbZ
        have hB0 : Z6.heap.size ≤ V10.heap.size := bZV.size
        have hi0 : i0 < rn := by have := (List.getElem?_eq_some_iff.1 hr0).1; omega
        have hi0i : (i0 : Int) < (rn : Int) := by omega
        clear HDr0 HA20 hes2 hxl2 hok hmE hv1 hv2 hv3 hv4 dl0 HFV HMX hr0 hk0 hcN
        go_upto_region 12 with fail
        refine region_inv (ITwo12 Z6.heap.size xa ya gt gs b off rn rc fb fo N fc KI k1 m1 s1 i0 za zn zc wa wn wc FS lx hx ly hy EX EY es2) (by kernel_rfl) (by kernel_rfl) ?_ ?_ ?_
        · exact ⟨false, false, false, false, false, false, false, false, false, false, false, false, false, false, false, false, undef, undef, undef, undef, undef, undef, undef, undef, undef, undef, undef, undef, undef, undef, undef, undef, rfl, (by simp only [Act.put, List.setIfInBounds_toArray, List.set_cons_zero, List.set_cons_succ]), Below.refl _ _, (fun h => by cases h), (fun h => by cases h), (fun h => by cases h), (fun h => by cases h), (fun h => by cases h), (fun h => by cases h), (fun h => by cases h), (fun h => by cases h), (fun h => by cases h), (fun h => by cases h), (fun h => by cases h), (fun h => by cases h), (fun h => by cases h), (fun h => by cases h), (fun h => by cases h), (fun h => by cases h), (fun h1 => X10.past (Below.refl _ _).drew), (fun h => by cases h), (Y10.past (Below.refl _ _).drew), (iW10.past (Below.refl _ _).drew), (hV10.past (Below.refl _ _).drew)⟩
        · refine ⟨?_, ?_, ?_, ?_, ?_, ?_, ?_, ?_, ?_, ?_, ?_, ?_, ?_, ?_, ?_, ?_, trivial⟩
          · rintro L a w ⟨b0, b1, b2, b3, b4, b5, b6, b7, b8, b9, b10, b11, b12, b13, b14, b15, x52, x53, x54, x55, x56, x57, x58, x59, x60, x61, x62, x63, x64, x65, x66, x67, rfl, rfl, hb, cd0, cd1, cd2, cd3, cd4, cd5, cd6, cd7, cd8, cd9, cd10, cd11, cd12, cd13, cd14, cd15, f_x, f_xs, f_y, f_w, f_v⟩ hf hd
            have hf' : b0 = false := hf
            subst hf'
            clear hf hd
            have W_y := f_y.out
            have W_w := f_w.out
            have W_v := f_v.out
            try simp only [List.setIfInBounds_toArray, List.set_cons_zero, List.set_cons_succ]
            intro K hK
            rw [if_pos (by rfl)]
            go_simp
            exact hK.out _ _ ⟨true, b1, b2, b3, b4, b5, b6, b7, b8, b9, b10, b11, b12, b13, b14, b15, (.pointer (some ⟨xa, 0, none⟩)), x53, x54, x55, x56, x57, x58, x59, x60, x61, x62, x63, x64, x65, x66, x67, (by simp only [Act.put, List.setIfInBounds_toArray, List.set_cons_zero, List.set_cons_succ]), (by simp only [Act.put, List.setIfInBounds_toArray, List.set_cons_zero, List.set_cons_succ]), hb, (fun _ => rfl), cd1, cd2, cd3, cd4, cd5, cd6, cd7, cd8, cd9, cd10, cd11, cd12, cd13, cd14, cd15, f_x, f_xs, f_y, f_w, f_v⟩
          · rintro L a w ⟨b0, b1, b2, b3, b4, b5, b6, b7, b8, b9, b10, b11, b12, b13, b14, b15, x52, x53, x54, x55, x56, x57, x58, x59, x60, x61, x62, x63, x64, x65, x66, x67, rfl, rfl, hb, cd0, cd1, cd2, cd3, cd4, cd5, cd6, cd7, cd8, cd9, cd10, cd11, cd12, cd13, cd14, cd15, f_x, f_xs, f_y, f_w, f_v⟩ hf hd
            have hf' : b1 = false := hf
            subst hf'
            clear hf hd
            have W_y := f_y.out
            have W_w := f_w.out
            have W_v := f_v.out
            try simp only [List.setIfInBounds_toArray, List.set_cons_zero, List.set_cons_succ]
            intro K hK
            rw [if_pos (by rfl)]
            go_simp
            exact hK.out _ _ ⟨b0, true, b2, b3, b4, b5, b6, b7, b8, b9, b10, b11, b12, b13, b14, b15, x52, (.pointer (some ⟨gt, 4, none⟩)), x54, x55, x56, x57, x58, x59, x60, x61, x62, x63, x64, x65, x66, x67, (by simp only [Act.put, List.setIfInBounds_toArray, List.set_cons_zero, List.set_cons_succ]), (by simp only [Act.put, List.setIfInBounds_toArray, List.set_cons_zero, List.set_cons_succ]), hb, cd0, (fun _ => rfl), cd2, cd3, cd4, cd5, cd6, cd7, cd8, cd9, cd10, cd11, cd12, cd13, cd14, cd15, f_x, f_xs, f_y, f_w, f_v⟩
          · rintro L a w ⟨b0, b1, b2, b3, b4, b5, b6, b7, b8, b9, b10, b11, b12, b13, b14, b15, x52, x53, x54, x55, x56, x57, x58, x59, x60, x61, x62, x63, x64, x65, x66, x67, rfl, rfl, hb, cd0, cd1, cd2, cd3, cd4, cd5, cd6, cd7, cd8, cd9, cd10, cd11, cd12, cd13, cd14, cd15, f_x, f_xs, f_y, f_w, f_v⟩ hf hd
            have hf' : b2 = false := hf
            subst hf'
            have d1 : b1 = true := hd ⟨1, .data⟩ (by simp) rfl
            subst d1
            obtain rfl := cd1.out rfl
            clear hf hd
            have W_y := f_y.out
            have W_w := f_w.out
            have W_v := f_v.out
            try simp only [List.setIfInBounds_toArray, List.set_cons_zero, List.set_cons_succ]
            have z0 := (hb.cell hgtB).trans t4
            intro K hK
            rw [if_pos (by rfl)]
            go_simp
            exact hK.out _ _ ⟨b0, true, true, b3, b4, b5, b6, b7, b8, b9, b10, b11, b12, b13, b14, b15, x52, .pointer (some ⟨gt, 4, none⟩), (.slice (some ⟨b, off, none⟩) rn rc), x55, x56, x57, x58, x59, x60, x61, x62, x63, x64, x65, x66, x67, (by simp only [Act.put, List.setIfInBounds_toArray, List.set_cons_zero, List.set_cons_succ]), (by simp only [Act.put, List.setIfInBounds_toArray, List.set_cons_zero, List.set_cons_succ]), hb, cd0, (fun _ => rfl), (fun _ => rfl), cd3, cd4, cd5, cd6, cd7, cd8, cd9, cd10, cd11, cd12, cd13, cd14, cd15, f_x, f_xs, f_y, f_w, f_v⟩
          · rintro L a w ⟨b0, b1, b2, b3, b4, b5, b6, b7, b8, b9, b10, b11, b12, b13, b14, b15, x52, x53, x54, x55, x56, x57, x58, x59, x60, x61, x62, x63, x64, x65, x66, x67, rfl, rfl, hb, cd0, cd1, cd2, cd3, cd4, cd5, cd6, cd7, cd8, cd9, cd10, cd11, cd12, cd13, cd14, cd15, f_x, f_xs, f_y, f_w, f_v⟩ hf hd
            have hf' : b3 = false := hf
            subst hf'
            clear hf hd
            have W_y := f_y.out
            have W_w := f_w.out
            have W_v := f_v.out
            try simp only [List.setIfInBounds_toArray, List.set_cons_zero, List.set_cons_succ]
            intro K hK
            rw [if_pos (by rfl)]
            go_simp
            exact hK.out _ _ ⟨b0, b1, b2, true, b4, b5, b6, b7, b8, b9, b10, b11, b12, b13, b14, b15, x52, x53, x54, (.pointer (some ⟨gt, 4, none⟩)), x56, x57, x58, x59, x60, x61, x62, x63, x64, x65, x66, x67, (by simp only [Act.put, List.setIfInBounds_toArray, List.set_cons_zero, List.set_cons_succ]), (by simp only [Act.put, List.setIfInBounds_toArray, List.set_cons_zero, List.set_cons_succ]), hb, cd0, cd1, cd2, (fun _ => rfl), cd4, cd5, cd6, cd7, cd8, cd9, cd10, cd11, cd12, cd13, cd14, cd15, f_x, f_xs, f_y, f_w, f_v⟩
          · rintro L a w ⟨b0, b1, b2, b3, b4, b5, b6, b7, b8, b9, b10, b11, b12, b13, b14, b15, x52, x53, x54, x55, x56, x57, x58, x59, x60, x61, x62, x63, x64, x65, x66, x67, rfl, rfl, hb, cd0, cd1, cd2, cd3, cd4, cd5, cd6, cd7, cd8, cd9, cd10, cd11, cd12, cd13, cd14, cd15, f_x, f_xs, f_y, f_w, f_v⟩ hf hd
            have hf' : b4 = false := hf
            subst hf'
            have d3 : b3 = true := hd ⟨3, .data⟩ (by simp) rfl
            subst d3
            obtain rfl := cd3.out rfl
            clear hf hd
            have W_y := f_y.out
            have W_w := f_w.out
            have W_v := f_v.out
            try simp only [List.setIfInBounds_toArray, List.set_cons_zero, List.set_cons_succ]
            have z0 := (hb.cell hgtB).trans t4
            intro K hK
            rw [if_pos (by rfl)]
            go_simp
            exact hK.out _ _ ⟨b0, b1, b2, true, true, b5, b6, b7, b8, b9, b10, b11, b12, b13, b14, b15, x52, x53, x54, .pointer (some ⟨gt, 4, none⟩), (.slice (some ⟨b, off, none⟩) rn rc), x57, x58, x59, x60, x61, x62, x63, x64, x65, x66, x67, (by simp only [Act.put, List.setIfInBounds_toArray, List.set_cons_zero, List.set_cons_succ]), (by simp only [Act.put, List.setIfInBounds_toArray, List.set_cons_zero, List.set_cons_succ]), hb, cd0, cd1, cd2, (fun _ => rfl), (fun _ => rfl), cd5, cd6, cd7, cd8, cd9, cd10, cd11, cd12, cd13, cd14, cd15, f_x, f_xs, f_y, f_w, f_v⟩
          · rintro L a w ⟨b0, b1, b2, b3, b4, b5, b6, b7, b8, b9, b10, b11, b12, b13, b14, b15, x52, x53, x54, x55, x56, x57, x58, x59, x60, x61, x62, x63, x64, x65, x66, x67, rfl, rfl, hb, cd0, cd1, cd2, cd3, cd4, cd5, cd6, cd7, cd8, cd9, cd10, cd11, cd12, cd13, cd14, cd15, f_x, f_xs, f_y, f_w, f_v⟩ hf hd
            have hf' : b5 = false := hf
            subst hf'
            clear hf hd
            have W_y := f_y.out
            have W_w := f_w.out
            have W_v := f_v.out
            try simp only [List.setIfInBounds_toArray, List.set_cons_zero, List.set_cons_succ]
            intro K hK
            rw [if_pos (by rfl)]
            go_simp
            exact hK.out _ _ ⟨b0, b1, b2, b3, b4, true, b6, b7, b8, b9, b10, b11, b12, b13, b14, b15, x52, x53, x54, x55, x56, (.pointer (some ⟨gs, 2, none⟩)), x58, x59, x60, x61, x62, x63, x64, x65, x66, x67, (by simp only [Act.put, List.setIfInBounds_toArray, List.set_cons_zero, List.set_cons_succ]), (by simp only [Act.put, List.setIfInBounds_toArray, List.set_cons_zero, List.set_cons_succ]), hb, cd0, cd1, cd2, cd3, cd4, (fun _ => rfl), cd6, cd7, cd8, cd9, cd10, cd11, cd12, cd13, cd14, cd15, f_x, f_xs, f_y, f_w, f_v⟩
          · rintro L a w ⟨b0, b1, b2, b3, b4, b5, b6, b7, b8, b9, b10, b11, b12, b13, b14, b15, x52, x53, x54, x55, x56, x57, x58, x59, x60, x61, x62, x63, x64, x65, x66, x67, rfl, rfl, hb, cd0, cd1, cd2, cd3, cd4, cd5, cd6, cd7, cd8, cd9, cd10, cd11, cd12, cd13, cd14, cd15, f_x, f_xs, f_y, f_w, f_v⟩ hf hd
            have hf' : b6 = false := hf
            subst hf'
            have d5 : b5 = true := hd ⟨5, .data⟩ (by simp) rfl
            subst d5
            obtain rfl := cd5.out rfl
            clear hf hd
            have W_y := f_y.out
            have W_w := f_w.out
            have W_v := f_v.out
            try simp only [List.setIfInBounds_toArray, List.set_cons_zero, List.set_cons_succ]
            have z0 := (hb.cell hgsB).trans z2
            intro K hK
            rw [if_pos (by rfl)]
            go_simp
            exact hK.out _ _ ⟨b0, b1, b2, b3, b4, true, true, b7, b8, b9, b10, b11, b12, b13, b14, b15, x52, x53, x54, x55, x56, .pointer (some ⟨gs, 2, none⟩), (.int .i64 (KI : Nat)), x59, x60, x61, x62, x63, x64, x65, x66, x67, (by simp only [Act.put, List.setIfInBounds_toArray, List.set_cons_zero, List.set_cons_succ]), (by simp only [Act.put, List.setIfInBounds_toArray, List.set_cons_zero, List.set_cons_succ]), hb, cd0, cd1, cd2, cd3, cd4, (fun _ => rfl), (fun _ => rfl), cd7, cd8, cd9, cd10, cd11, cd12, cd13, cd14, cd15, f_x, f_xs, f_y, f_w, f_v⟩
          · rintro L a w ⟨b0, b1, b2, b3, b4, b5, b6, b7, b8, b9, b10, b11, b12, b13, b14, b15, x52, x53, x54, x55, x56, x57, x58, x59, x60, x61, x62, x63, x64, x65, x66, x67, rfl, rfl, hb, cd0, cd1, cd2, cd3, cd4, cd5, cd6, cd7, cd8, cd9, cd10, cd11, cd12, cd13, cd14, cd15, f_x, f_xs, f_y, f_w, f_v⟩ hf hd
            have hf' : b7 = false := hf
            subst hf'
            clear hf hd
            have W_y := f_y.out
            have W_w := f_w.out
            have W_v := f_v.out
            try simp only [List.setIfInBounds_toArray, List.set_cons_zero, List.set_cons_succ]
            intro K hK
            rw [if_pos (by rfl)]
            go_simp
            exact hK.out _ _ ⟨b0, b1, b2, b3, b4, b5, b6, true, b8, b9, b10, b11, b12, b13, b14, b15, x52, x53, x54, x55, x56, x57, x58, (.slice (some ⟨fb, fo, none⟩) N fc), x60, x61, x62, x63, x64, x65, x66, x67, (by simp only [Act.put, List.setIfInBounds_toArray, List.set_cons_zero, List.set_cons_succ]), (by simp only [Act.put, List.setIfInBounds_toArray, List.set_cons_zero, List.set_cons_succ]), hb, cd0, cd1, cd2, cd3, cd4, cd5, cd6, (fun _ => rfl), cd8, cd9, cd10, cd11, cd12, cd13, cd14, cd15, f_x, f_xs, f_y, f_w, f_v⟩
          · rintro L a w ⟨b0, b1, b2, b3, b4, b5, b6, b7, b8, b9, b10, b11, b12, b13, b14, b15, x52, x53, x54, x55, x56, x57, x58, x59, x60, x61, x62, x63, x64, x65, x66, x67, rfl, rfl, hb, cd0, cd1, cd2, cd3, cd4, cd5, cd6, cd7, cd8, cd9, cd10, cd11, cd12, cd13, cd14, cd15, f_x, f_xs, f_y, f_w, f_v⟩ hf hd
            have hf' : b8 = false := hf
            subst hf'
            clear hf hd
            have W_y := f_y.out
            have W_w := f_w.out
            have W_v := f_v.out
            try simp only [List.setIfInBounds_toArray, List.set_cons_zero, List.set_cons_succ]
            intro K hK
            rw [if_pos (by rfl)]
            go_simp
            exact hK.out _ _ ⟨b0, b1, b2, b3, b4, b5, b6, b7, true, b9, b10, b11, b12, b13, b14, b15, x52, x53, x54, x55, x56, x57, x58, x59, (.pointer (some ⟨gs, 2, none⟩)), x61, x62, x63, x64, x65, x66, x67, (by simp only [Act.put, List.setIfInBounds_toArray, List.set_cons_zero, List.set_cons_succ]), (by simp only [Act.put, List.setIfInBounds_toArray, List.set_cons_zero, List.set_cons_succ]), hb, cd0, cd1, cd2, cd3, cd4, cd5, cd6, cd7, (fun _ => rfl), cd9, cd10, cd11, cd12, cd13, cd14, cd15, f_x, f_xs, f_y, f_w, f_v⟩
          · rintro L a w ⟨b0, b1, b2, b3, b4, b5, b6, b7, b8, b9, b10, b11, b12, b13, b14, b15, x52, x53, x54, x55, x56, x57, x58, x59, x60, x61, x62, x63, x64, x65, x66, x67, rfl, rfl, hb, cd0, cd1, cd2, cd3, cd4, cd5, cd6, cd7, cd8, cd9, cd10, cd11, cd12, cd13, cd14, cd15, f_x, f_xs, f_y, f_w, f_v⟩ hf hd
            have hf' : b9 = false := hf
            subst hf'
            have d8 : b8 = true := hd ⟨8, .data⟩ (by simp) rfl
            subst d8
            obtain rfl := cd8.out rfl
            clear hf hd
            have W_y := f_y.out
            have W_w := f_w.out
            have W_v := f_v.out
            try simp only [List.setIfInBounds_toArray, List.set_cons_zero, List.set_cons_succ]
            have z0 := (hb.cell hgsB).trans z2
            intro K hK
            rw [if_pos (by rfl)]
            go_simp
            exact hK.out _ _ ⟨b0, b1, b2, b3, b4, b5, b6, b7, true, true, b10, b11, b12, b13, b14, b15, x52, x53, x54, x55, x56, x57, x58, x59, .pointer (some ⟨gs, 2, none⟩), (.int .i64 (KI : Nat)), x62, x63, x64, x65, x66, x67, (by simp only [Act.put, List.setIfInBounds_toArray, List.set_cons_zero, List.set_cons_succ]), (by simp only [Act.put, List.setIfInBounds_toArray, List.set_cons_zero, List.set_cons_succ]), hb, cd0, cd1, cd2, cd3, cd4, cd5, cd6, cd7, (fun _ => rfl), (fun _ => rfl), cd10, cd11, cd12, cd13, cd14, cd15, f_x, f_xs, f_y, f_w, f_v⟩
          · rintro L a w ⟨b0, b1, b2, b3, b4, b5, b6, b7, b8, b9, b10, b11, b12, b13, b14, b15, x52, x53, x54, x55, x56, x57, x58, x59, x60, x61, x62, x63, x64, x65, x66, x67, rfl, rfl, hb, cd0, cd1, cd2, cd3, cd4, cd5, cd6, cd7, cd8, cd9, cd10, cd11, cd12, cd13, cd14, cd15, f_x, f_xs, f_y, f_w, f_v⟩ hf hd
            have hf' : b10 = false := hf
            subst hf'
            have d7 : b7 = true := hd ⟨7, .data⟩ (by simp) rfl
            subst d7
            have d9 : b9 = true := hd ⟨9, .data⟩ (by simp) rfl
            subst d9
            obtain rfl := cd7.out rfl
            obtain rfl := cd9.out rfl
            clear hf hd
            have W_y := f_y.out
            have W_w := f_w.out
            have W_v := f_v.out
            try simp only [List.setIfInBounds_toArray, List.set_cons_zero, List.set_cons_succ]
            intro K hK
            rw [if_pos (by rfl)]
            go_simp
            exact hK.out _ _ ⟨b0, b1, b2, b3, b4, b5, b6, true, b8, true, true, b11, b12, b13, b14, b15, x52, x53, x54, x55, x56, x57, x58, .slice (some ⟨fb, fo, none⟩) N fc, x60, .int .i64 (KI : Nat), (.pointer (some ⟨fb, fo + KI * 3, none⟩)), x63, x64, x65, x66, x67, (by simp only [Act.put, List.setIfInBounds_toArray, List.set_cons_zero, List.set_cons_succ]), (by simp only [Act.put, List.setIfInBounds_toArray, List.set_cons_zero, List.set_cons_succ]), hb, cd0, cd1, cd2, cd3, cd4, cd5, cd6, (fun _ => rfl), cd8, (fun _ => rfl), (fun _ => rfl), cd11, cd12, cd13, cd14, cd15, f_x, f_xs, f_y, f_w, f_v⟩
          · rintro L a w ⟨b0, b1, b2, b3, b4, b5, b6, b7, b8, b9, b10, b11, b12, b13, b14, b15, x52, x53, x54, x55, x56, x57, x58, x59, x60, x61, x62, x63, x64, x65, x66, x67, rfl, rfl, hb, cd0, cd1, cd2, cd3, cd4, cd5, cd6, cd7, cd8, cd9, cd10, cd11, cd12, cd13, cd14, cd15, f_x, f_xs, f_y, f_w, f_v⟩ hf hd
            have hf' : b11 = false := hf
            subst hf'
            have d10 : b10 = true := hd ⟨10, .data⟩ (by simp) rfl
            subst d10
            obtain rfl := cd10.out rfl
            clear hf hd
            have W_y := f_y.out
            have W_w := f_w.out
            have W_v := f_v.out
            try simp only [List.setIfInBounds_toArray, List.set_cons_zero, List.set_cons_succ]
            obtain ⟨-, q0, q1, q2⟩ := W_v
            intro K hK
            rw [if_pos (by rfl)]
            go_simp
            exact hK.out _ _ ⟨b0, b1, b2, b3, b4, b5, b6, b7, b8, b9, true, true, b12, b13, b14, b15, x52, x53, x54, x55, x56, x57, x58, x59, x60, x61, .pointer (some ⟨fb, fo + KI * 3, none⟩), (.agg #[.int .i64 k1, .int .i64 m1, .string s1]), x64, x65, x66, x67, (by simp only [Act.put, List.setIfInBounds_toArray, List.set_cons_zero, List.set_cons_succ]), (by simp only [Act.put, List.setIfInBounds_toArray, List.set_cons_zero, List.set_cons_succ]), hb, cd0, cd1, cd2, cd3, cd4, cd5, cd6, cd7, cd8, cd9, (fun _ => rfl), (fun _ => rfl), cd12, cd13, cd14, cd15, f_x, f_xs, f_y, f_w, f_v⟩
          · rintro L a w ⟨b0, b1, b2, b3, b4, b5, b6, b7, b8, b9, b10, b11, b12, b13, b14, b15, x52, x53, x54, x55, x56, x57, x58, x59, x60, x61, x62, x63, x64, x65, x66, x67, rfl, rfl, hb, cd0, cd1, cd2, cd3, cd4, cd5, cd6, cd7, cd8, cd9, cd10, cd11, cd12, cd13, cd14, cd15, f_x, f_xs, f_y, f_w, f_v⟩ hf hd
            have hf' : b12 = false := hf
            subst hf'
            have d4 : b4 = true := hd ⟨4, .data⟩ (by simp) rfl
            subst d4
            have d6 : b6 = true := hd ⟨6, .data⟩ (by simp) rfl
            subst d6
            have d11 : b11 = true := hd ⟨11, .data⟩ (by simp) rfl
            subst d11
            obtain rfl := cd4.out rfl
            obtain rfl := cd6.out rfl
            obtain rfl := cd11.out rfl
            clear hf hd
            have W_y := f_y.out
            have W_w := f_w.out
            have W_v := f_v.out
            try simp only [List.setIfInBounds_toArray, List.set_cons_zero, List.set_cons_succ]
            intro K hK
            rw [if_pos (by rfl)]
            go_simp
            go_at_call 36
            refine (HA2 _ hb).mono ?_
            rintro e w' ⟨rfl, bx⟩
            exact hK.out _ _ ⟨b0, b1, b2, b3, true, b5, true, b7, b8, b9, b10, true, true, b13, b14, b15, x52, x53, x54, x55, .slice (some ⟨b, off, none⟩) rn rc, x57, .int .i64 (KI : Nat), x59, x60, x61, x62, .agg #[.int .i64 k1, .int .i64 m1, .string s1], (.int .i64 (i0 : Nat)), x65, x66, x67, (by simp only [Act.put, List.setIfInBounds_toArray, List.set_cons_zero, List.set_cons_succ]), (by simp only [Act.put, List.setIfInBounds_toArray, List.set_cons_zero, List.set_cons_succ]), hb.trans (bx.mono (Nat.le_trans hB0 hb.size)), cd0, cd1, cd2, cd3, (fun _ => rfl), cd5, (fun _ => rfl), cd7, cd8, cd9, cd10, (fun _ => rfl), (fun _ => rfl), cd13, cd14, cd15, (fun h1 => (f_x.out h1).past bx), (fun h0 => (f_xs.out h0).past bx), (f_y.out.past bx), (f_w.out.past bx), (f_v.out.past bx)⟩
          · rintro L a w ⟨b0, b1, b2, b3, b4, b5, b6, b7, b8, b9, b10, b11, b12, b13, b14, b15, x52, x53, x54, x55, x56, x57, x58, x59, x60, x61, x62, x63, x64, x65, x66, x67, rfl, rfl, hb, cd0, cd1, cd2, cd3, cd4, cd5, cd6, cd7, cd8, cd9, cd10, cd11, cd12, cd13, cd14, cd15, f_x, f_xs, f_y, f_w, f_v⟩ hf hd
            have hf' : b13 = false := hf
            subst hf'
            have d2 : b2 = true := hd ⟨2, .data⟩ (by simp) rfl
            subst d2
            have d12 : b12 = true := hd ⟨12, .data⟩ (by simp) rfl
            subst d12
            obtain rfl := cd2.out rfl
            obtain rfl := cd12.out rfl
            clear hf hd
            have W_y := f_y.out
            have W_w := f_w.out
            have W_v := f_v.out
            try simp only [List.setIfInBounds_toArray, List.set_cons_zero, List.set_cons_succ]
            intro K hK
            rw [if_pos (by rfl)]
            go_simp
            exact hK.out _ _ ⟨b0, b1, true, b3, b4, b5, b6, b7, b8, b9, b10, b11, true, true, b14, b15, x52, x53, .slice (some ⟨b, off, none⟩) rn rc, x55, x56, x57, x58, x59, x60, x61, x62, x63, .int .i64 (i0 : Nat), (.pointer (some ⟨b, off + i0, none⟩)), x66, x67, (by simp only [Act.put, List.setIfInBounds_toArray, List.set_cons_zero, List.set_cons_succ]), (by simp only [Act.put, List.setIfInBounds_toArray, List.set_cons_zero, List.set_cons_succ]), hb, cd0, cd1, (fun _ => rfl), cd3, cd4, cd5, cd6, cd7, cd8, cd9, cd10, cd11, (fun _ => rfl), (fun _ => rfl), cd14, cd15, f_x, f_xs, f_y, f_w, f_v⟩
          · rintro L a w ⟨b0, b1, b2, b3, b4, b5, b6, b7, b8, b9, b10, b11, b12, b13, b14, b15, x52, x53, x54, x55, x56, x57, x58, x59, x60, x61, x62, x63, x64, x65, x66, x67, rfl, rfl, hb, cd0, cd1, cd2, cd3, cd4, cd5, cd6, cd7, cd8, cd9, cd10, cd11, cd12, cd13, cd14, cd15, f_x, f_xs, f_y, f_w, f_v⟩ hf hd
            have hf' : b14 = false := hf
            subst hf'
            have d13 : b13 = true := hd ⟨13, .data⟩ (by simp) rfl
            subst d13
            obtain rfl := cd13.out rfl
            clear hf hd
            have W_y := f_y.out
            have W_w := f_w.out
            have W_v := f_v.out
            try simp only [List.setIfInBounds_toArray, List.set_cons_zero, List.set_cons_succ]
            have z0 := (hb.cell hbB).trans dl
            intro K hK
            rw [if_pos (by rfl)]
            go_simp
            exact hK.out _ _ ⟨b0, b1, b2, b3, b4, b5, b6, b7, b8, b9, b10, b11, b12, true, true, b15, x52, x53, x54, x55, x56, x57, x58, x59, x60, x61, x62, x63, x64, .pointer (some ⟨b, off + i0, none⟩), (.slice za zn zc), x67, (by simp only [Act.put, List.setIfInBounds_toArray, List.set_cons_zero, List.set_cons_succ]), (by simp only [Act.put, List.setIfInBounds_toArray, List.set_cons_zero, List.set_cons_succ]), hb, cd0, cd1, cd2, cd3, cd4, cd5, cd6, cd7, cd8, cd9, cd10, cd11, cd12, (fun _ => rfl), (fun _ => rfl), cd15, f_x, f_xs, f_y, f_w, f_v⟩
          · rintro L a w ⟨b0, b1, b2, b3, b4, b5, b6, b7, b8, b9, b10, b11, b12, b13, b14, b15, x52, x53, x54, x55, x56, x57, x58, x59, x60, x61, x62, x63, x64, x65, x66, x67, rfl, rfl, hb, cd0, cd1, cd2, cd3, cd4, cd5, cd6, cd7, cd8, cd9, cd10, cd11, cd12, cd13, cd14, cd15, f_x, f_xs, f_y, f_w, f_v⟩ hf hd
            have hf' : b15 = false := hf
            subst hf'
            have d0 : b0 = true := hd ⟨0, .data⟩ (by simp) rfl
            subst d0
            have d14 : b14 = true := hd ⟨14, .data⟩ (by simp) rfl
            subst d14
            have d12 : b12 = true := hd ⟨12, .chain⟩ (by simp) rfl
            subst d12
            obtain rfl := cd0.out rfl
            obtain rfl := cd14.out rfl
            obtain rfl := cd12.out rfl
            clear hf hd
            have W_x := f_x.out rfl
            have W_y := f_y.out
            have W_w := f_w.out
            have W_v := f_v.out
            try simp only [List.setIfInBounds_toArray, List.set_cons_zero, List.set_cons_succ]
            intro K hK
            rw [if_pos (by rfl)]
            go_simp
            go_at_call 24
            refine (HDr _ hb W_x).mono ?_
            rintro e w' ⟨rfl, hX3, g3⟩
            have hb2 := hb.grown g3 (Nat.le_trans hB0 hb.size) (fun z hz => by cases hz; exact hxB)
            exact hK.out _ _ ⟨true, b1, b2, b3, b4, b5, b6, b7, b8, b9, b10, b11, true, b13, true, true, .pointer (some ⟨xa, 0, none⟩), x53, x54, x55, x56, x57, x58, x59, x60, x61, x62, x63, .int .i64 (i0 : Nat), x65, .slice za zn zc, (.tuple #[]), (by simp only [Act.put, List.setIfInBounds_toArray, List.set_cons_zero, List.set_cons_succ]), (by simp only [Act.put, List.setIfInBounds_toArray, List.set_cons_zero, List.set_cons_succ]), hb2, (fun _ => rfl), cd1, cd2, cd3, cd4, cd5, cd6, cd7, cd8, cd9, cd10, cd11, (fun _ => rfl), cd13, (fun _ => rfl), (fun _ => rfl), (fun h => by cases h), (fun _ => ⟨_, Nat.le_refl _, hX3⟩), (((f_y.out).grown g3 hxd)), (((f_w.out).grown g3 hwx)), (((f_v.out).grown g3 hfx))⟩
        · rintro act V2 ⟨b0, b1, b2, b3, b4, b5, b6, b7, b8, b9, b10, b11, b12, b13, b14, b15, x52, x53, x54, x55, x56, x57, x58, x59, x60, x61, x62, x63, x64, x65, x66, x67, hL, rfl, hb, cd0, cd1, cd2, cd3, cd4, cd5, cd6, cd7, cd8, cd9, cd10, cd11, cd12, cd13, cd14, cd15, f_x, f_xs, f_y, f_w, f_v⟩
          have hL' : [true, true, true, true, true, true, true, true, true, true, true, true, true, true, true, true] = [b0, b1, b2, b3, b4, b5, b6, b7, b8, b9, b10, b11, b12, b13, b14, b15] := congrArg Array.toList hL
          simp only [List.cons.injEq, and_true] at hL'
          obtain ⟨rfl, rfl, rfl, rfl, rfl, rfl, rfl, rfl, rfl, rfl, rfl, rfl, rfl, rfl, rfl, rfl⟩ := hL'
          obtain rfl := cd0.out rfl
          obtain rfl := cd1.out rfl
          obtain rfl := cd2.out rfl
          obtain rfl := cd3.out rfl
          obtain rfl := cd4.out rfl
          obtain rfl := cd5.out rfl
          obtain rfl := cd6.out rfl
          obtain rfl := cd7.out rfl
          obtain rfl := cd8.out rfl
          obtain rfl := cd9.out rfl
          obtain rfl := cd10.out rfl
          obtain rfl := cd11.out rfl
          obtain rfl := cd12.out rfl
          obtain rfl := cd13.out rfl
          obtain rfl := cd14.out rfl
          obtain rfl := cd15.out rfl
          have W_xs := f_xs.out rfl
          have W_y := f_y.out
          have W_w := f_w.out
          have W_v := f_v.out
          clear hL f_x f_xs f_y f_w f_v cd0 cd1 cd2 cd3 cd4 cd5 cd6 cd7 cd8 cd9 cd10 cd11 cd12 cd13 cd14 cd15
          simp only [List.setIfInBounds_toArray, List.set_cons_zero, List.set_cons_succ]
          have bV2 := bZV.trans ((Below.refl Z6.heap.size V10).drew.trans hb)
          have hsz : V10.heap.size ≤ V2.heap.size := hb.size
          clear hb
          obtain ⟨hz, hzl, X3⟩ := W_xs
          have Y3 := W_y
          have iW3 := W_w
          have B3 : Below p0 w V2 := B6.trans (bV2.mono hp6)
          have hy3 := Nat.le_trans hyV hsz
          have hp3 := Nat.le_trans hp6 bV2.size
          clear W_y W_w W_v HDr HA2 hV10 hV9 iR
          clear HA X10 Y10 iW10 iF10 X9 Y9 iW9 iF9 B9 BV bV
          have HF2 := from_any V2 _ _ ya 0 KI EY Y3 hy3 (by omega) V0 Vok.none 99
          rw [HFS.out] at HF2
          have HF3 : Calls Try.prog 33 #[.pointer (some ⟨ya, 0, none⟩), .agg #[.int .i64 0, .int .i64 0, .string ⟨#[]⟩], .int .i64 99] V2 fun e w' => ∃ ao c, e = .returned (.slice ao wn c) ∧ TxtR EV w' 46 V2.heap.size ao wn c FS ∧ Below V2.heap.size V2 w' := by rw [← HWN.out]; exact HF2
          clear HF2
          go_upto_region 14 with (go_at_call 33; refine HF3.mono ?_; rintro e w4 ⟨la, lc, rfl, oL, b4⟩)
          have X4 := X3.past b4
          have Y4 := Y3.past b4
          have iW4 := iW3.past b4
          have B4 := B3.trans (b4.mono hp3)
          have hp4 := Nat.le_trans hp3 b4.size
          have hy4 := Nat.le_trans hy3 b4.size
          by_cases hw0 : 0 < wn
          · have hw0i : (0 : Int) < (wn : Int) := by omega
            rcases oL.either with ⟨h0a, h0b, h0c, h0d⟩ | ⟨lb, rfl, ow, hlb⟩
            · omega
            obtain ⟨a0, a1, a2, d0, d1, d2, f0, f1, f2⟩ := own_cells_v ow 0 hw0
            simp only [Nat.zero_mul, Nat.zero_add] at d0 d1 d2 f0 f1 f2
            go_upto_region 16 with fail
            have b5 : Below V2.heap.size V2 (((w4.setCell ⟨lb, 0, none⟩ (.int .i64 2)).setCell ⟨lb, 1, none⟩ (.int .i64 77777)).setCell ⟨lb, 2, none⟩ (.string ⟨#[]⟩)) := ((b4.setCell (p := ⟨lb, 0, none⟩) hlb (.int .i64 2)).setCell (p := ⟨lb, 1, none⟩) hlb (.int .i64 77777)).setCell (p := ⟨lb, 2, none⟩) hlb (.string ⟨#[]⟩)
            generalize ((w4.setCell ⟨lb, 0, none⟩ (.int .i64 2)).setCell ⟨lb, 1, none⟩ (.int .i64 77777)).setCell ⟨lb, 2, none⟩ (.string ⟨#[]⟩) = w5 at b5 ⊢
            have X5 := X3.past b5
            have Y5 := Y3.past b5
            have iW5 := iW3.past b5
            have B5 := B3.trans (b5.mono hp3)
            have hp5 := Nat.le_trans hp3 b5.size
            have hy5 := Nat.le_trans hy3 b5.size
            clear X4 Y4 iW4 B4 hp4 hy4 b5 ow oL hlb b4 d0 d1 d2 f0 f1 f2 HF3 X3 Y3 iW3 B3
            have HF4 := from_any w5 _ _ ya 0 KI EY Y5 hy5 (by omega) V0 Vok.none 99
            rw [HFS.out] at HF4
            have HF5 : Calls Try.prog 33 #[.pointer (some ⟨ya, 0, none⟩), .agg #[.int .i64 0, .int .i64 0, .string ⟨#[]⟩], .int .i64 99] w5 fun e w' => ∃ ao c, e = .returned (.slice ao wn c) ∧ TxtR EV w' 46 w5.heap.size ao wn c FS ∧ Below w5.heap.size w5 w' := by rw [← HWN.out]; exact HF4
            clear HF4
            have hwn9 := iW5.len
            have hne9 : ((es2.length : Int) != (rn : Int)) = true := by simpa using hlnI
            go_wp2_with (first
              | (go_at_call 33; refine HF5.mono ?_; rintro e w6 ⟨ma, mc, rfl, oM, b6⟩; have HS := rsame_any ma wn mc FS wa wn wc FS w6 oM.isR (iW5.past b6); rw [(eqVs_iff FS FS).2 rfl] at HS)
              | (go_at_call 30; refine HS.mono ?_; rintro e w7 ⟨rfl, b7⟩; have b67 := b6.trans (b7.mono b6.size); have HLx := len_any w7 _ _ xa KI KI es2 (X5.past b67); have HLy := len_any w7 _ _ ya 0 KI EY (Y5.past b67); rw [hEYl] at HLy)
              | (go_at_call 29; (with_reducible refine HLx.mono ?_); rintro e w8 ⟨rfl, rfl⟩)
              | (go_at_call 29; (with_reducible refine HLy.mono ?_); rintro e w8 ⟨rfl, rfl⟩))
            go_ret
            exact ⟨rfl, by rw [HP.out]; exact B5.trans (b67.mono hp5)⟩
          · have hw0i : ¬ ((0 : Int) < (wn : Int)) := by omega
            clear oL b4 HF3 X3 Y3 iW3 B3
            have HF4 := from_any w4 _ _ ya 0 KI EY Y4 hy4 (by omega) V0 Vok.none 99
            rw [HFS.out] at HF4
            have HF5 : Calls Try.prog 33 #[.pointer (some ⟨ya, 0, none⟩), .agg #[.int .i64 0, .int .i64 0, .string ⟨#[]⟩], .int .i64 99] w4 fun e w' => ∃ ao c, e = .returned (.slice ao wn c) ∧ TxtR EV w' 46 w4.heap.size ao wn c FS ∧ Below w4.heap.size w4 w' := by rw [← HWN.out]; exact HF4
            clear HF4
            have hwn9 := iW4.len
            have hne9 : ((es2.length : Int) != (rn : Int)) = true := by simpa using hlnI
            go_wp2_with (first
              | (go_at_call 33; refine HF5.mono ?_; rintro e w6 ⟨ma, mc, rfl, oM, b6⟩; have HS := rsame_any ma wn mc FS wa wn wc FS w6 oM.isR (iW4.past b6); rw [(eqVs_iff FS FS).2 rfl] at HS)
              | (go_at_call 30; refine HS.mono ?_; rintro e w7 ⟨rfl, b7⟩; have b67 := b6.trans (b7.mono b6.size); have HLx := len_any w7 _ _ xa KI KI es2 (X4.past b67); have HLy := len_any w7 _ _ ya 0 KI EY (Y4.past b67); rw [hEYl] at HLy)
              | (go_at_call 29; (with_reducible refine HLx.mono ?_); rintro e w8 ⟨rfl, rfl⟩)
              | (go_at_call 29; (with_reducible refine HLy.mono ?_); rintro e w8 ⟨rfl, rfl⟩))
            go_ret
            exact ⟨rfl, by rw [HP.out]; exact B4.trans (b67.mono hp4)⟩
      · have hAlt : (-1 : Int) < 0 := by decide
        have hnE : ¬ entOf KI KI (fitRow F nn) ∈ EX := fun hm => by
          obtain ⟨r, hr, e⟩ := (HMX.out _).1 hm
          exact hno r hr (congrArg En.k e).symm
        have hok : Eok (entOf KI KI (fitRow F nn)) := ⟨HFV.out, HFV.out⟩
        have hxl2 := X10.ents.add_len hok hnE
        have HAd := add_any V10 _ _ xa KI KI EX X10 (some ⟨fb, fo, none⟩) N fc (fitRow F nn) iF10 hKl hKl HFV.out HFV.out (by omega)
        obtain ⟨es2, hes2⟩ : ∃ es2, addE (entOf KI KI (fitRow F nn)) EX = es2 := ⟨_, rfl⟩
        rw [hes2] at HAd hxl2
        have hln2 : es2.length ≤ 1000 ∧ ¬ (es2.length : Int) = (rn : Int) := by omega
        have hlnI := hln2.2
        clear hes2 hxl2 hok hnE hno HFV HMX
        go_upto_region 13 with (go_at_call 27; refine HAd.mono ?_; rintro e w3 ⟨rfl, X3, g3⟩)
        have Y3 := Y10.grown g3 hxd
        have iW3 := iW10.grown g3 hwx
        have B3 : Below p0 w w3 := BV.grown g3 hpV (fun z hz => by cases hz; exact hxp)
        have hp3 := Nat.le_trans hpV g3.size
        have hy3 := Nat.le_trans hyV g3.size
        clear HAd HA X10 Y10 iW10 iF10 X9 Y9 iW9 iF9 B9 BV bV
        have HF2 := from_any w3 _ _ ya 0 KI EY Y3 hy3 (by omega) V0 Vok.none 99
        rw [HFS.out] at HF2
        have HF3 : Calls Try.prog 33 #[.pointer (some ⟨ya, 0, none⟩), .agg #[.int .i64 0, .int .i64 0, .string ⟨#[]⟩], .int .i64 99] w3 fun e w' => ∃ ao c, e = .returned (.slice ao wn c) ∧ TxtR EV w' 46 w3.heap.size ao wn c FS ∧ Below w3.heap.size w3 w' := by rw [← HWN.out]; exact HF2
        clear HF2
        go_upto_region 14 with (go_at_call 33; refine HF3.mono ?_; rintro e w4 ⟨la, lc, rfl, oL, b4⟩)
        have X4 := X3.past b4
        have Y4 := Y3.past b4
        have iW4 := iW3.past b4
        have B4 := B3.trans (b4.mono hp3)
        have hp4 := Nat.le_trans hp3 b4.size
        have hy4 := Nat.le_trans hy3 b4.size
        by_cases hw0 : 0 < wn
        · have hw0i : (0 : Int) < (wn : Int) := by omega
          rcases oL.either with ⟨h0a, h0b, h0c, h0d⟩ | ⟨lb, rfl, ow, hlb⟩
          · omega
          obtain ⟨a0, a1, a2, d0, d1, d2, f0, f1, f2⟩ := own_cells_v ow 0 hw0
          simp only [Nat.zero_mul, Nat.zero_add] at d0 d1 d2 f0 f1 f2
          go_upto_region 16 with fail
          have b5 : Below w3.heap.size w3 (((w4.setCell ⟨lb, 0, none⟩ (.int .i64 2)).setCell ⟨lb, 1, none⟩ (.int .i64 77777)).setCell ⟨lb, 2, none⟩ (.string ⟨#[]⟩)) := ((b4.setCell (p := ⟨lb, 0, none⟩) hlb (.int .i64 2)).setCell (p := ⟨lb, 1, none⟩) hlb (.int .i64 77777)).setCell (p := ⟨lb, 2, none⟩) hlb (.string ⟨#[]⟩)
          generalize ((w4.setCell ⟨lb, 0, none⟩ (.int .i64 2)).setCell ⟨lb, 1, none⟩ (.int .i64 77777)).setCell ⟨lb, 2, none⟩ (.string ⟨#[]⟩) = w5 at b5 ⊢
          have X5 := X3.past b5
          have Y5 := Y3.past b5
          have iW5 := iW3.past b5
          have B5 := B3.trans (b5.mono hp3)
          have hp5 := Nat.le_trans hp3 b5.size
          have hy5 := Nat.le_trans hy3 b5.size
          clear X4 Y4 iW4 B4 hp4 hy4 b5 ow oL hlb b4 d0 d1 d2 f0 f1 f2 HF3 X3 Y3 iW3 B3
          have HF4 := from_any w5 _ _ ya 0 KI EY Y5 hy5 (by omega) V0 Vok.none 99
          rw [HFS.out] at HF4
          have HF5 : Calls Try.prog 33 #[.pointer (some ⟨ya, 0, none⟩), .agg #[.int .i64 0, .int .i64 0, .string ⟨#[]⟩], .int .i64 99] w5 fun e w' => ∃ ao c, e = .returned (.slice ao wn c) ∧ TxtR EV w' 46 w5.heap.size ao wn c FS ∧ Below w5.heap.size w5 w' := by rw [← HWN.out]; exact HF4
          clear HF4
          have hwn9 := iW5.len
          have hne9 : ((es2.length : Int) != (rn : Int)) = true := by simpa using hlnI
          go_wp2_with (first
            | (go_at_call 33; refine HF5.mono ?_; rintro e w6 ⟨ma, mc, rfl, oM, b6⟩; have HS := rsame_any ma wn mc FS wa wn wc FS w6 oM.isR (iW5.past b6); rw [(eqVs_iff FS FS).2 rfl] at HS)
            | (go_at_call 30; refine HS.mono ?_; rintro e w7 ⟨rfl, b7⟩; have b67 := b6.trans (b7.mono b6.size); have HLx := len_any w7 _ _ xa KI KI es2 (X5.past b67); have HLy := len_any w7 _ _ ya 0 KI EY (Y5.past b67); rw [hEYl] at HLy)
            | (go_at_call 29; (with_reducible refine HLx.mono ?_); rintro e w8 ⟨rfl, rfl⟩)
            | (go_at_call 29; (with_reducible refine HLy.mono ?_); rintro e w8 ⟨rfl, rfl⟩))
          go_ret
          exact ⟨rfl, by rw [HP.out]; exact B5.trans (b67.mono hp5)⟩
        · have hw0i : ¬ ((0 : Int) < (wn : Int)) := by omega
          clear oL b4 HF3 X3 Y3 iW3 B3
          have HF4 := from_any w4 _ _ ya 0 KI EY Y4 hy4 (by omega) V0 Vok.none 99
          rw [HFS.out] at HF4
          have HF5 : Calls Try.prog 33 #[.pointer (some ⟨ya, 0, none⟩), .agg #[.int .i64 0, .int .i64 0, .string ⟨#[]⟩], .int .i64 99] w4 fun e w' => ∃ ao c, e = .returned (.slice ao wn c) ∧ TxtR EV w' 46 w4.heap.size ao wn c FS ∧ Below w4.heap.size w4 w' := by rw [← HWN.out]; exact HF4
          clear HF4
          have hwn9 := iW4.len
          have hne9 : ((es2.length : Int) != (rn : Int)) = true := by simpa using hlnI
          go_wp2_with (first
            | (go_at_call 33; refine HF5.mono ?_; rintro e w6 ⟨ma, mc, rfl, oM, b6⟩; have HS := rsame_any ma wn mc FS wa wn wc FS w6 oM.isR (iW4.past b6); rw [(eqVs_iff FS FS).2 rfl] at HS)
            | (go_at_call 30; refine HS.mono ?_; rintro e w7 ⟨rfl, b7⟩; have b67 := b6.trans (b7.mono b6.size); have HLx := len_any w7 _ _ xa KI KI es2 (X4.past b67); have HLy := len_any w7 _ _ ya 0 KI EY (Y4.past b67); rw [hEYl] at HLy)
            | (go_at_call 29; (with_reducible refine HLx.mono ?_); rintro e w8 ⟨rfl, rfl⟩)
            | (go_at_call 29; (with_reducible refine HLy.mono ?_); rintro e w8 ⟨rfl, rfl⟩))
          go_ret
          exact ⟨rfl, by rw [HP.out]; exact B4.trans (b67.mono hp4)⟩
end Go.Proofs.Ytjacaammlkjodaa
