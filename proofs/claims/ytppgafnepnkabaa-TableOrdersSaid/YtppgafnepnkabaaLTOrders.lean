/-
  TableOrders, walked (by gen_torders.py).
-/
import Derived.Test.YtppgafnepnkabaaOrdP
import Derived.Test.YtppgafnepnkabaaEI
import Derived.Test.YtppgafnepnkabaaTabE
import Derived.Test.YtppgafnepnkabaaLaw10
namespace Go.Proofs.Ytppgafnepnkabaa
open Go.RowKit
set_option linter.unusedSimpArgs false
theorem IsT.drew' {w : World} {B : Nat} {co : Option Addr} {cn cc : Nat} {cs : List Co} {ro : Option Addr} {rn rc : Nat} {rs : List (List V)} (h : IsT w B co cn cc cs ro rn rc rs) : IsT w.drew B co cn cc cs ro rn rc rs := h.past (Below.refl _ _).drew
/-- The rows put, in the order in which they came: the slice of their headers is the law's own. -/
structure Lst (w : World) (B : Nat) (la : Option Addr) (rn lc : Nat) (hs : List HdR) (L : List (List V)) : Prop where
  own : TxtR EH w 49 B la rn lc hs
  rd : Rd EV w hs L
  ne : ∀ x ∈ hs, ∃ b, x.a = some ⟨b, 0, none⟩ ∧ B ≤ b ∧ b < w.heap.size ∧ blk la ≠ some b
section
variable {w w' : World} {B : Nat} {la : Option Addr} {rn lc : Nat} {hs : List HdR} {L : List (List V)}
theorem Lst.past (h : Lst w B la rn lc hs L) (b : Below w.heap.size w w') : Lst w' B la rn lc hs L := ⟨h.own.past b, h.rd.past b, fun x hx => by
  obtain ⟨b1, h1, h2, h3, h4⟩ := h.ne x hx
  exact ⟨b1, h1, h2, Nat.lt_of_lt_of_le h3 b.size, h4⟩⟩
theorem Lst.nil (w : World) (B : Nat) : Lst w B none 0 0 [] [] := ⟨TxtR.nil .., Rd.nil, fun h hx => by cases hx⟩
theorem Lst.len (h : Lst w B la rn lc hs L) : L.length = rn := by
  rw [← h.rd.1]
  exact h.own.len
theorem Lst.ge (h : Lst w B la rn lc hs L) : ∀ z, blk la = some z → B ≤ z := by
  rcases h.own.either with ⟨rfl, _⟩ | ⟨g, rfl, _, hg⟩
  · intro z hz; cases hz
  · intro z hz
    cases hz
    exact hg
theorem Lst.rr (h : Lst w B la rn lc hs L) : IsRR EV w B la rn lc L := ⟨hs, h.own.isR, h.rd, (fun a ha => h.ge a.block (by rw [ha]; rfl)), (fun x hx a ha => by
  obtain ⟨b1, h1, h2, _⟩ := h.ne x hx
  rw [h1] at ha
  cases ha
  exact h2)⟩
theorem Lst.grown (h : Lst w B la rn lc hs L) {r : Nat} (g : w.grownBy w' (some r)) (hr : r < B) : Lst w' B la rn lc hs L := by
  refine ⟨h.own.grown g fun z hz e => ?_, ⟨h.rd.1, fun j x l hx hl => (h.rd.2 j x l hx hl).grown g (fun a ha e => ?_)⟩, fun x hx => ?_⟩
  · have := h.ge z hz
    have := Option.some.inj e
    omega
  · obtain ⟨b1, h1, h2, _⟩ := h.ne x (List.mem_of_getElem? hx)
    rw [h1] at ha
    cases ha
    have := Option.some.inj e
    simp only at this
    omega
  · obtain ⟨b1, h1, h2, h3, h4⟩ := h.ne x hx
    exact ⟨b1, h1, h2, Nat.lt_of_lt_of_le h3 g.size, h4⟩
theorem Lst.app {gr N rca g' c' : Nat} {row : List V} (h : Lst w B la rn lc hs L) (oR : OwnR EV w 55 gr N rca row) (hB : B ≤ gr) (hne : blk la ≠ some gr) (o' : TxtR EH w' 49 B (some ⟨g', 0, none⟩) (rn + 1) c' (hs ++ [⟨some ⟨gr, 0, none⟩, N, rca⟩])) (g : w.grownBy w' (blk la)) (hg' : blk la = some g' ∨ w.heap.size ≤ g') : Lst w' B (some ⟨g', 0, none⟩) (rn + 1) c' (hs ++ [⟨some ⟨gr, 0, none⟩, N, rca⟩]) (L ++ [row]) := by
  have hlt := oR.lt
  have key : ∀ b, b < w.heap.size → blk la ≠ some b → blk (some (⟨g', 0, none⟩ : Addr)) ≠ some b := by
    intro b hb hn e
    have e2 : g' = b := Option.some.inj e
    rcases hg' with q | q
    · exact hn (by rw [q, e2])
    · omega
  refine ⟨o', Rd.append ⟨h.rd.1, fun j x l hx hl => (h.rd.2 j x l hx hl).grown g (fun a ha e => ?_)⟩ (Rd.one (x := ⟨some ⟨gr, 0, none⟩, N, rca⟩) (oR.grown g (fun e => hne e.symm)).isR), fun x hx => ?_⟩
  · obtain ⟨b1, h1, -, -, h4⟩ := h.ne x (List.mem_of_getElem? hx)
    rw [h1] at ha
    cases ha
    first | exact h4 e | exact h4 e.symm
  · rcases List.mem_append.1 hx with hx | hx
    · obtain ⟨b1, h1, h2, h3, h4⟩ := h.ne x hx
      exact ⟨b1, h1, h2, Nat.lt_of_lt_of_le h3 g.size, key b1 h3 h4⟩
    · obtain rfl := List.mem_singleton.1 hx
      exact ⟨gr, rfl, hB, Nat.lt_of_lt_of_le hlt g.size, key gr hlt hne⟩
end
theorem wpList_append_g {P : Program} {α : Type} {E : Enc α} {zero : α} {e : TypeId} {ao : Option Addr} {n c B : Nat} {l : List α} {w : World} {ops : Array Oper} {rest : List Oper} {o : Oper} {a : Act} {Q : Exit → Act → World → Prop} (hgd : o.guard = none) (s x : Operand) (t tx : TypeId)
    (ho : o.op = .call { callee := .builtin .append, args := #[s, x], argTypes := #[t, tx] }) (hB : RowTy E P t e zero) (hsv : a.eval s = .slice ao n c) (h : TxtR E w e B ao n c l) (hBw : B ≤ w.heap.size)
    (X : Value) (hx : a.eval x = X) (m : Nat) (cs : List α) (hs : Src P E.sz tx X m (E.all cs) w) (hcl : cs.length = m) (hpos : 0 < m) (hmax : n + m ≤ 1000000)
    (hK : ∀ g' c' w', TxtR E w' e B (some ⟨g', 0, none⟩) (n + m) c' (l ++ cs) → w.grownBy w' (blk ao) → (blk ao = some g' ∨ w.heap.size ≤ g') → Below B w w' → wpList P ops Q rest (a.put o.dst (.slice (some ⟨g', 0, none⟩) (n + m) c')) w') : wpList P ops Q (o :: rest) a w := by
  refine wpList_plain hgd fun K hK' => ?_
  exact wp_append_r s x t tx ho hB hsv h hBw X hx m cs hs hcl hpos (n + m) rfl (l ++ cs) rfl hmax fun g' c' w' h1 h2 h3 h4 => hK' _ _ (hK g' c' w' h1 h2 h3 h4)
theorem oneH_lit (w : World) (x : HdR) : IsR EH (w.alloc (.cells #[.slice x.a x.n x.c] 49)) (some ⟨w.heap.size, 0, none⟩) 1 1 [x] := (OwnR.ofBlk (E := EH) (l := [x]) (n := 1) (heap_alloc_new w _) rfl rfl (by omega)).isR
/-- What stands while the region's operations come up. -/
inductive TOrders6 (B : Nat) (gs : Nat) (NM : List UInt8) (g : Nat) (N : Nat) (cg : Nat) (KI : Nat) (only : Bool) (a0 : Act) (w0 : World) (L : Array Bool) (a : Act) (w : World) : Prop
  | mk (b0 b1 b2 b3 b4 b5 b6 b7 : Bool) (x26 x27 x28 x29 x8 x9 : Value) (pa : Nat) (pb : Nat) (hL : L = #[b0, b1, b2, b3, b4, b5, b6, b7]) (ha : a = ⟨((((((a0.tmps.setIfInBounds 26 x26).setIfInBounds 27 x27).setIfInBounds 28 x28).setIfInBounds 29 x29).setIfInBounds 8 x8).setIfInBounds 9 x9), a0.defers⟩) (hb : Below B w0 w) (cd0 : Hid (b0 = true → x26 = .agg #[.string (bsOf NM), .slice (some ⟨g, 0, none⟩) N cg, .int .i64 (KI : Nat), .bool only])) (cd1 : Hid (b1 = true → x27 = .agg #[.string (bsOf NM), .slice (some ⟨g, 0, none⟩) N cg, .int .i64 (KI : Nat), .bool only, .slice none 0 0])) (cd2 : Hid (b2 = true → x28 = .agg #[.string (bsOf NM), .slice (some ⟨g, 0, none⟩) N cg, .int .i64 (KI : Nat), .bool only])) (cd3 : Hid (b3 = true → x29 = .agg #[.string (bsOf NM), .slice (some ⟨g, 0, none⟩) N cg, .int .i64 (KI : Nat), .bool only, .slice none 0 0])) (cd4 : Hid (b4 = true → x8 = .pointer (some ⟨pa, 0, none⟩))) (cd5 : Hid (b5 = true → x9 = .pointer (some ⟨pb, 0, none⟩))) (f_za : Hid (b4 = true → b6 = false → Bk w pa (tbC [] none 0 0 0 false none 0 0) 47)) (f_zb : Hid (b5 = true → b7 = false → Bk w pb (tbC [] none 0 0 0 false none 0 0) 47)) (f_sa : Hid (b6 = true → Bk w pa (tbC NM (some ⟨g, 0, none⟩) N cg (KI : Nat) only none 0 0) 47)) (f_sb : Hid (b7 = true → Bk w pb (tbC NM (some ⟨g, 0, none⟩) N cg (KI : Nat) only none 0 0) 47)) (f_ta : Hid (b4 = true → pa < w.heap.size)) (f_tb : Hid (b5 = true → pb < w.heap.size)) (f_lpa : Hid (b4 = true → w0.heap.size ≤ pa)) (f_lpb : Hid (b5 = true → w0.heap.size ≤ pb)) (f_np : Hid (b4 = true → (b5 = true → pa ≠ pb))) (f_o6 : Hid (b6 = true → b4 = true)) (f_o7 : Hid (b7 = true → b5 = true)) (f_o7d : Hid (b7 = true → b6 = true)) : TOrders6 B gs NM g N cg KI only a0 w0 L a w
/-- What stands while the region's operations come up. -/
inductive TOrders12 (B : Nat) (gs : Nat) (NM : List UInt8) (g : Nat) (N : Nat) (cg : Nat) (KI : Nat) (only : Bool) (nb : Nat) (noff : Nat) (nl : Nat) (nc : Nat) (j : Nat) (x : Int) (F : List Co) (a0 : Act) (w0 : World) (L : Array Bool) (a : Act) (w : World) : Prop
  | mk (b0 b1 b2 b3 b4 b5 b6 : Bool) (x38 x39 x40 x41 x42 x43 x13 : Value) (ra : Option Addr) (rca : Nat) (hL : L = #[b0, b1, b2, b3, b4, b5, b6]) (ha : a = ⟨(((((((a0.tmps.setIfInBounds 38 x38).setIfInBounds 39 x39).setIfInBounds 40 x40).setIfInBounds 41 x41).setIfInBounds 42 x42).setIfInBounds 43 x43).setIfInBounds 13 x13), a0.defers⟩) (hb : Below B w0 w) (cd0 : Hid (b0 = true → x38 = .agg #[.string (bsOf NM), .slice (some ⟨g, 0, none⟩) N cg, .int .i64 (KI : Nat), .bool only])) (cd1 : Hid (b1 = true → x39 = .slice (some ⟨nb, noff, none⟩) nl nc)) (cd2 : Hid (b2 = true → x40 = .int .i64 (j : Nat))) (cd3 : Hid (b3 = true → x41 = .pointer (some ⟨nb, noff + j, none⟩))) (cd4 : Hid (b4 = true → x42 = .int .i64 x)) (cd5 : Hid (b5 = true → x43 = .slice ra N rca)) (cd6 : Hid (b6 = true → x13 = .slice ra N rca)) (f_r : Hid (b5 = true → TxtR EV w 55 w0.heap.size ra N rca (fitRow F x))) (w_6_5 : Hid (b6 = true → b5 = true)) : TOrders12 B gs NM g N cg KI only nb noff nl nc j x F a0 w0 L a w
/-- What stands while the region's operations come up. -/
inductive TOrders20 (B : Nat) (gb : Nat) (NM : List UInt8) (g : Nat) (N : Nat) (cg : Nat) (KI : Nat) (only : Bool) (co : Option Addr) (cc : Nat) (ro : Option Addr) (rn : Nat) (rc : Nat) (lb : Nat) (loff : Nat) (m : Nat) (lc : Nat) (i : Nat) (by' : Int) (bm : Nat) (sm : Nat) (p : Nat) (ra : Option Addr) (rca : Nat) (F : List Co) (rs2 : List (List V)) (a0 : Act) (w0 : World) (L : Array Bool) (a : Act) (w : World) : Prop
  | mk (b0 b1 b2 b3 b4 b5 b6 b7 b8 b9 b10 b11 b12 b13 b14 b15 b16 b17 b18 b19 : Bool) (x64 x65 x66 x67 x68 x69 x70 x71 x72 x73 x74 x75 x76 x77 x63 x78 x79 x17 x18 : Value) (co2 : Option Addr) (cc2 : Nat) (ro2 : Option Addr) (rn2 : Nat) (rc2 : Nat) (gu : Nat) (hL : L = #[b0, b1, b2, b3, b4, b5, b6, b7, b8, b9, b10, b11, b12, b13, b14, b15, b16, b17, b18, b19]) (ha : a = ⟨(((((((((((((((((((a0.tmps.setIfInBounds 64 x64).setIfInBounds 65 x65).setIfInBounds 66 x66).setIfInBounds 67 x67).setIfInBounds 68 x68).setIfInBounds 69 x69).setIfInBounds 70 x70).setIfInBounds 71 x71).setIfInBounds 72 x72).setIfInBounds 73 x73).setIfInBounds 74 x74).setIfInBounds 75 x75).setIfInBounds 76 x76).setIfInBounds 77 x77).setIfInBounds 63 x63).setIfInBounds 78 x78).setIfInBounds 79 x79).setIfInBounds 17 x17).setIfInBounds 18 x18), a0.defers⟩) (hb : Below B w0 w) (cd0 : Hid (b0 = true → x64 = .agg #[.string (bsOf NM), .slice co N cc, .int .i64 (KI : Nat), .bool only, .slice ro rn rc])) (cd1 : Hid (b1 = true → x65 = .slice (some ⟨lb, loff, none⟩) m lc)) (cd2 : Hid (b2 = true → x66 = .int .i64 (i : Nat))) (cd3 : Hid (b3 = true → x67 = .int .i64 by')) (cd4 : Hid (b4 = true → x68 = .slice (some ⟨lb, loff, none⟩) m lc)) (cd5 : Hid (b5 = true → x69 = .int .i64 (m : Nat))) (cd6 : Hid (b6 = true → x70 = .int .i64 (bm : Nat))) (cd7 : Hid (b7 = true → x71 = .int .i64 (sm : Nat))) (cd8 : Hid (b8 = true → x72 = .slice (some ⟨lb, loff, none⟩) m lc)) (cd9 : Hid (b9 = true → x73 = .int .i64 (m : Nat))) (cd10 : Hid (b10 = true → x74 = .int .i64 (p : Nat))) (cd11 : Hid (b11 = true → x75 = .pointer (some ⟨lb, loff + p, none⟩))) (cd12 : Hid (b12 = true → x76 = .slice ra N rca)) (cd13 : Hid (b13 = true → x77 = .tuple #[.agg #[.string (bsOf NM), .slice co2 N cc2, .int .i64 (KI : Nat), .bool only, .slice ro2 rn2 rc2], .int .i64 0])) (cd14 : Hid (b14 = true → x63 = .tuple #[.agg #[.string (bsOf NM), .slice co2 N cc2, .int .i64 (KI : Nat), .bool only, .slice ro2 rn2 rc2], .int .i64 0])) (cd15 : Hid (b15 = true → x78 = .agg #[.string (bsOf NM), .slice co2 N cc2, .int .i64 (KI : Nat), .bool only, .slice ro2 rn2 rc2])) (cd16 : Hid (b16 = true → x79 = .int .i64 0)) (cd17 : Hid (b17 = true → x17 = .pointer (some ⟨gu, 0, none⟩))) (cd19 : Hid (b19 = true → x18 = .int .i64 0)) (f_tt : Hid (b13 = true → IsT w w0.heap.size co2 N cc2 F ro2 rn2 rc2 rs2)) (f_st : Hid (b13 = true → b18 = false → (b17 = true → ∀ w'', w.grownBy w'' (some gu) → IsT w'' w0.heap.size co2 N cc2 F ro2 rn2 rc2 rs2))) (f_lt : Hid (b17 = true → gu < w.heap.size)) (f_z : Hid (b17 = true → b18 = false → Bk w gu (tbC [] none 0 0 0 false none 0 0) 47)) (f_lg : Hid (b17 = true → w0.heap.size ≤ gu)) (f_s : Hid (b18 = true → Bk w gu (tbC NM co2 N cc2 (KI : Nat) only ro2 rn2 rc2) 47)) (f_o18 : Hid (b18 = true → b13 = true)) (f_o18b : Hid (b18 = true → b17 = true)) (w_14_13 : Hid (b14 = true → b13 = true)) (w_15_13 : Hid (b15 = true → b13 = true)) : TOrders20 B gb NM g N cg KI only co cc ro rn rc lb loff m lc i by' bm sm p ra rca F rs2 a0 w0 L a w
set_option maxRecDepth 100000 in
set_option maxHeartbeats 8000000 in
theorem tableOrders_walk (l : List UInt8) (ao : Option Addr) (n c : Nat) (key : Int) (only : Bool) (cs : List Co) (na : Option Addr) (nl nc : Nat) (ns : List Int) (by' : Int) (w : World) (_hl : l.length ≤ maxLen) (_hkey : (Lit.int .i64 key).wf = true) (h : IsR encCo w ao n c cs) (_hcs : ∀ x ∈ cs, (Lit.int .i64 x.kind).wf = true ∧ x.name.length ≤ maxLen) (hI : IsR EI w na nl nc ns) (hIw : ∀ x ∈ ns, (Lit.int .i64 x).wf = true) (_hby : (Lit.int .i64 by').wf = true) :
    Calls Try.prog 9 #[scV l ao n c key only, .slice na nl nc, .int .i64 by'] w (Told w true) := by
  unfold scV
  have X0 := ScB.new w l ao n c key only
  have B0 := (Below.refl w.heap.size w).alloc (Nat.le_refl _) (.cells #[.string (bsOf l), .slice ao n c, .int .i64 key, .bool only] 40)
  go_enter Try.func9, Try.ntmps9
  go_upto_region 1 with fail
  generalize w.alloc (.cells #[.string (bsOf l), .slice ao n c, .int .i64 key, .bool only] 40) = W0 at X0 B0 ⊢
  obtain ⟨p0, hp0⟩ : ∃ p0, w.heap.size = p0 := ⟨_, rfl⟩
  have HP := Lib.hid hp0
  rw [hp0] at X0 B0
  simp only [hp0]
  clear hp0
  have hW0 : p0 ≤ W0.heap.size := Nat.le_of_lt X0.lt
  go_upto_region 3 with (go_at_call 18; refine (known10 _).mono ?_; rintro e w1 ⟨rfl, b1⟩)
  have X1 := X0.past b1
  have B1 := B0.trans (b1.mono hW0)
  have hW1 := Nat.le_trans hW0 b1.size
  have h1 : IsR encCo w1 ao n c cs := h.past (by rw [HP.out]; exact B1)
  have HFw := few9_any w1 l ao n c cs key only h1
  unfold scV at HFw
  have y0 : w1.cell? ⟨p0, 0, none⟩ = some (.string (bsOf l)) := cell_blk X1 rfl
  have y1 : w1.cell? ⟨p0, 1, none⟩ = some (.slice ao n c) := cell_blk X1 rfl
  have y2 : w1.cell? ⟨p0, 2, none⟩ = some (.int .i64 key) := cell_blk X1 rfl
  have y3 : w1.cell? ⟨p0, 3, none⟩ = some (.bool only) := cell_blk X1 rfl
  cases hfw : fewS l cs
  · rw [hfw] at HFw
    go_wp2_with (go_at_call 19; refine HFw.mono ?_; rintro e w2 ⟨rfl, b2⟩)
    go_ret
    exact ⟨rfl, by rw [HP.out]; exact B1.trans (b2.mono hW1)⟩
  rw [hfw] at HFw
  have hn9 : n ≤ 9 := by
    unfold fewS at hfw
    simp only [Bool.and_eq_true, decide_eq_true_eq] at hfw
    have := h.len
    omega
  clear hfw
  go_upto_region 5 with (go_at_call 19; refine HFw.mono ?_; rintro e w2 ⟨rfl, b2⟩)
  have X2 := X1.past b2
  have B2 := B1.trans (b2.mono hW1)
  have hW2 := Nat.le_trans hW1 b2.size
  have h2 := h1.past b2
  clear y0 y1 y2 y3 HFw
  have y0 : w2.cell? ⟨p0, 0, none⟩ = some (.string (bsOf l)) := cell_blk X2 rfl
  have y1 : w2.cell? ⟨p0, 1, none⟩ = some (.slice ao n c) := cell_blk X2 rfl
  have y2 : w2.cell? ⟨p0, 2, none⟩ = some (.int .i64 key) := cell_blk X2 rfl
  have y3 : w2.cell? ⟨p0, 3, none⟩ = some (.bool only) := cell_blk X2 rfl
  have HG := good9_any w2 l ao n c cs key 3 only h2 (by omega)
  unfold GoodIs scV at HG
  have hNp := gN_pos cs
  have hKl := (gKey_lt cs key).1
  have hFl := gFin_len cs key
  have hFk := gFin_kinds cs key
  have hFn := gFin_keyN cs key
  obtain ⟨N, hN⟩ : ∃ N, gN cs = N := ⟨_, rfl⟩
  obtain ⟨KI, hKI⟩ : ∃ KI, gKey cs key = KI := ⟨_, rfl⟩
  obtain ⟨F, hF⟩ : ∃ F, gFin cs key = F := ⟨_, rfl⟩
  obtain ⟨NM, hNM⟩ : ∃ NM, gNm 3 = NM := ⟨_, rfl⟩
  simp only [hN, hKI, hF, hNM] at HG hNp hKl hFl hFk hFn
  clear hN hKI hF hNM
  go_upto_region 6 with (go_at_call 21; refine HG.mono ?_; rintro e w3 ⟨g, cg, rfl, og, b3, q3⟩)
  have hW3 := Nat.le_trans hW2 b3.size
  have B3 : Below p0 w (w3.alloc (.cells #[.string (bsOf NM), .slice (some ⟨g, 0, none⟩) N cg, .int .i64 (KI : Nat), .bool only] 40)) := (B2.trans (b3.mono hW2)).alloc hW3 _
  have XS : Bk (w3.alloc (.cells #[.string (bsOf NM), .slice (some ⟨g, 0, none⟩) N cg, .int .i64 (KI : Nat), .bool only] 40)) w3.heap.size (scC NM (some ⟨g, 0, none⟩) N cg (KI : Nat) only) 40 := Bk.new w3 _ _
  have oG := og.alloc (.cells #[.string (bsOf NM), .slice (some ⟨g, 0, none⟩) N cg, .int .i64 (KI : Nat), .bool only] 40)
  have hgl := og.lt
  have hg0 : p0 ≤ g := Nat.le_trans hW2 q3
  generalize w3.alloc (.cells #[.string (bsOf NM), .slice (some ⟨g, 0, none⟩) N cg, .int .i64 (KI : Nat), .bool only] 40) = W at B3 XS oG ⊢
  obtain ⟨gs, hgs⟩ : ∃ gs, w3.heap.size = gs := ⟨_, rfl⟩
  rw [hgs] at XS hgl hW3
  simp only [hgs]
  obtain ⟨z0, z1, z2, z3⟩ := sc_cells XS
  have hgsW : gs < W.heap.size := XS.lt
  have iG := oG.isR
  clear hgs og b3 q3 HG y0 y1 y2 y3 X2 X1 X0 B2 B1 B0 b1 b2 h2 h1 hW2 hW1 hW0
  have hpW : p0 ≤ W.heap.size := by omega
  have hgsB := XS.lt
  have hB0 : W.heap.size ≤ W.heap.size := Nat.le_refl _
  refine region_inv (TOrders6 W.heap.size gs NM g N cg KI only) (by kernel_rfl) (by kernel_rfl) ?_ ?_ ?_
  · exact ⟨false, false, false, false, false, false, false, false, undef, undef, undef, undef, undef, undef, 0, 0, rfl, (by simp only [Act.put, List.setIfInBounds_toArray, List.set_cons_zero, List.set_cons_succ]), Below.refl _ _, (fun h => by cases h), (fun h => by cases h), (fun h => by cases h), (fun h => by cases h), (fun h => by cases h), (fun h => by cases h), (fun h => by cases h), (fun h => by cases h), (fun h => by cases h), (fun h => by cases h), (fun h => by cases h), (fun h => by cases h), (fun h => by cases h), (fun h => by cases h), (fun h => by cases h), (fun h => by cases h), (fun h => by cases h), (fun h => by cases h)⟩
  · refine ⟨?_, ?_, ?_, ?_, ?_, ?_, ?_, ?_, trivial⟩
    · rintro L a w ⟨b0, b1, b2, b3, b4, b5, b6, b7, x26, x27, x28, x29, x8, x9, pa, pb, rfl, rfl, hb, cd0, cd1, cd2, cd3, cd4, cd5, f_za, f_zb, f_sa, f_sb, f_ta, f_tb, f_lpa, f_lpb, f_np, f_o6, f_o7, f_o7d⟩ hf hd
      have hf' : b0 = false := hf
      subst hf'
      clear hf hd
      try simp only [List.setIfInBounds_toArray, List.set_cons_zero, List.set_cons_succ]
      have z0 := (hb.cell hgsB).trans z0
      have z1 := (hb.cell hgsB).trans z1
      have z2 := (hb.cell hgsB).trans z2
      have z3 := (hb.cell hgsB).trans z3
      intro K hK
      rw [if_pos (by rfl)]
      go_simp
      exact hK.out _ _ ⟨true, b1, b2, b3, b4, b5, b6, b7, (.agg #[.string (bsOf NM), .slice (some ⟨g, 0, none⟩) N cg, .int .i64 (KI : Nat), .bool only]), x27, x28, x29, x8, x9, pa, pb, (by simp only [Act.put, List.setIfInBounds_toArray, List.set_cons_zero, List.set_cons_succ]), (by simp only [Act.put, List.setIfInBounds_toArray, List.set_cons_zero, List.set_cons_succ]), hb, (fun _ => rfl), cd1, cd2, cd3, cd4, cd5, f_za, f_zb, f_sa, f_sb, f_ta, f_tb, f_lpa, f_lpb, f_np, f_o6, f_o7, f_o7d⟩
    · rintro L a w ⟨b0, b1, b2, b3, b4, b5, b6, b7, x26, x27, x28, x29, x8, x9, pa, pb, rfl, rfl, hb, cd0, cd1, cd2, cd3, cd4, cd5, f_za, f_zb, f_sa, f_sb, f_ta, f_tb, f_lpa, f_lpb, f_np, f_o6, f_o7, f_o7d⟩ hf hd
      have hf' : b1 = false := hf
      subst hf'
      have d0 : b0 = true := hd ⟨0, .data⟩ (by simp) rfl
      subst d0
      obtain rfl := cd0.out rfl
      clear hf hd
      try simp only [List.setIfInBounds_toArray, List.set_cons_zero, List.set_cons_succ]
      intro K hK
      rw [if_pos (by rfl)]
      go_simp
      exact hK.out _ _ ⟨true, true, b2, b3, b4, b5, b6, b7, .agg #[.string (bsOf NM), .slice (some ⟨g, 0, none⟩) N cg, .int .i64 (KI : Nat), .bool only], (.agg #[.string (bsOf NM), .slice (some ⟨g, 0, none⟩) N cg, .int .i64 (KI : Nat), .bool only, .slice none 0 0]), x28, x29, x8, x9, pa, pb, (by simp only [Act.put, List.setIfInBounds_toArray, List.set_cons_zero, List.set_cons_succ]), (by simp only [Act.put, List.setIfInBounds_toArray, List.set_cons_zero, List.set_cons_succ]), hb, (fun _ => rfl), (fun _ => rfl), cd2, cd3, cd4, cd5, f_za, f_zb, f_sa, f_sb, f_ta, f_tb, f_lpa, f_lpb, f_np, f_o6, f_o7, f_o7d⟩
    · rintro L a w ⟨b0, b1, b2, b3, b4, b5, b6, b7, x26, x27, x28, x29, x8, x9, pa, pb, rfl, rfl, hb, cd0, cd1, cd2, cd3, cd4, cd5, f_za, f_zb, f_sa, f_sb, f_ta, f_tb, f_lpa, f_lpb, f_np, f_o6, f_o7, f_o7d⟩ hf hd
      have hf' : b2 = false := hf
      subst hf'
      clear hf hd
      try simp only [List.setIfInBounds_toArray, List.set_cons_zero, List.set_cons_succ]
      have z0 := (hb.cell hgsB).trans z0
      have z1 := (hb.cell hgsB).trans z1
      have z2 := (hb.cell hgsB).trans z2
      have z3 := (hb.cell hgsB).trans z3
      intro K hK
      rw [if_pos (by rfl)]
      go_simp
      exact hK.out _ _ ⟨b0, b1, true, b3, b4, b5, b6, b7, x26, x27, (.agg #[.string (bsOf NM), .slice (some ⟨g, 0, none⟩) N cg, .int .i64 (KI : Nat), .bool only]), x29, x8, x9, pa, pb, (by simp only [Act.put, List.setIfInBounds_toArray, List.set_cons_zero, List.set_cons_succ]), (by simp only [Act.put, List.setIfInBounds_toArray, List.set_cons_zero, List.set_cons_succ]), hb, cd0, cd1, (fun _ => rfl), cd3, cd4, cd5, f_za, f_zb, f_sa, f_sb, f_ta, f_tb, f_lpa, f_lpb, f_np, f_o6, f_o7, f_o7d⟩
    · rintro L a w ⟨b0, b1, b2, b3, b4, b5, b6, b7, x26, x27, x28, x29, x8, x9, pa, pb, rfl, rfl, hb, cd0, cd1, cd2, cd3, cd4, cd5, f_za, f_zb, f_sa, f_sb, f_ta, f_tb, f_lpa, f_lpb, f_np, f_o6, f_o7, f_o7d⟩ hf hd
      have hf' : b3 = false := hf
      subst hf'
      have d2 : b2 = true := hd ⟨2, .data⟩ (by simp) rfl
      subst d2
      obtain rfl := cd2.out rfl
      clear hf hd
      try simp only [List.setIfInBounds_toArray, List.set_cons_zero, List.set_cons_succ]
      intro K hK
      rw [if_pos (by rfl)]
      go_simp
      exact hK.out _ _ ⟨b0, b1, true, true, b4, b5, b6, b7, x26, x27, .agg #[.string (bsOf NM), .slice (some ⟨g, 0, none⟩) N cg, .int .i64 (KI : Nat), .bool only], (.agg #[.string (bsOf NM), .slice (some ⟨g, 0, none⟩) N cg, .int .i64 (KI : Nat), .bool only, .slice none 0 0]), x8, x9, pa, pb, (by simp only [Act.put, List.setIfInBounds_toArray, List.set_cons_zero, List.set_cons_succ]), (by simp only [Act.put, List.setIfInBounds_toArray, List.set_cons_zero, List.set_cons_succ]), hb, cd0, cd1, (fun _ => rfl), (fun _ => rfl), cd4, cd5, f_za, f_zb, f_sa, f_sb, f_ta, f_tb, f_lpa, f_lpb, f_np, f_o6, f_o7, f_o7d⟩
    · rintro L a w ⟨b0, b1, b2, b3, b4, b5, b6, b7, x26, x27, x28, x29, x8, x9, pa, pb, rfl, rfl, hb, cd0, cd1, cd2, cd3, cd4, cd5, f_za, f_zb, f_sa, f_sb, f_ta, f_tb, f_lpa, f_lpb, f_np, f_o6, f_o7, f_o7d⟩ hf hd
      have hf' : b4 = false := hf
      subst hf'
      clear hf hd
      try simp only [List.setIfInBounds_toArray, List.set_cons_zero, List.set_cons_succ]
      intro K hK
      rw [if_pos (by rfl)]
      go_simp
      have bx : Below w.heap.size w (w.alloc (.cells #[.string ⟨#[]⟩, .slice none 0 0, .int .i64 0, .bool false, .slice none 0 0] 47)) := (Below.refl _ _).alloc (Nat.le_refl _) _
      have i2 : Bk (w.alloc (.cells #[.string ⟨#[]⟩, .slice none 0 0, .int .i64 0, .bool false, .slice none 0 0] 47)) w.heap.size (tbC [] none 0 0 0 false none 0 0) 47 := Bk.new w _ _
      exact hK.out _ _ ⟨b0, b1, b2, b3, true, b5, b6, b7, x26, x27, x28, x29, (.pointer (some ⟨(w.heap.size), 0, none⟩)), x9, w.heap.size, pb, (by simp only [Act.put, List.setIfInBounds_toArray, List.set_cons_zero, List.set_cons_succ]), (by simp only [Act.put, List.setIfInBounds_toArray, List.set_cons_zero, List.set_cons_succ]), hb.trans (bx.mono (Nat.le_trans hB0 hb.size)), cd0, cd1, cd2, cd3, (fun _ => rfl), cd5, (fun _ _ => i2), (fun h0 h1 => (f_zb.out h0 h1).past bx), (fun h0 => absurd (f_o6.out h0) (by simp)), (fun h0 => (f_sb.out h0).past bx), (fun _ => by rw [World.size_alloc]; omega), (fun h0 => Nat.lt_of_lt_of_le (f_tb.out h0) bx.size), (fun _ => hb.size), f_lpb, (fun _ => fun h => Nat.ne_of_gt (f_tb.out h)), (fun _ => rfl), f_o7, f_o7d⟩
    · rintro L a w ⟨b0, b1, b2, b3, b4, b5, b6, b7, x26, x27, x28, x29, x8, x9, pa, pb, rfl, rfl, hb, cd0, cd1, cd2, cd3, cd4, cd5, f_za, f_zb, f_sa, f_sb, f_ta, f_tb, f_lpa, f_lpb, f_np, f_o6, f_o7, f_o7d⟩ hf hd
      have hf' : b5 = false := hf
      subst hf'
      clear hf hd
      try simp only [List.setIfInBounds_toArray, List.set_cons_zero, List.set_cons_succ]
      intro K hK
      rw [if_pos (by rfl)]
      go_simp
      have bx : Below w.heap.size w (w.alloc (.cells #[.string ⟨#[]⟩, .slice none 0 0, .int .i64 0, .bool false, .slice none 0 0] 47)) := (Below.refl _ _).alloc (Nat.le_refl _) _
      have i2 : Bk (w.alloc (.cells #[.string ⟨#[]⟩, .slice none 0 0, .int .i64 0, .bool false, .slice none 0 0] 47)) w.heap.size (tbC [] none 0 0 0 false none 0 0) 47 := Bk.new w _ _
      exact hK.out _ _ ⟨b0, b1, b2, b3, b4, true, b6, b7, x26, x27, x28, x29, x8, (.pointer (some ⟨(w.heap.size), 0, none⟩)), pa, w.heap.size, (by simp only [Act.put, List.setIfInBounds_toArray, List.set_cons_zero, List.set_cons_succ]), (by simp only [Act.put, List.setIfInBounds_toArray, List.set_cons_zero, List.set_cons_succ]), hb.trans (bx.mono (Nat.le_trans hB0 hb.size)), cd0, cd1, cd2, cd3, cd4, (fun _ => rfl), (fun h0 h1 => (f_za.out h0 h1).past bx), (fun _ _ => i2), (fun h0 => (f_sa.out h0).past bx), (fun h0 => absurd (f_o7.out h0) (by simp)), (fun h0 => Nat.lt_of_lt_of_le (f_ta.out h0) bx.size), (fun _ => by rw [World.size_alloc]; omega), f_lpa, (fun _ => hb.size), (fun h _ => Nat.ne_of_lt (f_ta.out h)), f_o6, (fun _ => rfl), f_o7d⟩
    · rintro L a w ⟨b0, b1, b2, b3, b4, b5, b6, b7, x26, x27, x28, x29, x8, x9, pa, pb, rfl, rfl, hb, cd0, cd1, cd2, cd3, cd4, cd5, f_za, f_zb, f_sa, f_sb, f_ta, f_tb, f_lpa, f_lpb, f_np, f_o6, f_o7, f_o7d⟩ hf hd
      have hf' : b6 = false := hf
      subst hf'
      have d4 : b4 = true := hd ⟨4, .data⟩ (by simp) rfl
      subst d4
      have d1 : b1 = true := hd ⟨1, .data⟩ (by simp) rfl
      subst d1
      have d0 : b0 = true := hd ⟨0, .phase⟩ (by simp) rfl
      subst d0
      have d5 : b5 = true := hd ⟨5, .phase⟩ (by simp) rfl
      subst d5
      obtain rfl := cd4.out rfl
      obtain rfl := cd1.out rfl
      obtain rfl := cd0.out rfl
      obtain rfl := cd5.out rfl
      clear hf hd
      have W_za := f_za.out rfl rfl
      have W_ta := f_ta.out rfl
      have W_tb := f_tb.out rfl
      have W_lpa := f_lpa.out rfl
      have W_lpb := f_lpb.out rfl
      have W_np := f_np.out rfl
      try simp only [List.setIfInBounds_toArray, List.set_cons_zero, List.set_cons_succ]
      intro K hK
      rw [if_pos (by rfl)]
      refine wp_store_blkT 47 _ _ rfl pa _ (tbC NM (some ⟨g, 0, none⟩) N cg (KI : Nat) only none 0 0) rfl rfl _ (Lib.hid W_za) 5 szTb (tbC_size ..) (tbC_size ..) (tbC_all ..) fun w2 h8 g8 => ?_
      have hb2 := hb.grown g8 (Nat.le_trans hB0 hb.size) (fun z hz => by cases hz; exact Nat.le_trans hB0 W_lpa)
      exact hK.out _ _ ⟨true, true, b2, b3, true, true, true, b7, .agg #[.string (bsOf NM), .slice (some ⟨g, 0, none⟩) N cg, .int .i64 (KI : Nat), .bool only], .agg #[.string (bsOf NM), .slice (some ⟨g, 0, none⟩) N cg, .int .i64 (KI : Nat), .bool only, .slice none 0 0], x28, x29, .pointer (some ⟨pa, 0, none⟩), .pointer (some ⟨pb, 0, none⟩), pa, pb, (by simp only [Act.put, List.setIfInBounds_toArray, List.set_cons_zero, List.set_cons_succ]), (by simp only [Act.put, List.setIfInBounds_toArray, List.set_cons_zero, List.set_cons_succ]), hb2, (fun _ => rfl), (fun _ => rfl), cd2, cd3, (fun _ => rfl), (fun _ => rfl), (fun _ h => by cases h), (fun h0 h1 => (Bk.grown (f_zb.out h0 h1) g8 (fun e => W_np h0 (Option.some.inj e).symm))), (fun _ => h8.out), (fun h0 => absurd (f_o7d.out h0) (by simp)), (fun h0 => Nat.lt_of_lt_of_le ((f_ta.out h0)) g8.size), (fun h0 => Nat.lt_of_lt_of_le ((f_tb.out h0)) g8.size), f_lpa, f_lpb, f_np, (fun _ => rfl), f_o7, (fun _ => rfl)⟩
    · rintro L a w ⟨b0, b1, b2, b3, b4, b5, b6, b7, x26, x27, x28, x29, x8, x9, pa, pb, rfl, rfl, hb, cd0, cd1, cd2, cd3, cd4, cd5, f_za, f_zb, f_sa, f_sb, f_ta, f_tb, f_lpa, f_lpb, f_np, f_o6, f_o7, f_o7d⟩ hf hd
      have hf' : b7 = false := hf
      subst hf'
      have d5 : b5 = true := hd ⟨5, .data⟩ (by simp) rfl
      subst d5
      have d3 : b3 = true := hd ⟨3, .data⟩ (by simp) rfl
      subst d3
      have d6 : b6 = true := hd ⟨6, .chain⟩ (by simp) rfl
      subst d6
      have d0 : b0 = true := hd ⟨0, .phase⟩ (by simp) rfl
      subst d0
      have d1 : b1 = true := hd ⟨1, .phase⟩ (by simp) rfl
      subst d1
      have d2 : b2 = true := hd ⟨2, .phase⟩ (by simp) rfl
      subst d2
      have d4 : b4 = true := hd ⟨4, .phase⟩ (by simp) rfl
      subst d4
      obtain rfl := cd5.out rfl
      obtain rfl := cd3.out rfl
      obtain rfl := cd0.out rfl
      obtain rfl := cd1.out rfl
      obtain rfl := cd2.out rfl
      obtain rfl := cd4.out rfl
      clear hf hd
      have W_zb := f_zb.out rfl rfl
      have W_sa := f_sa.out rfl
      have W_ta := f_ta.out rfl
      have W_tb := f_tb.out rfl
      have W_lpa := f_lpa.out rfl
      have W_lpb := f_lpb.out rfl
      have W_np := f_np.out rfl
      have W_o6 := f_o6.out rfl
      try simp only [List.setIfInBounds_toArray, List.set_cons_zero, List.set_cons_succ]
      intro K hK
      rw [if_pos (by rfl)]
      refine wp_store_blkT 47 _ _ rfl pb _ (tbC NM (some ⟨g, 0, none⟩) N cg (KI : Nat) only none 0 0) rfl rfl _ (Lib.hid W_zb) 5 szTb (tbC_size ..) (tbC_size ..) (tbC_all ..) fun w2 h8 g8 => ?_
      have hb2 := hb.grown g8 (Nat.le_trans hB0 hb.size) (fun z hz => by cases hz; exact Nat.le_trans hB0 W_lpb)
      exact hK.out _ _ ⟨true, true, true, true, true, true, true, true, .agg #[.string (bsOf NM), .slice (some ⟨g, 0, none⟩) N cg, .int .i64 (KI : Nat), .bool only], .agg #[.string (bsOf NM), .slice (some ⟨g, 0, none⟩) N cg, .int .i64 (KI : Nat), .bool only, .slice none 0 0], .agg #[.string (bsOf NM), .slice (some ⟨g, 0, none⟩) N cg, .int .i64 (KI : Nat), .bool only], .agg #[.string (bsOf NM), .slice (some ⟨g, 0, none⟩) N cg, .int .i64 (KI : Nat), .bool only, .slice none 0 0], .pointer (some ⟨pa, 0, none⟩), .pointer (some ⟨pb, 0, none⟩), pa, pb, (by simp only [Act.put, List.setIfInBounds_toArray, List.set_cons_zero, List.set_cons_succ]), (by simp only [Act.put, List.setIfInBounds_toArray, List.set_cons_zero, List.set_cons_succ]), hb2, (fun _ => rfl), (fun _ => rfl), (fun _ => rfl), (fun _ => rfl), (fun _ => rfl), (fun _ => rfl), (fun _ h => by cases h), (fun _ h => by cases h), (fun h0 => (Bk.grown (f_sa.out h0) g8 (fun e => W_np rfl (Option.some.inj e)))), (fun _ => h8.out), (fun h0 => Nat.lt_of_lt_of_le ((f_ta.out h0)) g8.size), (fun h0 => Nat.lt_of_lt_of_le ((f_tb.out h0)) g8.size), f_lpa, f_lpb, f_np, f_o6, (fun _ => rfl), (fun _ => rfl)⟩
  · rintro act U0 ⟨b0, b1, b2, b3, b4, b5, b6, b7, x26, x27, x28, x29, x8, x9, pa, pb, hL, rfl, hb, cd0, cd1, cd2, cd3, cd4, cd5, f_za, f_zb, f_sa, f_sb, f_ta, f_tb, f_lpa, f_lpb, f_np, f_o6, f_o7, f_o7d⟩
    have hL' : [true, true, true, true, true, true, true, true] = [b0, b1, b2, b3, b4, b5, b6, b7] := congrArg Array.toList hL
    simp only [List.cons.injEq, and_true] at hL'
    obtain ⟨rfl, rfl, rfl, rfl, rfl, rfl, rfl, rfl⟩ := hL'
    obtain rfl := cd0.out rfl
    obtain rfl := cd1.out rfl
    obtain rfl := cd2.out rfl
    obtain rfl := cd3.out rfl
    obtain rfl := cd4.out rfl
    obtain rfl := cd5.out rfl
    have W_sa := f_sa.out rfl
    have W_sb := f_sb.out rfl
    have W_ta := f_ta.out rfl
    have W_tb := f_tb.out rfl
    have W_lpa := f_lpa.out rfl
    have W_lpb := f_lpb.out rfl
    have W_np := f_np.out rfl
    have W_o6 := f_o6.out rfl
    have W_o7 := f_o7.out rfl
    have W_o7d := f_o7d.out rfl
    clear hL f_za f_zb f_sa f_sb f_ta f_tb f_lpa f_lpb f_np f_o6 f_o7 f_o7d cd0 cd1 cd2 cd3 cd4 cd5
    simp only [List.setIfInBounds_toArray, List.set_cons_zero, List.set_cons_succ]
    have bV : Below W.heap.size W U0 := (Below.refl _ _).drew.trans hb
    have XS' := XS.past bV
    have iG' := iG.past bV
    have B4 := B3.trans (bV.mono hpW)
    have hnab : pa ≠ pb := W_np rfl
    have hpa : W.heap.size ≤ pa := W_lpa
    have hpb : W.heap.size ≤ pb := W_lpb
    have hTa := W_sa
    have hTb := W_sb
    have hta : pa < U0.heap.size := W_ta
    have htb : pb < U0.heap.size := W_tb
    clear hb W_sa W_sb W_lpa W_lpb W_np W_ta W_tb z0 z1 z2 z3
    obtain ⟨ga, hga⟩ : ∃ ga, pa = ga := ⟨_, rfl⟩
    obtain ⟨gb, hgb⟩ : ∃ gb, pb = gb := ⟨_, rfl⟩
    simp only [hga, hgb] at hnab hpa hpb hTa hTb hta htb
    simp only [hga, hgb]
    clear hga hgb
    have iA0 : IsT U0 0 (some ⟨g, 0, none⟩) N cg F none 0 0 [] := ⟨iG', IsRR.nil U0 0, fun _ _ => Nat.zero_le _⟩
    obtain ⟨q0, hq0⟩ : ∃ q0, U0.heap.size = q0 := ⟨_, rfl⟩
    rw [hq0] at hta htb
    have hgsa : some gs ≠ some ga := by intro e; have := Option.some.inj e; omega
    have hgga : some g ≠ some ga := by intro e; have := Option.some.inj e; omega
    have hgba : some gb ≠ some ga := by intro e; have := Option.some.inj e; omega
    have hgab : some ga ≠ some gb := by intro e; have := Option.some.inj e; omega
    have hp0a : p0 ≤ ga := by omega
    have hp0b : p0 ≤ gb := by omega
    clear XS iG B3 oG hB0
    go_upto_region 8 with fail
    obtain ⟨mn, hmn⟩ : ∃ mn : Nat, min (nl : Int) 30 = (mn : Int) := ⟨min nl 30, by omega⟩
    have hmn1 : mn ≤ nl := by omega
    have hmn2 : mn ≤ 30 := by omega
    simp only [hmn]
    clear hmn
    go_wp2_with fail
    go_loopw [11, 12] (fun lv i wr => ∃ (j : Nat) (coA : Option Addr) (ccA : Nat) (roA : Option Addr) (rnA rcA : Nat) (rsA : List (List V)) (la : Option Addr) (lc : Nat) (hs : List HdR) (L : List (List V)), j ≤ mn ∧ i = .int .i64 (j : Nat) ∧ lv = .slice la rnA lc ∧ Bk wr gs (scC NM (some ⟨g, 0, none⟩) N cg (KI : Nat) only) 40 ∧ IsR encCo wr (some ⟨g, 0, none⟩) N cg F ∧ Bk wr ga (tbC NM coA N ccA (KI : Nat) only roA rnA rcA) 47 ∧ IsT wr 0 coA N ccA F roA rnA rcA rsA ∧ (0 < rnA → IsT wr q0 coA N ccA F roA rnA rcA rsA) ∧ Bk wr gb (tbC NM (some ⟨g, 0, none⟩) N cg (KI : Nat) only none 0 0) 47 ∧ Lst wr q0 la rnA lc hs L ∧ Ins F KI rsA L ∧ rnA ≤ j ∧ q0 ≤ wr.heap.size ∧ Below p0 w wr) (fun _ i _ => mn - (intOf i).toNat)
    case atStart => exact ⟨0, _, _, _, 0, _, [], none, 0, [], [], Nat.zero_le _, rfl, rfl, XS', iG', hTa, iA0, (fun h => absurd h (by omega)), hTb, Lst.nil _ _, Ins.nil F KI, Nat.le_refl _, Nat.le_of_eq hq0.symm, B4⟩
    case round =>
      clear XS' iG' hTa hTb iA0 B4
      obtain ⟨j, coA, ccA, roA, rnA, rcA, rsA, la, lc, hs, L, hj, rfl, rfl, XS0, iG0, hTa0, iA1, hAq, hTb0, lS0, hIn, hrj, hqw, BB⟩ := hrel
      obtain ⟨z0, z1, z2, z3⟩ := sc_cells XS0
      have hpw : p0 ≤ wr.heap.size := by have := BB.size; rw [HP.out] at this; exact this
      have hgsB := XS0.lt
      by_cases hlt : j < mn
      · have hlti : (j : Int) < (mn : Int) := by omega
        have hltn : (j : Int) < (nl : Int) := by omega
        obtain ⟨x, hx⟩ : ∃ x, ns[j]? = some x := ⟨ns[j]'(by have := hI.len; omega), List.getElem?_eq_getElem _⟩
        have hxw := hIw x (List.mem_of_getElem? hx)
        obtain ⟨nb, noff, rfl, hnb, hncl⟩ := hI.open (by omega) (by decide)
        have hnbp : nb < p0 := by rw [← HP.out]; exact hnb
        have cx : wr.cell? ⟨nb, noff + j, none⟩ = some (.int .i64 x) := by
          rw [BB.cell (show nb < p0 from hnbp)]
          exact hncl j _ (by have := EI.all_get ns j 0 x hx (by decide); simpa [EI] using this)
        have hnbB : nb < wr.heap.size := by omega
        have HFit := fun (w' : World) (hb : Below wr.heap.size wr.drew w') => fit_any w' NM (some ⟨g, 0, none⟩) N cg F (KI : Nat) only (iG0.drew.past hb) (by omega) hFk x hxw
        unfold scV at HFit
        have hB0 : wr.heap.size ≤ wr.heap.size := Nat.le_refl _
        clear hncl hx
        go_upto_region 12 with fail
        refine region_inv (TOrders12 wr.heap.size gs NM g N cg KI only nb noff nl nc j x F) (by kernel_rfl) (by kernel_rfl) ?_ ?_ ?_
        · exact ⟨false, false, false, false, false, false, false, u38, u39, u40, u41, u42, u43, u13, none, 0, rfl, (by simp only [Act.put, List.setIfInBounds_toArray, List.set_cons_zero, List.set_cons_succ]), Below.refl _ _, (fun h => by cases h), (fun h => by cases h), (fun h => by cases h), (fun h => by cases h), (fun h => by cases h), (fun h => by cases h), (fun h => by cases h), (fun h => by cases h), (fun h => by cases h)⟩
        · refine ⟨?_, ?_, ?_, ?_, ?_, ?_, ?_, trivial⟩
          · rintro L a w ⟨b0, b1, b2, b3, b4, b5, b6, x38, x39, x40, x41, x42, x43, x13, ra, rca, rfl, rfl, hb, cd0, cd1, cd2, cd3, cd4, cd5, cd6, f_r, w_6_5⟩ hf hd
            have hf' : b0 = false := hf
            subst hf'
            clear hf hd
            try simp only [List.setIfInBounds_toArray, List.set_cons_zero, List.set_cons_succ]
            have z0 := (hb.cell hgsB).trans z0
            have z1 := (hb.cell hgsB).trans z1
            have z2 := (hb.cell hgsB).trans z2
            have z3 := (hb.cell hgsB).trans z3
            intro K hK
            rw [if_pos (by rfl)]
            go_simp
            exact hK.out _ _ ⟨true, b1, b2, b3, b4, b5, b6, (.agg #[.string (bsOf NM), .slice (some ⟨g, 0, none⟩) N cg, .int .i64 (KI : Nat), .bool only]), x39, x40, x41, x42, x43, x13, ra, rca, (by simp only [Act.put, List.setIfInBounds_toArray, List.set_cons_zero, List.set_cons_succ]), (by simp only [Act.put, List.setIfInBounds_toArray, List.set_cons_zero, List.set_cons_succ]), hb, (fun _ => rfl), cd1, cd2, cd3, cd4, cd5, cd6, f_r, w_6_5⟩
          · rintro L a w ⟨b0, b1, b2, b3, b4, b5, b6, x38, x39, x40, x41, x42, x43, x13, ra, rca, rfl, rfl, hb, cd0, cd1, cd2, cd3, cd4, cd5, cd6, f_r, w_6_5⟩ hf hd
            have hf' : b1 = false := hf
            subst hf'
            clear hf hd
            try simp only [List.setIfInBounds_toArray, List.set_cons_zero, List.set_cons_succ]
            intro K hK
            rw [if_pos (by rfl)]
            go_simp
            exact hK.out _ _ ⟨b0, true, b2, b3, b4, b5, b6, x38, (.slice (some ⟨nb, noff, none⟩) nl nc), x40, x41, x42, x43, x13, ra, rca, (by simp only [Act.put, List.setIfInBounds_toArray, List.set_cons_zero, List.set_cons_succ]), (by simp only [Act.put, List.setIfInBounds_toArray, List.set_cons_zero, List.set_cons_succ]), hb, cd0, (fun _ => rfl), cd2, cd3, cd4, cd5, cd6, f_r, w_6_5⟩
          · rintro L a w ⟨b0, b1, b2, b3, b4, b5, b6, x38, x39, x40, x41, x42, x43, x13, ra, rca, rfl, rfl, hb, cd0, cd1, cd2, cd3, cd4, cd5, cd6, f_r, w_6_5⟩ hf hd
            have hf' : b2 = false := hf
            subst hf'
            clear hf hd
            try simp only [List.setIfInBounds_toArray, List.set_cons_zero, List.set_cons_succ]
            intro K hK
            rw [if_pos (by rfl)]
            go_simp
            exact hK.out _ _ ⟨b0, b1, true, b3, b4, b5, b6, x38, x39, (.int .i64 (j : Nat)), x41, x42, x43, x13, ra, rca, (by simp only [Act.put, List.setIfInBounds_toArray, List.set_cons_zero, List.set_cons_succ]), (by simp only [Act.put, List.setIfInBounds_toArray, List.set_cons_zero, List.set_cons_succ]), hb, cd0, cd1, (fun _ => rfl), cd3, cd4, cd5, cd6, f_r, w_6_5⟩
          · rintro L a w ⟨b0, b1, b2, b3, b4, b5, b6, x38, x39, x40, x41, x42, x43, x13, ra, rca, rfl, rfl, hb, cd0, cd1, cd2, cd3, cd4, cd5, cd6, f_r, w_6_5⟩ hf hd
            have hf' : b3 = false := hf
            subst hf'
            have d1 : b1 = true := hd ⟨1, .data⟩ (by simp) rfl
            subst d1
            have d2 : b2 = true := hd ⟨2, .data⟩ (by simp) rfl
            subst d2
            obtain rfl := cd1.out rfl
            obtain rfl := cd2.out rfl
            clear hf hd
            try simp only [List.setIfInBounds_toArray, List.set_cons_zero, List.set_cons_succ]
            intro K hK
            rw [if_pos (by rfl)]
            go_simp
            exact hK.out _ _ ⟨b0, true, true, true, b4, b5, b6, x38, .slice (some ⟨nb, noff, none⟩) nl nc, .int .i64 (j : Nat), (.pointer (some ⟨nb, noff + j, none⟩)), x42, x43, x13, ra, rca, (by simp only [Act.put, List.setIfInBounds_toArray, List.set_cons_zero, List.set_cons_succ]), (by simp only [Act.put, List.setIfInBounds_toArray, List.set_cons_zero, List.set_cons_succ]), hb, cd0, (fun _ => rfl), (fun _ => rfl), (fun _ => rfl), cd4, cd5, cd6, f_r, w_6_5⟩
          · rintro L a w ⟨b0, b1, b2, b3, b4, b5, b6, x38, x39, x40, x41, x42, x43, x13, ra, rca, rfl, rfl, hb, cd0, cd1, cd2, cd3, cd4, cd5, cd6, f_r, w_6_5⟩ hf hd
            have hf' : b4 = false := hf
            subst hf'
            have d3 : b3 = true := hd ⟨3, .data⟩ (by simp) rfl
            subst d3
            obtain rfl := cd3.out rfl
            clear hf hd
            try simp only [List.setIfInBounds_toArray, List.set_cons_zero, List.set_cons_succ]
            have z0 := (hb.cell hnbB).trans cx
            intro K hK
            rw [if_pos (by rfl)]
            go_simp
            exact hK.out _ _ ⟨b0, b1, b2, true, true, b5, b6, x38, x39, x40, .pointer (some ⟨nb, noff + j, none⟩), (.int .i64 x), x43, x13, ra, rca, (by simp only [Act.put, List.setIfInBounds_toArray, List.set_cons_zero, List.set_cons_succ]), (by simp only [Act.put, List.setIfInBounds_toArray, List.set_cons_zero, List.set_cons_succ]), hb, cd0, cd1, cd2, (fun _ => rfl), (fun _ => rfl), cd5, cd6, f_r, w_6_5⟩
          · rintro L a w ⟨b0, b1, b2, b3, b4, b5, b6, x38, x39, x40, x41, x42, x43, x13, ra, rca, rfl, rfl, hb, cd0, cd1, cd2, cd3, cd4, cd5, cd6, f_r, w_6_5⟩ hf hd
            have hf' : b5 = false := hf
            subst hf'
            have d0 : b0 = true := hd ⟨0, .data⟩ (by simp) rfl
            subst d0
            have d4 : b4 = true := hd ⟨4, .data⟩ (by simp) rfl
            subst d4
            obtain rfl := cd0.out rfl
            obtain rfl := cd4.out rfl
            clear hf hd
            try simp only [List.setIfInBounds_toArray, List.set_cons_zero, List.set_cons_succ]
            intro K hK
            rw [if_pos (by rfl)]
            go_simp
            go_at_call 22
            refine (HFit _ hb).mono ?_
            rintro e w' ⟨ra2, rca2, rfl, oT, bx⟩
            have e_6 : b6 = false := by cases hq : b6 with | false => rfl | true => exact absurd (w_6_5.out hq) (by simp)
            subst e_6
            exact hK.out _ _ ⟨true, b1, b2, b3, true, true, false, .agg #[.string (bsOf NM), .slice (some ⟨g, 0, none⟩) N cg, .int .i64 (KI : Nat), .bool only], x39, x40, x41, .int .i64 x, (.slice ra2 N rca2), x13, ra2, rca2, (by simp only [Act.put, List.setIfInBounds_toArray, List.set_cons_zero, List.set_cons_succ]), (by simp only [Act.put, List.setIfInBounds_toArray, List.set_cons_zero, List.set_cons_succ]), hb.trans (bx.mono (Nat.le_trans hB0 hb.size)), (fun _ => rfl), cd1, cd2, cd3, (fun _ => rfl), (fun _ => rfl), (fun h => by cases h), (fun _ => oT.lower hb.size), (fun _ => rfl)⟩
          · rintro L a w ⟨b0, b1, b2, b3, b4, b5, b6, x38, x39, x40, x41, x42, x43, x13, ra, rca, rfl, rfl, hb, cd0, cd1, cd2, cd3, cd4, cd5, cd6, f_r, w_6_5⟩ hf hd
            have hf' : b6 = false := hf
            subst hf'
            have d5 : b5 = true := hd ⟨5, .data⟩ (by simp) rfl
            subst d5
            have d0 : b0 = true := hd ⟨0, .phase⟩ (by simp) rfl
            subst d0
            have d1 : b1 = true := hd ⟨1, .phase⟩ (by simp) rfl
            subst d1
            have d2 : b2 = true := hd ⟨2, .phase⟩ (by simp) rfl
            subst d2
            have d3 : b3 = true := hd ⟨3, .phase⟩ (by simp) rfl
            subst d3
            have d4 : b4 = true := hd ⟨4, .phase⟩ (by simp) rfl
            subst d4
            obtain rfl := cd5.out rfl
            obtain rfl := cd0.out rfl
            obtain rfl := cd1.out rfl
            obtain rfl := cd2.out rfl
            obtain rfl := cd3.out rfl
            obtain rfl := cd4.out rfl
            clear hf hd
            have W_r := f_r.out rfl
            try simp only [List.setIfInBounds_toArray, List.set_cons_zero, List.set_cons_succ]
            intro K hK
            rw [if_pos (by rfl)]
            go_simp
            exact hK.out _ _ ⟨true, true, true, true, true, true, true, .agg #[.string (bsOf NM), .slice (some ⟨g, 0, none⟩) N cg, .int .i64 (KI : Nat), .bool only], .slice (some ⟨nb, noff, none⟩) nl nc, .int .i64 (j : Nat), .pointer (some ⟨nb, noff + j, none⟩), .int .i64 x, .slice ra N rca, (.slice ra N rca), ra, rca, (by simp only [Act.put, List.setIfInBounds_toArray, List.set_cons_zero, List.set_cons_succ]), (by simp only [Act.put, List.setIfInBounds_toArray, List.set_cons_zero, List.set_cons_succ]), hb, (fun _ => rfl), (fun _ => rfl), (fun _ => rfl), (fun _ => rfl), (fun _ => rfl), (fun _ => rfl), (fun _ => rfl), f_r, (fun _ => rfl)⟩
        · rintro act V1 ⟨b0, b1, b2, b3, b4, b5, b6, x38, x39, x40, x41, x42, x43, x13, ra, rca, hL, rfl, hb, cd0, cd1, cd2, cd3, cd4, cd5, cd6, f_r, w_6_5⟩
          have hL' : [true, true, true, true, true, true, true] = [b0, b1, b2, b3, b4, b5, b6] := congrArg Array.toList hL
          simp only [List.cons.injEq, and_true] at hL'
          obtain ⟨rfl, rfl, rfl, rfl, rfl, rfl, rfl⟩ := hL'
          obtain rfl := cd0.out rfl
          obtain rfl := cd1.out rfl
          obtain rfl := cd2.out rfl
          obtain rfl := cd3.out rfl
          obtain rfl := cd4.out rfl
          obtain rfl := cd5.out rfl
          obtain rfl := cd6.out rfl
          have W_r := f_r.out rfl
          clear hL f_r cd0 cd1 cd2 cd3 cd4 cd5 cd6 w_6_5
          simp only [List.setIfInBounds_toArray, List.set_cons_zero, List.set_cons_succ]
          have bV1 : Below wr.heap.size wr V1 := (Below.refl _ _).drew.trans hb
          obtain ⟨gr, rfl, oR, hgr⟩ := W_r.own (by omega)
          have hgr2 : wr.heap.size ≤ gr := hgr
          have XS1 := XS0.past bV1
          have iG1 := iG0.past bV1
          have hTa1 := hTa0.past bV1
          have hTb1 := hTb0.past bV1
          have iA2 := iA1.past bV1
          have lS1 := lS0.past bV1
          have BV1 := BB.trans (bV1.mono hpw)
          have hpV1 := Nat.le_trans hpw bV1.size
          have hqV1 := Nat.le_trans hqw bV1.size
          have hlw : ∀ z, blk la = some z → z < wr.heap.size := lS0.own.lt
          clear hb W_r z0 z1 z2 z3 cx HFit hgr
          obtain ⟨t0, t1, t2, t3, t4⟩ := tb_cells hTa1
          have hln := iA2.rows.len
          have HPt := put_any V1 NM coA N ccA KI only roA rnA rcA F (by omega) (by omega) 0 rsA iA2 (some ⟨gr, 0, none⟩) N rca _ oR.isR hIn.fit.srt (by omega) (fun y hy => by have := hIn.fit.len y hy; omega) (by omega)
          have HC := put_fit F hFk KI x rsA (by omega)
          obtain ⟨E, hEe⟩ : ∃ E, putE F KI (fitRow F x) rsA = E := ⟨_, rfl⟩
          obtain ⟨rs2, hrs2⟩ : ∃ rs2, putR F KI (fitRow F x) rsA = rs2 := ⟨_, rfl⟩
          have HEE : Hid ((E = 0 ∧ hasN KI (kOf KI (fitRow F x)) rsA = false ∧ rs2 = putN KI (fitRow F x) rsA) ∨ E = 7) := by
            show _ ∨ _
            rw [← hEe, ← hrs2]
            rcases HC with h | ⟨h, -⟩
            · exact .inl h
            · exact .inr h
          rw [hEe, hrs2] at HPt
          unfold tbV at HPt
          clear hEe hrs2 HC
          go_upto_region 14 with (go_at_call 24; refine HPt.mono ?_; rintro e w4 ⟨co2, cc2, ro2, rn2, rc2, rfl, i2, b2⟩; unfold tbV)
          have bV3 : Below V1.heap.size V1 (w4.alloc (.cells #[.string (bsOf NM), .slice co2 N cc2, .int .i64 (KI : Nat), .bool only, .slice ro2 rn2 rc2] 47)) := b2.alloc b2.size _
          have W_s : Bk (w4.alloc (.cells #[.string (bsOf NM), .slice co2 N cc2, .int .i64 (KI : Nat), .bool only, .slice ro2 rn2 rc2] 47)) w4.heap.size (tbC NM co2 N cc2 (KI : Nat) only ro2 rn2 rc2) 47 := Bk.new w4 _ _
          have i3 := i2.past ((Below.refl w4.heap.size w4).alloc (Nat.le_refl _) (.cells #[.string (bsOf NM), .slice co2 N cc2, .int .i64 (KI : Nat), .bool only, .slice ro2 rn2 rc2] 47))
          generalize w4.alloc (.cells #[.string (bsOf NM), .slice co2 N cc2, .int .i64 (KI : Nat), .bool only, .slice ro2 rn2 rc2] 47) = V3 at bV3 W_s i3 ⊢
          obtain ⟨gu, hgu⟩ : ∃ gu, w4.heap.size = gu := ⟨_, rfl⟩
          rw [hgu] at W_s
          simp only [hgu]
          have XS3 := XS1.past bV3
          have iG3 := iG1.past bV3
          have hTa3 := hTa1.past bV3
          have hTb3 := hTb1.past bV3
          have iA3 := iA2.past bV3
          have lS3 := lS1.past bV3
          have oR3 := oR.past bV3
          have BV3 := BV1.trans (bV3.mono hpV1)
          have hpV3 := Nat.le_trans hpV1 bV3.size
          have hqV3 := Nat.le_trans hqV1 bV3.size
          obtain ⟨y0, y1, y2, y3, y4⟩ := tb_cells W_s
          clear hgu b2 i2 t0 t1 t2 t3 t4 HPt
          rcases HEE.out with ⟨rfl, hno, rfl⟩ | rfl
          · have hIn2 := hIn.next x hno
            have hln3 := i3.rows.len
            rw [put_len] at hln3
            have hTa3h : Hid (V3.heap[ga]? = some (.cells (tbC NM coA N ccA (KI : Nat) only roA rnA rcA) 47 (0, 0))) := hTa3
            go_upto_region 16 with ((with_reducible refine wpList_store_blk (o := ⟨none, _, _, _, _, _⟩) rfl 47 (.tmp 8) (.tmp 52) rfl ga _ (tbC NM co2 N cc2 (KI : Nat) only ro2 rn2 rc2) ?_ ?_ _ hTa3h 5 szTb (tbC_size ..) (tbC_size ..) (tbC_all ..) ?_); (rfl); (rfl); (intro W4 h4 g4))
            have hrn2 : rn2 = rnA + 1 := by omega
            subst hrn2
            have XS4 := XS3.grown g4 hgsa
            have iG4 := iG3.grown g4 (fun a ha => by cases ha; exact hgga)
            have hTb4 := hTb3.grown g4 hgba
            have i4 := i3.grown g4 (show ga < V1.heap.size by omega)
            have lS4 := lS3.grown g4 hta
            have oR4 := oR3.grown g4 (fun e => by have := Option.some.inj e; omega)
            have BV4 := BV3.grown g4 hpV3 (fun z hz => by cases hz; exact hp0a)
            have hqV4 := Nat.le_trans hqV3 g4.size
            have hpV4 := Nat.le_trans hpV3 g4.size
            have hTa4 : Bk W4 ga (tbC NM co2 N cc2 (KI : Nat) only ro2 (rnA + 1) rc2) 47 := h4.out
            clear g4 h4 hTa3h XS3 iG3 hTa3 hTb3 iA3 lS3 oR3 BV3 i3
            have bA : Below W4.heap.size W4 (W4.alloc (.cells #[.slice (some ⟨gr, 0, none⟩) N rca] 49)) := (Below.refl _ _).alloc (Nat.le_refl _) _
            have hLit : IsR EH (W4.alloc (.cells #[.slice (some ⟨gr, 0, none⟩) N rca] 49)) (some ⟨W4.heap.size, 0, none⟩) 1 1 [⟨some ⟨gr, 0, none⟩, N, rca⟩] := oneH_lit W4 ⟨some ⟨gr, 0, none⟩, N, rca⟩
            have lS5 := lS4.past bA
            have oR5 := oR4.past bA
            have hq5 := Nat.le_trans hqV4 bA.size
            have hne5 : blk la ≠ some gr := fun e => by have := hlw gr e; omega
            have hfin : Hid (∀ g' c' w', TxtR EH w' 49 q0 (some ⟨g', 0, none⟩) (rnA + 1) c' (hs ++ [⟨some ⟨gr, 0, none⟩, N, rca⟩]) → (W4.alloc (.cells #[.slice (some ⟨gr, 0, none⟩) N rca] 49)).grownBy w' (blk la) → (blk la = some g' ∨ (W4.alloc (.cells #[.slice (some ⟨gr, 0, none⟩) N rca] 49)).heap.size ≤ g') → Below q0 (W4.alloc (.cells #[.slice (some ⟨gr, 0, none⟩) N rca] 49)) w' →
                Bk w' gs (scC NM (some ⟨g, 0, none⟩) N cg (KI : Nat) only) 40 ∧ IsR encCo w' (some ⟨g, 0, none⟩) N cg F ∧ Bk w' ga (tbC NM co2 N cc2 (KI : Nat) only ro2 (rnA + 1) rc2) 47 ∧ IsT w' q0 co2 N cc2 F ro2 (rnA + 1) rc2 (putN KI (fitRow F x) rsA) ∧ Bk w' gb (tbC NM (some ⟨g, 0, none⟩) N cg (KI : Nat) only none 0 0) 47 ∧ Lst w' q0 (some ⟨g', 0, none⟩) (rnA + 1) c' (hs ++ [⟨some ⟨gr, 0, none⟩, N, rca⟩]) (L ++ [fitRow F x]) ∧ q0 ≤ w'.heap.size ∧ Below p0 w w') := fun g' c' w' o' gg hg' bb => by
              have hge := lS5.ge
              have nz : ∀ z, z < q0 → some z ≠ blk la := fun z hz e => by have := hge z e.symm; omega
              have hi : IsT w' V1.heap.size co2 N cc2 F ro2 (rnA + 1) rc2 (putN KI (fitRow F x) rsA) := by
                have i5 := i4.past bA
                cases q : blk la with
                | none =>
                  rw [q] at gg
                  exact i5.past ⟨gg.os, gg.tape, gg.output, gg.size, fun k hk => gg.block k hk (by simp)⟩
                | some z =>
                  rw [q] at gg
                  exact i5.grown gg (by have := hlw z q; have := bV1.size; omega)
              refine ⟨(XS4.past bA).grown gg (nz _ (by omega)), (iG4.past bA).grown gg (fun a ha => by cases ha; exact nz _ (by simp only; omega)), (hTa4.past bA).grown gg (nz _ hta), hi.mono hqV1, (hTb4.past bA).grown gg (nz _ htb), lS5.app oR5 (by omega) hne5 o' gg hg', Nat.le_trans hq5 gg.size, (BV4.trans (bA.mono hpV4)).trans (bb.mono (by omega))⟩
            clear XS4 iG4 hTb4 i4 BV4 hTa4 oR5 oR4 lS4
            go_wp2_with (at_builtin; refine wpList_append_g rfl _ _ 45 45 rfl rowTyH rfl lS5.own hq5 _ rfl 1 [⟨some ⟨gr, 0, none⟩, N, rca⟩] (hLit.src Try.underlying45) rfl (by omega) (by omega) ?_; intro g' c' w' o' gg hg' bb)
            obtain ⟨f1, f2, f3, f4, f5, f6, f7, f8⟩ := hfin.out g' c' w' o' gg hg' bb
            go_roundw
            case rel => exact ⟨j + 1, co2, cc2, ro2, rnA + 1, rc2, _, some ⟨g', 0, none⟩, c', _, _, by omega, by go_num, rfl, f1, f2, f3, f4.mono (Nat.zero_le _), (fun _ => f4), f5, f6, hIn2, by omega, f7, f8⟩
            case measure => simp [intOf]; omega
          · go_wp2_with fail
            go_roundw
            case rel => exact ⟨j + 1, coA, ccA, roA, rnA, rcA, rsA, la, lc, hs, L, by omega, by go_num, rfl, XS3, iG3, hTa3, iA3, (fun h => ((hAq h).past bV1).past bV3), hTb3, lS3, hIn, by omega, hqV3, BV3⟩
            case measure => simp [intOf]; omega
      · have hlti : ¬ ((j : Int) < (mn : Int)) := by omega
        have lR := lS0.rr
        have hmL := lS0.len
        have iB0 : IsT wr 0 (some ⟨g, 0, none⟩) N cg F none 0 0 [] := ⟨iG0, IsRR.nil wr 0, fun _ _ => Nat.zero_le _⟩
        obtain ⟨m, rfl⟩ : ∃ m, m = rnA := ⟨rnA, rfl⟩
        obtain ⟨bm, hbm⟩ : ∃ bm : Nat, 0 < m → bm < m ∧ wth by' m = (bm : Int) := by
          by_cases h0 : 0 < m
          · obtain ⟨k, hk, hl⟩ := wth_of by' (m : Int) (by omega)
            exact ⟨k, fun _ => ⟨by omega, hk⟩⟩
          · exact ⟨0, fun h => absurd h h0⟩
        have hm30 : m ≤ 30 := by omega
        obtain ⟨wo, rfl⟩ : ∃ wo, wo = wr := ⟨wr, rfl⟩
        go_wp2_with fail
        go_loopw [16] (fun iv wq => ∃ (i : Nat) (co : Option Addr) (cc : Nat) (ro : Option Addr) (rn rc : Nat) (rs : List (List V)), i ≤ m ∧ iv = .int .i64 (i : Nat) ∧ Bk wq gb (tbC NM co N cc (KI : Nat) only ro rn rc) 47 ∧ IsT wq 0 co N cc F ro rn rc rs ∧ Rot KI L bm i rs ∧ Bk wq ga (tbC NM coA N ccA (KI : Nat) only roA m rcA) 47 ∧ IsT wq 0 coA N ccA F roA m rcA rsA ∧ (0 < m → IsT wq q0 coA N ccA F roA m rcA rsA) ∧ IsRR EV wq q0 la m lc L ∧ Below p0 w wq) (fun iv _ => m - (intOf iv).toNat)
        case atStart => exact ⟨0, _, _, _, 0, _, [], Nat.zero_le _, rfl, hTb0, iB0, Rot.start KI L bm, hTa0, iA1, hAq, lR, BB⟩
        case round =>
          clear iB0 hTb0 hTa0 iA1 hAq lS0 lR XS0 iG0 z0 z1 z2 z3 BB hpw
          obtain ⟨i, co, cc, ro, rn, rc, rs, hi, rfl, hTb1, iB1, hrot, hTa1, iA1, hAq1, lR1, BB1⟩ := hrel
          have hpw1 : p0 ≤ wr.heap.size := by have := BB1.size; rw [HP.out] at this; exact this
          obtain ⟨u0, u1, u2, u3, u4⟩ := tb_cells hTb1
          have hlnb := iB1.rows.len
          have hlna := iA1.rows.len
          have hrl := hrot.len
          by_cases hlt2 : i < m
          · have hlti2 : (i : Int) < (m : Int) := by omega
            have hm0 : 0 < m := by omega
            have iAq1 := hAq1 hm0
            obtain ⟨hbl, hbw⟩ := hbm hm0
            obtain ⟨sm, hsm⟩ : ∃ sm, i + bm = sm := ⟨_, rfl⟩
            obtain ⟨p, hp⟩ : ∃ p, sm % m = p := ⟨_, rfl⟩
            have hpm : p < m := by rw [← hp]; exact Nat.mod_lt _ hm0
            have hpmi : (p : Int) < (m : Int) := by omega
            have hmne : ¬ m = 0 := by omega
            have HADD : Hid (IntKind.i64.wrap ((i : Int) + (bm : Int)) = (sm : Int)) := by
              show _ = _
              rw [IntWalk.i64_in _ (by omega)]
              omega
            have HREM : Hid ((sm : Int).tmod (m : Int) = (p : Int)) := by
              show _ = _
              rw [← hp]
              rfl
            obtain ⟨r, hr⟩ : ∃ r, L[p]? = some r := ⟨L[p]'(by omega), List.getElem?_eq_getElem _⟩
            have hr2 : L[(i + bm) % L.length]? = some r := by rw [hmL, hsm, hp]; exact hr
            obtain ⟨y, hy⟩ := hIn.fit.mem r ((hIn.mem r).2 (List.mem_of_getElem? hr))
            have hno := hrot.no hIn.keys (by omega) hr2
            have hnx := hrot.next hIn.keys (by omega) hr2
            have hlen : ∀ z ∈ rs, z.length ≤ 100 := fun z hz => by
              obtain ⟨q, -, hq⟩ := (hrot.mem z).1 hz
              obtain ⟨y2, hy2⟩ := hIn.fit.mem z ((hIn.mem z).2 (List.mem_of_getElem? hq))
              rw [hy2, fitRow_len, hFl]
              omega
            have hfE : putE F KI r rs = 0 ∧ putR F KI r rs = putN KI r rs := by
              rw [hy] at hno ⊢
              rcases put_fit F hFk KI y rs (by omega) with ⟨h1, -, h2⟩ | ⟨-, h1, -⟩
              · exact ⟨h1, h2⟩
              · rw [hno] at h1
                cases h1
            obtain ⟨lb, loff, hd, rfl, hlbB, dl, iR⟩ := lR1.at hr
            obtain ⟨ra, rn', rca⟩ := hd
            simp only at dl iR
            have l1 : rn' = N := by rw [← iR.len, hy, fitRow_len, hFl]
            rw [l1] at dl iR
            clear l1
            have HPt0 := fun (w' : World) (hb : Below wr.heap.size wr.drew w') => put_any w' NM co N cc KI only ro rn rc F (by omega) (by omega) 0 rs (iB1.drew'.past hb) ra N rca r (iR.drew.past hb) hrot.srt (by omega) hlen (by omega)
            obtain ⟨rs2, hrs2⟩ : ∃ rs2, putN KI r rs = rs2 := ⟨_, rfl⟩
            rw [hfE.1, hfE.2, hrs2] at HPt0
            rw [hrs2] at hnx
            unfold tbV at HPt0
            have HPt := HPt0
            have HWi : ∀ w', Calls Try.prog 23 #[.int .i64 by', .int .i64 (m : Nat)] w' (fun e w'' => e = .returned (.int .i64 (bm : Nat)) ∧ w' = w'') := fun w' => (within10_any by' (m : Int) w' (by omega) (by omega)).mono (by
              rintro e w'' ⟨rfl, rfl⟩
              exact ⟨by rw [hbw], rfl⟩)
            have hgbB := hTb1.lt
            have hB0 : wr.heap.size ≤ wr.heap.size := Nat.le_refl _
            clear HPt0 hrs2 hfE hlen hno hy hr2 hr hp hsm hbw iR iB1 iA1 hAq1 hrot
            go_upto_region 20 with fail
            refine region_inv (TOrders20 wr.heap.size gb NM g N cg KI only co cc ro rn rc lb loff m lc i by' bm sm p ra rca F rs2) (by kernel_rfl) (by kernel_rfl) ?_ ?_ ?_
            · exact ⟨false, false, false, false, false, false, false, false, false, false, false, false, false, false, false, false, false, false, false, false, u64, u65, u66, u67, u68, u69, u70, u71, u72, u73, u74, u75, u76, u77, u63, u78, u79, u17, u18, none, 0, none, 0, 0, 0, rfl, (by simp only [Act.put, List.setIfInBounds_toArray, List.set_cons_zero, List.set_cons_succ]), Below.refl _ _, (fun h => by cases h), (fun h => by cases h), (fun h => by cases h), (fun h => by cases h), (fun h => by cases h), (fun h => by cases h), (fun h => by cases h), (fun h => by cases h), (fun h => by cases h), (fun h => by cases h), (fun h => by cases h), (fun h => by cases h), (fun h => by cases h), (fun h => by cases h), (fun h => by cases h), (fun h => by cases h), (fun h => by cases h), (fun h => by cases h), (fun h => by cases h), (fun h => by cases h), (fun h => by cases h), (fun h => by cases h), (fun h => by cases h), (fun h => by cases h), (fun h => by cases h), (fun h => by cases h), (fun h => by cases h), (fun h => by cases h), (fun h => by cases h)⟩
            · refine ⟨?_, ?_, ?_, ?_, ?_, ?_, ?_, ?_, ?_, ?_, ?_, ?_, ?_, ?_, ?_, ?_, ?_, ?_, ?_, ?_, trivial⟩
              · rintro L a w ⟨b0, b1, b2, b3, b4, b5, b6, b7, b8, b9, b10, b11, b12, b13, b14, b15, b16, b17, b18, b19, x64, x65, x66, x67, x68, x69, x70, x71, x72, x73, x74, x75, x76, x77, x63, x78, x79, x17, x18, co2, cc2, ro2, rn2, rc2, gu, rfl, rfl, hb, cd0, cd1, cd2, cd3, cd4, cd5, cd6, cd7, cd8, cd9, cd10, cd11, cd12, cd13, cd14, cd15, cd16, cd17, cd19, f_tt, f_st, f_lt, f_z, f_lg, f_s, f_o18, f_o18b, w_14_13, w_15_13⟩ hf hd
                have hf' : b0 = false := hf
                subst hf'
                clear hf hd
                try simp only [List.setIfInBounds_toArray, List.set_cons_zero, List.set_cons_succ]
                have z0 := (hb.cell hgbB).trans u0
                have z1 := (hb.cell hgbB).trans u1
                have z2 := (hb.cell hgbB).trans u2
                have z3 := (hb.cell hgbB).trans u3
                have z4 := (hb.cell hgbB).trans u4
                intro K hK
                rw [if_pos (by rfl)]
                go_simp
                exact hK.out _ _ ⟨true, b1, b2, b3, b4, b5, b6, b7, b8, b9, b10, b11, b12, b13, b14, b15, b16, b17, b18, b19, (.agg #[.string (bsOf NM), .slice co N cc, .int .i64 (KI : Nat), .bool only, .slice ro rn rc]), x65, x66, x67, x68, x69, x70, x71, x72, x73, x74, x75, x76, x77, x63, x78, x79, x17, x18, co2, cc2, ro2, rn2, rc2, gu, (by simp only [Act.put, List.setIfInBounds_toArray, List.set_cons_zero, List.set_cons_succ]), (by simp only [Act.put, List.setIfInBounds_toArray, List.set_cons_zero, List.set_cons_succ]), hb, (fun _ => rfl), cd1, cd2, cd3, cd4, cd5, cd6, cd7, cd8, cd9, cd10, cd11, cd12, cd13, cd14, cd15, cd16, cd17, cd19, f_tt, f_st, f_lt, f_z, f_lg, f_s, f_o18, f_o18b, w_14_13, w_15_13⟩
              · rintro L a w ⟨b0, b1, b2, b3, b4, b5, b6, b7, b8, b9, b10, b11, b12, b13, b14, b15, b16, b17, b18, b19, x64, x65, x66, x67, x68, x69, x70, x71, x72, x73, x74, x75, x76, x77, x63, x78, x79, x17, x18, co2, cc2, ro2, rn2, rc2, gu, rfl, rfl, hb, cd0, cd1, cd2, cd3, cd4, cd5, cd6, cd7, cd8, cd9, cd10, cd11, cd12, cd13, cd14, cd15, cd16, cd17, cd19, f_tt, f_st, f_lt, f_z, f_lg, f_s, f_o18, f_o18b, w_14_13, w_15_13⟩ hf hd
                have hf' : b1 = false := hf
                subst hf'
                clear hf hd
                try simp only [List.setIfInBounds_toArray, List.set_cons_zero, List.set_cons_succ]
                intro K hK
                rw [if_pos (by rfl)]
                go_simp
                exact hK.out _ _ ⟨b0, true, b2, b3, b4, b5, b6, b7, b8, b9, b10, b11, b12, b13, b14, b15, b16, b17, b18, b19, x64, (.slice (some ⟨lb, loff, none⟩) m lc), x66, x67, x68, x69, x70, x71, x72, x73, x74, x75, x76, x77, x63, x78, x79, x17, x18, co2, cc2, ro2, rn2, rc2, gu, (by simp only [Act.put, List.setIfInBounds_toArray, List.set_cons_zero, List.set_cons_succ]), (by simp only [Act.put, List.setIfInBounds_toArray, List.set_cons_zero, List.set_cons_succ]), hb, cd0, (fun _ => rfl), cd2, cd3, cd4, cd5, cd6, cd7, cd8, cd9, cd10, cd11, cd12, cd13, cd14, cd15, cd16, cd17, cd19, f_tt, f_st, f_lt, f_z, f_lg, f_s, f_o18, f_o18b, w_14_13, w_15_13⟩
              · rintro L a w ⟨b0, b1, b2, b3, b4, b5, b6, b7, b8, b9, b10, b11, b12, b13, b14, b15, b16, b17, b18, b19, x64, x65, x66, x67, x68, x69, x70, x71, x72, x73, x74, x75, x76, x77, x63, x78, x79, x17, x18, co2, cc2, ro2, rn2, rc2, gu, rfl, rfl, hb, cd0, cd1, cd2, cd3, cd4, cd5, cd6, cd7, cd8, cd9, cd10, cd11, cd12, cd13, cd14, cd15, cd16, cd17, cd19, f_tt, f_st, f_lt, f_z, f_lg, f_s, f_o18, f_o18b, w_14_13, w_15_13⟩ hf hd
                have hf' : b2 = false := hf
                subst hf'
                clear hf hd
                try simp only [List.setIfInBounds_toArray, List.set_cons_zero, List.set_cons_succ]
                intro K hK
                rw [if_pos (by rfl)]
                go_simp
                exact hK.out _ _ ⟨b0, b1, true, b3, b4, b5, b6, b7, b8, b9, b10, b11, b12, b13, b14, b15, b16, b17, b18, b19, x64, x65, (.int .i64 (i : Nat)), x67, x68, x69, x70, x71, x72, x73, x74, x75, x76, x77, x63, x78, x79, x17, x18, co2, cc2, ro2, rn2, rc2, gu, (by simp only [Act.put, List.setIfInBounds_toArray, List.set_cons_zero, List.set_cons_succ]), (by simp only [Act.put, List.setIfInBounds_toArray, List.set_cons_zero, List.set_cons_succ]), hb, cd0, cd1, (fun _ => rfl), cd3, cd4, cd5, cd6, cd7, cd8, cd9, cd10, cd11, cd12, cd13, cd14, cd15, cd16, cd17, cd19, f_tt, f_st, f_lt, f_z, f_lg, f_s, f_o18, f_o18b, w_14_13, w_15_13⟩
              · rintro L a w ⟨b0, b1, b2, b3, b4, b5, b6, b7, b8, b9, b10, b11, b12, b13, b14, b15, b16, b17, b18, b19, x64, x65, x66, x67, x68, x69, x70, x71, x72, x73, x74, x75, x76, x77, x63, x78, x79, x17, x18, co2, cc2, ro2, rn2, rc2, gu, rfl, rfl, hb, cd0, cd1, cd2, cd3, cd4, cd5, cd6, cd7, cd8, cd9, cd10, cd11, cd12, cd13, cd14, cd15, cd16, cd17, cd19, f_tt, f_st, f_lt, f_z, f_lg, f_s, f_o18, f_o18b, w_14_13, w_15_13⟩ hf hd
                have hf' : b3 = false := hf
                subst hf'
                clear hf hd
                try simp only [List.setIfInBounds_toArray, List.set_cons_zero, List.set_cons_succ]
                intro K hK
                rw [if_pos (by rfl)]
                go_simp
                exact hK.out _ _ ⟨b0, b1, b2, true, b4, b5, b6, b7, b8, b9, b10, b11, b12, b13, b14, b15, b16, b17, b18, b19, x64, x65, x66, (.int .i64 by'), x68, x69, x70, x71, x72, x73, x74, x75, x76, x77, x63, x78, x79, x17, x18, co2, cc2, ro2, rn2, rc2, gu, (by simp only [Act.put, List.setIfInBounds_toArray, List.set_cons_zero, List.set_cons_succ]), (by simp only [Act.put, List.setIfInBounds_toArray, List.set_cons_zero, List.set_cons_succ]), hb, cd0, cd1, cd2, (fun _ => rfl), cd4, cd5, cd6, cd7, cd8, cd9, cd10, cd11, cd12, cd13, cd14, cd15, cd16, cd17, cd19, f_tt, f_st, f_lt, f_z, f_lg, f_s, f_o18, f_o18b, w_14_13, w_15_13⟩
              · rintro L a w ⟨b0, b1, b2, b3, b4, b5, b6, b7, b8, b9, b10, b11, b12, b13, b14, b15, b16, b17, b18, b19, x64, x65, x66, x67, x68, x69, x70, x71, x72, x73, x74, x75, x76, x77, x63, x78, x79, x17, x18, co2, cc2, ro2, rn2, rc2, gu, rfl, rfl, hb, cd0, cd1, cd2, cd3, cd4, cd5, cd6, cd7, cd8, cd9, cd10, cd11, cd12, cd13, cd14, cd15, cd16, cd17, cd19, f_tt, f_st, f_lt, f_z, f_lg, f_s, f_o18, f_o18b, w_14_13, w_15_13⟩ hf hd
                have hf' : b4 = false := hf
                subst hf'
                clear hf hd
                try simp only [List.setIfInBounds_toArray, List.set_cons_zero, List.set_cons_succ]
                intro K hK
                rw [if_pos (by rfl)]
                go_simp
                exact hK.out _ _ ⟨b0, b1, b2, b3, true, b5, b6, b7, b8, b9, b10, b11, b12, b13, b14, b15, b16, b17, b18, b19, x64, x65, x66, x67, (.slice (some ⟨lb, loff, none⟩) m lc), x69, x70, x71, x72, x73, x74, x75, x76, x77, x63, x78, x79, x17, x18, co2, cc2, ro2, rn2, rc2, gu, (by simp only [Act.put, List.setIfInBounds_toArray, List.set_cons_zero, List.set_cons_succ]), (by simp only [Act.put, List.setIfInBounds_toArray, List.set_cons_zero, List.set_cons_succ]), hb, cd0, cd1, cd2, cd3, (fun _ => rfl), cd5, cd6, cd7, cd8, cd9, cd10, cd11, cd12, cd13, cd14, cd15, cd16, cd17, cd19, f_tt, f_st, f_lt, f_z, f_lg, f_s, f_o18, f_o18b, w_14_13, w_15_13⟩
              · rintro L a w ⟨b0, b1, b2, b3, b4, b5, b6, b7, b8, b9, b10, b11, b12, b13, b14, b15, b16, b17, b18, b19, x64, x65, x66, x67, x68, x69, x70, x71, x72, x73, x74, x75, x76, x77, x63, x78, x79, x17, x18, co2, cc2, ro2, rn2, rc2, gu, rfl, rfl, hb, cd0, cd1, cd2, cd3, cd4, cd5, cd6, cd7, cd8, cd9, cd10, cd11, cd12, cd13, cd14, cd15, cd16, cd17, cd19, f_tt, f_st, f_lt, f_z, f_lg, f_s, f_o18, f_o18b, w_14_13, w_15_13⟩ hf hd
                have hf' : b5 = false := hf
                subst hf'
                have d4 : b4 = true := hd ⟨4, .data⟩ (by simp) rfl
                subst d4
                obtain rfl := cd4.out rfl
                clear hf hd
                try simp only [List.setIfInBounds_toArray, List.set_cons_zero, List.set_cons_succ]
                intro K hK
                rw [if_pos (by rfl)]
                go_simp
                exact hK.out _ _ ⟨b0, b1, b2, b3, true, true, b6, b7, b8, b9, b10, b11, b12, b13, b14, b15, b16, b17, b18, b19, x64, x65, x66, x67, .slice (some ⟨lb, loff, none⟩) m lc, (.int .i64 (m : Nat)), x70, x71, x72, x73, x74, x75, x76, x77, x63, x78, x79, x17, x18, co2, cc2, ro2, rn2, rc2, gu, (by simp only [Act.put, List.setIfInBounds_toArray, List.set_cons_zero, List.set_cons_succ]), (by simp only [Act.put, List.setIfInBounds_toArray, List.set_cons_zero, List.set_cons_succ]), hb, cd0, cd1, cd2, cd3, (fun _ => rfl), (fun _ => rfl), cd6, cd7, cd8, cd9, cd10, cd11, cd12, cd13, cd14, cd15, cd16, cd17, cd19, f_tt, f_st, f_lt, f_z, f_lg, f_s, f_o18, f_o18b, w_14_13, w_15_13⟩
              · rintro L a w ⟨b0, b1, b2, b3, b4, b5, b6, b7, b8, b9, b10, b11, b12, b13, b14, b15, b16, b17, b18, b19, x64, x65, x66, x67, x68, x69, x70, x71, x72, x73, x74, x75, x76, x77, x63, x78, x79, x17, x18, co2, cc2, ro2, rn2, rc2, gu, rfl, rfl, hb, cd0, cd1, cd2, cd3, cd4, cd5, cd6, cd7, cd8, cd9, cd10, cd11, cd12, cd13, cd14, cd15, cd16, cd17, cd19, f_tt, f_st, f_lt, f_z, f_lg, f_s, f_o18, f_o18b, w_14_13, w_15_13⟩ hf hd
                have hf' : b6 = false := hf
                subst hf'
                have d3 : b3 = true := hd ⟨3, .data⟩ (by simp) rfl
                subst d3
                have d5 : b5 = true := hd ⟨5, .data⟩ (by simp) rfl
                subst d5
                obtain rfl := cd3.out rfl
                obtain rfl := cd5.out rfl
                clear hf hd
                try simp only [List.setIfInBounds_toArray, List.set_cons_zero, List.set_cons_succ]
                intro K hK
                rw [if_pos (by rfl)]
                go_simp
                go_at_call 23
                refine (HWi _).mono ?_
                rintro e w' ⟨rfl, rfl⟩
                exact hK.out _ _ ⟨b0, b1, b2, true, b4, true, true, b7, b8, b9, b10, b11, b12, b13, b14, b15, b16, b17, b18, b19, x64, x65, x66, .int .i64 by', x68, .int .i64 (m : Nat), (.int .i64 (bm : Nat)), x71, x72, x73, x74, x75, x76, x77, x63, x78, x79, x17, x18, co2, cc2, ro2, rn2, rc2, gu, (by simp only [Act.put, List.setIfInBounds_toArray, List.set_cons_zero, List.set_cons_succ]), (by simp only [Act.put, List.setIfInBounds_toArray, List.set_cons_zero, List.set_cons_succ]), hb, cd0, cd1, cd2, (fun _ => rfl), cd4, (fun _ => rfl), (fun _ => rfl), cd7, cd8, cd9, cd10, cd11, cd12, cd13, cd14, cd15, cd16, cd17, cd19, f_tt, f_st, f_lt, f_z, f_lg, f_s, f_o18, f_o18b, w_14_13, w_15_13⟩
              · rintro L a w ⟨b0, b1, b2, b3, b4, b5, b6, b7, b8, b9, b10, b11, b12, b13, b14, b15, b16, b17, b18, b19, x64, x65, x66, x67, x68, x69, x70, x71, x72, x73, x74, x75, x76, x77, x63, x78, x79, x17, x18, co2, cc2, ro2, rn2, rc2, gu, rfl, rfl, hb, cd0, cd1, cd2, cd3, cd4, cd5, cd6, cd7, cd8, cd9, cd10, cd11, cd12, cd13, cd14, cd15, cd16, cd17, cd19, f_tt, f_st, f_lt, f_z, f_lg, f_s, f_o18, f_o18b, w_14_13, w_15_13⟩ hf hd
                have hf' : b7 = false := hf
                subst hf'
                have d2 : b2 = true := hd ⟨2, .data⟩ (by simp) rfl
                subst d2
                have d6 : b6 = true := hd ⟨6, .data⟩ (by simp) rfl
                subst d6
                obtain rfl := cd2.out rfl
                obtain rfl := cd6.out rfl
                clear hf hd
                try simp only [List.setIfInBounds_toArray, List.set_cons_zero, List.set_cons_succ]
                intro K hK
                rw [if_pos (by rfl)]
                go_simp
                rw [HADD.out]
                exact hK.out _ _ ⟨b0, b1, true, b3, b4, b5, true, true, b8, b9, b10, b11, b12, b13, b14, b15, b16, b17, b18, b19, x64, x65, .int .i64 (i : Nat), x67, x68, x69, .int .i64 (bm : Nat), (.int .i64 (sm : Nat)), x72, x73, x74, x75, x76, x77, x63, x78, x79, x17, x18, co2, cc2, ro2, rn2, rc2, gu, (by simp only [Act.put, List.setIfInBounds_toArray, List.set_cons_zero, List.set_cons_succ]), (by simp only [Act.put, List.setIfInBounds_toArray, List.set_cons_zero, List.set_cons_succ]), hb, cd0, cd1, (fun _ => rfl), cd3, cd4, cd5, (fun _ => rfl), (fun _ => rfl), cd8, cd9, cd10, cd11, cd12, cd13, cd14, cd15, cd16, cd17, cd19, f_tt, f_st, f_lt, f_z, f_lg, f_s, f_o18, f_o18b, w_14_13, w_15_13⟩
              · rintro L a w ⟨b0, b1, b2, b3, b4, b5, b6, b7, b8, b9, b10, b11, b12, b13, b14, b15, b16, b17, b18, b19, x64, x65, x66, x67, x68, x69, x70, x71, x72, x73, x74, x75, x76, x77, x63, x78, x79, x17, x18, co2, cc2, ro2, rn2, rc2, gu, rfl, rfl, hb, cd0, cd1, cd2, cd3, cd4, cd5, cd6, cd7, cd8, cd9, cd10, cd11, cd12, cd13, cd14, cd15, cd16, cd17, cd19, f_tt, f_st, f_lt, f_z, f_lg, f_s, f_o18, f_o18b, w_14_13, w_15_13⟩ hf hd
                have hf' : b8 = false := hf
                subst hf'
                clear hf hd
                try simp only [List.setIfInBounds_toArray, List.set_cons_zero, List.set_cons_succ]
                intro K hK
                rw [if_pos (by rfl)]
                go_simp
                exact hK.out _ _ ⟨b0, b1, b2, b3, b4, b5, b6, b7, true, b9, b10, b11, b12, b13, b14, b15, b16, b17, b18, b19, x64, x65, x66, x67, x68, x69, x70, x71, (.slice (some ⟨lb, loff, none⟩) m lc), x73, x74, x75, x76, x77, x63, x78, x79, x17, x18, co2, cc2, ro2, rn2, rc2, gu, (by simp only [Act.put, List.setIfInBounds_toArray, List.set_cons_zero, List.set_cons_succ]), (by simp only [Act.put, List.setIfInBounds_toArray, List.set_cons_zero, List.set_cons_succ]), hb, cd0, cd1, cd2, cd3, cd4, cd5, cd6, cd7, (fun _ => rfl), cd9, cd10, cd11, cd12, cd13, cd14, cd15, cd16, cd17, cd19, f_tt, f_st, f_lt, f_z, f_lg, f_s, f_o18, f_o18b, w_14_13, w_15_13⟩
              · rintro L a w ⟨b0, b1, b2, b3, b4, b5, b6, b7, b8, b9, b10, b11, b12, b13, b14, b15, b16, b17, b18, b19, x64, x65, x66, x67, x68, x69, x70, x71, x72, x73, x74, x75, x76, x77, x63, x78, x79, x17, x18, co2, cc2, ro2, rn2, rc2, gu, rfl, rfl, hb, cd0, cd1, cd2, cd3, cd4, cd5, cd6, cd7, cd8, cd9, cd10, cd11, cd12, cd13, cd14, cd15, cd16, cd17, cd19, f_tt, f_st, f_lt, f_z, f_lg, f_s, f_o18, f_o18b, w_14_13, w_15_13⟩ hf hd
                have hf' : b9 = false := hf
                subst hf'
                have d8 : b8 = true := hd ⟨8, .data⟩ (by simp) rfl
                subst d8
                obtain rfl := cd8.out rfl
                clear hf hd
                try simp only [List.setIfInBounds_toArray, List.set_cons_zero, List.set_cons_succ]
                intro K hK
                rw [if_pos (by rfl)]
                go_simp
                exact hK.out _ _ ⟨b0, b1, b2, b3, b4, b5, b6, b7, true, true, b10, b11, b12, b13, b14, b15, b16, b17, b18, b19, x64, x65, x66, x67, x68, x69, x70, x71, .slice (some ⟨lb, loff, none⟩) m lc, (.int .i64 (m : Nat)), x74, x75, x76, x77, x63, x78, x79, x17, x18, co2, cc2, ro2, rn2, rc2, gu, (by simp only [Act.put, List.setIfInBounds_toArray, List.set_cons_zero, List.set_cons_succ]), (by simp only [Act.put, List.setIfInBounds_toArray, List.set_cons_zero, List.set_cons_succ]), hb, cd0, cd1, cd2, cd3, cd4, cd5, cd6, cd7, (fun _ => rfl), (fun _ => rfl), cd10, cd11, cd12, cd13, cd14, cd15, cd16, cd17, cd19, f_tt, f_st, f_lt, f_z, f_lg, f_s, f_o18, f_o18b, w_14_13, w_15_13⟩
              · rintro L a w ⟨b0, b1, b2, b3, b4, b5, b6, b7, b8, b9, b10, b11, b12, b13, b14, b15, b16, b17, b18, b19, x64, x65, x66, x67, x68, x69, x70, x71, x72, x73, x74, x75, x76, x77, x63, x78, x79, x17, x18, co2, cc2, ro2, rn2, rc2, gu, rfl, rfl, hb, cd0, cd1, cd2, cd3, cd4, cd5, cd6, cd7, cd8, cd9, cd10, cd11, cd12, cd13, cd14, cd15, cd16, cd17, cd19, f_tt, f_st, f_lt, f_z, f_lg, f_s, f_o18, f_o18b, w_14_13, w_15_13⟩ hf hd
                have hf' : b10 = false := hf
                subst hf'
                have d7 : b7 = true := hd ⟨7, .data⟩ (by simp) rfl
                subst d7
                have d9 : b9 = true := hd ⟨9, .data⟩ (by simp) rfl
                subst d9
                obtain rfl := cd7.out rfl
                obtain rfl := cd9.out rfl
                clear hf hd
                try simp only [List.setIfInBounds_toArray, List.set_cons_zero, List.set_cons_succ]
                intro K hK
                rw [if_pos (by rfl)]
                go_simp
                rw [HREM.out]
                exact hK.out _ _ ⟨b0, b1, b2, b3, b4, b5, b6, true, b8, true, true, b11, b12, b13, b14, b15, b16, b17, b18, b19, x64, x65, x66, x67, x68, x69, x70, .int .i64 (sm : Nat), x72, .int .i64 (m : Nat), (.int .i64 (p : Nat)), x75, x76, x77, x63, x78, x79, x17, x18, co2, cc2, ro2, rn2, rc2, gu, (by simp only [Act.put, List.setIfInBounds_toArray, List.set_cons_zero, List.set_cons_succ]), (by simp only [Act.put, List.setIfInBounds_toArray, List.set_cons_zero, List.set_cons_succ]), hb, cd0, cd1, cd2, cd3, cd4, cd5, cd6, (fun _ => rfl), cd8, (fun _ => rfl), (fun _ => rfl), cd11, cd12, cd13, cd14, cd15, cd16, cd17, cd19, f_tt, f_st, f_lt, f_z, f_lg, f_s, f_o18, f_o18b, w_14_13, w_15_13⟩
              · rintro L a w ⟨b0, b1, b2, b3, b4, b5, b6, b7, b8, b9, b10, b11, b12, b13, b14, b15, b16, b17, b18, b19, x64, x65, x66, x67, x68, x69, x70, x71, x72, x73, x74, x75, x76, x77, x63, x78, x79, x17, x18, co2, cc2, ro2, rn2, rc2, gu, rfl, rfl, hb, cd0, cd1, cd2, cd3, cd4, cd5, cd6, cd7, cd8, cd9, cd10, cd11, cd12, cd13, cd14, cd15, cd16, cd17, cd19, f_tt, f_st, f_lt, f_z, f_lg, f_s, f_o18, f_o18b, w_14_13, w_15_13⟩ hf hd
                have hf' : b11 = false := hf
                subst hf'
                have d1 : b1 = true := hd ⟨1, .data⟩ (by simp) rfl
                subst d1
                have d10 : b10 = true := hd ⟨10, .data⟩ (by simp) rfl
                subst d10
                obtain rfl := cd1.out rfl
                obtain rfl := cd10.out rfl
                clear hf hd
                try simp only [List.setIfInBounds_toArray, List.set_cons_zero, List.set_cons_succ]
                intro K hK
                rw [if_pos (by rfl)]
                go_simp
                exact hK.out _ _ ⟨b0, true, b2, b3, b4, b5, b6, b7, b8, b9, true, true, b12, b13, b14, b15, b16, b17, b18, b19, x64, .slice (some ⟨lb, loff, none⟩) m lc, x66, x67, x68, x69, x70, x71, x72, x73, .int .i64 (p : Nat), (.pointer (some ⟨lb, loff + p, none⟩)), x76, x77, x63, x78, x79, x17, x18, co2, cc2, ro2, rn2, rc2, gu, (by simp only [Act.put, List.setIfInBounds_toArray, List.set_cons_zero, List.set_cons_succ]), (by simp only [Act.put, List.setIfInBounds_toArray, List.set_cons_zero, List.set_cons_succ]), hb, cd0, (fun _ => rfl), cd2, cd3, cd4, cd5, cd6, cd7, cd8, cd9, (fun _ => rfl), (fun _ => rfl), cd12, cd13, cd14, cd15, cd16, cd17, cd19, f_tt, f_st, f_lt, f_z, f_lg, f_s, f_o18, f_o18b, w_14_13, w_15_13⟩
              · rintro L a w ⟨b0, b1, b2, b3, b4, b5, b6, b7, b8, b9, b10, b11, b12, b13, b14, b15, b16, b17, b18, b19, x64, x65, x66, x67, x68, x69, x70, x71, x72, x73, x74, x75, x76, x77, x63, x78, x79, x17, x18, co2, cc2, ro2, rn2, rc2, gu, rfl, rfl, hb, cd0, cd1, cd2, cd3, cd4, cd5, cd6, cd7, cd8, cd9, cd10, cd11, cd12, cd13, cd14, cd15, cd16, cd17, cd19, f_tt, f_st, f_lt, f_z, f_lg, f_s, f_o18, f_o18b, w_14_13, w_15_13⟩ hf hd
                have hf' : b12 = false := hf
                subst hf'
                have d11 : b11 = true := hd ⟨11, .data⟩ (by simp) rfl
                subst d11
                obtain rfl := cd11.out rfl
                clear hf hd
                try simp only [List.setIfInBounds_toArray, List.set_cons_zero, List.set_cons_succ]
                have z0 := (hb.cell hlbB).trans dl
                intro K hK
                rw [if_pos (by rfl)]
                go_simp
                exact hK.out _ _ ⟨b0, b1, b2, b3, b4, b5, b6, b7, b8, b9, b10, true, true, b13, b14, b15, b16, b17, b18, b19, x64, x65, x66, x67, x68, x69, x70, x71, x72, x73, x74, .pointer (some ⟨lb, loff + p, none⟩), (.slice ra N rca), x77, x63, x78, x79, x17, x18, co2, cc2, ro2, rn2, rc2, gu, (by simp only [Act.put, List.setIfInBounds_toArray, List.set_cons_zero, List.set_cons_succ]), (by simp only [Act.put, List.setIfInBounds_toArray, List.set_cons_zero, List.set_cons_succ]), hb, cd0, cd1, cd2, cd3, cd4, cd5, cd6, cd7, cd8, cd9, cd10, (fun _ => rfl), (fun _ => rfl), cd13, cd14, cd15, cd16, cd17, cd19, f_tt, f_st, f_lt, f_z, f_lg, f_s, f_o18, f_o18b, w_14_13, w_15_13⟩
              · rintro L a w ⟨b0, b1, b2, b3, b4, b5, b6, b7, b8, b9, b10, b11, b12, b13, b14, b15, b16, b17, b18, b19, x64, x65, x66, x67, x68, x69, x70, x71, x72, x73, x74, x75, x76, x77, x63, x78, x79, x17, x18, co2, cc2, ro2, rn2, rc2, gu, rfl, rfl, hb, cd0, cd1, cd2, cd3, cd4, cd5, cd6, cd7, cd8, cd9, cd10, cd11, cd12, cd13, cd14, cd15, cd16, cd17, cd19, f_tt, f_st, f_lt, f_z, f_lg, f_s, f_o18, f_o18b, w_14_13, w_15_13⟩ hf hd
                have hf' : b13 = false := hf
                subst hf'
                have d0 : b0 = true := hd ⟨0, .data⟩ (by simp) rfl
                subst d0
                have d12 : b12 = true := hd ⟨12, .data⟩ (by simp) rfl
                subst d12
                have d6 : b6 = true := hd ⟨6, .chain⟩ (by simp) rfl
                subst d6
                obtain rfl := cd0.out rfl
                obtain rfl := cd12.out rfl
                obtain rfl := cd6.out rfl
                clear hf hd
                try simp only [List.setIfInBounds_toArray, List.set_cons_zero, List.set_cons_succ]
                intro K hK
                rw [if_pos (by rfl)]
                go_simp
                go_at_call 24
                refine (HPt _ hb).mono ?_
                rintro e w' ⟨co3, cc3, ro3, rn3, rc3, rfl, i1, bx⟩
                unfold tbV
                have e_14 : b14 = false := by cases hq : b14 with | false => rfl | true => exact absurd (w_14_13.out hq) (by simp)
                subst e_14
                have e_15 : b15 = false := by cases hq : b15 with | false => rfl | true => exact absurd (w_15_13.out hq) (by simp)
                subst e_15
                exact hK.out _ _ ⟨true, b1, b2, b3, b4, b5, true, b7, b8, b9, b10, b11, true, true, false, false, b16, b17, b18, b19, .agg #[.string (bsOf NM), .slice co N cc, .int .i64 (KI : Nat), .bool only, .slice ro rn rc], x65, x66, x67, x68, x69, .int .i64 (bm : Nat), x71, x72, x73, x74, x75, .slice ra N rca, (.tuple #[.agg #[.string (bsOf NM), .slice co3 N cc3, .int .i64 (KI : Nat), .bool only, .slice ro3 rn3 rc3], .int .i64 0]), x63, x78, x79, x17, x18, co3, cc3, ro3, rn3, rc3, gu, (by simp only [Act.put, List.setIfInBounds_toArray, List.set_cons_zero, List.set_cons_succ]), (by simp only [Act.put, List.setIfInBounds_toArray, List.set_cons_zero, List.set_cons_succ]), hb.trans (bx.mono (Nat.le_trans hB0 hb.size)), (fun _ => rfl), cd1, cd2, cd3, cd4, cd5, (fun _ => rfl), cd7, cd8, cd9, cd10, cd11, (fun _ => rfl), (fun _ => rfl), (fun h => by cases h), (fun h => by cases h), cd16, cd17, cd19, (fun _ => i1.mono hb.size), (fun _ _ => fun h w'' gw => (i1.grown gw (f_lt.out h)).mono hb.size), (fun h0 => Nat.lt_of_lt_of_le (f_lt.out h0) bx.size), (fun h0 h1 => (f_z.out h0 h1).past bx), f_lg, (fun h0 => absurd (f_o18.out h0) (by simp)), (fun _ => rfl), f_o18b, (fun _ => rfl), (fun _ => rfl)⟩
              · rintro L a w ⟨b0, b1, b2, b3, b4, b5, b6, b7, b8, b9, b10, b11, b12, b13, b14, b15, b16, b17, b18, b19, x64, x65, x66, x67, x68, x69, x70, x71, x72, x73, x74, x75, x76, x77, x63, x78, x79, x17, x18, co2, cc2, ro2, rn2, rc2, gu, rfl, rfl, hb, cd0, cd1, cd2, cd3, cd4, cd5, cd6, cd7, cd8, cd9, cd10, cd11, cd12, cd13, cd14, cd15, cd16, cd17, cd19, f_tt, f_st, f_lt, f_z, f_lg, f_s, f_o18, f_o18b, w_14_13, w_15_13⟩ hf hd
                have hf' : b14 = false := hf
                subst hf'
                have d13 : b13 = true := hd ⟨13, .data⟩ (by simp) rfl
                subst d13
                obtain rfl := cd13.out rfl
                clear hf hd
                have W_tt := f_tt.out rfl
                try simp only [List.setIfInBounds_toArray, List.set_cons_zero, List.set_cons_succ]
                intro K hK
                rw [if_pos (by rfl)]
                go_simp
                exact hK.out _ _ ⟨b0, b1, b2, b3, b4, b5, b6, b7, b8, b9, b10, b11, b12, true, true, b15, b16, b17, b18, b19, x64, x65, x66, x67, x68, x69, x70, x71, x72, x73, x74, x75, x76, .tuple #[.agg #[.string (bsOf NM), .slice co2 N cc2, .int .i64 (KI : Nat), .bool only, .slice ro2 rn2 rc2], .int .i64 0], (.tuple #[.agg #[.string (bsOf NM), .slice co2 N cc2, .int .i64 (KI : Nat), .bool only, .slice ro2 rn2 rc2], .int .i64 0]), x78, x79, x17, x18, co2, cc2, ro2, rn2, rc2, gu, (by simp only [Act.put, List.setIfInBounds_toArray, List.set_cons_zero, List.set_cons_succ]), (by simp only [Act.put, List.setIfInBounds_toArray, List.set_cons_zero, List.set_cons_succ]), hb, cd0, cd1, cd2, cd3, cd4, cd5, cd6, cd7, cd8, cd9, cd10, cd11, cd12, (fun _ => rfl), (fun _ => rfl), cd15, cd16, cd17, cd19, f_tt, f_st, f_lt, f_z, f_lg, f_s, f_o18, f_o18b, (fun _ => rfl), (fun _ => rfl)⟩
              · rintro L a w ⟨b0, b1, b2, b3, b4, b5, b6, b7, b8, b9, b10, b11, b12, b13, b14, b15, b16, b17, b18, b19, x64, x65, x66, x67, x68, x69, x70, x71, x72, x73, x74, x75, x76, x77, x63, x78, x79, x17, x18, co2, cc2, ro2, rn2, rc2, gu, rfl, rfl, hb, cd0, cd1, cd2, cd3, cd4, cd5, cd6, cd7, cd8, cd9, cd10, cd11, cd12, cd13, cd14, cd15, cd16, cd17, cd19, f_tt, f_st, f_lt, f_z, f_lg, f_s, f_o18, f_o18b, w_14_13, w_15_13⟩ hf hd
                have hf' : b15 = false := hf
                subst hf'
                have d14 : b14 = true := hd ⟨14, .data⟩ (by simp) rfl
                subst d14
                obtain rfl := cd14.out rfl
                clear hf hd
                try simp only [List.setIfInBounds_toArray, List.set_cons_zero, List.set_cons_succ]
                intro K hK
                rw [if_pos (by rfl)]
                go_simp
                exact hK.out _ _ ⟨b0, b1, b2, b3, b4, b5, b6, b7, b8, b9, b10, b11, b12, b13, true, true, b16, b17, b18, b19, x64, x65, x66, x67, x68, x69, x70, x71, x72, x73, x74, x75, x76, x77, .tuple #[.agg #[.string (bsOf NM), .slice co2 N cc2, .int .i64 (KI : Nat), .bool only, .slice ro2 rn2 rc2], .int .i64 0], (.agg #[.string (bsOf NM), .slice co2 N cc2, .int .i64 (KI : Nat), .bool only, .slice ro2 rn2 rc2]), x79, x17, x18, co2, cc2, ro2, rn2, rc2, gu, (by simp only [Act.put, List.setIfInBounds_toArray, List.set_cons_zero, List.set_cons_succ]), (by simp only [Act.put, List.setIfInBounds_toArray, List.set_cons_zero, List.set_cons_succ]), hb, cd0, cd1, cd2, cd3, cd4, cd5, cd6, cd7, cd8, cd9, cd10, cd11, cd12, cd13, (fun _ => rfl), (fun _ => rfl), cd16, cd17, cd19, f_tt, f_st, f_lt, f_z, f_lg, f_s, f_o18, f_o18b, w_14_13, (fun _ => w_14_13.out rfl)⟩
              · rintro L a w ⟨b0, b1, b2, b3, b4, b5, b6, b7, b8, b9, b10, b11, b12, b13, b14, b15, b16, b17, b18, b19, x64, x65, x66, x67, x68, x69, x70, x71, x72, x73, x74, x75, x76, x77, x63, x78, x79, x17, x18, co2, cc2, ro2, rn2, rc2, gu, rfl, rfl, hb, cd0, cd1, cd2, cd3, cd4, cd5, cd6, cd7, cd8, cd9, cd10, cd11, cd12, cd13, cd14, cd15, cd16, cd17, cd19, f_tt, f_st, f_lt, f_z, f_lg, f_s, f_o18, f_o18b, w_14_13, w_15_13⟩ hf hd
                have hf' : b16 = false := hf
                subst hf'
                have d14 : b14 = true := hd ⟨14, .data⟩ (by simp) rfl
                subst d14
                obtain rfl := cd14.out rfl
                clear hf hd
                try simp only [List.setIfInBounds_toArray, List.set_cons_zero, List.set_cons_succ]
                intro K hK
                rw [if_pos (by rfl)]
                go_simp
                exact hK.out _ _ ⟨b0, b1, b2, b3, b4, b5, b6, b7, b8, b9, b10, b11, b12, b13, true, b15, true, b17, b18, b19, x64, x65, x66, x67, x68, x69, x70, x71, x72, x73, x74, x75, x76, x77, .tuple #[.agg #[.string (bsOf NM), .slice co2 N cc2, .int .i64 (KI : Nat), .bool only, .slice ro2 rn2 rc2], .int .i64 0], x78, (.int .i64 0), x17, x18, co2, cc2, ro2, rn2, rc2, gu, (by simp only [Act.put, List.setIfInBounds_toArray, List.set_cons_zero, List.set_cons_succ]), (by simp only [Act.put, List.setIfInBounds_toArray, List.set_cons_zero, List.set_cons_succ]), hb, cd0, cd1, cd2, cd3, cd4, cd5, cd6, cd7, cd8, cd9, cd10, cd11, cd12, cd13, (fun _ => rfl), cd15, (fun _ => rfl), cd17, cd19, f_tt, f_st, f_lt, f_z, f_lg, f_s, f_o18, f_o18b, w_14_13, w_15_13⟩
              · rintro L a w ⟨b0, b1, b2, b3, b4, b5, b6, b7, b8, b9, b10, b11, b12, b13, b14, b15, b16, b17, b18, b19, x64, x65, x66, x67, x68, x69, x70, x71, x72, x73, x74, x75, x76, x77, x63, x78, x79, x17, x18, co2, cc2, ro2, rn2, rc2, gu, rfl, rfl, hb, cd0, cd1, cd2, cd3, cd4, cd5, cd6, cd7, cd8, cd9, cd10, cd11, cd12, cd13, cd14, cd15, cd16, cd17, cd19, f_tt, f_st, f_lt, f_z, f_lg, f_s, f_o18, f_o18b, w_14_13, w_15_13⟩ hf hd
                have hf' : b17 = false := hf
                subst hf'
                clear hf hd
                try simp only [List.setIfInBounds_toArray, List.set_cons_zero, List.set_cons_succ]
                intro K hK
                rw [if_pos (by rfl)]
                go_simp
                have bx : Below w.heap.size w (w.alloc (.cells #[.string ⟨#[]⟩, .slice none 0 0, .int .i64 0, .bool false, .slice none 0 0] 47)) := (Below.refl _ _).alloc (Nat.le_refl _) _
                have i2 : Bk (w.alloc (.cells #[.string ⟨#[]⟩, .slice none 0 0, .int .i64 0, .bool false, .slice none 0 0] 47)) w.heap.size (tbC [] none 0 0 0 false none 0 0) 47 := Bk.new w _ _
                exact hK.out _ _ ⟨b0, b1, b2, b3, b4, b5, b6, b7, b8, b9, b10, b11, b12, b13, b14, b15, b16, true, b18, b19, x64, x65, x66, x67, x68, x69, x70, x71, x72, x73, x74, x75, x76, x77, x63, x78, x79, (.pointer (some ⟨(w.heap.size), 0, none⟩)), x18, co2, cc2, ro2, rn2, rc2, w.heap.size, (by simp only [Act.put, List.setIfInBounds_toArray, List.set_cons_zero, List.set_cons_succ]), (by simp only [Act.put, List.setIfInBounds_toArray, List.set_cons_zero, List.set_cons_succ]), hb.trans (bx.mono (Nat.le_trans hB0 hb.size)), cd0, cd1, cd2, cd3, cd4, cd5, cd6, cd7, cd8, cd9, cd10, cd11, cd12, cd13, cd14, cd15, cd16, (fun _ => rfl), cd19, (fun h0 => (f_tt.out h0).past bx), (fun h0 _ _ w'' gw => (f_tt.out h0).past (below_new gw)), (fun _ => by rw [World.size_alloc]; omega), (fun _ _ => i2), (fun _ => hb.size), (fun h0 => absurd (f_o18b.out h0) (by simp)), f_o18, (fun _ => rfl), w_14_13, w_15_13⟩
              · rintro L a w ⟨b0, b1, b2, b3, b4, b5, b6, b7, b8, b9, b10, b11, b12, b13, b14, b15, b16, b17, b18, b19, x64, x65, x66, x67, x68, x69, x70, x71, x72, x73, x74, x75, x76, x77, x63, x78, x79, x17, x18, co2, cc2, ro2, rn2, rc2, gu, rfl, rfl, hb, cd0, cd1, cd2, cd3, cd4, cd5, cd6, cd7, cd8, cd9, cd10, cd11, cd12, cd13, cd14, cd15, cd16, cd17, cd19, f_tt, f_st, f_lt, f_z, f_lg, f_s, f_o18, f_o18b, w_14_13, w_15_13⟩ hf hd
                have hf' : b18 = false := hf
                subst hf'
                have d17 : b17 = true := hd ⟨17, .data⟩ (by simp) rfl
                subst d17
                have d15 : b15 = true := hd ⟨15, .data⟩ (by simp) rfl
                subst d15
                have d13 : b13 = true := hd ⟨13, .chain⟩ (by simp) rfl
                subst d13
                have d0 : b0 = true := hd ⟨0, .phase⟩ (by simp) rfl
                subst d0
                have d1 : b1 = true := hd ⟨1, .phase⟩ (by simp) rfl
                subst d1
                have d2 : b2 = true := hd ⟨2, .phase⟩ (by simp) rfl
                subst d2
                have d3 : b3 = true := hd ⟨3, .phase⟩ (by simp) rfl
                subst d3
                have d4 : b4 = true := hd ⟨4, .phase⟩ (by simp) rfl
                subst d4
                have d5 : b5 = true := hd ⟨5, .phase⟩ (by simp) rfl
                subst d5
                have d6 : b6 = true := hd ⟨6, .phase⟩ (by simp) rfl
                subst d6
                have d7 : b7 = true := hd ⟨7, .phase⟩ (by simp) rfl
                subst d7
                have d8 : b8 = true := hd ⟨8, .phase⟩ (by simp) rfl
                subst d8
                have d9 : b9 = true := hd ⟨9, .phase⟩ (by simp) rfl
                subst d9
                have d10 : b10 = true := hd ⟨10, .phase⟩ (by simp) rfl
                subst d10
                have d11 : b11 = true := hd ⟨11, .phase⟩ (by simp) rfl
                subst d11
                have d12 : b12 = true := hd ⟨12, .phase⟩ (by simp) rfl
                subst d12
                have d14 : b14 = true := hd ⟨14, .phase⟩ (by simp) rfl
                subst d14
                obtain rfl := cd17.out rfl
                obtain rfl := cd15.out rfl
                obtain rfl := cd13.out rfl
                obtain rfl := cd0.out rfl
                obtain rfl := cd1.out rfl
                obtain rfl := cd2.out rfl
                obtain rfl := cd3.out rfl
                obtain rfl := cd4.out rfl
                obtain rfl := cd5.out rfl
                obtain rfl := cd6.out rfl
                obtain rfl := cd7.out rfl
                obtain rfl := cd8.out rfl
                obtain rfl := cd9.out rfl
                obtain rfl := cd10.out rfl
                obtain rfl := cd11.out rfl
                obtain rfl := cd12.out rfl
                obtain rfl := cd14.out rfl
                clear hf hd
                have W_tt := f_tt.out rfl
                have W_st := f_st.out rfl rfl
                have W_lt := f_lt.out rfl
                have W_z := f_z.out rfl rfl
                have W_lg := f_lg.out rfl
                try simp only [List.setIfInBounds_toArray, List.set_cons_zero, List.set_cons_succ]
                intro K hK
                rw [if_pos (by rfl)]
                refine wp_store_blkT 47 _ _ rfl gu _ (tbC NM co2 N cc2 (KI : Nat) only ro2 rn2 rc2) rfl rfl _ (Lib.hid W_z) 5 szTb (tbC_size ..) (tbC_size ..) (tbC_all ..) fun w2 h8 g8 => ?_
                have hb2 := hb.grown g8 (Nat.le_trans hB0 hb.size) (fun z hz => by cases hz; exact Nat.le_trans hB0 W_lg)
                exact hK.out _ _ ⟨true, true, true, true, true, true, true, true, true, true, true, true, true, true, true, true, b16, true, true, b19, .agg #[.string (bsOf NM), .slice co N cc, .int .i64 (KI : Nat), .bool only, .slice ro rn rc], .slice (some ⟨lb, loff, none⟩) m lc, .int .i64 (i : Nat), .int .i64 by', .slice (some ⟨lb, loff, none⟩) m lc, .int .i64 (m : Nat), .int .i64 (bm : Nat), .int .i64 (sm : Nat), .slice (some ⟨lb, loff, none⟩) m lc, .int .i64 (m : Nat), .int .i64 (p : Nat), .pointer (some ⟨lb, loff + p, none⟩), .slice ra N rca, .tuple #[.agg #[.string (bsOf NM), .slice co2 N cc2, .int .i64 (KI : Nat), .bool only, .slice ro2 rn2 rc2], .int .i64 0], .tuple #[.agg #[.string (bsOf NM), .slice co2 N cc2, .int .i64 (KI : Nat), .bool only, .slice ro2 rn2 rc2], .int .i64 0], .agg #[.string (bsOf NM), .slice co2 N cc2, .int .i64 (KI : Nat), .bool only, .slice ro2 rn2 rc2], x79, .pointer (some ⟨gu, 0, none⟩), x18, co2, cc2, ro2, rn2, rc2, gu, (by simp only [Act.put, List.setIfInBounds_toArray, List.set_cons_zero, List.set_cons_succ]), (by simp only [Act.put, List.setIfInBounds_toArray, List.set_cons_zero, List.set_cons_succ]), hb2, (fun _ => rfl), (fun _ => rfl), (fun _ => rfl), (fun _ => rfl), (fun _ => rfl), (fun _ => rfl), (fun _ => rfl), (fun _ => rfl), (fun _ => rfl), (fun _ => rfl), (fun _ => rfl), (fun _ => rfl), (fun _ => rfl), (fun _ => rfl), (fun _ => rfl), (fun _ => rfl), cd16, (fun _ => rfl), cd19, (fun h0 => (f_st.out h0 rfl rfl) _ g8), (fun _ h => by cases h), (fun h0 => Nat.lt_of_lt_of_le ((f_lt.out h0)) g8.size), (fun _ h => by cases h), f_lg, (fun _ => h8.out), (fun _ => rfl), (fun _ => rfl), (fun _ => rfl), (fun _ => rfl)⟩
              · rintro L a w ⟨b0, b1, b2, b3, b4, b5, b6, b7, b8, b9, b10, b11, b12, b13, b14, b15, b16, b17, b18, b19, x64, x65, x66, x67, x68, x69, x70, x71, x72, x73, x74, x75, x76, x77, x63, x78, x79, x17, x18, co2, cc2, ro2, rn2, rc2, gu, rfl, rfl, hb, cd0, cd1, cd2, cd3, cd4, cd5, cd6, cd7, cd8, cd9, cd10, cd11, cd12, cd13, cd14, cd15, cd16, cd17, cd19, f_tt, f_st, f_lt, f_z, f_lg, f_s, f_o18, f_o18b, w_14_13, w_15_13⟩ hf hd
                have hf' : b19 = false := hf
                subst hf'
                have d16 : b16 = true := hd ⟨16, .data⟩ (by simp) rfl
                subst d16
                have d18 : b18 = true := hd ⟨18, .chain⟩ (by simp) rfl
                subst d18
                have d0 : b0 = true := hd ⟨0, .phase⟩ (by simp) rfl
                subst d0
                have d1 : b1 = true := hd ⟨1, .phase⟩ (by simp) rfl
                subst d1
                have d2 : b2 = true := hd ⟨2, .phase⟩ (by simp) rfl
                subst d2
                have d3 : b3 = true := hd ⟨3, .phase⟩ (by simp) rfl
                subst d3
                have d4 : b4 = true := hd ⟨4, .phase⟩ (by simp) rfl
                subst d4
                have d5 : b5 = true := hd ⟨5, .phase⟩ (by simp) rfl
                subst d5
                have d6 : b6 = true := hd ⟨6, .phase⟩ (by simp) rfl
                subst d6
                have d7 : b7 = true := hd ⟨7, .phase⟩ (by simp) rfl
                subst d7
                have d8 : b8 = true := hd ⟨8, .phase⟩ (by simp) rfl
                subst d8
                have d9 : b9 = true := hd ⟨9, .phase⟩ (by simp) rfl
                subst d9
                have d10 : b10 = true := hd ⟨10, .phase⟩ (by simp) rfl
                subst d10
                have d11 : b11 = true := hd ⟨11, .phase⟩ (by simp) rfl
                subst d11
                have d12 : b12 = true := hd ⟨12, .phase⟩ (by simp) rfl
                subst d12
                have d13 : b13 = true := hd ⟨13, .phase⟩ (by simp) rfl
                subst d13
                have d14 : b14 = true := hd ⟨14, .phase⟩ (by simp) rfl
                subst d14
                have d15 : b15 = true := hd ⟨15, .phase⟩ (by simp) rfl
                subst d15
                have d17 : b17 = true := hd ⟨17, .phase⟩ (by simp) rfl
                subst d17
                obtain rfl := cd16.out rfl
                obtain rfl := cd0.out rfl
                obtain rfl := cd1.out rfl
                obtain rfl := cd2.out rfl
                obtain rfl := cd3.out rfl
                obtain rfl := cd4.out rfl
                obtain rfl := cd5.out rfl
                obtain rfl := cd6.out rfl
                obtain rfl := cd7.out rfl
                obtain rfl := cd8.out rfl
                obtain rfl := cd9.out rfl
                obtain rfl := cd10.out rfl
                obtain rfl := cd11.out rfl
                obtain rfl := cd12.out rfl
                obtain rfl := cd13.out rfl
                obtain rfl := cd14.out rfl
                obtain rfl := cd15.out rfl
                obtain rfl := cd17.out rfl
                clear hf hd
                have W_tt := f_tt.out rfl
                have W_lt := f_lt.out rfl
                have W_lg := f_lg.out rfl
                have W_s := f_s.out rfl
                have W_o18 := f_o18.out rfl
                have W_o18b := f_o18b.out rfl
                try simp only [List.setIfInBounds_toArray, List.set_cons_zero, List.set_cons_succ]
                intro K hK
                rw [if_pos (by rfl)]
                go_simp
                exact hK.out _ _ ⟨true, true, true, true, true, true, true, true, true, true, true, true, true, true, true, true, true, true, true, true, .agg #[.string (bsOf NM), .slice co N cc, .int .i64 (KI : Nat), .bool only, .slice ro rn rc], .slice (some ⟨lb, loff, none⟩) m lc, .int .i64 (i : Nat), .int .i64 by', .slice (some ⟨lb, loff, none⟩) m lc, .int .i64 (m : Nat), .int .i64 (bm : Nat), .int .i64 (sm : Nat), .slice (some ⟨lb, loff, none⟩) m lc, .int .i64 (m : Nat), .int .i64 (p : Nat), .pointer (some ⟨lb, loff + p, none⟩), .slice ra N rca, .tuple #[.agg #[.string (bsOf NM), .slice co2 N cc2, .int .i64 (KI : Nat), .bool only, .slice ro2 rn2 rc2], .int .i64 0], .tuple #[.agg #[.string (bsOf NM), .slice co2 N cc2, .int .i64 (KI : Nat), .bool only, .slice ro2 rn2 rc2], .int .i64 0], .agg #[.string (bsOf NM), .slice co2 N cc2, .int .i64 (KI : Nat), .bool only, .slice ro2 rn2 rc2], .int .i64 0, .pointer (some ⟨gu, 0, none⟩), (.int .i64 0), co2, cc2, ro2, rn2, rc2, gu, (by simp only [Act.put, List.setIfInBounds_toArray, List.set_cons_zero, List.set_cons_succ]), (by simp only [Act.put, List.setIfInBounds_toArray, List.set_cons_zero, List.set_cons_succ]), hb, (fun _ => rfl), (fun _ => rfl), (fun _ => rfl), (fun _ => rfl), (fun _ => rfl), (fun _ => rfl), (fun _ => rfl), (fun _ => rfl), (fun _ => rfl), (fun _ => rfl), (fun _ => rfl), (fun _ => rfl), (fun _ => rfl), (fun _ => rfl), (fun _ => rfl), (fun _ => rfl), (fun _ => rfl), (fun _ => rfl), (fun _ => rfl), f_tt, (fun _ h => by cases h), f_lt, (fun _ h => by cases h), f_lg, f_s, f_o18, f_o18b, (fun _ => rfl), (fun _ => rfl)⟩
            · rintro act V3 ⟨b0, b1, b2, b3, b4, b5, b6, b7, b8, b9, b10, b11, b12, b13, b14, b15, b16, b17, b18, b19, x64, x65, x66, x67, x68, x69, x70, x71, x72, x73, x74, x75, x76, x77, x63, x78, x79, x17, x18, co2, cc2, ro2, rn2, rc2, gu, hL, rfl, hb, cd0, cd1, cd2, cd3, cd4, cd5, cd6, cd7, cd8, cd9, cd10, cd11, cd12, cd13, cd14, cd15, cd16, cd17, cd19, f_tt, f_st, f_lt, f_z, f_lg, f_s, f_o18, f_o18b, w_14_13, w_15_13⟩
              have hL' : [true, true, true, true, true, true, true, true, true, true, true, true, true, true, true, true, true, true, true, true] = [b0, b1, b2, b3, b4, b5, b6, b7, b8, b9, b10, b11, b12, b13, b14, b15, b16, b17, b18, b19] := congrArg Array.toList hL
              simp only [List.cons.injEq, and_true] at hL'
              obtain ⟨rfl, rfl, rfl, rfl, rfl, rfl, rfl, rfl, rfl, rfl, rfl, rfl, rfl, rfl, rfl, rfl, rfl, rfl, rfl, rfl⟩ := hL'
              obtain rfl := cd0.out rfl
              obtain rfl := cd1.out rfl
              obtain rfl := cd2.out rfl
              obtain rfl := cd3.out rfl
              obtain rfl := cd4.out rfl
              obtain rfl := cd5.out rfl
              obtain rfl := cd6.out rfl
              obtain rfl := cd7.out rfl
              obtain rfl := cd8.out rfl
              obtain rfl := cd9.out rfl
              obtain rfl := cd10.out rfl
              obtain rfl := cd11.out rfl
              obtain rfl := cd12.out rfl
              obtain rfl := cd13.out rfl
              obtain rfl := cd14.out rfl
              obtain rfl := cd15.out rfl
              obtain rfl := cd16.out rfl
              obtain rfl := cd17.out rfl
              obtain rfl := cd19.out rfl
              have W_tt := f_tt.out rfl
              have W_lt := f_lt.out rfl
              have W_lg := f_lg.out rfl
              have W_s := f_s.out rfl
              have W_o18 := f_o18.out rfl
              have W_o18b := f_o18b.out rfl
              clear hL f_tt f_st f_lt f_z f_lg f_s f_o18 f_o18b cd0 cd1 cd2 cd3 cd4 cd5 cd6 cd7 cd8 cd9 cd10 cd11 cd12 cd13 cd14 cd15 cd16 cd17 cd19 w_14_13 w_15_13
              simp only [List.setIfInBounds_toArray, List.set_cons_zero, List.set_cons_succ]
              have bV3 : Below wr.heap.size wr V3 := (Below.refl _ _).drew.trans hb
              have hTb3h : Hid (V3.heap[gb]? = some (.cells (tbC NM co N cc (KI : Nat) only ro rn rc) 47 (0, 0))) := hTb1.past bV3
              have hTa3 := hTa1.past bV3
              have iAq3 := iAq1.past bV3
              have lR3 := lR1.past bV3
              have i3 := W_tt
              have BV3 := BB1.trans (bV3.mono hpw1)
              have hgbI : gb < wr.drew.heap.size := hTb1.lt
              obtain ⟨y0, y1, y2, y3, y4⟩ := tb_cells W_s
              clear hb W_lt W_lg W_o18 W_o18b W_tt u0 u1 u2 u3 u4
              go_wp2_with ((with_reducible refine wpList_store_blk (o := ⟨none, _, _, _, _, _⟩) rfl 47 (.tmp 9) (.tmp 82) rfl gb _ (tbC NM co2 N cc2 (KI : Nat) only ro2 rn2 rc2) ?_ ?_ _ hTb3h 5 szTb (tbC_size ..) (tbC_size ..) (tbC_all ..) ?_); (rfl); (rfl); (intro W4 h4 g4))
              have hpV3 : p0 ≤ V3.heap.size := by have := BV3.size; rw [HP.out] at this; exact this
              have iAq4 := iAq3.grown g4 htb
              go_roundw
              case rel => exact ⟨i + 1, co2, cc2, ro2, rn2, rc2, rs2, by omega, by go_num, h4.out, (i3.grown g4 hgbI).mono (Nat.zero_le _), hnx, hTa3.grown g4 hgab, iAq4.mono (Nat.zero_le _), (fun _ => iAq4), lR3.grown g4 htb, BV3.grown g4 hpV3 (fun z hz => by cases hz; exact hp0b)⟩
              case measure => simp [intOf]; omega
          · have hlti2 : ¬ ((i : Int) < (m : Int)) := by omega
            have e : rsA = rs := by
              by_cases h0 : 0 < m
              · have hi2 : i = L.length := by omega
                rw [hi2] at hrot
                exact hrot.all (by have := (hbm h0).1; omega) hIn
              · have h1 : rsA.length = 0 := by omega
                have h2 : rs.length = 0 := by omega
                exact (List.eq_nil_of_length_eq_zero h1).trans (List.eq_nil_of_length_eq_zero h2).symm
            subst e
            have HS := tsame_any wr NM F N (KI : Nat) only 0 0 coA ccA roA m rcA rsA co cc ro rn rc rsA iA1 iB1 (by omega)
            rw [show eqRs rsA rsA = true from (eqRs_iff _ _).2 rfl] at HS
            unfold tbV at HS
            obtain ⟨t0, t1, t2, t3, t4⟩ := tb_cells hTa1
            go_wp2_with (go_at_call 26; refine HS.mono ?_; rintro e wz ⟨rfl, bz⟩)
            go_ret
            exact ⟨rfl, by rw [HP.out]; exact BB1.trans (bz.mono hpw1)⟩
end Go.Proofs.Ytppgafnepnkabaa
