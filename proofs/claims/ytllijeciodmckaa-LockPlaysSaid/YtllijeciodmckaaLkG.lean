/-
  lock's with, Free, Ask (by gen_lkg.py).
-/
import Derived.Test.YtllijeciodmckaaLkF
import Derived.Test.YtllijeciodmckaaRowA
import Derived.Test.YtllijeciodmckaaBlk
namespace Go.Proofs.Ytllijeciodmckaa
open Go.RowKit
set_option linter.unusedSimpArgs false
theorem TxtR.monoB {α : Type} {E : Enc α} {w : World} {e : TypeId} {B B' : Nat} {ao : Option Addr} {n c : Nat} {l : List α} (h : TxtR E w e B ao n c l) (hB : B' ≤ B) : TxtR E w e B' ao n c l :=
  ⟨h.either.imp id fun ⟨g, h1, h2, h3⟩ => ⟨g, h1, h2, Nat.le_trans hB h3⟩⟩
/-- A row stays while a block of another type is written. -/
theorem TxtR.farT {α : Type} {E : Enc α} {w w' : World} {e t : TypeId} {B g : Nat} {ao : Option Addr} {n c : Nat} {l : List α} {cs : Array Value} (h : TxtR E w e B ao n c l) (hg : w.heap[g]? = some (.cells cs t (0, 0))) (hne : e ≠ t) (hw : w.grownBy w' (some g)) : TxtR E w' e B ao n c l := by
  rcases h.either with h | ⟨q, rfl, o, hq⟩
  · exact ⟨.inl h⟩
  · refine ⟨.inr ⟨q, rfl, o.grown hw (fun e1 => ?_), hq⟩⟩
    obtain rfl := Option.some.inj e1
    obtain ⟨cur, hc, _⟩ := o.row
    rw [hg] at hc
    injection hc with hc
    injection hc with _ h2
    exact hne h2.symm
theorem LkB.far {w w' : World} {p g : Nat} {ho wo : Option Addr} {hn hc wn wc : Nat} {t : TypeId} (h : LkB w p ho hn hc wo wn wc t) (hw : w.grownBy w' (some g)) (hne : p ≠ g) : LkB w' p ho hn hc wo wn wc t := (hw.block p h.lt (fun e => hne (Option.some.inj e))).trans h
theorem HdB.far {w w' : World} {p g : Nat} {x : Hd} {t : TypeId} (h : HdB w p x t) (hw : w.grownBy w' (some g)) (hne : p ≠ g) : HdB w' p x t := (hw.block p h.lt (fun e => hne (Option.some.inj e))).trans h
theorem grown_more {w a b : World} {r : Option Nat} (h : w.grownBy a none) (k : a.grownBy b r) : w.grownBy b r :=
  ⟨k.os.trans h.os, k.tape.trans h.tape, k.output.trans h.output, Nat.le_trans h.size k.size, fun i hi hne => (k.block i (Nat.lt_of_lt_of_le hi h.size) hne).trans (h.block i hi (by simp))⟩
theorem TxtR.neT {α : Type} {E : Enc α} {w : World} {e t : TypeId} {B g : Nat} {ao : Option Addr} {n c : Nat} {l : List α} {cs : Array Value} (h : TxtR E w e B ao n c l) (hg : w.heap[g]? = some (.cells cs t (0, 0))) (hne : e ≠ t) : some g ≠ Go.Proofs.Ytllijeciodmckaa.blk ao := by
  rcases h.either with ⟨rfl, _⟩ | ⟨q, rfl, o, hq⟩
  · simp [Go.Proofs.Ytllijeciodmckaa.blk]
  · intro e1
    obtain rfl := Option.some.inj e1
    obtain ⟨cur, hc, _⟩ := o.row
    rw [hg] at hc
    injection hc with hc
    injection hc with _ h2
    exact hne h2.symm
theorem TxtR.from' {α : Type} {E : Enc α} {w : World} {e : TypeId} {B : Nat} {ao : Option Addr} {n c : Nat} {l : List α} (h : TxtR E w e B ao n c l) : ∀ z, Go.Proofs.Ytllijeciodmckaa.blk ao = some z → B ≤ z := by
  rcases h.either with ⟨rfl, _⟩ | ⟨q, rfl, o, hq⟩
  · intro z hz; cases hz
  · intro z hz
    cases hz
    exact hq
theorem RowO.farT {α : Type} {E : Enc α} {w w' : World} {e t : TypeId} {B g : Nat} {ao : Option Addr} {n c : Nat} {l : List α} {cs : Array Value} (h : RowO E w e B ao n c l) (hg : w.heap[g]? = some (.cells cs t (0, 0))) (hne : e ≠ t) (hw : w.grownBy w' (some g)) : RowO E w' e B ao n c l := by
  rcases h.either with h | ⟨q, off, pre, rfl, hp, o, hq⟩
  · exact ⟨.inl h⟩
  · refine ⟨.inr ⟨q, off, pre, rfl, hp, o.grown hw (fun e1 => ?_), hq⟩⟩
    obtain rfl := Option.some.inj e1
    obtain ⟨cur, hc, _⟩ := o.row
    rw [hg] at hc
    injection hc with hc
    injection hc with _ h2
    exact hne h2.symm
theorem RowO.from2 {α : Type} {E : Enc α} {w : World} {e : TypeId} {B B' : Nat} {ao : Option Addr} {n c : Nat} {l : List α} (h : RowO E w e B ao n c l) (hB : B' ≤ B) : 0 < n → ∀ a, ao = some a → B' ≤ a.block := by
  rcases h.either with ⟨rfl, _⟩ | ⟨g, off, pre, rfl, _, _, hg⟩
  · intro h; omega
  · intro _ a ha
    cases ha
    exact Nat.le_trans hB hg
/-- LOCKS AS A VALUE, all in blocks from B on. -/
def LkF (w : World) (v : Value) (B : Nat) (H W : List Hd) : Prop := ∃ ho hn hc wo wn wc, v = lkV ho hn hc wo wn wc ∧ IsR EHd w ho hn hc H ∧ IsR EHd w wo wn wc W ∧ (0 < hn → ∀ a, ho = some a → B ≤ a.block) ∧ (0 < wn → ∀ a, wo = some a → B ≤ a.block)
theorem LkF.is {w : World} {v : Value} {B : Nat} {H W : List Hd} (h : LkF w v B H W) : LkIs w v H W := by
  obtain ⟨a, b, c, d, e, f, h1, h2, h3, _⟩ := h
  exact ⟨a, b, c, d, e, f, h1, h2, h3⟩
theorem IsR.setOther {α : Type} {E : Enc α} {w : World} {ao : Option Addr} {n c p i : Nat} {l : List α} (h : IsR E w ao n c l) (hp : 0 < n → ∀ a, ao = some a → a.block ≠ p) (v : Value) : IsR E (w.setCell ⟨p, i, none⟩ v) ao n c l := by
  refine ⟨h.len, h.le, h.max, h.nil, fun a ha j u hu => ?_⟩
  have hl := (List.getElem?_eq_some_iff.1 hu).1
  rw [E.all_length, h.len] at hl
  have hn : 0 < n := by
    rcases Nat.eq_zero_or_pos n with e | e
    · rw [e] at hl; omega
    · exact e
  have e : (a.add j).block = a.block := add_block a j
  have hc := h.cell a ha j u hu
  rw [World.cell?_of_block (w := w) (a := a.add j) (heap_setCell_other w _ _ v (by rw [e]; exact hp hn a ha))]
  exact hc
/-- A VARIABLE OF LOCKS IN BLOCK p. -/
def LkAt (w : World) (p : Nat) (H W : List Hd) : Prop := ∃ ho hn hc wo wn wc, LkB w p ho hn hc wo wn wc 96 ∧ IsR EHd w ho hn hc H ∧ IsR EHd w wo wn wc W ∧ (0 < hn → ∀ a, ho = some a → a.block ≠ p) ∧ (0 < wn → ∀ a, wo = some a → a.block ≠ p)
def lkC (ho : Option Addr) (hn hc : Nat) (wo : Option Addr) (wn wc : Nat) : Array Value := #[.slice ho hn hc, .slice wo wn wc]
theorem lkC_size (ho : Option Addr) (hn hc : Nat) (wo : Option Addr) (wn wc : Nat) : (lkC ho hn hc wo wn wc).size = 2 := rfl
theorem lkC_all (ho : Option Addr) (hn hc : Nat) (wo : Option Addr) (wn wc : Nat) : (lkC ho hn hc wo wn wc).all (·.oneCell') = true := by simp [lkC, Value.oneCell']
theorem szLk : (Try.prog.info? 96).map (·.size) = some 2 := by kernel_rfl
theorem LkB.free {w : World} {p : Nat} {ho wo : Option Addr} {hn hc wn wc : Nat} {t : TypeId} (h : LkB w p ho hn hc wo wn wc t) : w.frozen? ⟨p, 0, none⟩ = false ∧ w.frozen? ⟨p, 1, none⟩ = false := ⟨free_blk h, free_blk h⟩
theorem wp_store_lk {w : World} {o : Oper} {a : Act} {K : Act → World → Prop} {Q : Exit → Act → World → Prop} (x y : Operand) (ho : o.op = .store 96 x y)
    (g : Nat) (o1 : Option Addr) (n1 c1 : Nat) (o2 : Option Addr) (n2 c2 : Nat) (hx : a.eval x = .pointer (some ⟨g, 0, none⟩)) (q1 : Option Addr) (m1 d1 : Nat) (q2 : Option Addr) (m2 d2 : Nat) (hy : a.eval y = .agg #[.slice q1 m1 d1, .slice q2 m2 d2]) (hg : Hid (LkB w g o1 n1 c1 o2 n2 c2 96))
    (hK : ∀ w', LkB w' g q1 m1 d1 q2 m2 d2 96 → w.grownBy w' (some g) → K (a.put o.dst undef) w') : o.wp Try.prog a w K Q :=
  wp_store_row 96 x y ho g (lkC q1 m1 d1 q2 m2 d2) hx hy 96 (lkC o1 n1 c1 o2 n2 c2) hg.out (by rw [szLk]; rfl) rfl (lkC_all ..) (hK _ (setRow_heap w g _ _ _ _ hg.out) ⟨rfl, rfl, rfl, by simp, fun k _ hk => setRow_other w g k _ (fun e => hk (by rw [e]))⟩)
/-- What stands while the region's operations come up. -/
inductive FreeR (B : Nat) (p : Nat) (r : Nat) (ho : Option Addr) (hn : Nat) (hc : Nat) (wo1 : Option Addr) (wn : Nat) (wc : Nat) (s : Int) (H0 : List Hd) (W0 : List Hd) (a0 : Act) (w0 : World) (L : Array Bool) (a : Act) (w : World) : Prop
  | mk (b0 b1 b2 b3 b4 b5 b6 b7 b8 b9 : Bool) (x5 x6 x7 x8 x9 x10 x11 x12 x13 : Value) (ao1 : Option Addr) (k1 : Nat) (c1 : Nat) (ao2 : Option Addr) (k2 : Nat) (c2 : Nat) (hL : L = #[b0, b1, b2, b3, b4, b5, b6, b7, b8, b9]) (ha : a = ⟨(((((((((a0.tmps.setIfInBounds 5 x5).setIfInBounds 6 x6).setIfInBounds 7 x7).setIfInBounds 8 x8).setIfInBounds 9 x9).setIfInBounds 10 x10).setIfInBounds 11 x11).setIfInBounds 12 x12).setIfInBounds 13 x13), a0.defers⟩) (hb : Below B w0 w) (cd0 : Hid (b0 = true → x5 = .pointer (some ⟨p, 0, none⟩))) (cd1 : Hid (b1 = true → x6 = .slice ho hn hc)) (cd2 : Hid (b2 = true → x7 = .int .i64 s)) (cd3 : Hid (b3 = true → x8 = .slice ao1 k1 c1)) (cd4 : Hid (b4 = true → x9 = .pointer (some ⟨p, 1, none⟩))) (cd5 : Hid (b5 = true → x10 = .slice wo1 wn wc)) (cd6 : Hid (b6 = true → x11 = .int .i64 s)) (cd7 : Hid (b7 = true → x12 = .slice ao2 k2 c2)) (cd8 : Hid (b8 = true → x13 = .agg #[.slice ao1 k1 c1, .slice ao2 k2 c2])) (f_b0 : Hid (LkB w p ho hn hc wo1 wn wc 96)) (f_z : Hid (b9 = false → LkB w r none 0 0 none 0 0 96)) (f_r1 : Hid (b3 = true → TxtR EHd w 101 B ao1 k1 c1 (wo H0 s))) (f_r2 : Hid (b7 = true → TxtR EHd w 101 B ao2 k2 c2 (wo W0 s))) (f_o : Hid (b9 = true → LkB w r ao1 k1 c1 ao2 k2 c2 96)) (f_q3 : Hid (b9 = true → b3 = true)) (f_q7 : Hid (b9 = true → b7 = true)) (w_8_3 : Hid (b8 = true → b3 = true)) (w_8_7 : Hid (b8 = true → b7 = true)) : FreeR B p r ho hn hc wo1 wn wc s H0 W0 a0 w0 L a w
set_option maxRecDepth 100000 in
set_option maxHeartbeats 1000000 in
theorem with_any (w : World) (B : Nat) (hBw : B ≤ w.heap.size) (ao : Option Addr) (n c : Nat) (H : List Hd) (h : TxtR EHd w 101 B ao n c H) (hn : n ≤ 100000) (k : Hd) :
    Calls Try.prog 106 #[.slice ao n c, k.val] w fun e w' => ∃ ao' n' c', e = .returned (.slice ao' n' c') ∧ RowO EHd w' 101 B ao' n' c' (wthH H k) ∧ Below B w w' ∧ w.grownBy w' (Go.Proofs.Ytllijeciodmckaa.blk ao) := by
  have X0 := HdB.new w k 101
  have BA : Below w.heap.size w (w.alloc (.cells #[.int .i64 k.s, .string (bsOf k.t), .bool k.x] 101)) := (Below.refl _ _).alloc (Nat.le_refl _) _
  have hln := h.len
  have hmx := h.isR.max
  have hle := h.isR.le
  unfold maxLen at hmx
  have HA := fun w' => as_any w' k false
  have HI := fun (w' : World) (hr : IsR EHd w' ao n c H) => index_hd w' ao n c H hr (k.as false)
  have hW : Hid (wthH H k = match H.findIdx? (fun q => decide (k.as false = q)) with | some i => H.set i k | none => H ++ [k]) := Lib.hid rfl
  have hX : Hid (idx H (k.as false) = match H.findIdx? (fun q => decide (k.as false = q)) with | some i => (i : Int) | none => -1) := Lib.hid rfl
  have hfl : ∀ i, H.findIdx? (fun q => decide (k.as false = q)) = some i → i < n := fun i hi => by
    obtain ⟨h1, _⟩ := List.findIdx?_eq_some_iff_getElem.1 hi
    omega
  obtain ⟨f, hf⟩ : ∃ f, H.findIdx? (fun q => decide (k.as false = q)) = f := ⟨_, rfl⟩
  rw [hf] at hW hX hfl
  clear hf
  obtain ⟨R, hR⟩ : ∃ R, wthH H k = R := ⟨_, rfl⟩
  obtain ⟨I, hI⟩ : ∃ I, idx H (k.as false) = I := ⟨_, rfl⟩
  rw [hR] at hW ⊢
  rw [hI] at hX HI
  clear hR hI
  unfold Hd.as at HI HA
  have hK0 := k
  unfold Hd.val at HI HA ⊢
  simp only at HI HA
  go_enter Try.func106, Try.ntmps106
  go_upto_region 1 with fail
  generalize w.alloc (.cells #[.int .i64 k.s, .string (bsOf k.t), .bool k.x] 101) = W at X0 BA ⊢
  obtain ⟨p, hp⟩ : ∃ p, w.heap.size = p := ⟨_, rfl⟩
  have hP := Lib.hid hp
  rw [hp] at X0 BA hBw
  simp only [hp]
  have h1 := h.past (by rw [hP.out]; exact BA)
  have hpW := X0.lt
  have hBW : B ≤ W.heap.size := by omega
  clear hp h
  obtain ⟨x0, x1, x2⟩ := X0.c
  have BAB : Below B w W := BA.mono hBw
  go_upto_region 2 with (first
    | (go_at_call 155; refine (HA _).mono ?_; rintro e w1 ⟨rfl, b1⟩)
    | (go_at_call 157; refine (HI _ (h1.past b1).isR).mono ?_; rintro e w2 ⟨rfl, b2⟩))
  have b12 := b1.trans (b2.mono b1.size)
  have h2 := h1.past b12
  have X2 := X0.past b12
  have B2 := BAB.trans (b12.mono hBW)
  have hB2 := Nat.le_trans hBW b12.size
  clear HA HI x0 x1 x2
  obtain ⟨x0, x1, x2⟩ := X2.c
  have gA : w.grownBy w2 none := below_grown none (by rw [hP.out]; exact BA.trans (b12.mono (Nat.le_of_lt hpW)))
  generalize w2 = V at h2 X2 B2 hB2 x0 x1 x2 gA ⊢
  clear b12 b2 b1 h1
  cases f with
  | none =>
    obtain rfl : I = -1 := hX.out
    have hR : R = H ++ [k] := hW.out
    subst hR
    clear hW hX
    have hneg : ((-1 : Int) < 0) := by omega
    have oB : OwnR EHd (V.alloc (.cells #[.int .i64 k.s, .string (bsOf k.t), .bool k.x] 101)) 101 V.heap.size 1 1 [k] := OwnR.ofBlk (heap_alloc_new V _) rfl rfl (by omega)
    have bB : Below V.heap.size V (V.alloc (.cells #[.int .i64 k.s, .string (bsOf k.t), .bool k.x] 101)) := (Below.refl _ _).alloc (Nat.le_refl _) _
    have hs := oB.isR.src (P := Try.prog) Try.underlying94
    have h3 := h2.past bB
    go_wp2_with (at_builtin; refine wpList_append_o rfl _ _ 94 94 rfl 101 rowTyHd B (by rw [World.size_alloc]; omega) ao n c H rfl h3.rowO _ rfl 1 [k] hs rfl (by omega) (by omega) (n + 1) rfl ?_; intro ao4 c4 w4 o4 g4 b4 q4)
    go_ret
    exact ⟨ao4, n + 1, c4, by first | rfl | go_num, o4, (B2.trans (bB.mono hB2)).trans b4, grown_more gA (grown_more (below_grown none bB) g4)⟩
  | some i =>
    obtain rfl : I = (i : Int) := hX.out
    have hR : R = H.set i k := hW.out
    subst hR
    clear hW hX
    have hi := hfl i rfl
    have hin : (i : Int) < (n : Int) := by omega
    have hpos : ¬ ((i : Int) < 0) := by omega
    rcases h2.either with ⟨rfl, rfl, rfl, rfl⟩ | ⟨g, rfl, o2, hg⟩
    · omega
    · obtain ⟨ca, cb, cc, a0, a1, a2, f0, f1, f2⟩ := own_cells3 o2 rfl i hi
      go_wp2_with fail
      go_ret
      exact ⟨some ⟨g, 0, none⟩, n, c, rfl, (own_set3 o2 rfl i hi k _ _ _ rfl).rowO hg, B2.trans (grown_below (set3_grown V g i _ _ _) hg hB2), grown_more gA (set3_grown V g i _ _ _)⟩
set_option maxRecDepth 100000 in
set_option maxHeartbeats 1000000 in
theorem free_any (w : World) (v : Value) (H0 W0 : List Hd) (h : LkIs w v H0 W0) (hH : H0.length ≤ 100000) (hW : W0.length ≤ 100000) (s : Int) :
    Calls Try.prog 53 #[v, .int .i64 s] w fun e w' => ∃ v', e = .returned v' ∧ LkF w' v' w.heap.size (wo H0 s) (wo W0 s) ∧ Below w.heap.size w w' := by
  obtain ⟨ho, hn, hc, wo1, wn, wc, rfl, h1, h2⟩ := h
  have l1 := h1.len
  have l2 := h2.len
  have X0 := LkB.new w ho hn hc wo1 wn wc 96
  have B0 : Below w.heap.size w (w.alloc (.cells #[.slice ho hn hc, .slice wo1 wn wc] 96)) := (Below.refl _ _).alloc (Nat.le_refl _) _
  have Z1 := LkB.new (w.alloc (.cells #[.slice ho hn hc, .slice wo1 wn wc] 96)) none 0 0 none 0 0 96
  have X1 := X0.past ((Below.refl _ _).alloc (Nat.le_refl _) (.cells #[.slice none 0 0, .slice none 0 0] 96))
  have BA := B0.alloc B0.size (.cells #[.slice none 0 0, .slice none 0 0] 96)
  rw [World.size_alloc] at Z1
  unfold lkV
  clear X0 B0
  go_enter Try.func53, Try.ntmps53
  go_upto_region 1 with fail
  generalize (w.alloc (.cells #[.slice ho hn hc, .slice wo1 wn wc] 96)).alloc (.cells #[.slice none 0 0, .slice none 0 0] 96) = W at X1 Z1 BA ⊢
  obtain ⟨p, hp⟩ : ∃ p, w.heap.size = p := ⟨_, rfl⟩
  have HP := Lib.hid hp
  rw [hp] at X1 Z1 BA
  simp only [hp]
  clear hp
  obtain ⟨r, hr⟩ : ∃ r, p + 1 = r := ⟨_, rfl⟩
  rw [hr] at Z1
  simp only [hr]
  have hpr : p ≠ r := by omega
  have hBr : p ≤ r := by omega
  clear hr
  have hB0 : p ≤ W.heap.size := Nat.le_of_lt X1.lt
  have HW1 := fun (w' : World) (hb : Below p W.drew w') => without_any w' ho hn hc H0 (h1.past (by rw [HP.out]; exact BA.trans ((Below.refl _ _).drew.trans hb))) (by omega) s
  have HW2 := fun (w' : World) (hb : Below p W.drew w') => without_any w' wo1 wn wc W0 (h2.past (by rw [HP.out]; exact BA.trans ((Below.refl _ _).drew.trans hb))) (by omega) s
  clear h1 h2
  refine region_inv (FreeR p p r ho hn hc wo1 wn wc s H0 W0) (by kernel_rfl) (by kernel_rfl) ?_ ?_ ?_
  · exact ⟨false, false, false, false, false, false, false, false, false, false, undef, undef, undef, undef, undef, undef, undef, undef, undef, none, 0, 0, none, 0, 0, rfl, (by simp only [Act.put, List.setIfInBounds_toArray, List.set_cons_zero, List.set_cons_succ]), Below.refl _ _, (fun h => by cases h), (fun h => by cases h), (fun h => by cases h), (fun h => by cases h), (fun h => by cases h), (fun h => by cases h), (fun h => by cases h), (fun h => by cases h), (fun h => by cases h), (X1.past (Below.refl _ _).drew), (fun h1 => Z1.past (Below.refl _ _).drew), (fun h => by cases h), (fun h => by cases h), (fun h => by cases h), (fun h => by cases h), (fun h => by cases h), (fun h => by cases h), (fun h => by cases h)⟩
  · refine ⟨?_, ?_, ?_, ?_, ?_, ?_, ?_, ?_, ?_, ?_, trivial⟩
    · rintro L a w ⟨b0, b1, b2, b3, b4, b5, b6, b7, b8, b9, x5, x6, x7, x8, x9, x10, x11, x12, x13, ao1, k1, c1, ao2, k2, c2, rfl, rfl, hb, cd0, cd1, cd2, cd3, cd4, cd5, cd6, cd7, cd8, f_b0, f_z, f_r1, f_r2, f_o, f_q3, f_q7, w_8_3, w_8_7⟩ hf hd
      have hf' : b0 = false := hf
      subst hf'
      clear hf hd
      have W_b0 := f_b0.out
      try simp only [List.setIfInBounds_toArray, List.set_cons_zero, List.set_cons_succ]
      intro K hK
      rw [if_pos (by rfl)]
      go_simp
      exact hK.out _ _ ⟨true, b1, b2, b3, b4, b5, b6, b7, b8, b9, (.pointer (some ⟨p, 0, none⟩)), x6, x7, x8, x9, x10, x11, x12, x13, ao1, k1, c1, ao2, k2, c2, (by simp only [Act.put, List.setIfInBounds_toArray, List.set_cons_zero, List.set_cons_succ]), (by simp only [Act.put, List.setIfInBounds_toArray, List.set_cons_zero, List.set_cons_succ]), hb, (fun _ => rfl), cd1, cd2, cd3, cd4, cd5, cd6, cd7, cd8, f_b0, f_z, f_r1, f_r2, f_o, f_q3, f_q7, w_8_3, w_8_7⟩
    · rintro L a w ⟨b0, b1, b2, b3, b4, b5, b6, b7, b8, b9, x5, x6, x7, x8, x9, x10, x11, x12, x13, ao1, k1, c1, ao2, k2, c2, rfl, rfl, hb, cd0, cd1, cd2, cd3, cd4, cd5, cd6, cd7, cd8, f_b0, f_z, f_r1, f_r2, f_o, f_q3, f_q7, w_8_3, w_8_7⟩ hf hd
      have hf' : b1 = false := hf
      subst hf'
      have d0 : b0 = true := hd ⟨0, .data⟩ (by simp) rfl
      subst d0
      obtain rfl := cd0.out rfl
      clear hf hd
      have W_b0 := f_b0.out
      try simp only [List.setIfInBounds_toArray, List.set_cons_zero, List.set_cons_succ]
      obtain ⟨z0, z1⟩ := W_b0.c
      intro K hK
      rw [if_pos (by rfl)]
      go_simp
      exact hK.out _ _ ⟨true, true, b2, b3, b4, b5, b6, b7, b8, b9, .pointer (some ⟨p, 0, none⟩), (.slice ho hn hc), x7, x8, x9, x10, x11, x12, x13, ao1, k1, c1, ao2, k2, c2, (by simp only [Act.put, List.setIfInBounds_toArray, List.set_cons_zero, List.set_cons_succ]), (by simp only [Act.put, List.setIfInBounds_toArray, List.set_cons_zero, List.set_cons_succ]), hb, (fun _ => rfl), (fun _ => rfl), cd2, cd3, cd4, cd5, cd6, cd7, cd8, f_b0, f_z, f_r1, f_r2, f_o, f_q3, f_q7, w_8_3, w_8_7⟩
    · rintro L a w ⟨b0, b1, b2, b3, b4, b5, b6, b7, b8, b9, x5, x6, x7, x8, x9, x10, x11, x12, x13, ao1, k1, c1, ao2, k2, c2, rfl, rfl, hb, cd0, cd1, cd2, cd3, cd4, cd5, cd6, cd7, cd8, f_b0, f_z, f_r1, f_r2, f_o, f_q3, f_q7, w_8_3, w_8_7⟩ hf hd
      have hf' : b2 = false := hf
      subst hf'
      clear hf hd
      have W_b0 := f_b0.out
      try simp only [List.setIfInBounds_toArray, List.set_cons_zero, List.set_cons_succ]
      intro K hK
      rw [if_pos (by rfl)]
      go_simp
      exact hK.out _ _ ⟨b0, b1, true, b3, b4, b5, b6, b7, b8, b9, x5, x6, (.int .i64 s), x8, x9, x10, x11, x12, x13, ao1, k1, c1, ao2, k2, c2, (by simp only [Act.put, List.setIfInBounds_toArray, List.set_cons_zero, List.set_cons_succ]), (by simp only [Act.put, List.setIfInBounds_toArray, List.set_cons_zero, List.set_cons_succ]), hb, cd0, cd1, (fun _ => rfl), cd3, cd4, cd5, cd6, cd7, cd8, f_b0, f_z, f_r1, f_r2, f_o, f_q3, f_q7, w_8_3, w_8_7⟩
    · rintro L a w ⟨b0, b1, b2, b3, b4, b5, b6, b7, b8, b9, x5, x6, x7, x8, x9, x10, x11, x12, x13, ao1, k1, c1, ao2, k2, c2, rfl, rfl, hb, cd0, cd1, cd2, cd3, cd4, cd5, cd6, cd7, cd8, f_b0, f_z, f_r1, f_r2, f_o, f_q3, f_q7, w_8_3, w_8_7⟩ hf hd
      have hf' : b3 = false := hf
      subst hf'
      have d1 : b1 = true := hd ⟨1, .data⟩ (by simp) rfl
      subst d1
      have d2 : b2 = true := hd ⟨2, .data⟩ (by simp) rfl
      subst d2
      obtain rfl := cd1.out rfl
      obtain rfl := cd2.out rfl
      clear hf hd
      have W_b0 := f_b0.out
      try simp only [List.setIfInBounds_toArray, List.set_cons_zero, List.set_cons_succ]
      intro K hK
      rw [if_pos (by rfl)]
      go_simp
      go_at_call 100
      refine (HW1 _ hb).mono ?_
      rintro e w' ⟨ao3, k3, c3, rfl, r9, bx⟩
      have e_8 : b8 = false := by cases hq : b8 with | false => rfl | true => exact absurd (w_8_3.out hq) (by simp)
      subst e_8
      exact hK.out _ _ ⟨b0, true, true, true, b4, b5, b6, b7, false, b9, x5, .slice ho hn hc, .int .i64 s, (.slice ao3 k3 c3), x9, x10, x11, x12, x13, ao3, k3, c3, ao2, k2, c2, (by simp only [Act.put, List.setIfInBounds_toArray, List.set_cons_zero, List.set_cons_succ]), (by simp only [Act.put, List.setIfInBounds_toArray, List.set_cons_zero, List.set_cons_succ]), hb.trans (bx.mono (Nat.le_trans hB0 hb.size)), cd0, (fun _ => rfl), (fun _ => rfl), (fun _ => rfl), cd4, cd5, cd6, cd7, (fun h => by cases h), (f_b0.out.past bx), (fun h1 => (f_z.out h1).past bx), (fun _ => r9.monoB (Nat.le_trans hB0 hb.size)), (fun h0 => (f_r2.out h0).past bx), (fun h0 => absurd (f_q3.out h0) (by simp)), (fun _ => rfl), f_q7, (fun _ => rfl), w_8_7⟩
    · rintro L a w ⟨b0, b1, b2, b3, b4, b5, b6, b7, b8, b9, x5, x6, x7, x8, x9, x10, x11, x12, x13, ao1, k1, c1, ao2, k2, c2, rfl, rfl, hb, cd0, cd1, cd2, cd3, cd4, cd5, cd6, cd7, cd8, f_b0, f_z, f_r1, f_r2, f_o, f_q3, f_q7, w_8_3, w_8_7⟩ hf hd
      have hf' : b4 = false := hf
      subst hf'
      clear hf hd
      have W_b0 := f_b0.out
      try simp only [List.setIfInBounds_toArray, List.set_cons_zero, List.set_cons_succ]
      intro K hK
      rw [if_pos (by rfl)]
      go_simp
      exact hK.out _ _ ⟨b0, b1, b2, b3, true, b5, b6, b7, b8, b9, x5, x6, x7, x8, (.pointer (some ⟨p, 1, none⟩)), x10, x11, x12, x13, ao1, k1, c1, ao2, k2, c2, (by simp only [Act.put, List.setIfInBounds_toArray, List.set_cons_zero, List.set_cons_succ]), (by simp only [Act.put, List.setIfInBounds_toArray, List.set_cons_zero, List.set_cons_succ]), hb, cd0, cd1, cd2, cd3, (fun _ => rfl), cd5, cd6, cd7, cd8, f_b0, f_z, f_r1, f_r2, f_o, f_q3, f_q7, w_8_3, w_8_7⟩
    · rintro L a w ⟨b0, b1, b2, b3, b4, b5, b6, b7, b8, b9, x5, x6, x7, x8, x9, x10, x11, x12, x13, ao1, k1, c1, ao2, k2, c2, rfl, rfl, hb, cd0, cd1, cd2, cd3, cd4, cd5, cd6, cd7, cd8, f_b0, f_z, f_r1, f_r2, f_o, f_q3, f_q7, w_8_3, w_8_7⟩ hf hd
      have hf' : b5 = false := hf
      subst hf'
      have d4 : b4 = true := hd ⟨4, .data⟩ (by simp) rfl
      subst d4
      obtain rfl := cd4.out rfl
      clear hf hd
      have W_b0 := f_b0.out
      try simp only [List.setIfInBounds_toArray, List.set_cons_zero, List.set_cons_succ]
      obtain ⟨z0, z1⟩ := W_b0.c
      intro K hK
      rw [if_pos (by rfl)]
      go_simp
      exact hK.out _ _ ⟨b0, b1, b2, b3, true, true, b6, b7, b8, b9, x5, x6, x7, x8, .pointer (some ⟨p, 1, none⟩), (.slice wo1 wn wc), x11, x12, x13, ao1, k1, c1, ao2, k2, c2, (by simp only [Act.put, List.setIfInBounds_toArray, List.set_cons_zero, List.set_cons_succ]), (by simp only [Act.put, List.setIfInBounds_toArray, List.set_cons_zero, List.set_cons_succ]), hb, cd0, cd1, cd2, cd3, (fun _ => rfl), (fun _ => rfl), cd6, cd7, cd8, f_b0, f_z, f_r1, f_r2, f_o, f_q3, f_q7, w_8_3, w_8_7⟩
    · rintro L a w ⟨b0, b1, b2, b3, b4, b5, b6, b7, b8, b9, x5, x6, x7, x8, x9, x10, x11, x12, x13, ao1, k1, c1, ao2, k2, c2, rfl, rfl, hb, cd0, cd1, cd2, cd3, cd4, cd5, cd6, cd7, cd8, f_b0, f_z, f_r1, f_r2, f_o, f_q3, f_q7, w_8_3, w_8_7⟩ hf hd
      have hf' : b6 = false := hf
      subst hf'
      clear hf hd
      have W_b0 := f_b0.out
      try simp only [List.setIfInBounds_toArray, List.set_cons_zero, List.set_cons_succ]
      intro K hK
      rw [if_pos (by rfl)]
      go_simp
      exact hK.out _ _ ⟨b0, b1, b2, b3, b4, b5, true, b7, b8, b9, x5, x6, x7, x8, x9, x10, (.int .i64 s), x12, x13, ao1, k1, c1, ao2, k2, c2, (by simp only [Act.put, List.setIfInBounds_toArray, List.set_cons_zero, List.set_cons_succ]), (by simp only [Act.put, List.setIfInBounds_toArray, List.set_cons_zero, List.set_cons_succ]), hb, cd0, cd1, cd2, cd3, cd4, cd5, (fun _ => rfl), cd7, cd8, f_b0, f_z, f_r1, f_r2, f_o, f_q3, f_q7, w_8_3, w_8_7⟩
    · rintro L a w ⟨b0, b1, b2, b3, b4, b5, b6, b7, b8, b9, x5, x6, x7, x8, x9, x10, x11, x12, x13, ao1, k1, c1, ao2, k2, c2, rfl, rfl, hb, cd0, cd1, cd2, cd3, cd4, cd5, cd6, cd7, cd8, f_b0, f_z, f_r1, f_r2, f_o, f_q3, f_q7, w_8_3, w_8_7⟩ hf hd
      have hf' : b7 = false := hf
      subst hf'
      have d5 : b5 = true := hd ⟨5, .data⟩ (by simp) rfl
      subst d5
      have d6 : b6 = true := hd ⟨6, .data⟩ (by simp) rfl
      subst d6
      have d3 : b3 = true := hd ⟨3, .chain⟩ (by simp) rfl
      subst d3
      obtain rfl := cd5.out rfl
      obtain rfl := cd6.out rfl
      obtain rfl := cd3.out rfl
      clear hf hd
      have W_b0 := f_b0.out
      have W_r1 := f_r1.out rfl
      try simp only [List.setIfInBounds_toArray, List.set_cons_zero, List.set_cons_succ]
      intro K hK
      rw [if_pos (by rfl)]
      go_simp
      go_at_call 100
      refine (HW2 _ hb).mono ?_
      rintro e w' ⟨ao3, k3, c3, rfl, r9, bx⟩
      have e_8 : b8 = false := by cases hq : b8 with | false => rfl | true => exact absurd (w_8_7.out hq) (by simp)
      subst e_8
      exact hK.out _ _ ⟨b0, b1, b2, true, b4, true, true, true, false, b9, x5, x6, x7, .slice ao1 k1 c1, x9, .slice wo1 wn wc, .int .i64 s, (.slice ao3 k3 c3), x13, ao1, k1, c1, ao3, k3, c3, (by simp only [Act.put, List.setIfInBounds_toArray, List.set_cons_zero, List.set_cons_succ]), (by simp only [Act.put, List.setIfInBounds_toArray, List.set_cons_zero, List.set_cons_succ]), hb.trans (bx.mono (Nat.le_trans hB0 hb.size)), cd0, cd1, cd2, (fun _ => rfl), cd4, (fun _ => rfl), (fun _ => rfl), (fun _ => rfl), (fun h => by cases h), (f_b0.out.past bx), (fun h1 => (f_z.out h1).past bx), (fun h0 => (f_r1.out h0).past bx), (fun _ => r9.monoB (Nat.le_trans hB0 hb.size)), (fun h0 => absurd (f_q7.out h0) (by simp)), f_q3, (fun _ => rfl), (fun _ => rfl), (fun _ => rfl)⟩
    · rintro L a w ⟨b0, b1, b2, b3, b4, b5, b6, b7, b8, b9, x5, x6, x7, x8, x9, x10, x11, x12, x13, ao1, k1, c1, ao2, k2, c2, rfl, rfl, hb, cd0, cd1, cd2, cd3, cd4, cd5, cd6, cd7, cd8, f_b0, f_z, f_r1, f_r2, f_o, f_q3, f_q7, w_8_3, w_8_7⟩ hf hd
      have hf' : b8 = false := hf
      subst hf'
      have d3 : b3 = true := hd ⟨3, .data⟩ (by simp) rfl
      subst d3
      have d7 : b7 = true := hd ⟨7, .data⟩ (by simp) rfl
      subst d7
      obtain rfl := cd3.out rfl
      obtain rfl := cd7.out rfl
      clear hf hd
      have W_b0 := f_b0.out
      have W_r1 := f_r1.out rfl
      have W_r2 := f_r2.out rfl
      try simp only [List.setIfInBounds_toArray, List.set_cons_zero, List.set_cons_succ]
      intro K hK
      rw [if_pos (by rfl)]
      go_simp
      exact hK.out _ _ ⟨b0, b1, b2, true, b4, b5, b6, true, true, b9, x5, x6, x7, .slice ao1 k1 c1, x9, x10, x11, .slice ao2 k2 c2, (.agg #[.slice ao1 k1 c1, .slice ao2 k2 c2]), ao1, k1, c1, ao2, k2, c2, (by simp only [Act.put, List.setIfInBounds_toArray, List.set_cons_zero, List.set_cons_succ]), (by simp only [Act.put, List.setIfInBounds_toArray, List.set_cons_zero, List.set_cons_succ]), hb, cd0, cd1, cd2, (fun _ => rfl), cd4, cd5, cd6, (fun _ => rfl), (fun _ => rfl), f_b0, f_z, f_r1, f_r2, f_o, f_q3, f_q7, (fun _ => rfl), (fun _ => rfl)⟩
    · rintro L a w ⟨b0, b1, b2, b3, b4, b5, b6, b7, b8, b9, x5, x6, x7, x8, x9, x10, x11, x12, x13, ao1, k1, c1, ao2, k2, c2, rfl, rfl, hb, cd0, cd1, cd2, cd3, cd4, cd5, cd6, cd7, cd8, f_b0, f_z, f_r1, f_r2, f_o, f_q3, f_q7, w_8_3, w_8_7⟩ hf hd
      have hf' : b9 = false := hf
      subst hf'
      have d8 : b8 = true := hd ⟨8, .data⟩ (by simp) rfl
      subst d8
      have d7 : b7 = true := hd ⟨7, .chain⟩ (by simp) rfl
      subst d7
      have d0 : b0 = true := hd ⟨0, .phase⟩ (by simp) rfl
      subst d0
      have d1 : b1 = true := hd ⟨1, .phase⟩ (by simp) rfl
      subst d1
      have d2 : b2 = true := hd ⟨2, .phase⟩ (by simp) rfl
      subst d2
      have d3 : b3 = true := hd ⟨3, .phase⟩ (by simp) rfl
      subst d3
      have d4 : b4 = true := hd ⟨4, .phase⟩ (by simp) rfl
      subst d4
      have d5 : b5 = true := hd ⟨5, .phase⟩ (by simp) rfl
      subst d5
      have d6 : b6 = true := hd ⟨6, .phase⟩ (by simp) rfl
      subst d6
      obtain rfl := cd8.out rfl
      obtain rfl := cd7.out rfl
      obtain rfl := cd0.out rfl
      obtain rfl := cd1.out rfl
      obtain rfl := cd2.out rfl
      obtain rfl := cd3.out rfl
      obtain rfl := cd4.out rfl
      obtain rfl := cd5.out rfl
      obtain rfl := cd6.out rfl
      clear hf hd
      have W_b0 := f_b0.out
      have W_z := f_z.out rfl
      have W_r1 := f_r1.out rfl
      have W_r2 := f_r2.out rfl
      try simp only [List.setIfInBounds_toArray, List.set_cons_zero, List.set_cons_succ]
      intro K hK
      rw [if_pos (by rfl)]
      refine wp_store_lk _ _ rfl r none 0 0 none 0 0 rfl ao1 k1 c1 ao2 k2 c2 rfl (Lib.hid W_z) fun w2 h8 g8 => ?_
      have hb2 := hb.grown g8 (Nat.le_trans hB0 hb.size) (fun z hz => by cases hz; exact hBr)
      exact hK.out _ _ ⟨true, true, true, true, true, true, true, true, true, true, .pointer (some ⟨p, 0, none⟩), .slice ho hn hc, .int .i64 s, .slice ao1 k1 c1, .pointer (some ⟨p, 1, none⟩), .slice wo1 wn wc, .int .i64 s, .slice ao2 k2 c2, .agg #[.slice ao1 k1 c1, .slice ao2 k2 c2], ao1, k1, c1, ao2, k2, c2, (by simp only [Act.put, List.setIfInBounds_toArray, List.set_cons_zero, List.set_cons_succ]), (by simp only [Act.put, List.setIfInBounds_toArray, List.set_cons_zero, List.set_cons_succ]), hb2, (fun _ => rfl), (fun _ => rfl), (fun _ => rfl), (fun _ => rfl), (fun _ => rfl), (fun _ => rfl), (fun _ => rfl), (fun _ => rfl), (fun _ => rfl), ((f_b0.out).far g8 hpr), (fun h => by cases h), (fun h0 => ((f_r1.out h0)).farT W_z (by decide) g8), (fun h0 => ((f_r2.out h0)).farT W_z (by decide) g8), (fun _ => h8), (fun _ => w_8_3.out rfl), (fun _ => w_8_7.out rfl), (fun _ => rfl), (fun _ => rfl)⟩
  · rintro act V ⟨b0, b1, b2, b3, b4, b5, b6, b7, b8, b9, x5, x6, x7, x8, x9, x10, x11, x12, x13, ao1, k1, c1, ao2, k2, c2, hL, rfl, hb, cd0, cd1, cd2, cd3, cd4, cd5, cd6, cd7, cd8, f_b0, f_z, f_r1, f_r2, f_o, f_q3, f_q7, w_8_3, w_8_7⟩
    have hL' : [true, true, true, true, true, true, true, true, true, true] = [b0, b1, b2, b3, b4, b5, b6, b7, b8, b9] := congrArg Array.toList hL
    simp only [List.cons.injEq, and_true] at hL'
    obtain ⟨rfl, rfl, rfl, rfl, rfl, rfl, rfl, rfl, rfl, rfl⟩ := hL'
    obtain rfl := cd0.out rfl
    obtain rfl := cd1.out rfl
    obtain rfl := cd2.out rfl
    obtain rfl := cd3.out rfl
    obtain rfl := cd4.out rfl
    obtain rfl := cd5.out rfl
    obtain rfl := cd6.out rfl
    obtain rfl := cd7.out rfl
    obtain rfl := cd8.out rfl
    have W_b0 := f_b0.out
    have W_r1 := f_r1.out rfl
    have W_r2 := f_r2.out rfl
    have W_o := f_o.out rfl
    have W_q3 := f_q3.out rfl
    have W_q7 := f_q7.out rfl
    clear hL f_b0 f_z f_r1 f_r2 f_o f_q3 f_q7 cd0 cd1 cd2 cd3 cd4 cd5 cd6 cd7 cd8 w_8_3 w_8_7
    simp only [List.setIfInBounds_toArray, List.set_cons_zero, List.set_cons_succ]
    go_wp2_with fail
    obtain ⟨y0, y1⟩ := W_o.c
    refine bodyPost_ret (v := .agg #[.slice ao1 k1 c1, .slice ao2 k2 c2]) (by simp [results, Try.results53, go_sem, y0, y1]) rfl ?_
    rw [HP.out]
    refine ⟨_, rfl, ⟨ao1, k1, c1, ao2, k2, c2, rfl, W_r1.isR, W_r2.isR, W_r1.rowO.from2 (Nat.le_refl _), W_r2.rowO.from2 (Nat.le_refl _)⟩, ?_⟩
    exact BA.trans ((Below.refl _ _).drew.trans hb)
end Go.Proofs.Ytllijeciodmckaa
