/-
  ledger: own, close of nothing, Close (by gen_lgy.py).
  ledger: a transaction put behind the open ones, in blocks of its own; what reads in blocks that stand reads on.
-/
import Derived.Test.YtdmnjjknkcnkgaaDoorLgX
namespace Go.Proofs.YtdmnjjknkcnkgaaDoor
open Go.RowKit
set_option linter.unusedSimpArgs false
theorem own_at0 (w : World) (g t : Nat) (next : Int) (oa : Option Addr) (on oc : Nat) (ba : Option Addr) (bn bc : Nat) (ta : Option Addr) (tn tc : Nat) (L : Lgr) (X : Bk w g (dfC 0 0 next oa on oc ba bn bc ta tn tc) 68) (h : LgR w (fun b => b ≠ g) oa on oc ba bn bc ta tn tc L) (hL : LgOk L) (ht : t < w.heap.size) :
    Calls Tryd.prog 15 #[.pointer (some ⟨g, 0, none⟩)] w (OwnAt w g w.heap.size t next on bn tn L) := by
  refine (own_first w g next oa on oc ba bn bc ta tn tc L X h hL).mono ?_
  rintro e w' ⟨he, oa2, oc2, ba2, bc2, ta2, tc2, Qo, Qb, Qt, bo, bb, bt, -, N2, S2, G2⟩
  exact ⟨oa2, oc2, ba2, bc2, ta2, tc2, he, N2, ⟨_, _, _, _, _, _, S2, Nat.lt_of_lt_of_le ht G2.size, fun h9 => by have := (S2.go t h9).1; omega, fun h9 => by have := (S2.gb t h9).1; omega, fun h9 => by have := (S2.gt t h9).1; omega⟩, grown_below G2 (Nat.le_refl _) (Nat.le_of_lt X.lt), G2.size, (SameB.refl g (Nat.le_refl _) ht).grown G2⟩
theorem own_at1 (w : World) (g B t : Nat) (next : Int) (oa : Option Addr) (on oc : Nat) (ba : Option Addr) (bn bc : Nat) (ta : Option Addr) (tn tc : Nat) (L : Lgr) (X : Bk w g (dfC 1 0 next oa on oc ba bn bc ta tn tc) 68) (h : LgX w B t oa on oc ba bn bc ta tn tc L) (hB : B ≤ w.heap.size) :
    Calls Tryd.prog 15 #[.pointer (some ⟨g, 0, none⟩)] w (OwnAt w g B t next on bn tn L) := by
  refine (own_done w g next oa on oc ba bn bc ta tn tc X).mono ?_
  rintro e w' ⟨he, rfl⟩
  exact ⟨oa, oc, ba, bc, ta, tc, he, X, h, Below.refl _ _, hB, SameB.refl g hB h.lt⟩
set_option maxRecDepth 100000 in
theorem dclose_none (w : World) (g : Nat) (dn next : Int) (oa : Option Addr) (oc : Nat) (ba : Option Addr) (bn bc : Nat) (ta : Option Addr) (tn tc : Nat) (X : Bk w g (dfC dn 0 next oa 0 oc ba bn bc ta tn tc) 68) :
    Calls Tryd.prog 16 #[.pointer (some ⟨g, 0, none⟩)] w fun e w' => e = .returned (.int .i64 2) ∧ w = w' := by
  obtain ⟨c3, c4, c5, c6⟩ := df_cells X
  go_enter Tryd.func16, Tryd.ntmps16
  go_wp2_with fail
  go_ret
  exact ⟨rfl, rfl⟩
theorem szLgr : (Tryd.prog.info? 29).map (·.size) = some 4 := by kernel_rfl
/-- A ledger is answered, in memory of its own. -/
def LedgIs (w : World) (M : Lgr) (v : Value) (w' : World) : Prop :=
  ∃ oa on oc ba bn bc ta tn tc, v = .agg #[.int .i64 M.next, .slice oa on oc, .slice ba bn bc, .slice ta tn tc] ∧ LgR w' (FrG w.heap.size) oa on oc ba bn bc ta tn tc M ∧ Below w.heap.size w w'
def CloseIs (w : World) (L : Lgr) (e : Ending) (w' : World) : Prop := ∃ v, e = .returned (.tuple #[v, .int .i64 (clsE L)]) ∧ LedgIs w (cls L) v w'
set_option maxRecDepth 100000 in
set_option maxHeartbeats 2000000 in
theorem close_any (w : World) (hC : RC w) (Q : Nat → Prop) (next : Int) (oa : Option Addr) (on oc : Nat) (ba : Option Addr) (bn bc : Nat) (ta : Option Addr) (tn tc : Nat) (L : Lgr) (hnx : L.next = next) (h : LgR w Q oa on oc ba bn bc ta tn tc L) (hL : LgOk L) :
    Calls Tryd.prog 9 #[.agg #[.int .i64 next, .slice oa on oc, .slice ba bn bc, .slice ta tn tc]] w (CloseIs w L) := by
  have hon := h.op.len
  have B0 : Below w.heap.size w ((w.alloc (.cells #[.int .i64 next, .slice oa on oc, .slice ba bn bc, .slice ta tn tc] 29)).alloc (.cells #[.int .i64 0, .slice none 0 0, .slice none 0 0, .slice none 0 0] 29)) := ((Below.refl _ _).alloc (Nat.le_refl _) _).alloc (by simp) _
  have hP : Bk ((w.alloc (.cells #[.int .i64 next, .slice oa on oc, .slice ba bn bc, .slice ta tn tc] 29)).alloc (.cells #[.int .i64 0, .slice none 0 0, .slice none 0 0, .slice none 0 0] 29)) w.heap.size #[.int .i64 next, .slice oa on oc, .slice ba bn bc, .slice ta tn tc] 29 := (Bk.new w _ _).alloc _
  have hQ : Bk ((w.alloc (.cells #[.int .i64 next, .slice oa on oc, .slice ba bn bc, .slice ta tn tc] 29)).alloc (.cells #[.int .i64 0, .slice none 0 0, .slice none 0 0, .slice none 0 0] 29)) (w.heap.size + 1) #[.int .i64 0, .slice none 0 0, .slice none 0 0, .slice none 0 0] 29 := by
    have := Bk.new (w.alloc (.cells #[.int .i64 next, .slice oa on oc, .slice ba bn bc, .slice ta tn tc] 29)) #[.int .i64 0, .slice none 0 0, .slice none 0 0, .slice none 0 0] 29
    rwa [World.size_alloc] at this
  have h1 := h.past B0
  go_enter Tryd.func9, Tryd.ntmps9
  go_upto_region 1 with fail
  generalize (w.alloc (.cells #[.int .i64 next, .slice oa on oc, .slice ba bn bc, .slice ta tn tc] 29)).alloc (.cells #[.int .i64 0, .slice none 0 0, .slice none 0 0, .slice none 0 0] 29) = W at B0 hP hQ h1 ⊢
  have hCW := hC.past B0
  obtain ⟨p, hp⟩ : ∃ p, w.heap.size = p := ⟨_, rfl⟩
  obtain ⟨q, hq⟩ : ∃ q, p + 1 = q := ⟨_, rfl⟩
  have HG := Lib.hid hp
  rw [hp] at hP hQ B0
  rw [hq] at hQ
  simp only [hp, hq]
  have hpq : p < q := by omega
  clear hp hq h
  have hpW := hP.lt
  have hqW := hQ.lt
  obtain ⟨c0, c1, c2, c3⟩ : W.cell? ⟨p, 0, none⟩ = some (.int .i64 next) ∧ W.cell? ⟨p, 1, none⟩ = some (.slice oa on oc) ∧ W.cell? ⟨p, 2, none⟩ = some (.slice ba bn bc) ∧ W.cell? ⟨p, 3, none⟩ = some (.slice ta tn tc) := ⟨hP.c rfl, hP.c rfl, hP.c rfl, hP.c rfl⟩
  go_upto_region 2 with fail
  have X : Bk (W.alloc (.cells #[.int .u32 0, .int .i32 0, .int .u32 0, .int .i64 next, .slice oa on oc, .slice ba bn bc, .slice ta tn tc] 68)) W.heap.size (dfC 0 0 next oa on oc ba bn bc ta tn tc) 68 := Bk.new W _ _
  have h2 := (h1.imp (Q' := fun b => b ≠ W.heap.size) (fun k hk _ => Nat.ne_of_lt hk)).past ((Below.refl _ W).alloc (Nat.le_refl _) (.cells #[.int .u32 0, .int .i32 0, .int .u32 0, .int .i64 next, .slice oa on oc, .slice ba bn bc, .slice ta tn tc] 68))
  have B1 := B0.alloc (Nat.le_of_lt hpW) (.cells #[.int .u32 0, .int .i32 0, .int .u32 0, .int .i64 next, .slice oa on oc, .slice ba bn bc, .slice ta tn tc] 68)
  have hP2 := hP.alloc (.cells #[.int .u32 0, .int .i32 0, .int .u32 0, .int .i64 next, .slice oa on oc, .slice ba bn bc, .slice ta tn tc] 68)
  have hQ2 := hQ.alloc (.cells #[.int .u32 0, .int .i32 0, .int .u32 0, .int .i64 next, .slice oa on oc, .slice ba bn bc, .slice ta tn tc] 68)
  obtain ⟨g, hg⟩ : ∃ g, W.heap.size = g := ⟨_, rfl⟩
  have hBV : Below W.heap.size W (W.alloc (.cells #[.int .u32 0, .int .i32 0, .int .u32 0, .int .i64 next, .slice oa on oc, .slice ba bn bc, .slice ta tn tc] 68)) := (Below.refl _ W).alloc (Nat.le_refl _) _
  generalize W.alloc (.cells #[.int .u32 0, .int .i32 0, .int .u32 0, .int .i64 next, .slice oa on oc, .slice ba bn bc, .slice ta tn tc] 68) = V at X h2 B1 hP2 hQ2 hBV ⊢
  simp only [hg] at X h2 hpW hqW hBV ⊢
  have hCV : ∀ w', Below g V w' → RC w' := fun w' hb => hCW.past (hg.symm ▸ hBV.trans hb)
  by_cases hz : on = 0
  · have hop : L.op = [] := List.length_eq_zero_iff.1 (hon.trans hz)
    subst hz
    go_upto_region 3 with (go_at_call 16; refine (dclose_none V g 0 next oa oc ba bn bc ta tn tc X).mono ?_; rintro e w1 ⟨rfl, rfl⟩)
    go_wp2_with (go_at_call 15; refine (own_at0 V g g next oa 0 oc ba bn bc ta tn tc L X h2 hL X.lt).mono ?_; rintro e w2 ⟨oa2, oc2, ba2, bc2, ta2, tc2, rfl, X2, L2, B2, S2, -⟩; obtain ⟨d3, d4, d5, d6⟩ := df_cells X2; have Q3 : Bk w2 q #[.int .i64 0, .slice none 0 0, .slice none 0 0, .slice none 0 0] 29 := (B2.block q hqW).trans hQ2; obtain ⟨f0, f1, f2, f3⟩ : w2.frozen? ⟨q, 0, none⟩ = false ∧ w2.frozen? ⟨q, 1, none⟩ = false ∧ w2.frozen? ⟨q, 2, none⟩ = false ∧ w2.frozen? ⟨q, 3, none⟩ = false := ⟨free_blk Q3, free_blk Q3, free_blk Q3, free_blk Q3⟩; obtain ⟨e0, e1, e2, e3⟩ : w2.cell? ⟨q, 0, none⟩ = some (.int .i64 0) ∧ w2.cell? ⟨q, 1, none⟩ = some (.slice none 0 0) ∧ w2.cell? ⟨q, 2, none⟩ = some (.slice none 0 0) ∧ w2.cell? ⟨q, 3, none⟩ = some (.slice none 0 0) := ⟨Q3.c rfl, Q3.c rfl, Q3.c rfl, Q3.c rfl⟩)
    have g3 : w2.grownBy ((((w2.setCell ⟨q, 0, none⟩ (.int .i64 next)).setCell ⟨q, 1, none⟩ (.slice oa2 0 oc2)).setCell ⟨q, 2, none⟩ (.slice ba2 bn bc2)).setCell ⟨q, 3, none⟩ (.slice ta2 tn tc2)) (some q) := grown_cell (grown_cell (grown_cell (grown_cell (grown_self _ _) _ _) _ _) _ _) _ _
    have Q4 : Bk ((((w2.setCell ⟨q, 0, none⟩ (.int .i64 next)).setCell ⟨q, 1, none⟩ (.slice oa2 0 oc2)).setCell ⟨q, 2, none⟩ (.slice ba2 bn bc2)).setCell ⟨q, 3, none⟩ (.slice ta2 tn tc2)) q #[.int .i64 next, .slice oa2 0 oc2, .slice ba2 bn bc2, .slice ta2 tn tc2] 29 := by
      have h5 := (heap_setCell_same (i := 3) (v := .slice ta2 tn tc2) (heap_setCell_same (i := 2) (v := .slice ba2 bn bc2) (heap_setCell_same (i := 1) (v := .slice oa2 0 oc2) (heap_setCell_same (i := 0) (v := .int .i64 next) Q3))))
      exact h5
    have hqV : q < V.heap.size := hQ2.lt
    have L3 := (L2.r.grown g3 (show ¬ V.heap.size ≤ q by omega)).imp (Q' := FrG w.heap.size) (fun b _ hb => by have := HG.out; have : V.heap.size ≤ b := hb; show w.heap.size ≤ b; omega)
    have B5 : Below w.heap.size w ((((w2.setCell ⟨q, 0, none⟩ (.int .i64 next)).setCell ⟨q, 1, none⟩ (.slice oa2 0 oc2)).setCell ⟨q, 2, none⟩ (.slice ba2 bn bc2)).setCell ⟨q, 3, none⟩ (.slice ta2 tn tc2)) := (((B1.trans (B2.mono (Nat.le_of_lt hpW))).grown g3 (by have := B2.size; have := hBV.size; omega) (fun z hz => by cases hz; omega))).mono (Nat.le_of_eq HG.out)
    generalize ((((w2.setCell ⟨q, 0, none⟩ (.int .i64 next)).setCell ⟨q, 1, none⟩ (.slice oa2 0 oc2)).setCell ⟨q, 2, none⟩ (.slice ba2 bn bc2)).setCell ⟨q, 3, none⟩ (.slice ta2 tn tc2)) = w3 at Q4 L3 B5 ⊢
    obtain ⟨r0, r1, r2, r3⟩ : w3.cell? ⟨q, 0, none⟩ = some (.int .i64 next) ∧ w3.cell? ⟨q, 1, none⟩ = some (.slice oa2 0 oc2) ∧ w3.cell? ⟨q, 2, none⟩ = some (.slice ba2 bn bc2) ∧ w3.cell? ⟨q, 3, none⟩ = some (.slice ta2 tn tc2) := ⟨Q4.c rfl, Q4.c rfl, Q4.c rfl, Q4.c rfl⟩
    refine bodyPost_ret (v := .tuple #[.agg #[.int .i64 next, .slice oa2 0 oc2, .slice ba2 bn bc2, .slice ta2 tn tc2], .int .i64 2]) (by simp [results, Tryd.results9, go_sem, r0, r1, r2, r3]) rfl ?_
    unfold CloseIs LedgIs
    rw [show clsE L = 2 from if_pos hop, show cls L = L from if_pos hop]
    subst hnx
    exact ⟨_, rfl, _, _, _, _, _, _, _, _, _, rfl, L3, B5⟩
  · have hop : ¬ (L.op = []) := fun h9 => hz (by rw [← hon, h9]; rfl)
    go_upto_region 3 with (go_at_call 16; refine (dclose_some V g V.heap.size g hCV 0 next oa on oc ba bn bc ta tn tc L X X.lt (Nat.pos_of_ne_zero hz) (own_at0 V g g next oa on oc ba bn bc ta tn tc L X h2 hL X.lt) hL).mono ?_; rintro e w1 ⟨oa1, on1, oc1, ba1, bn1, bc1, ta1, tn1, tc1, rfl, X1, L1, B3, S1, -⟩)
    go_wp2_with (go_at_call 15; refine (own_at1 w1 g V.heap.size g next oa1 on1 oc1 ba1 bn1 bc1 ta1 tn1 tc1 _ X1 L1 S1).mono ?_; rintro e w2 ⟨oa2, oc2, ba2, bc2, ta2, tc2, rfl, X2, L2, B2, S2, -⟩; obtain ⟨d3, d4, d5, d6⟩ := df_cells X2; have Q3 : Bk w2 q #[.int .i64 0, .slice none 0 0, .slice none 0 0, .slice none 0 0] 29 := (B2.block q hqW).trans ((B3.block q hqW).trans hQ2); obtain ⟨f0, f1, f2, f3⟩ : w2.frozen? ⟨q, 0, none⟩ = false ∧ w2.frozen? ⟨q, 1, none⟩ = false ∧ w2.frozen? ⟨q, 2, none⟩ = false ∧ w2.frozen? ⟨q, 3, none⟩ = false := ⟨free_blk Q3, free_blk Q3, free_blk Q3, free_blk Q3⟩; obtain ⟨e0, e1, e2, e3⟩ : w2.cell? ⟨q, 0, none⟩ = some (.int .i64 0) ∧ w2.cell? ⟨q, 1, none⟩ = some (.slice none 0 0) ∧ w2.cell? ⟨q, 2, none⟩ = some (.slice none 0 0) ∧ w2.cell? ⟨q, 3, none⟩ = some (.slice none 0 0) := ⟨Q3.c rfl, Q3.c rfl, Q3.c rfl, Q3.c rfl⟩)
    have g3 : w2.grownBy ((((w2.setCell ⟨q, 0, none⟩ (.int .i64 next)).setCell ⟨q, 1, none⟩ (.slice oa2 on1 oc2)).setCell ⟨q, 2, none⟩ (.slice ba2 bn1 bc2)).setCell ⟨q, 3, none⟩ (.slice ta2 tn1 tc2)) (some q) := grown_cell (grown_cell (grown_cell (grown_cell (grown_self _ _) _ _) _ _) _ _) _ _
    have Q4 : Bk ((((w2.setCell ⟨q, 0, none⟩ (.int .i64 next)).setCell ⟨q, 1, none⟩ (.slice oa2 on1 oc2)).setCell ⟨q, 2, none⟩ (.slice ba2 bn1 bc2)).setCell ⟨q, 3, none⟩ (.slice ta2 tn1 tc2)) q #[.int .i64 next, .slice oa2 on1 oc2, .slice ba2 bn1 bc2, .slice ta2 tn1 tc2] 29 := by
      have h5 := (heap_setCell_same (i := 3) (v := .slice ta2 tn1 tc2) (heap_setCell_same (i := 2) (v := .slice ba2 bn1 bc2) (heap_setCell_same (i := 1) (v := .slice oa2 on1 oc2) (heap_setCell_same (i := 0) (v := .int .i64 next) Q3))))
      exact h5
    have hqV : q < V.heap.size := hQ2.lt
    have L3 := (L2.r.grown g3 (show ¬ V.heap.size ≤ q by omega)).imp (Q' := FrG w.heap.size) (fun b _ hb => by have := HG.out; have : V.heap.size ≤ b := hb; show w.heap.size ≤ b; omega)
    have B5 : Below w.heap.size w ((((w2.setCell ⟨q, 0, none⟩ (.int .i64 next)).setCell ⟨q, 1, none⟩ (.slice oa2 on1 oc2)).setCell ⟨q, 2, none⟩ (.slice ba2 bn1 bc2)).setCell ⟨q, 3, none⟩ (.slice ta2 tn1 tc2)) := (((B1.trans ((B3.trans B2).mono (Nat.le_of_lt hpW))).grown g3 (by have := (B3.trans B2).size; have := hBV.size; omega) (fun z hz => by cases hz; omega))).mono (Nat.le_of_eq HG.out)
    generalize ((((w2.setCell ⟨q, 0, none⟩ (.int .i64 next)).setCell ⟨q, 1, none⟩ (.slice oa2 on1 oc2)).setCell ⟨q, 2, none⟩ (.slice ba2 bn1 bc2)).setCell ⟨q, 3, none⟩ (.slice ta2 tn1 tc2)) = w3 at Q4 L3 B5 ⊢
    obtain ⟨r0, r1, r2, r3⟩ : w3.cell? ⟨q, 0, none⟩ = some (.int .i64 next) ∧ w3.cell? ⟨q, 1, none⟩ = some (.slice oa2 on1 oc2) ∧ w3.cell? ⟨q, 2, none⟩ = some (.slice ba2 bn1 bc2) ∧ w3.cell? ⟨q, 3, none⟩ = some (.slice ta2 tn1 tc2) := ⟨Q4.c rfl, Q4.c rfl, Q4.c rfl, Q4.c rfl⟩
    refine bodyPost_ret (v := .tuple #[.agg #[.int .i64 next, .slice oa2 on1 oc2, .slice ba2 bn1 bc2, .slice ta2 tn1 tc2], .int .i64 0]) (by simp [results, Tryd.results9, go_sem, r0, r1, r2, r3]) rfl ?_
    unfold CloseIs LedgIs
    rw [show clsE L = 0 from if_neg hop, show cls L = ⟨L.next, [], L.bl ++ [newB L], L.ts ++ [L.op]⟩ from if_neg hop]
    subst hnx
    exact ⟨_, rfl, _, _, _, _, _, _, _, _, _, rfl, L3, B5⟩
end Go.Proofs.YtdmnjjknkcnkgaaDoor
namespace Go.Proofs.YtdmnjjknkcnkgaaDoor
open Go.RowKit
set_option linter.unusedSimpArgs false
theorem cell_same {w w' : World} {a : Addr} (h : w'.heap[a.block]? = w.heap[a.block]?) : w'.cell? a = w.cell? a := by
  unfold World.cell?
  rw [h]
section
variable {β : Type} {E : Enc β} {w w' : World} {ro : Option Addr} {m d : Nat} {l : List β}
theorem IsR.same (h : IsR E w ro m d l) (hq : 0 < m → ∀ a, ro = some a → w'.heap[a.block]? = w.heap[a.block]?) : IsR E w' ro m d l :=
  ⟨h.len, h.le, h.max, h.nil, fun a ha j u hu => by
    have hl := (List.getElem?_eq_some_iff.1 hu).1
    rw [E.all_length, h.len] at hl
    have hn : 0 < m := by
      rcases Nat.eq_zero_or_pos m with e | e
      · rw [e] at hl; omega
      · exact e
    have hc := h.cell a ha j u hu
    exact (cell_same (w := w) (w' := w') (a := a.add j) (by rw [addr_block]; exact hq hn a ha)).trans hc⟩
end
/-- What lies behind an element reads on where its blocks stand. -/
def SmD {α : Type} (D : Dn α) : Prop := ∀ {w w' : World} {Q : Nat → Prop} {b : D.β} {x : α}, D.R w Q b x → (∀ k, k < w.heap.size → Q k → w'.heap[k]? = w.heap[k]?) → D.R w' Q b x
theorem IsD.same {α : Type} {D : Dn α} (hs : SmD D) {w w' : World} {Q : Nat → Prop} {ao : Option Addr} {n c : Nat} {ls : List α} (h : IsD D w Q ao n c ls) (k : ∀ k, k < w.heap.size → Q k → w'.heap[k]? = w.heap[k]?) : IsD D w' Q ao n c ls := by
  obtain ⟨bs, h1, h2, h3⟩ := h
  exact ⟨bs, h1.same (fun hn a ha => k _ (h1.ltD D.pos hn a ha) (h2 hn a ha)), h2, h3.1, fun j x l hx hl => hs (h3.2 j x l hx hl) k⟩
theorem flat_sm {α : Type} (E : Enc α) (h : 0 < E.sz) : SmD (flatD E h) := fun h _ => h
theorem row_sm {α : Type} {D : Dn α} (hs : SmD D) : SmD (rowD D) := fun h k => IsD.same hs h k
theorem rec_sm {α γ : Type} {D : Dn α} (hs : SmD D) (E : Enc (γ × HdR)) (hp : 0 < E.sz) : SmD (recD D E hp) := fun h k => ⟨h.1, IsD.same hs h.2 k⟩
theorem sm_DV : SmD DV := flat_sm _ _
theorem sm_DC : SmD DC := rec_sm sm_DV _ _
theorem sm_DT : SmD DT := rec_sm sm_DC _ _
theorem sm_DB : SmD DB := flat_sm _ _
theorem sm_DTs : SmD DTs := row_sm sm_DT
/-- A ledger of the call's own, and a transaction beside it. -/
def LgXO (w : World) (B t : Nat) (oa : Option Addr) (on oc : Nat) (ba : Option Addr) (bn bc : Nat) (ta : Option Addr) (tn tc : Nat) (L : Lgr) (xa : Option Addr) (xn xc : Nat) (x : List Chg) : Prop :=
  ∃ Qo Qb Qt bo bb bt Qx, LgO w B Qo Qb Qt oa on oc ba bn bc ta tn tc bo bb bt L ∧ (t < w.heap.size ∧ ¬ Qo t ∧ ¬ Qb t ∧ ¬ Qt t ∧ ¬ Qx t) ∧ IsD DC w Qx xa xn xc x ∧ ∀ k, Qx k → B ≤ k ∧ k < w.heap.size ∧ ¬ Qo k ∧ ¬ Qb k ∧ ¬ Qt k
section
variable {w w' : World} {B t : Nat} {oa : Option Addr} {on oc : Nat} {ba : Option Addr} {bn bc : Nat} {ta : Option Addr} {tn tc : Nat} {L : Lgr} {xa : Option Addr} {xn xc : Nat} {x : List Chg}
theorem LgX.nx (h : LgX w B t oa on oc ba bn bc ta tn tc L) (n : Int) : LgX w B t oa on oc ba bn bc ta tn tc ⟨n, L.op, L.bl, L.ts⟩ := by
  obtain ⟨Qo, Qb, Qt, bo, bb, bt, h, ht, n1, n2, n3⟩ := h
  exact ⟨Qo, Qb, Qt, bo, bb, bt, ⟨h.op, h.bl, h.ts, h.ob, h.ot, h.bt_, h.go, h.gb, h.gt⟩, ht, n1, n2, n3⟩
theorem LgX.rIn (h : LgX w B t oa on oc ba bn bc ta tn tc L) : LgR w (fun k => B ≤ k ∧ k < w.heap.size) oa on oc ba bn bc ta tn tc L := by
  obtain ⟨Qo, Qb, Qt, bo, bb, bt, h, ht, n1, n2, n3⟩ := h
  exact ⟨h.op.isD.imp fun k _ hk => h.go k hk, h.bl.isD.imp fun k _ hk => h.gb k hk, h.ts.isD.imp fun k _ hk => h.gt k hk⟩
theorem LgXO.past (h : LgXO w B t oa on oc ba bn bc ta tn tc L xa xn xc x) (b : Below w.heap.size w w') : LgXO w' B t oa on oc ba bn bc ta tn tc L xa xn xc x := by
  obtain ⟨Qo, Qb, Qt, bo, bb, bt, Qx, h, ⟨ht, n1, n2, n3, n4⟩, hx, hd⟩ := h
  exact ⟨Qo, Qb, Qt, bo, bb, bt, Qx, h.past b, ⟨Nat.lt_of_lt_of_le ht b.size, n1, n2, n3, n4⟩, hx.past b, fun k hk => ⟨(hd k hk).1, Nat.lt_of_lt_of_le (hd k hk).2.1 b.size, (hd k hk).2.2⟩⟩
theorem LgX.with (h : LgX w B t oa on oc ba bn bc ta tn tc L) (hB : B ≤ w.heap.size) (b : Below w.heap.size w w') (hx : IsD DC w' (FrG w.heap.size) xa xn xc x) : LgXO w' B t oa on oc ba bn bc ta tn tc L xa xn xc x := by
  obtain ⟨Qo, Qb, Qt, bo, bb, bt, h, ht, n1, n2, n3⟩ := h
  refine ⟨Qo, Qb, Qt, bo, bb, bt, fun k => w.heap.size ≤ k ∧ k < w'.heap.size, h.past b, ⟨Nat.lt_of_lt_of_le ht b.size, n1, n2, n3, fun h9 => by omega⟩, hx.imp fun k hk hh => ⟨hh, hk⟩, fun k hk => ⟨Nat.le_trans hB hk.1, hk.2, fun hq => ?_, fun hq => ?_, fun hq => ?_⟩⟩
  · have := (h.go k hq).2; omega
  · have := (h.gb k hq).2; omega
  · have := (h.gt k hq).2; omega
theorem LgXO.neO (h : LgXO w B t oa on oc ba bn bc ta tn tc L xa xn xc x) : ∀ r, blk oa = some r → B ≤ r ∧ r ≠ t := by
  obtain ⟨Qo, Qb, Qt, bo, bb, bt, Qx, h, ⟨ht, n1, n2, n3, n4⟩, hx, hd⟩ := h
  exact fun r hr => ⟨(h.go r (h.op.frm r hr)).1, fun e => n1 (e ▸ h.op.frm r hr)⟩
/-- A new block is none of the ledger's. -/
theorem LgX.fresh (h : LgX w B t oa on oc ba bn bc ta tn tc L) (b : Below w.heap.size w w') (hlt : w.heap.size < w'.heap.size) : LgX w' B w.heap.size oa on oc ba bn bc ta tn tc L := by
  obtain ⟨Qo, Qb, Qt, bo, bb, bt, h, ht, n1, n2, n3⟩ := h
  exact ⟨Qo, Qb, Qt, bo, bb, bt, h.past b, hlt, fun h9 => by have := (h.go _ h9).2; omega, fun h9 => by have := (h.gb _ h9).2; omega, fun h9 => by have := (h.gt _ h9).2; omega⟩
/-- The transaction was put behind the open ones. -/
theorem LgXO.app (h : LgXO w B t oa on oc ba bn bc ta tn tc L xa xn xc x) (hB : B ≤ w.heap.size) (id : Int) : ∃ bo : List (Int × HdR), TxtR ETx w 32 B oa on oc bo ∧ ∀ (g' c' : Nat) (w' : World), TxtR ETx w' 32 B (some ⟨g', 0, none⟩) (on + 1) c' (bo ++ [(id, ⟨xa, xn, xc⟩)]) → w.grownBy w' (blk oa) → (blk oa = some g' ∨ w.heap.size ≤ g') →
    LgX w' B t (some ⟨g', 0, none⟩) (on + 1) c' ba bn bc ta tn tc ⟨L.next, L.op ++ [(id, x)], L.bl, L.ts⟩ := by
  obtain ⟨Qo, Qb, Qt, bo, bb, bt, Qx, h, ⟨ht, n1, n2, n3, n4⟩, hx, hd⟩ := h
  refine ⟨bo, ⟨h.op.row.either.imp (fun z => z) fun ⟨g, h1, h2, _⟩ => ⟨g, h1, h2, (h.go g (h.op.frm g (by rw [h1]; rfl))).1⟩⟩, fun g' c' w' o' g hg' => ?_⟩
  have o2 : TxtR DT.E w' 32 0 (some ⟨g', 0, none⟩) (on + 1) c' (List.append (α := DT.β) bo [((id, ⟨xa, xn, xc⟩) : Int × HdR)]) := o'.zero
  have hx2 : DT.R w Qx ((id, ⟨xa, xn, xc⟩) : Int × HdR) (id, x) := ⟨rfl, hx⟩
  have h0 := TxD.app (D := DT) h.op hx2 (fun z hz hq => (hd z hq).2.2.1 (h.op.frm z hz)) o2 g hg'
  have h1 := h0.imp (Q' := fun k => Qo k ∨ Qx k ∨ (w.heap.size ≤ k ∧ k < w'.heap.size)) fun k hk hh => by
    rcases hh with hh | hh | hh
    · exact .inl hh
    · exact .inr (.inl hh)
    · exact .inr (.inr ⟨hh, hk⟩)
  refine ⟨_, Qb, Qt, _, bb, bt, ⟨h1, h.bl.grownO g fun r er hq => h.ob r (h.op.frm r er) hq, h.ts.grownO g fun r er hq => h.ot r (h.op.frm r er) hq, fun k hh hk => ?_, fun k hh hk => ?_, h.bt_, fun k hh => ?_, fun k hk => ⟨(h.gb k hk).1, Nat.lt_of_lt_of_le (h.gb k hk).2 g.size⟩, fun k hk => ⟨(h.gt k hk).1, Nat.lt_of_lt_of_le (h.gt k hk).2 g.size⟩⟩, Nat.lt_of_lt_of_le ht g.size, fun hh => hh.elim n1 (fun h9 => h9.elim n4 (fun h9 => by omega)), n2, n3⟩
  · rcases hh with hh | hh | hh
    · exact h.ob k hh hk
    · exact (hd k hh).2.2.2.1 hk
    · have := (h.gb k hk).2; omega
  · rcases hh with hh | hh | hh
    · exact h.ot k hh hk
    · exact (hd k hh).2.2.2.2 hk
    · have := (h.gt k hk).2; omega
  · rcases hh with hh | hh | hh
    · exact ⟨(h.go k hh).1, Nat.lt_of_lt_of_le (h.go k hh).2 g.size⟩
    · exact ⟨(hd k hh).1, Nat.lt_of_lt_of_le (hd k hh).2.1 g.size⟩
    · exact ⟨Nat.le_trans hB hh.1, hh.2⟩
end
end Go.Proofs.YtdmnjjknkcnkgaaDoor
