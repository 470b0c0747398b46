/-
 ledger: own, close of nothing, Close (by gen_lgy.py).
 ledger: a transaction put behind the open ones, in blocks of its own; what reads in blocks that stand reads on.
 ledger: add, Add (by gen_lgadd.py).
 ledger: Add (by gen_lgadt.py).
 What the statements of stage 14 share: their example, a number below another one.
 What comes in: changes, a transaction, a block (by gen_lsums.py).
-/
import Derived.Test.YtdmnjjknkcnkgaaGreatDoorMz6
import Derived.Test.YtdmnjjknkcnkgaaGreatDoorMz8
import Derived.Test.YtdmnjjknkcnkgaaGreatDoorMz10
import Derived.Deep.WholeRow
namespace Go.Proofs.YtdmnjjknkcnkgaaGreatDoor
open List (setIfInBounds_toArray set_cons_zero set_cons_succ)
open Go.RowKit
set_option linter.unusedSimpArgs false
theorem own_at0 (w : World) (g t : Nat) (next : Int) (oa : Option Addr) (on oc : Nat) (ba : Option Addr) (bn bc : Nat) (ta : Option Addr) (tn tc : Nat) (L : Lgr) (X : Bk w g (dfC 0 0 next oa on oc ba bn bc ta tn tc) 115) (h : LgR w (fun b => b ≠ g) oa on oc ba bn bc ta tn tc L) (hL : LgOk L) (ht : t < w.heap.size) :
 Calls Tryz.prog 51 #[.pointer (some ⟨g, 0, none⟩)] w (OwnAt w g w.heap.size t next on bn tn L) := by
 refine (own_first w g next oa on oc ba bn bc ta tn tc L X h hL).mono ?_
 rintro e w' ⟨he, oa2, oc2, ba2, bc2, ta2, tc2, Qo, Qb, Qt, bo, bb, bt, -, N2, S2, G2⟩
 exact ⟨oa2,oc2,ba2,bc2,ta2,tc2,he,N2,⟨_,_,_,_,_,_,S2,Nat.lt_of_lt_of_le ht G2.size,fun h9 => by have := (S2.go t h9).1; omega,fun h9 => by have := (S2.gb t h9).1; omega,fun h9 => by have := (S2.gt t h9).1; omega⟩,grown_below G2 (Nat.le_refl _) (Nat.le_of_lt X.lt),G2.size,(SameB.refl g (Nat.le_refl _) ht).grown G2⟩
theorem own_at1 (w : World) (g B t : Nat) (next : Int) (oa : Option Addr) (on oc : Nat) (ba : Option Addr) (bn bc : Nat) (ta : Option Addr) (tn tc : Nat) (L : Lgr) (X : Bk w g (dfC 1 0 next oa on oc ba bn bc ta tn tc) 115) (h : LgX w B t oa on oc ba bn bc ta tn tc L) (hB : B ≤ w.heap.size) :
 Calls Tryz.prog 51 #[.pointer (some ⟨g, 0, none⟩)] w (OwnAt w g B t next on bn tn L) := by
 refine (own_done w g next oa on oc ba bn bc ta tn tc X).mono ?_
 rintro e w' ⟨he, rfl⟩
 exact ⟨oa, oc, ba, bc, ta, tc, he, X, h, Below.refl _ _, hB, SameB.refl g hB h.lt⟩
set_option maxRecDepth 100000 in
theorem dclose_none (w : World) (g : Nat) (dn next : Int) (oa : Option Addr) (oc : Nat) (ba : Option Addr) (bn bc : Nat) (ta : Option Addr) (tn tc : Nat) (X : Bk w g (dfC dn 0 next oa 0 oc ba bn bc ta tn tc) 115) :
 Calls Tryz.prog 50 #[.pointer (some ⟨g, 0, none⟩)] w fun e w' => e = .returned (.int .i64 2) ∧ w = w' := by
 obtain ⟨c3, c4, c5, c6⟩ := df_cells X
 go_enter Tryz.func50, Tryz.ntmps50
 go_wp2_with fail
 go_ret
 exact ⟨rfl, rfl⟩
theorem szLgr : (Tryz.prog.info? 29).map (·.size) = some 4 := by kernel_rfl
def LedgIs (w : World) (M : Lgr) (v : Value) (w' : World) : Prop :=
 ∃ oa on oc ba bn bc ta tn tc, v = .agg #[.int .i64 M.next, .slice oa on oc, .slice ba bn bc, .slice ta tn tc] ∧ LgR w' (FrG w.heap.size) oa on oc ba bn bc ta tn tc M ∧ Below w.heap.size w w'
def CloseIs (w : World) (L : Lgr) (e : Ending) (w' : World) : Prop := ∃ v, e = .returned (.tuple #[v, .int .i64 (clsE L)]) ∧ LedgIs w (cls L) v w'
set_option maxRecDepth 100000 in
set_option maxHeartbeats 2000000 in
theorem close_any (w : World) (hC : RC w) (Q : Nat → Prop) (next : Int) (oa : Option Addr) (on oc : Nat) (ba : Option Addr) (bn bc : Nat) (ta : Option Addr) (tn tc : Nat) (L : Lgr) (hnx : L.next = next) (h : LgR w Q oa on oc ba bn bc ta tn tc L) (hL : LgOk L) :
 Calls Tryz.prog 17 #[.agg #[.int .i64 next, .slice oa on oc, .slice ba bn bc, .slice ta tn tc]] w (CloseIs w L) := by
 have hon := h.op.len
 have B0 : Below w.heap.size w ((w.alloc (.cells #[.int .i64 next,.slice oa on oc,.slice ba bn bc,.slice ta tn tc] 29)).alloc (.cells #[.int .i64 0,.slice none 0 0,.slice none 0 0,.slice none 0 0] 29)) := ((Below.refl _ _).alloc (Nat.le_refl _) _).alloc (by simp) _
 have hP : Bk ((w.alloc (.cells #[.int .i64 next,.slice oa on oc,.slice ba bn bc,.slice ta tn tc] 29)).alloc (.cells #[.int .i64 0,.slice none 0 0,.slice none 0 0,.slice none 0 0] 29)) w.heap.size #[.int .i64 next,.slice oa on oc,.slice ba bn bc,.slice ta tn tc] 29 := (Bk.new w _ _).alloc _
 have hQ : Bk ((w.alloc (.cells #[.int .i64 next,.slice oa on oc,.slice ba bn bc,.slice ta tn tc] 29)).alloc (.cells #[.int .i64 0,.slice none 0 0,.slice none 0 0,.slice none 0 0] 29)) (w.heap.size + 1) #[.int .i64 0,.slice none 0 0,.slice none 0 0,.slice none 0 0] 29 := by
  have := Bk.new (w.alloc (.cells #[.int .i64 next,.slice oa on oc,.slice ba bn bc,.slice ta tn tc] 29)) #[.int .i64 0,.slice none 0 0,.slice none 0 0,.slice none 0 0] 29
  rwa [World.size_alloc] at this
 have h1 := h.past B0
 go_enter Tryz.func17, Tryz.ntmps17
 go_upto_region 1 with fail
 generalize (w.alloc (.cells #[.int .i64 next,.slice oa on oc,.slice ba bn bc,.slice ta tn tc] 29)).alloc (.cells #[.int .i64 0,.slice none 0 0,.slice none 0 0,.slice none 0 0] 29) = W at B0 hP hQ h1 ⊢
 have hCW := hC.past B0
 obtain ⟨p, hp⟩ : ∃ p, w.heap.size = p := ⟨_, rfl⟩
 obtain ⟨q, hq⟩ : ∃ q, p + 1 = q := ⟨_, rfl⟩
 have HG := Lib.hid hp
 rw [hp] at hP hQ B0
 rw [hq] at hQ
 simp only [hp, hq]
 have hpq : p < q := by omega
 clear hp hq h
 have hpW := hP.lt
 have hqW := hQ.lt
 obtain ⟨c0,c1,c2,c3⟩ : W.cell? ⟨p,0,none⟩ = some (.int .i64 next) ∧ W.cell? ⟨p,1,none⟩ = some (.slice oa on oc) ∧ W.cell? ⟨p,2,none⟩ = some (.slice ba bn bc) ∧ W.cell? ⟨p,3,none⟩ = some (.slice ta tn tc) := ⟨hP.c rfl,hP.c rfl,hP.c rfl,hP.c rfl⟩
 go_upto_region 2 with fail
 have X : Bk (W.alloc (.cells #[.int .u32 0,.int .i32 0,.int .u32 0,.int .i64 next,.slice oa on oc,.slice ba bn bc,.slice ta tn tc] 115)) W.heap.size (dfC 0 0 next oa on oc ba bn bc ta tn tc) 115 := Bk.new W _ _
 have h2 := (h1.imp (Q' := fun b => b ≠ W.heap.size) (fun k hk _ => Nat.ne_of_lt hk)).past ((Below.refl _ W).alloc (Nat.le_refl _) (.cells #[.int .u32 0,.int .i32 0,.int .u32 0,.int .i64 next,.slice oa on oc,.slice ba bn bc,.slice ta tn tc] 115))
 have B1 := B0.alloc (Nat.le_of_lt hpW) (.cells #[.int .u32 0, .int .i32 0, .int .u32 0, .int .i64 next, .slice oa on oc, .slice ba bn bc, .slice ta tn tc] 115)
 have hP2 := hP.alloc (.cells #[.int .u32 0, .int .i32 0, .int .u32 0, .int .i64 next, .slice oa on oc, .slice ba bn bc, .slice ta tn tc] 115)
 have hQ2 := hQ.alloc (.cells #[.int .u32 0, .int .i32 0, .int .u32 0, .int .i64 next, .slice oa on oc, .slice ba bn bc, .slice ta tn tc] 115)
 obtain ⟨g, hg⟩ : ∃ g, W.heap.size = g := ⟨_, rfl⟩
 have hBV : Below W.heap.size W (W.alloc (.cells #[.int .u32 0,.int .i32 0,.int .u32 0,.int .i64 next,.slice oa on oc,.slice ba bn bc,.slice ta tn tc] 115)) := (Below.refl _ W).alloc (Nat.le_refl _) _
 generalize W.alloc (.cells #[.int .u32 0, .int .i32 0, .int .u32 0, .int .i64 next, .slice oa on oc, .slice ba bn bc, .slice ta tn tc] 115) = V at X h2 B1 hP2 hQ2 hBV ⊢
 simp only [hg] at X h2 hpW hqW hBV ⊢
 have hCV : ∀ w', Below g V w' → RC w' := fun w' hb => hCW.past (hg.symm ▸ hBV.trans hb)
 by_cases hz : on = 0
 · have hop : L.op = [] := List.length_eq_zero_iff.1 (hon.trans hz)
   subst hz
   go_upto_region 3 with (go_at_call 50; refine (dclose_none V g 0 next oa oc ba bn bc ta tn tc X).mono ?_; rintro e w1 ⟨rfl, rfl⟩)
   go_wp2_with (go_at_call 51; refine (own_at0 V g g next oa 0 oc ba bn bc ta tn tc L X h2 hL X.lt).mono ?_; rintro e w2 ⟨oa2,oc2,ba2,bc2,ta2,tc2,rfl,X2,L2,B2,S2, -⟩; obtain ⟨d3,d4,d5,d6⟩ := df_cells X2; have Q3 : Bk w2 q #[.int .i64 0,.slice none 0 0,.slice none 0 0,.slice none 0 0] 29 := (B2.block q hqW).trans hQ2; obtain ⟨f0,f1,f2,f3⟩ : w2.frozen? ⟨q,0,none⟩ = false ∧ w2.frozen? ⟨q,1,none⟩ = false ∧ w2.frozen? ⟨q,2,none⟩ = false ∧ w2.frozen? ⟨q,3,none⟩ = false := ⟨free_blk Q3,free_blk Q3,free_blk Q3,free_blk Q3⟩; obtain ⟨e0,e1,e2,e3⟩ : w2.cell? ⟨q,0,none⟩ = some (.int .i64 0) ∧ w2.cell? ⟨q,1,none⟩ = some (.slice none 0 0) ∧ w2.cell? ⟨q,2,none⟩ = some (.slice none 0 0) ∧ w2.cell? ⟨q,3,none⟩ = some (.slice none 0 0) := ⟨Q3.c rfl,Q3.c rfl,Q3.c rfl,Q3.c rfl⟩)
   have g3 : w2.grownBy ((((w2.setCell ⟨q,0,none⟩ (.int .i64 next)).setCell ⟨q,1,none⟩ (.slice oa2 0 oc2)).setCell ⟨q,2,none⟩ (.slice ba2 bn bc2)).setCell ⟨q,3,none⟩ (.slice ta2 tn tc2)) (some q) := grown_cell (grown_cell (grown_cell (grown_cell (grown_self _ _) _ _) _ _) _ _) _ _
   have Q4 : Bk ((((w2.setCell ⟨q,0,none⟩ (.int .i64 next)).setCell ⟨q,1,none⟩ (.slice oa2 0 oc2)).setCell ⟨q,2,none⟩ (.slice ba2 bn bc2)).setCell ⟨q,3,none⟩ (.slice ta2 tn tc2)) q #[.int .i64 next,.slice oa2 0 oc2,.slice ba2 bn bc2,.slice ta2 tn tc2] 29 := by
    have h5 := (heap_setCell_same (i := 3) (v := .slice ta2 tn tc2) (heap_setCell_same (i := 2) (v := .slice ba2 bn bc2) (heap_setCell_same (i := 1) (v := .slice oa2 0 oc2) (heap_setCell_same (i := 0) (v := .int .i64 next) Q3))))
    exact h5
   have hqV : q < V.heap.size := hQ2.lt
   have L3 := (L2.r.grown g3 (show ¬ V.heap.size ≤ q by omega)).imp (Q' := FrG w.heap.size) (fun b _ hb => by have := HG.out; have : V.heap.size ≤ b := hb; show w.heap.size ≤ b; omega)
   have B5 : Below w.heap.size w ((((w2.setCell ⟨q,0,none⟩ (.int .i64 next)).setCell ⟨q,1,none⟩ (.slice oa2 0 oc2)).setCell ⟨q,2,none⟩ (.slice ba2 bn bc2)).setCell ⟨q,3,none⟩ (.slice ta2 tn tc2)) := (((B1.trans (B2.mono (Nat.le_of_lt hpW))).grown g3 (by have := B2.size; have := hBV.size; omega) (fun z hz => by cases hz; omega))).mono (Nat.le_of_eq HG.out)
   generalize ((((w2.setCell ⟨q,0,none⟩ (.int .i64 next)).setCell ⟨q,1,none⟩ (.slice oa2 0 oc2)).setCell ⟨q,2,none⟩ (.slice ba2 bn bc2)).setCell ⟨q,3,none⟩ (.slice ta2 tn tc2)) = w3 at Q4 L3 B5 ⊢
   obtain ⟨r0,r1,r2,r3⟩ : w3.cell? ⟨q,0,none⟩ = some (.int .i64 next) ∧ w3.cell? ⟨q,1,none⟩ = some (.slice oa2 0 oc2) ∧ w3.cell? ⟨q,2,none⟩ = some (.slice ba2 bn bc2) ∧ w3.cell? ⟨q,3,none⟩ = some (.slice ta2 tn tc2) := ⟨Q4.c rfl,Q4.c rfl,Q4.c rfl,Q4.c rfl⟩
   refine bodyPost_ret (v := .tuple #[.agg #[.int .i64 next,.slice oa2 0 oc2,.slice ba2 bn bc2,.slice ta2 tn tc2],.int .i64 2]) (by simp [results, Tryz.results17, go_sem,r0,r1,r2,r3]) rfl ?_
   unfold CloseIs LedgIs
   rw [show clsE L = 2 from if_pos hop, show cls L = L from if_pos hop]
   subst hnx
   exact ⟨_, rfl, _, _, _, _, _, _, _, _, _, rfl, L3, B5⟩
 · have hop : ¬ (L.op = []) := fun h9 => hz (by rw [← hon, h9]; rfl)
   go_upto_region 3 with (go_at_call 50; refine (dclose_some V g V.heap.size g hCV 0 next oa on oc ba bn bc ta tn tc L X X.lt (Nat.pos_of_ne_zero hz) (own_at0 V g g next oa on oc ba bn bc ta tn tc L X h2 hL X.lt) hL).mono ?_; rintro e w1 ⟨oa1,on1,oc1,ba1,bn1,bc1,ta1,tn1,tc1,rfl,X1,L1,B3,S1, -⟩)
   go_wp2_with (go_at_call 51; refine (own_at1 w1 g V.heap.size g next oa1 on1 oc1 ba1 bn1 bc1 ta1 tn1 tc1 _ X1 L1 S1).mono ?_; rintro e w2 ⟨oa2,oc2,ba2,bc2,ta2,tc2,rfl,X2,L2,B2,S2, -⟩; obtain ⟨d3,d4,d5,d6⟩ := df_cells X2; have Q3 : Bk w2 q #[.int .i64 0,.slice none 0 0,.slice none 0 0,.slice none 0 0] 29 := (B2.block q hqW).trans ((B3.block q hqW).trans hQ2); obtain ⟨f0,f1,f2,f3⟩ : w2.frozen? ⟨q,0,none⟩ = false ∧ w2.frozen? ⟨q,1,none⟩ = false ∧ w2.frozen? ⟨q,2,none⟩ = false ∧ w2.frozen? ⟨q,3,none⟩ = false := ⟨free_blk Q3,free_blk Q3,free_blk Q3,free_blk Q3⟩; obtain ⟨e0,e1,e2,e3⟩ : w2.cell? ⟨q,0,none⟩ = some (.int .i64 0) ∧ w2.cell? ⟨q,1,none⟩ = some (.slice none 0 0) ∧ w2.cell? ⟨q,2,none⟩ = some (.slice none 0 0) ∧ w2.cell? ⟨q,3,none⟩ = some (.slice none 0 0) := ⟨Q3.c rfl,Q3.c rfl,Q3.c rfl,Q3.c rfl⟩)
   have g3 : w2.grownBy ((((w2.setCell ⟨q,0,none⟩ (.int .i64 next)).setCell ⟨q,1,none⟩ (.slice oa2 on1 oc2)).setCell ⟨q,2,none⟩ (.slice ba2 bn1 bc2)).setCell ⟨q,3,none⟩ (.slice ta2 tn1 tc2)) (some q) := grown_cell (grown_cell (grown_cell (grown_cell (grown_self _ _) _ _) _ _) _ _) _ _
   have Q4 : Bk ((((w2.setCell ⟨q,0,none⟩ (.int .i64 next)).setCell ⟨q,1,none⟩ (.slice oa2 on1 oc2)).setCell ⟨q,2,none⟩ (.slice ba2 bn1 bc2)).setCell ⟨q,3,none⟩ (.slice ta2 tn1 tc2)) q #[.int .i64 next,.slice oa2 on1 oc2,.slice ba2 bn1 bc2,.slice ta2 tn1 tc2] 29 := by
    have h5 := (heap_setCell_same (i := 3) (v := .slice ta2 tn1 tc2) (heap_setCell_same (i := 2) (v := .slice ba2 bn1 bc2) (heap_setCell_same (i := 1) (v := .slice oa2 on1 oc2) (heap_setCell_same (i := 0) (v := .int .i64 next) Q3))))
    exact h5
   have hqV : q < V.heap.size := hQ2.lt
   have L3 := (L2.r.grown g3 (show ¬ V.heap.size ≤ q by omega)).imp (Q' := FrG w.heap.size) (fun b _ hb => by have := HG.out; have : V.heap.size ≤ b := hb; show w.heap.size ≤ b; omega)
   have B5 : Below w.heap.size w ((((w2.setCell ⟨q,0,none⟩ (.int .i64 next)).setCell ⟨q,1,none⟩ (.slice oa2 on1 oc2)).setCell ⟨q,2,none⟩ (.slice ba2 bn1 bc2)).setCell ⟨q,3,none⟩ (.slice ta2 tn1 tc2)) := (((B1.trans ((B3.trans B2).mono (Nat.le_of_lt hpW))).grown g3 (by have := (B3.trans B2).size; have := hBV.size; omega) (fun z hz => by cases hz; omega))).mono (Nat.le_of_eq HG.out)
   generalize ((((w2.setCell ⟨q,0,none⟩ (.int .i64 next)).setCell ⟨q,1,none⟩ (.slice oa2 on1 oc2)).setCell ⟨q,2,none⟩ (.slice ba2 bn1 bc2)).setCell ⟨q,3,none⟩ (.slice ta2 tn1 tc2)) = w3 at Q4 L3 B5 ⊢
   obtain ⟨r0,r1,r2,r3⟩ : w3.cell? ⟨q,0,none⟩ = some (.int .i64 next) ∧ w3.cell? ⟨q,1,none⟩ = some (.slice oa2 on1 oc2) ∧ w3.cell? ⟨q,2,none⟩ = some (.slice ba2 bn1 bc2) ∧ w3.cell? ⟨q,3,none⟩ = some (.slice ta2 tn1 tc2) := ⟨Q4.c rfl,Q4.c rfl,Q4.c rfl,Q4.c rfl⟩
   refine bodyPost_ret (v := .tuple #[.agg #[.int .i64 next,.slice oa2 on1 oc2,.slice ba2 bn1 bc2,.slice ta2 tn1 tc2],.int .i64 0]) (by simp [results, Tryz.results17, go_sem,r0,r1,r2,r3]) rfl ?_
   unfold CloseIs LedgIs
   rw [show clsE L = 0 from if_neg hop, show cls L = ⟨L.next, [], L.bl ++ [newB L], L.ts ++ [L.op]⟩ from if_neg hop]
   subst hnx
   exact ⟨_, rfl, _, _, _, _, _, _, _, _, _, rfl, L3, B5⟩
theorem cell_same {w w' : World} {a : Addr} (h : w'.heap[a.block]? = w.heap[a.block]?) : w'.cell? a = w.cell? a := by
 unfold World.cell?
 rw [h]
section
variable {β : Type} {E : Enc β} {w w' : World} {ro : Option Addr} {m d : Nat} {l : List β}
theorem IsR.same (h : IsR E w ro m d l) (hq : 0 < m → ∀ a, ro = some a → w'.heap[a.block]? = w.heap[a.block]?) : IsR E w' ro m d l :=
 ⟨h.len, h.le, h.max, h.nil, fun a ha j u hu => by
  have hl := (List.getElem?_eq_some_iff.1 hu).1
  rw [E.all_length, h.len] at hl
  have hn : 0 < m := by
   rcases Nat.eq_zero_or_pos m with e | e
   · rw [e] at hl; omega
   · exact e
  have hc := h.cell a ha j u hu
  exact (cell_same (w := w) (w' := w') (a := a.add j) (by rw [addr_block]; exact hq hn a ha)).trans hc⟩
end
def SmD {α : Type} (D : Dn α) : Prop := ∀ {w w' : World} {Q : Nat → Prop} {b : D.β} {x : α}, D.R w Q b x → (∀ k, k < w.heap.size → Q k → w'.heap[k]? = w.heap[k]?) → D.R w' Q b x
theorem IsD.same {α : Type} {D : Dn α} (hs : SmD D) {w w' : World} {Q : Nat → Prop} {ao : Option Addr} {n c : Nat} {ls : List α} (h : IsD D w Q ao n c ls) (k : ∀ k,k < w.heap.size → Q k → w'.heap[k]? = w.heap[k]?) : IsD D w' Q ao n c ls := by
 obtain ⟨bs, h1, h2, h3⟩ := h
 exact ⟨bs, h1.same (fun hn a ha => k _ (h1.ltD D.pos hn a ha) (h2 hn a ha)), h2, h3.1, fun j x l hx hl => hs (h3.2 j x l hx hl) k⟩
theorem flat_sm {α : Type} (E : Enc α) (h : 0 < E.sz) : SmD (flatD E h) := fun h _ => h
theorem rec_sm {α γ : Type} {D : Dn α} (hs : SmD D) (E : Enc (γ × HdR)) (hp : 0 < E.sz) : SmD (recD D E hp) := fun h k => ⟨h.1, IsD.same hs h.2 k⟩
theorem sm_DV : SmD DV := flat_sm _ _
theorem sm_DC : SmD DC := rec_sm sm_DV _ _
def LgXO (w : World) (B t : Nat) (oa : Option Addr) (on oc : Nat) (ba : Option Addr) (bn bc : Nat) (ta : Option Addr) (tn tc : Nat) (L : Lgr) (xa : Option Addr) (xn xc : Nat) (x : List Chg) : Prop :=
 ∃ Qo Qb Qt bo bb bt Qx,LgO w B Qo Qb Qt oa on oc ba bn bc ta tn tc bo bb bt L ∧ (t < w.heap.size ∧ ¬ Qo t ∧ ¬ Qb t ∧ ¬ Qt t ∧ ¬ Qx t) ∧ IsD DC w Qx xa xn xc x ∧ ∀ k,Qx k → B ≤ k ∧ k < w.heap.size ∧ ¬ Qo k ∧ ¬ Qb k ∧ ¬ Qt k
section
variable {w w' : World} {B t : Nat} {oa : Option Addr} {on oc : Nat} {ba : Option Addr} {bn bc : Nat} {ta : Option Addr} {tn tc : Nat} {L : Lgr} {xa : Option Addr} {xn xc : Nat} {x : List Chg}
theorem LgX.nx (h : LgX w B t oa on oc ba bn bc ta tn tc L) (n : Int) : LgX w B t oa on oc ba bn bc ta tn tc ⟨n, L.op, L.bl, L.ts⟩ := by
 obtain ⟨Qo, Qb, Qt, bo, bb, bt, h, ht, n1, n2, n3⟩ := h
 exact ⟨Qo, Qb, Qt, bo, bb, bt, ⟨h.op, h.bl, h.ts, h.ob, h.ot, h.bt_, h.go, h.gb, h.gt⟩, ht, n1, n2, n3⟩
theorem LgX.rIn (h : LgX w B t oa on oc ba bn bc ta tn tc L) : LgR w (fun k => B ≤ k ∧ k < w.heap.size) oa on oc ba bn bc ta tn tc L := by
 obtain ⟨Qo, Qb, Qt, bo, bb, bt, h, ht, n1, n2, n3⟩ := h
 exact ⟨h.op.isD.imp fun k _ hk => h.go k hk, h.bl.isD.imp fun k _ hk => h.gb k hk, h.ts.isD.imp fun k _ hk => h.gt k hk⟩
theorem LgXO.past (h : LgXO w B t oa on oc ba bn bc ta tn tc L xa xn xc x) (b : Below w.heap.size w w') : LgXO w' B t oa on oc ba bn bc ta tn tc L xa xn xc x := by
 obtain ⟨Qo, Qb, Qt, bo, bb, bt, Qx, h, ⟨ht, n1, n2, n3, n4⟩, hx, hd⟩ := h
 exact ⟨Qo, Qb, Qt, bo, bb, bt, Qx, h.past b, ⟨Nat.lt_of_lt_of_le ht b.size, n1, n2, n3, n4⟩, hx.past b, fun k hk => ⟨(hd k hk).1, Nat.lt_of_lt_of_le (hd k hk).2.1 b.size, (hd k hk).2.2⟩⟩
theorem LgX.with (h : LgX w B t oa on oc ba bn bc ta tn tc L) (hB : B ≤ w.heap.size) (b : Below w.heap.size w w') (hx : IsD DC w' (FrG w.heap.size) xa xn xc x) : LgXO w' B t oa on oc ba bn bc ta tn tc L xa xn xc x := by
 obtain ⟨Qo, Qb, Qt, bo, bb, bt, h, ht, n1, n2, n3⟩ := h
 refine ⟨Qo,Qb,Qt,bo,bb,bt,fun k => w.heap.size ≤ k ∧ k < w'.heap.size,h.past b,⟨Nat.lt_of_lt_of_le ht b.size,n1,n2,n3,fun h9 => by omega⟩,hx.imp fun k hk hh => ⟨hh,hk⟩,fun k hk => ⟨Nat.le_trans hB hk.1,hk.2,fun hq => ?_,fun hq => ?_,fun hq => ?_⟩⟩
 · have := (h.go k hq).2; omega
 · have := (h.gb k hq).2; omega
 · have := (h.gt k hq).2; omega
theorem LgXO.neO (h : LgXO w B t oa on oc ba bn bc ta tn tc L xa xn xc x) : ∀ r, blk oa = some r → B ≤ r ∧ r ≠ t := by
 obtain ⟨Qo, Qb, Qt, bo, bb, bt, Qx, h, ⟨ht, n1, n2, n3, n4⟩, hx, hd⟩ := h
 exact fun r hr => ⟨(h.go r (h.op.frm r hr)).1, fun e => n1 (e ▸ h.op.frm r hr)⟩
theorem LgX.fresh (h : LgX w B t oa on oc ba bn bc ta tn tc L) (b : Below w.heap.size w w') (hlt : w.heap.size < w'.heap.size) : LgX w' B w.heap.size oa on oc ba bn bc ta tn tc L := by
 obtain ⟨Qo, Qb, Qt, bo, bb, bt, h, ht, n1, n2, n3⟩ := h
 exact ⟨Qo, Qb, Qt, bo, bb, bt, h.past b, hlt, fun h9 => by have := (h.go _ h9).2; omega, fun h9 => by have := (h.gb _ h9).2; omega, fun h9 => by have := (h.gt _ h9).2; omega⟩
theorem LgXO.app (h : LgXO w B t oa on oc ba bn bc ta tn tc L xa xn xc x) (hB : B ≤ w.heap.size) (id : Int) : ∃ bo : List (Int × HdR),TxtR ETx w 45 B oa on oc bo ∧ ∀ (g' c' : Nat) (w' : World),TxtR ETx w' 45 B (some ⟨g',0,none⟩) (on + 1) c' (bo ++ [(id,⟨xa,xn,xc⟩)]) → w.grownBy w' (blk oa) → (blk oa = some g' ∨ w.heap.size ≤ g') →
 LgX w' B t (some ⟨g', 0, none⟩) (on + 1) c' ba bn bc ta tn tc ⟨L.next, L.op ++ [(id, x)], L.bl, L.ts⟩ := by
 obtain ⟨Qo, Qb, Qt, bo, bb, bt, Qx, h, ⟨ht, n1, n2, n3, n4⟩, hx, hd⟩ := h
 refine ⟨bo, ⟨h.op.row.either.imp (fun z => z) fun ⟨g, h1, h2, _⟩ => ⟨g, h1, h2, (h.go g (h.op.frm g (by rw [h1]; rfl))).1⟩⟩, fun g' c' w' o' g hg' => ?_⟩
 have o2 : TxtR DT.E w' 45 0 (some ⟨g', 0, none⟩) (on + 1) c' (List.append (α := DT.β) bo [((id, ⟨xa, xn, xc⟩) : Int × HdR)]) := o'.zero
 have hx2 : DT.R w Qx ((id, ⟨xa, xn, xc⟩) : Int × HdR) (id, x) := ⟨rfl, hx⟩
 have h0 := TxD.app (D := DT) h.op hx2 (fun z hz hq => (hd z hq).2.2.1 (h.op.frm z hz)) o2 g hg'
 have h1 := h0.imp (Q' := fun k => Qo k ∨ Qx k ∨ (w.heap.size ≤ k ∧ k < w'.heap.size)) fun k hk hh => by
  rcases hh with hh | hh | hh
  · exact .inl hh
  · exact .inr (.inl hh)
  · exact .inr (.inr ⟨hh, hk⟩)
 refine ⟨_,Qb,Qt,_,bb,bt,⟨h1,h.bl.grownO g fun r er hq => h.ob r (h.op.frm r er) hq,h.ts.grownO g fun r er hq => h.ot r (h.op.frm r er) hq,fun k hh hk => ?_,fun k hh hk => ?_,h.bt_,fun k hh => ?_,fun k hk => ⟨(h.gb k hk).1,Nat.lt_of_lt_of_le (h.gb k hk).2 g.size⟩,fun k hk => ⟨(h.gt k hk).1,Nat.lt_of_lt_of_le (h.gt k hk).2 g.size⟩⟩,Nat.lt_of_lt_of_le ht g.size,fun hh => hh.elim n1 (fun h9 => h9.elim n4 (fun h9 => by omega)),n2,n3⟩
 · rcases hh with hh | hh | hh
   · exact h.ob k hh hk
   · exact (hd k hh).2.2.2.1 hk
   · have := (h.gb k hk).2; omega
 · rcases hh with hh | hh | hh
   · exact h.ot k hh hk
   · exact (hd k hh).2.2.2.2 hk
   · have := (h.gt k hk).2; omega
 · rcases hh with hh | hh | hh
   · exact ⟨(h.go k hh).1, Nat.lt_of_lt_of_le (h.go k hh).2 g.size⟩
   · exact ⟨(hd k hh).1, Nat.lt_of_lt_of_le (hd k hh).2.1 g.size⟩
   · exact ⟨Nat.le_trans hB hh.1, hh.2⟩
end
def AddedIs (w : World) (g : Nat) (next : Int) (M : Lgr) (cn : Nat) (cl : List Chg) (e : Ending) (w' : World) : Prop :=
 ∃ oa on oc ba bn bc ta tn tc xa xc k0,e = .returned (.agg #[.int .i64 next,.slice xa cn xc]) ∧ Bk w' g (dfC 1 0 (next + 1) oa on oc ba bn bc ta tn tc) 115 ∧ LgR w' (fun k => w.heap.size < k ∧ k < k0) oa on oc ba bn bc ta tn tc (addL M cl) ∧ IsD DC w' (FrG k0) xa cn xc cl ∧ Below g w w' ∧ w.heap.size < k0
inductive LAdd4 (B : Nat) (tb : Nat) (w3 : World) (g : Nat) (B9 : Nat) (next : Int) (nx : Int) (oa2 : Option Addr) (on : Nat) (oc2 : Nat) (ba2 : Option Addr) (bn : Nat) (bc2 : Nat) (ta2 : Option Addr) (tn : Nat) (tc2 : Nat) (ca : Option Addr) (cn : Nat) (cc : Nat) (cl : List Chg) (M : Lgr) (a0 : Act) (w0 : World) (L : Array Bool) (a : Act) (w : World) : Prop
 | mk (b0 b1 b2 b3 b4 b5 b6 b7 b8 b9 b10 b11 : Bool) (x22 x23 x24 x25 x26 x27 x28 x29 x30 x31 x32 : Value) (xa : Option Addr) (xc : Nat) (gs : Nat) (gq : Nat) (cq : Nat) (hL : L = #[b0,b1,b2,b3,b4,b5,b6,b7,b8,b9,b10,b11]) (ha : a = ⟨(((((((((((a0.tmps.setIfInBounds 22 x22).setIfInBounds 23 x23).setIfInBounds 24 x24).setIfInBounds 25 x25).setIfInBounds 26 x26).setIfInBounds 27 x27).setIfInBounds 28 x28).setIfInBounds 29 x29).setIfInBounds 30 x30).setIfInBounds 31 x31).setIfInBounds 32 x32),a0.defers⟩) (hb : Below B w0 w) (cd0 : Hid (b0 = true → x22 = .pointer (some ⟨g,3,none⟩))) (cd1 : Hid (b1 = true → x23 = .pointer (some ⟨g,3,none⟩))) (cd2 : Hid (b2 = true → x24 = .pointer (some ⟨g,3,none⟩))) (cd3 : Hid (b3 = true → x25 = .pointer (some ⟨g,4,none⟩))) (cd4 : Hid (b4 = true → x26 = .slice oa2 on oc2)) (cd5 : Hid (b5 = true → x27 = .agg #[.int .i64 next,.slice ca cn cc])) (cd6 : Hid (b6 = true → x28 = .agg #[.int .i64 next,.slice xa cn xc])) (cd7 : Hid (b7 = true → x29 = .slice (some ⟨gs,0,none⟩) 1 1)) (cd8 : Hid (b8 = true → x30 = .slice (some ⟨gq,0,none⟩) (on + 1) cq)) (cd9 : Hid (b9 = true → x31 = .pointer (some ⟨g,3,none⟩))) (cd10 : Hid (b10 = true → x32 = .pointer (some ⟨g,4,none⟩))) (f_g : Hid (b11 = false → Bk w g (dfC 1 0 nx oa2 on oc2 ba2 bn bc2 ta2 tn tc2) 115)) (f_lo : Hid (b6 = false → LgX w B9 tb oa2 on oc2 ba2 bn bc2 ta2 tn tc2 M)) (f_lx : Hid (b6 = true → b8 = false → LgXO w B9 tb oa2 on oc2 ba2 bn bc2 ta2 tn tc2 M xa cn xc cl)) (f_ls : Hid (b7 = true → b8 = false → IsR ETx w (some ⟨gs,0,none⟩) 1 1 [(next,⟨xa,cn,xc⟩)])) (f_o6 : Hid (b7 = true → b6 = true)) (f_lo2 : Hid (b8 = true → LgX w B9 tb (some ⟨gq,0,none⟩) (on + 1) cq ba2 bn bc2 ta2 tn tc2 ⟨M.next,M.op ++ [(next,cl)],M.bl,M.ts⟩)) (f_s : Hid (b11 = true → Bk w g (dfC 1 0 nx (some ⟨gq,0,none⟩) (on + 1) cq ba2 bn bc2 ta2 tn tc2) 115)) (f_o8 : Hid (b11 = true → b8 = true)) (f_q4 : Hid (b11 = true → b4 = true)) (f_kb : Hid (SameB B9 tb g w3 w)) (f_t : Hid (Bk w tb #[.int .i64 next,.slice ca cn cc] 45)) (f_c : Hid (IsD DC w (fun k => k ≠ g ∧ k < B9) ca cn cc cl)) : LAdd4 B tb w3 g B9 next nx oa2 on oc2 ba2 bn bc2 ta2 tn tc2 ca cn cc cl M a0 w0 L a w
theorem tx_one (w : World) (t : TypeId) (id : Int) (xa : Option Addr) (xn xc : Nat) : IsR ETx (w.alloc (.cells #[.int .i64 id,.slice xa xn xc] t)) (some ⟨w.heap.size,0,none⟩) 1 1 [(id,⟨xa,xn,xc⟩)] := (OwnR.ofBlk (E := ETx) (l := [(id,⟨xa,xn,xc⟩)]) (n := 1) (heap_alloc_new w _) rfl rfl (by omega)).isR
set_option maxRecDepth 100000 in
set_option maxHeartbeats 2000000 in
theorem dadd_any (w : World) (g : Nat) (hCg : ∀ w',Below g w w' → RC w') (next : Int) (oa : Option Addr) (on oc : Nat) (ba : Option Addr) (bn bc : Nat) (ta : Option Addr) (tn tc : Nat) (ca : Option Addr) (cn cc : Nat) (cl : List Chg) (M : Lgr) (hnx : M.next = next) (hlo : 0 ≤ next) (hhi : next ≤ 1000000) (X : Bk w g (dfC 0 0 next oa on oc ba bn bc ta tn tc) 115) (h : LgR w (fun k => k ≠ g) oa on oc ba bn bc ta tn tc M) (hL : LgOk M) (hcl : TxOk (next,cl)) (hc : IsD DC w (fun k => k ≠ g) ca cn cc cl) :
 Calls Tryz.prog 52 #[.pointer (some ⟨g, 0, none⟩), .slice ca cn cc] w (AddedIs w g next M cn cl) := by
 have hlen := hc.len
 have hon := h.op.len
 have hgw := X.lt
 have B0 : Below w.heap.size w (w.alloc (.cells #[.int .i64 0, .slice none 0 0] 45)) := (Below.refl _ _).alloc (Nat.le_refl _) _
 have hR : Bk (w.alloc (.cells #[.int .i64 0, .slice none 0 0] 45)) w.heap.size #[.int .i64 0, .slice none 0 0] 45 := Bk.new w _ _
 have X1 := X.alloc (.cells #[.int .i64 0, .slice none 0 0] 45)
 have h1 := h.past B0
 have hc1 := (hc.imp (Q' := fun k => k ≠ g ∧ k < w.heap.size) (fun k hk hq => ⟨hq, hk⟩)).past B0
 go_enter Tryz.func52, Tryz.ntmps52
 go_upto_region 1 with fail
 obtain ⟨r, hr⟩ : ∃ r, w.heap.size = r := ⟨_, rfl⟩
 rw [hr] at hgw
 generalize w.alloc (.cells #[.int .i64 0, .slice none 0 0] 45) = W at B0 hR X1 h1 hc1 ⊢
 simp only [hr] at B0 hR hc1 ⊢
 obtain ⟨B9, hB9⟩ : ∃ r, W.heap.size = r := ⟨_, rfl⟩
 have hrB : r < B9 := hB9 ▸ hR.lt
 have hO := own_at0 W g g next oa on oc ba bn bc ta tn tc M X1 h1 hL X1.lt
 rw [hB9] at hO
 go_upto_region 2 with (go_at_call 51; refine hO.mono ?_; rintro e w1 ⟨oa2, oc2, ba2, bc2, ta2, tc2, rfl, X2, L2, B2, S2, K2⟩)
 have hR2 : Bk w1 r #[.int .i64 0, .slice none 0 0] 45 := (K2.same r (.inl hrB) (by omega)).trans hR
 have hc2 := (hc1.same sm_DC (fun k hk hq => K2.same k (.inl (by have := hq.2; omega)) hq.1)).imp (Q' := fun k => k ≠ g ∧ k < B9) (fun k hk hq => ⟨hq.1, by have := hq.2; omega⟩)
 clear hO hR hc1 X1 h1 hc h
 have X3 := X2.alloc (.cells #[.int .i64 next, .slice ca cn cc] 45)
 have BT : Below w1.heap.size w1 (w1.alloc (.cells #[.int .i64 next, .slice ca cn cc] 45)) := (Below.refl _ _).alloc (Nat.le_refl _) _
 have hT : Bk (w1.alloc (.cells #[.int .i64 next, .slice ca cn cc] 45)) w1.heap.size #[.int .i64 next, .slice ca cn cc] 45 := Bk.new w1 _ _
 have hR3 := hR2.past BT
 have hc3 := hc2.past BT
 have L3 := L2.fresh BT (by rw [World.size_alloc]; omega)
 obtain ⟨d3, d4, d5, d6⟩ := df_cells X2
 go_upto_region 3 with fail
 obtain ⟨tb, htb⟩ : ∃ r, w1.heap.size = r := ⟨_, rfl⟩
 have htB : B9 ≤ tb := htb ▸ S2
 have B3 : Below g W (w1.alloc (.cells #[.int .i64 next, .slice ca cn cc] 45)) := B2.trans (BT.mono (by omega))
 generalize w1.alloc (.cells #[.int .i64 next, .slice ca cn cc] 45) = w2 at X3 BT hT hR3 hc3 L3 B3 ⊢
 simp only [htb] at hT L3 ⊢
 clear d3 d4 d5 d6 X2 BT hR2 hc2 L2 B2 K2
 obtain ⟨d3, d4, d5, d6⟩ := df_cells X3
 have f3 := free_blk (i := 3) X3
 go_upto_region 4 with fail
 have hX := df_set X3 3 (.int .i64 (next + 1)) (cs := dfC 1 0 (next + 1) oa2 on oc2 ba2 bn bc2 ta2 tn tc2) rfl
 have g4 := grown_cell (grown_self w2 g) 3 (.int .i64 (next + 1))
 have hgB : g < B9 := by omega
 have htg : some tb ≠ some g := fun e => by have := Option.some.inj e; omega
 have hLo := L3.grown g4 hgB
 have hc := hc3.grown g4 (fun h9 => h9.1 rfl)
 have hR := hR3.grown g4 (fun e => by have := Option.some.inj e; omega)
 have hT' := hT.grown g4 htg
 have B4 := B3.grown g4 (by have := X3.lt; have := B3.size; omega) (fun z hz => by cases hz; exact Nat.le_refl _)
 have hBw : B9 ≤ (w2.setCell ⟨g, 3, none⟩ (.int .i64 (next + 1))).heap.size := by have := g4.size; have := hT.lt; omega
 obtain ⟨nx, hnx2⟩ : ∃ n, next + 1 = n := ⟨_, rfl⟩
 simp only [hnx2] at hX hLo hc hR hT' B4 hBw ⊢
 clear X3 hT hR3 hc3 L3 B3 d3 d4 d5 d6 f3 g4
 generalize w2.setCell ⟨g, 3, none⟩ (.int .i64 nx) = w3 at hX hLo hc hR hT' B4 hBw ⊢
 have hB0 : g ≤ w3.heap.size := by omega
 have hcn : cn ≤ 100000 := by have := hcl.1; simp only at this; omega
 have hcs : ∀ x ∈ cl, x.2.length ≤ 100000 := hcl.sz.2
 have hon4 : on ≤ 4 := hon ▸ hL.op
 refine region_inv (LAdd4 g tb w3 g B9 next nx oa2 on oc2 ba2 bn bc2 ta2 tn tc2 ca cn cc cl M) (by kernel_rfl) (by kernel_rfl) ?_ ?_ ?_
 · exact ⟨false,false,false,false,false,false,false,false,false,false,false,false,undef,undef,undef,undef,undef,undef,undef,undef,undef,undef,undef,none,0,0,0,0,rfl,(by go_simp),Below.refl _ _,nf2,nf2,nf2,nf2,nf2,nf2,nf2,nf2,nf2,nf2,nf2,(fun h1 => hX.past (Below.refl _ _).drew),(fun h1 => hLo.past (Below.refl _ _).drew),nf2,nf2,nf2,nf2,nf2,nf2,nf2,((SameB.refl g hBw hT'.lt).past (Below.refl _ _).drew),(hT'.past (Below.refl _ _).drew),(hc.past (Below.refl _ _).drew)⟩
 · refine ⟨?_, ?_, ?_, ?_, ?_, ?_, ?_, ?_, ?_, ?_, ?_, ?_, trivial⟩
   all_goals rintro L a w ⟨b0,b1,b2,b3,b4,b5,b6,b7,b8,b9,b10,b11,x22,x23,x24,x25,x26,x27,x28,x29,x30,x31,x32,xa,xc,gs,gq,cq,rfl,rfl,hb,cd0,cd1,cd2,cd3,cd4,cd5,cd6,cd7,cd8,cd9,cd10,f_g,f_lo,f_lx,f_ls,f_o6,f_lo2,f_s,f_o8,f_q4,f_kb,f_t,f_c⟩ hf hd
   · have hf' : b0 = false := hf
     subst hf'
     clear hf hd
     have W_kb := f_kb.out
     have W_t := f_t.out
     have W_c := f_c.out
     intro K hK
     rw [if_pos (by rfl)]
     go_simp
     exact hK.out _ _ ⟨true,b1,b2,b3,b4,b5,b6,b7,b8,b9,b10,b11,(.pointer (some ⟨g,3,none⟩)),x23,x24,x25,x26,x27,x28,x29,x30,x31,x32,xa,xc,gs,gq,cq,(by go_simp),(by go_simp),hb,(fun _ => rfl),cd1,cd2,cd3,cd4,cd5,cd6,cd7,cd8,cd9,cd10,f_g,f_lo,f_lx,f_ls,f_o6,f_lo2,f_s,f_o8,f_q4,f_kb,f_t,f_c⟩
   · have hf' : b1 = false := hf
     subst hf'
     clear hf hd
     have W_kb := f_kb.out
     have W_t := f_t.out
     have W_c := f_c.out
     intro K hK
     rw [if_pos (by rfl)]
     go_simp
     exact hK.out _ _ ⟨b0,true,b2,b3,b4,b5,b6,b7,b8,b9,b10,b11,x22,(.pointer (some ⟨g,3,none⟩)),x24,x25,x26,x27,x28,x29,x30,x31,x32,xa,xc,gs,gq,cq,(by go_simp),(by go_simp),hb,cd0,(fun _ => rfl),cd2,cd3,cd4,cd5,cd6,cd7,cd8,cd9,cd10,f_g,f_lo,f_lx,f_ls,f_o6,f_lo2,f_s,f_o8,f_q4,f_kb,f_t,f_c⟩
   · have hf' : b2 = false := hf
     subst hf'
     have d1 : b1 = true := hd ⟨1, .data⟩ (by simp) rfl
     subst d1
     obtain rfl := cd1.out rfl
     clear hf hd
     have W_kb := f_kb.out
     have W_t := f_t.out
     have W_c := f_c.out
     intro K hK
     rw [if_pos (by rfl)]
     go_simp
     exact hK.out _ _ ⟨b0,true,true,b3,b4,b5,b6,b7,b8,b9,b10,b11,x22,.pointer (some ⟨g,3,none⟩),(.pointer (some ⟨g,3,none⟩)),x25,x26,x27,x28,x29,x30,x31,x32,xa,xc,gs,gq,cq,(by go_simp),(by go_simp),hb,cd0,rf,rf,cd3,cd4,cd5,cd6,cd7,cd8,cd9,cd10,f_g,f_lo,f_lx,f_ls,f_o6,f_lo2,f_s,f_o8,f_q4,f_kb,f_t,f_c⟩
   · have hf' : b3 = false := hf
     subst hf'
     have d2 : b2 = true := hd ⟨2, .data⟩ (by simp) rfl
     subst d2
     obtain rfl := cd2.out rfl
     clear hf hd
     have W_kb := f_kb.out
     have W_t := f_t.out
     have W_c := f_c.out
     intro K hK
     rw [if_pos (by rfl)]
     go_simp
     exact hK.out _ _ ⟨b0,b1,true,true,b4,b5,b6,b7,b8,b9,b10,b11,x22,x23,.pointer (some ⟨g,3,none⟩),(.pointer (some ⟨g,4,none⟩)),x26,x27,x28,x29,x30,x31,x32,xa,xc,gs,gq,cq,(by go_simp),(by go_simp),hb,cd0,cd1,rf,rf,cd4,cd5,cd6,cd7,cd8,cd9,cd10,f_g,f_lo,f_lx,f_ls,f_o6,f_lo2,f_s,f_o8,f_q4,f_kb,f_t,f_c⟩
   · have hf' : b4 = false := hf
     subst hf'
     have d3 : b3 = true := hd ⟨3, .data⟩ (by simp) rfl
     subst d3
     obtain rfl := cd3.out rfl
     clear hf hd
     have W_kb := f_kb.out
     have W_t := f_t.out
     have W_c := f_c.out
     try simp only [setIfInBounds_toArray, set_cons_zero, set_cons_succ]
     have e_g : b11 = false := by cases hq : b11 with | false => rfl | true => exact absurd (f_q4.out hq) (by simp)
     have W_g := f_g.out e_g
     have z4 : w.cell? ⟨g, 4, none⟩ = some (.slice oa2 on oc2) := W_g.c rfl
     intro K hK
     rw [if_pos (by rfl)]
     go_simp
     exact hK.out _ _ ⟨b0,b1,b2,true,true,b5,b6,b7,b8,b9,b10,b11,x22,x23,x24,.pointer (some ⟨g,4,none⟩),(.slice oa2 on oc2),x27,x28,x29,x30,x31,x32,xa,xc,gs,gq,cq,(by go_simp),(by go_simp),hb,cd0,cd1,cd2,rf,rf,cd5,cd6,cd7,cd8,cd9,cd10,f_g,f_lo,f_lx,f_ls,f_o6,f_lo2,f_s,f_o8,rf,f_kb,f_t,f_c⟩
   · have hf' : b5 = false := hf
     subst hf'
     clear hf hd
     have W_kb := f_kb.out
     have W_t := f_t.out
     have W_c := f_c.out
     try simp only [setIfInBounds_toArray, set_cons_zero, set_cons_succ]
     have z0 : w.cell? ⟨tb, 0, none⟩ = some (.int .i64 next) := W_t.c rfl
     have z1 : w.cell? ⟨tb, 1, none⟩ = some (.slice ca cn cc) := W_t.c rfl
     intro K hK
     rw [if_pos (by rfl)]
     go_simp
     exact hK.out _ _ ⟨b0,b1,b2,b3,b4,true,b6,b7,b8,b9,b10,b11,x22,x23,x24,x25,x26,(.agg #[.int .i64 next,.slice ca cn cc]),x28,x29,x30,x31,x32,xa,xc,gs,gq,cq,(by go_simp),(by go_simp),hb,cd0,cd1,cd2,cd3,cd4,rf,cd6,cd7,cd8,cd9,cd10,f_g,f_lo,f_lx,f_ls,f_o6,f_lo2,f_s,f_o8,f_q4,f_kb,f_t,f_c⟩
   · have hf' : b6 = false := hf
     subst hf'
     have d5 : b5 = true := hd ⟨5, .data⟩ (by simp) rfl
     subst d5
     obtain rfl := cd5.out rfl
     clear hf hd
     have W_lo := f_lo.out rfl
     have W_kb := f_kb.out
     have W_t := f_t.out
     have W_c := f_c.out
     intro K hK
     rw [if_pos (by rfl)]
     go_simp
     go_at_call 88
     refine (copyTx_any w _ next ca cn cc cl W_c hcn hcs).mono ?_
     rintro e w' ⟨a9, c9, rfl, o9, bx⟩
     exact hK.out _ _ ⟨b0,b1,b2,b3,b4,true,true,b7,b8,b9,b10,b11,x22,x23,x24,x25,x26,.agg #[.int .i64 next,.slice ca cn cc],(.agg #[.int .i64 next,.slice a9 cn c9]),x29,x30,x31,x32,a9,c9,gs,gq,cq,(by go_simp),(by go_simp),hb.trans (bx.mono (Nat.le_trans hB0 hb.size)),cd0,cd1,cd2,cd3,cd4,rf,rf,cd7,cd8,cd9,cd10,(fun h1 => (f_g.out h1).past bx),nf2,(fun _ _ => W_lo.with (Nat.le_trans hBw hb.size) bx o9),(fun h0 _ => absurd (f_o6.out h0) (by simp)),rf,(fun h0 => (f_lo2.out h0).past bx),(fun h0 => (f_s.out h0).past bx),f_o8,f_q4,(f_kb.out.past bx),(f_t.out.past bx),(f_c.out.past bx)⟩
   · have hf' : b7 = false := hf
     subst hf'
     have d6 : b6 = true := hd ⟨6, .data⟩ (by simp) rfl
     subst d6
     obtain rfl := cd6.out rfl
     clear hf hd
     have W_kb := f_kb.out
     have W_t := f_t.out
     have W_c := f_c.out
     intro K hK
     rw [if_pos (by rfl)]
     go_simp
     have bx : Below w.heap.size w (w.alloc (.cells #[.int .i64 next, .slice xa cn xc] 45)) := (Below.refl _ _).alloc (Nat.le_refl _) _
     exact hK.out _ _ ⟨b0,b1,b2,b3,b4,b5,true,true,b8,b9,b10,b11,x22,x23,x24,x25,x26,x27,.agg #[.int .i64 next,.slice xa cn xc],(.slice (some ⟨(w.heap.size),0,none⟩) 1 1),x30,x31,x32,xa,xc,w.heap.size,gq,cq,(by go_simp),(by go_simp),hb.trans (bx.mono (Nat.le_trans hB0 hb.size)),cd0,cd1,cd2,cd3,cd4,cd5,rf,rf,cd8,cd9,cd10,(fun h1 => (f_g.out h1).past bx),nf2,(fun h0 h1 => (f_lx.out h0 h1).past bx),(fun _ _ => tx_one w _ next xa cn xc),rf,(fun h0 => (f_lo2.out h0).past bx),(fun h0 => (f_s.out h0).past bx),f_o8,f_q4,(f_kb.out.past bx),(f_t.out.past bx),(f_c.out.past bx)⟩
   · have hf' : b8 = false := hf
     subst hf'
     have d4 : b4 = true := hd ⟨4, .data⟩ (by simp) rfl
     subst d4
     have d7 : b7 = true := hd ⟨7, .data⟩ (by simp) rfl
     subst d7
     have d6 : b6 = true := hd ⟨6, .chain⟩ (by simp) rfl
     subst d6
     obtain rfl := cd4.out rfl
     obtain rfl := cd7.out rfl
     obtain rfl := cd6.out rfl
     clear hf hd
     have W_lx := f_lx.out rfl rfl
     have W_ls := f_ls.out rfl rfl
     have W_o6 := f_o6.out rfl
     have W_kb := f_kb.out
     have W_t := f_t.out
     have W_c := f_c.out
     try simp only [setIfInBounds_toArray, set_cons_zero, set_cons_succ]
     obtain ⟨bt9, hbt9, happ9⟩ := W_lx.app (Nat.le_trans hBw hb.size) next
     intro K hK
     rw [if_pos (by rfl)]
     refine wp_append_r (E := ETx) _ _ 25 25 rfl rowTyTx rfl hbt9 (Nat.le_trans hBw hb.size) _ rfl 1 [(next,⟨xa,cn,xc⟩)] (W_ls.src Tryz.underlying25) rfl (by omega) (on + 1) rfl (bt9 ++ [(next,⟨xa,cn,xc⟩)]) rfl (by omega) fun q9 r9 w2 o8 g8 f8 k8 => ?_
     have hb2 := hb.trans (k8.mono (Nat.le_of_lt hgB))
     exact hK.out _ _ ⟨b0,b1,b2,b3,true,b5,true,true,true,b9,b10,b11,x22,x23,x24,x25,.slice oa2 on oc2,x27,.agg #[.int .i64 next,.slice xa cn xc],.slice (some ⟨gs,0,none⟩) 1 1,(.slice (some ⟨q9,0,none⟩) (on + 1) r9),x31,x32,xa,xc,gs,q9,r9,(by go_simp),(by go_simp),hb2,cd0,cd1,cd2,cd3,rf,cd5,rf,rf,rf,cd9,cd10,(fun h1 => Bk.past9 (f_g.out h1) k8 hgB),nf2,(fun _ h => by cases h),(fun _ h => by cases h),f_o6,(fun _ => happ9 _ _ _ o8 g8 f8),(fun h0 => absurd (f_o8.out h0) (by simp)),rf,f_q4,((f_kb.out).row g8 W_lx.neO),(Bk.grown f_t.out g8 (fun e => (W_lx.neO _ e.symm).2 rfl)),((f_c.out).same sm_DC (fun k hk hq => g8.block k hk (fun e => by have := (W_lx.neO _ e.symm).1; omega)))⟩
   · have hf' : b9 = false := hf
     subst hf'
     have d0 : b0 = true := hd ⟨0, .data⟩ (by simp) rfl
     subst d0
     have d1 : b1 = true := hd ⟨1, .phase⟩ (by simp) rfl
     subst d1
     have d2 : b2 = true := hd ⟨2, .phase⟩ (by simp) rfl
     subst d2
     have d3 : b3 = true := hd ⟨3, .phase⟩ (by simp) rfl
     subst d3
     have d4 : b4 = true := hd ⟨4, .phase⟩ (by simp) rfl
     subst d4
     have d5 : b5 = true := hd ⟨5, .phase⟩ (by simp) rfl
     subst d5
     have d6 : b6 = true := hd ⟨6, .phase⟩ (by simp) rfl
     subst d6
     have d7 : b7 = true := hd ⟨7, .phase⟩ (by simp) rfl
     subst d7
     have d8 : b8 = true := hd ⟨8, .phase⟩ (by simp) rfl
     subst d8
     obtain rfl := cd0.out rfl
     obtain rfl := cd1.out rfl
     obtain rfl := cd2.out rfl
     obtain rfl := cd3.out rfl
     obtain rfl := cd4.out rfl
     obtain rfl := cd5.out rfl
     obtain rfl := cd6.out rfl
     obtain rfl := cd7.out rfl
     obtain rfl := cd8.out rfl
     clear hf hd
     have W_o6 := f_o6.out rfl
     have W_lo2 := f_lo2.out rfl
     have W_kb := f_kb.out
     have W_t := f_t.out
     have W_c := f_c.out
     intro K hK
     rw [if_pos (by rfl)]
     go_simp
     exact hK.out _ _ ⟨true,true,true,true,true,true,true,true,true,true,b10,b11,.pointer (some ⟨g,3,none⟩),.pointer (some ⟨g,3,none⟩),.pointer (some ⟨g,3,none⟩),.pointer (some ⟨g,4,none⟩),.slice oa2 on oc2,.agg #[.int .i64 next,.slice ca cn cc],.agg #[.int .i64 next,.slice xa cn xc],.slice (some ⟨gs,0,none⟩) 1 1,.slice (some ⟨gq,0,none⟩) (on + 1) cq,(.pointer (some ⟨g,3,none⟩)),x32,xa,xc,gs,gq,cq,(by go_simp),(by go_simp),hb,rf,rf,rf,rf,rf,rf,rf,rf,rf,rf,cd10,f_g,nf2,(fun _ h => by cases h),(fun _ h => by cases h),f_o6,f_lo2,f_s,f_o8,f_q4,f_kb,f_t,f_c⟩
   · have hf' : b10 = false := hf
     subst hf'
     have d9 : b9 = true := hd ⟨9, .data⟩ (by simp) rfl
     subst d9
     have d0 : b0 = true := hd ⟨0, .phase⟩ (by simp) rfl
     subst d0
     have d1 : b1 = true := hd ⟨1, .phase⟩ (by simp) rfl
     subst d1
     have d2 : b2 = true := hd ⟨2, .phase⟩ (by simp) rfl
     subst d2
     have d3 : b3 = true := hd ⟨3, .phase⟩ (by simp) rfl
     subst d3
     have d4 : b4 = true := hd ⟨4, .phase⟩ (by simp) rfl
     subst d4
     have d5 : b5 = true := hd ⟨5, .phase⟩ (by simp) rfl
     subst d5
     have d6 : b6 = true := hd ⟨6, .phase⟩ (by simp) rfl
     subst d6
     have d7 : b7 = true := hd ⟨7, .phase⟩ (by simp) rfl
     subst d7
     have d8 : b8 = true := hd ⟨8, .phase⟩ (by simp) rfl
     subst d8
     obtain rfl := cd9.out rfl
     obtain rfl := cd0.out rfl
     obtain rfl := cd1.out rfl
     obtain rfl := cd2.out rfl
     obtain rfl := cd3.out rfl
     obtain rfl := cd4.out rfl
     obtain rfl := cd5.out rfl
     obtain rfl := cd6.out rfl
     obtain rfl := cd7.out rfl
     obtain rfl := cd8.out rfl
     clear hf hd
     have W_o6 := f_o6.out rfl
     have W_lo2 := f_lo2.out rfl
     have W_kb := f_kb.out
     have W_t := f_t.out
     have W_c := f_c.out
     intro K hK
     rw [if_pos (by rfl)]
     go_simp
     exact hK.out _ _ ⟨true,true,true,true,true,true,true,true,true,true,true,b11,.pointer (some ⟨g,3,none⟩),.pointer (some ⟨g,3,none⟩),.pointer (some ⟨g,3,none⟩),.pointer (some ⟨g,4,none⟩),.slice oa2 on oc2,.agg #[.int .i64 next,.slice ca cn cc],.agg #[.int .i64 next,.slice xa cn xc],.slice (some ⟨gs,0,none⟩) 1 1,.slice (some ⟨gq,0,none⟩) (on + 1) cq,.pointer (some ⟨g,3,none⟩),(.pointer (some ⟨g,4,none⟩)),xa,xc,gs,gq,cq,(by go_simp),(by go_simp),hb,rf,rf,rf,rf,rf,rf,rf,rf,rf,rf,rf,f_g,nf2,(fun _ h => by cases h),(fun _ h => by cases h),f_o6,f_lo2,f_s,f_o8,f_q4,f_kb,f_t,f_c⟩
   · have hf' : b11 = false := hf
     subst hf'
     have d10 : b10 = true := hd ⟨10, .data⟩ (by simp) rfl
     subst d10
     have d8 : b8 = true := hd ⟨8, .data⟩ (by simp) rfl
     subst d8
     have d0 : b0 = true := hd ⟨0, .phase⟩ (by simp) rfl
     subst d0
     have d1 : b1 = true := hd ⟨1, .phase⟩ (by simp) rfl
     subst d1
     have d2 : b2 = true := hd ⟨2, .phase⟩ (by simp) rfl
     subst d2
     have d3 : b3 = true := hd ⟨3, .phase⟩ (by simp) rfl
     subst d3
     have d4 : b4 = true := hd ⟨4, .phase⟩ (by simp) rfl
     subst d4
     have d5 : b5 = true := hd ⟨5, .phase⟩ (by simp) rfl
     subst d5
     have d6 : b6 = true := hd ⟨6, .phase⟩ (by simp) rfl
     subst d6
     have d7 : b7 = true := hd ⟨7, .phase⟩ (by simp) rfl
     subst d7
     obtain rfl := cd10.out rfl
     obtain rfl := cd8.out rfl
     obtain rfl := cd0.out rfl
     obtain rfl := cd1.out rfl
     obtain rfl := cd2.out rfl
     obtain rfl := cd3.out rfl
     obtain rfl := cd4.out rfl
     obtain rfl := cd5.out rfl
     obtain rfl := cd6.out rfl
     obtain rfl := cd7.out rfl
     clear hf hd
     have W_g := f_g.out rfl
     have W_o6 := f_o6.out rfl
     have W_lo2 := f_lo2.out rfl
     have W_kb := f_kb.out
     have W_t := f_t.out
     have W_c := f_c.out
     try simp only [setIfInBounds_toArray, set_cons_zero, set_cons_succ]
     have z4 : w.cell? ⟨g, 4, none⟩ = some (.slice oa2 on oc2) := W_g.c rfl
     have fz := free_blk (i := 4) W_g
     intro K hK
     rw [if_pos (by rfl)]
     go_simp
     have g9 := grown_cell (grown_self w g) 4 (.slice (some ⟨gq, 0, none⟩) (on + 1) cq)
     have hb2 := hb.grown g9 (Nat.le_trans hB0 hb.size) (fun z hz => by cases hz; exact Nat.le_refl _)
     exact hK.out _ _ ⟨true,true,true,true,true,true,true,true,true,b9,true,true,.pointer (some ⟨g,3,none⟩),.pointer (some ⟨g,3,none⟩),.pointer (some ⟨g,3,none⟩),.pointer (some ⟨g,4,none⟩),.slice oa2 on oc2,.agg #[.int .i64 next,.slice ca cn cc],.agg #[.int .i64 next,.slice xa cn xc],.slice (some ⟨gs,0,none⟩) 1 1,.slice (some ⟨gq,0,none⟩) (on + 1) cq,x31,.pointer (some ⟨g,4,none⟩),xa,xc,gs,gq,cq,(by go_simp),(by go_simp),hb2,rf,rf,rf,rf,rf,rf,rf,rf,rf,cd9,rf,nf2,nf2,(fun _ h => by cases h),(fun _ h => by cases h),f_o6,(fun h0 => ((f_lo2.out h0)).grown g9 hgB),(fun _ => df_set W_g 4 _ rfl),rf,rf,((f_kb.out).grown g9),(Bk.grown f_t.out g9 htg),((f_c.out).grown g9 (fun h9 => h9.1 rfl))⟩
 · rintro act V4 ⟨b0,b1,b2,b3,b4,b5,b6,b7,b8,b9,b10,b11,x22,x23,x24,x25,x26,x27,x28,x29,x30,x31,x32,xa,xc,gs,gq,cq,hL,rfl,hb,cd0,cd1,cd2,cd3,cd4,cd5,cd6,cd7,cd8,cd9,cd10,f_g,f_lo,f_lx,f_ls,f_o6,f_lo2,f_s,f_o8,f_q4,f_kb,f_t,f_c⟩
   have hL' : [true, true, true, true, true, true, true, true, true, true, true, true] = [b0, b1, b2, b3, b4, b5, b6, b7, b8, b9, b10, b11] := congrArg Array.toList hL
   simp only [List.cons.injEq, and_true] at hL'
   obtain ⟨rfl, rfl, rfl, rfl, rfl, rfl, rfl, rfl, rfl, rfl, rfl, rfl⟩ := hL'
   obtain rfl := cd0.out rfl
   obtain rfl := cd1.out rfl
   obtain rfl := cd2.out rfl
   obtain rfl := cd3.out rfl
   obtain rfl := cd4.out rfl
   obtain rfl := cd5.out rfl
   obtain rfl := cd6.out rfl
   obtain rfl := cd7.out rfl
   obtain rfl := cd8.out rfl
   obtain rfl := cd9.out rfl
   obtain rfl := cd10.out rfl
   have W_o6 := f_o6.out rfl
   have W_lo2 := f_lo2.out rfl
   have W_s := f_s.out rfl
   have W_o8 := f_o8.out rfl
   have W_q4 := f_q4.out rfl
   have W_kb := f_kb.out
   have W_t := f_t.out
   have W_c := f_c.out
   clear hL f_g f_lo f_lx f_ls f_o6 f_lo2 f_s f_o8 f_q4 f_kb f_t f_c cd0 cd1 cd2 cd3 cd4 cd5 cd6 cd7 cd8 cd9 cd10
   simp only [setIfInBounds_toArray, set_cons_zero, set_cons_succ]
   have BV : Below g w3 V4 := (Below.refl _ _).drew.trans hb
   have B5 := B4.trans BV
   have X5 : Bk V4 g (dfC 1 0 nx (some ⟨gq, 0, none⟩) (on + 1) cq ba2 bn bc2 ta2 tn tc2) 115 := W_s
   have L5 : LgX V4 B9 tb (some ⟨gq, 0, none⟩) (on + 1) cq ba2 bn bc2 ta2 tn tc2 (⟨nx, M.op ++ [(next, cl)], M.bl, M.ts⟩ : Lgr) := LgX.nx W_lo2 nx
   have K5 : SameB B9 tb g w3 V4 := W_kb
   have T5 : Bk V4 tb #[.int .i64 next, .slice ca cn cc] 45 := W_t
   have C5 : IsD DC V4 (fun k => k ≠ g ∧ k < B9) ca cn cc cl := W_c
   have R5 : Bk V4 r #[.int .i64 0, .slice none 0 0] 45 := (K5.same r (.inl hrB) (by omega)).trans hR
   clear hb W_s W_lo2 W_o8 W_q4 W_o6 W_kb W_t W_c BV hX hLo hc hR hT' B4 hB0 hBw
   generalize V4 = w4 at B5 X5 L5 K5 T5 C5 R5 ⊢
   have hBw := K5.hB
   obtain ⟨d3, d4, d5, d6⟩ := df_cells X5
   have hop : M.op ++ [(next, cl)] ≠ [] := by simp
   have hopl : (M.op ++ [(next, cl)]).length = on + 1 := by rw [List.length_append, hon]; rfl
   by_cases hz : on + 1 = 4
   · have hzi : ((on : Int) + 1 = 4) := by omega
     have hzi2 : (((on + 1 : Nat) : Int) = 4) := by omega
     have hL5 : LgOk (⟨nx,M.op ++ [(next,cl)],M.bl,M.ts⟩ : Lgr) := ⟨by rw [hopl]; omega,hL.bl,hL.ts,fun x hx => (List.mem_append.1 hx).elim (hL.tx x) (fun h9 => by rw [List.mem_singleton.1 h9]; exact hcl),hL.txs⟩
     have hA : addL M cl = ⟨nx, [], M.bl ++ [newB (⟨nx, M.op ++ [(next, cl)], M.bl, M.ts⟩ : Lgr)], M.ts ++ [M.op ++ [(next, cl)]]⟩ := by
      have h1 : addL M cl = cls ⟨M.next + 1, M.op ++ [(M.next, cl)], M.bl, M.ts⟩ := if_pos (by rw [hnx, hopl, hz])
      rw [h1, hnx, hnx2]
      exact if_neg hop
     go_upto_region 7 with (go_at_call 50; refine (dclose_some w4 g B9 tb (fun w' hb' => hCg w' (((B0.mono (Nat.le_of_lt hgw)).trans B5).trans hb')) 1 nx (some ⟨gq,0,none⟩) (on + 1) cq ba2 bn bc2 ta2 tn tc2 _ X5 hgB (Nat.succ_pos _) (own_at1 w4 g B9 tb nx _ _ _ _ _ _ _ _ _ _ X5 L5 hBw) hL5).mono ?_; rintro e w6 ⟨oa6,on6,oc6,ba6,bn6,bc6,ta6,tn6,tc6,rfl,X6,L6,B6,hB6,K6⟩)
     have T6 : Bk w6 tb #[.int .i64 next, .slice ca cn cc] 45 := (K6.same tb (.inr rfl) (by omega)).trans T5
     have R6 : Bk w6 r #[.int .i64 0, .slice none 0 0] 45 := (K6.same r (.inl hrB) (by omega)).trans R5
     have C6 := C5.same sm_DC (fun k hk hq => K6.same k (.inl hq.2) hq.1)
     have t0 : w6.cell? ⟨tb, 0, none⟩ = some (.int .i64 next) := T6.c rfl
     have t1 : w6.cell? ⟨tb, 1, none⟩ = some (.slice ca cn cc) := T6.c rfl
     go_wp2_with (go_at_call 88; refine (copyTx_any w6 _ next ca cn cc cl C6 hcn hcs).mono ?_; rintro e w7 ⟨a9,c9,rfl,o9,bx⟩; have R7 : Bk w7 r #[.int .i64 0,.slice none 0 0] 45 := R6.past bx; obtain ⟨f0,f1⟩ : w7.frozen? ⟨r,0,none⟩ = false ∧ w7.frozen? ⟨r,1,none⟩ = false := ⟨free_blk R7,free_blk R7⟩; obtain ⟨e0,e1⟩ : w7.cell? ⟨r,0,none⟩ = some (.int .i64 0) ∧ w7.cell? ⟨r,1,none⟩ = some (.slice none 0 0) := ⟨R7.c rfl,R7.c rfl⟩)
     have g7 : w7.grownBy ((w7.setCell ⟨r, 0, none⟩ (.int .i64 next)).setCell ⟨r, 1, none⟩ (.slice a9 cn c9)) (some r) := grown_cell (grown_cell (grown_self _ _) _ _) _ _
     have R8 : Bk ((w7.setCell ⟨r, 0, none⟩ (.int .i64 next)).setCell ⟨r, 1, none⟩ (.slice a9 cn c9)) r #[.int .i64 next, .slice a9 cn c9] 45 := by
      have h5 := heap_setCell_same (i := 1) (v := .slice a9 cn c9) (heap_setCell_same (i := 0) (v := .int .i64 next) R7)
      exact h5
     have X8 := (X6.past bx).grown g7 (fun e => by have := Option.some.inj e; omega)
     have L8 := ((L6.rIn.past bx).grown g7 (fun h9 => by have := h9.1; omega)).imp (Q' := fun k => w.heap.size < k ∧ k < w6.heap.size) (fun k _ hk => ⟨by have := hk.1; omega, hk.2⟩)
     have o8 := o9.grown g7 (show ¬ w6.heap.size ≤ r by have := R6.lt; omega)
     have B8 : Below g w ((w7.setCell ⟨r,0,none⟩ (.int .i64 next)).setCell ⟨r,1,none⟩ (.slice a9 cn c9)) := (((B0.mono (Nat.le_of_lt hgw)).trans (B5.trans B6)).trans (bx.mono (by have := X6.lt; omega))).grown g7 (by have := R7.lt; omega) (fun z hz => by cases hz; omega)
     have hr8 : w.heap.size < w6.heap.size := by have := R6.lt; omega
     generalize ((w7.setCell ⟨r, 0, none⟩ (.int .i64 next)).setCell ⟨r, 1, none⟩ (.slice a9 cn c9)) = w8 at R8 X8 L8 o8 B8 ⊢
     obtain ⟨q0, q1⟩ : w8.cell? ⟨r, 0, none⟩ = some (.int .i64 next) ∧ w8.cell? ⟨r, 1, none⟩ = some (.slice a9 cn c9) := ⟨R8.c rfl, R8.c rfl⟩
     refine bodyPost_ret (v := .agg #[.int .i64 next, .slice a9 cn c9]) (by simp [results, Tryz.results52, go_sem, q0, q1]) rfl ?_
     unfold AddedIs
     rw [hA, hnx2]
     exact ⟨_, _, _, _, _, _, _, _, _, _, _, _, rfl, X8, L8, o8, B8, hr8⟩
   · have hzi : ¬ ((on : Int) + 1 = 4) := by omega
     have hzi2 : ¬ (((on + 1 : Nat) : Int) = 4) := by omega
     have hA : addL M cl = (⟨nx, M.op ++ [(next, cl)], M.bl, M.ts⟩ : Lgr) := by
      have h1 : addL M cl = ⟨M.next + 1, M.op ++ [(M.next, cl)], M.bl, M.ts⟩ := if_neg (by rw [hnx, hopl]; exact hz)
      rw [h1, hnx, hnx2]
     go_upto_region 7 with fail
     have T6 : Bk w4 tb #[.int .i64 next, .slice ca cn cc] 45 := T5
     have R6 : Bk w4 r #[.int .i64 0, .slice none 0 0] 45 := R5
     have C6 := C5
     have t0 : w4.cell? ⟨tb, 0, none⟩ = some (.int .i64 next) := T6.c rfl
     have t1 : w4.cell? ⟨tb, 1, none⟩ = some (.slice ca cn cc) := T6.c rfl
     go_wp2_with (go_at_call 88; refine (copyTx_any w4 _ next ca cn cc cl C6 hcn hcs).mono ?_; rintro e w7 ⟨a9,c9,rfl,o9,bx⟩; have R7 : Bk w7 r #[.int .i64 0,.slice none 0 0] 45 := R6.past bx; obtain ⟨f0,f1⟩ : w7.frozen? ⟨r,0,none⟩ = false ∧ w7.frozen? ⟨r,1,none⟩ = false := ⟨free_blk R7,free_blk R7⟩; obtain ⟨e0,e1⟩ : w7.cell? ⟨r,0,none⟩ = some (.int .i64 0) ∧ w7.cell? ⟨r,1,none⟩ = some (.slice none 0 0) := ⟨R7.c rfl,R7.c rfl⟩)
     have g7 : w7.grownBy ((w7.setCell ⟨r, 0, none⟩ (.int .i64 next)).setCell ⟨r, 1, none⟩ (.slice a9 cn c9)) (some r) := grown_cell (grown_cell (grown_self _ _) _ _) _ _
     have R8 : Bk ((w7.setCell ⟨r, 0, none⟩ (.int .i64 next)).setCell ⟨r, 1, none⟩ (.slice a9 cn c9)) r #[.int .i64 next, .slice a9 cn c9] 45 := by
      have h5 := heap_setCell_same (i := 1) (v := .slice a9 cn c9) (heap_setCell_same (i := 0) (v := .int .i64 next) R7)
      exact h5
     have X8 := (X5.past bx).grown g7 (fun e => by have := Option.some.inj e; omega)
     have L8 := ((L5.rIn.past bx).grown g7 (fun h9 => by have := h9.1; omega)).imp (Q' := fun k => w.heap.size < k ∧ k < w4.heap.size) (fun k _ hk => ⟨by have := hk.1; omega, hk.2⟩)
     have o8 := o9.grown g7 (show ¬ w4.heap.size ≤ r by have := R6.lt; omega)
     have B8 : Below g w ((w7.setCell ⟨r,0,none⟩ (.int .i64 next)).setCell ⟨r,1,none⟩ (.slice a9 cn c9)) := (((B0.mono (Nat.le_of_lt hgw)).trans B5).trans (bx.mono (by have := X5.lt; omega))).grown g7 (by have := R7.lt; omega) (fun z hz => by cases hz; omega)
     have hr8 : w.heap.size < w4.heap.size := by have := R6.lt; omega
     generalize ((w7.setCell ⟨r, 0, none⟩ (.int .i64 next)).setCell ⟨r, 1, none⟩ (.slice a9 cn c9)) = w8 at R8 X8 L8 o8 B8 ⊢
     obtain ⟨q0, q1⟩ : w8.cell? ⟨r, 0, none⟩ = some (.int .i64 next) ∧ w8.cell? ⟨r, 1, none⟩ = some (.slice a9 cn c9) := ⟨R8.c rfl, R8.c rfl⟩
     refine bodyPost_ret (v := .agg #[.int .i64 next, .slice a9 cn c9]) (by simp [results, Tryz.results52, go_sem, q0, q1]) rfl ?_
     unfold AddedIs
     rw [hA, hnx2]
     exact ⟨_, _, _, _, _, _, _, _, _, _, _, _, rfl, X8, L8, o8, B8, hr8⟩
inductive LAdT3 (B : Nat) (g : Nat) (tb : Nat) (q : Nat) (r : Nat) (k0 : Nat) (next : Int) (nx : Int) (oa2 : Option Addr) (on2 : Nat) (oc2 : Nat) (ba2 : Option Addr) (bn2 : Nat) (bc2 : Nat) (ta2 : Option Addr) (tn2 : Nat) (tc2 : Nat) (xa : Option Addr) (cn : Nat) (xc : Nat) (cl : List Chg) (A : Lgr) (a0 : Act) (w0 : World) (L : Array Bool) (a : Act) (w : World) : Prop
 | mk (b0 b1 b2 b3 b4 b5 : Bool) (x12 x13 x14 x15 : Value) (hL : L = #[b0,b1,b2,b3,b4,b5]) (ha : a = ⟨((((a0.tmps.setIfInBounds 12 x12).setIfInBounds 13 x13).setIfInBounds 14 x14).setIfInBounds 15 x15),a0.defers⟩) (hb : Below B w0 w) (cd0 : Hid (b0 = true → x12 = .pointer (some ⟨g,3,none⟩))) (cd1 : Hid (b1 = true → x13 = .pointer (some ⟨g,3,none⟩))) (cd2 : Hid (b2 = true → x14 = .agg #[.int .i64 nx,.slice oa2 on2 oc2,.slice ba2 bn2 bc2,.slice ta2 tn2 tc2])) (cd3 : Hid (b3 = true → x15 = .agg #[.int .i64 next,.slice xa cn xc])) (f_g : Hid (Bk w g (dfC 1 0 nx oa2 on2 oc2 ba2 bn2 bc2 ta2 tn2 tc2) 115)) (f_t : Hid (Bk w tb #[.int .i64 next,.slice xa cn xc] 45)) (f_q : Hid (b4 = false → Bk w q #[.int .i64 0,.slice none 0 0,.slice none 0 0,.slice none 0 0] 29)) (f_r : Hid (b5 = false → Bk w r #[.int .i64 0,.slice none 0 0] 45)) (f_s : Hid (b4 = true → Bk w q #[.int .i64 nx,.slice oa2 on2 oc2,.slice ba2 bn2 bc2,.slice ta2 tn2 tc2] 29)) (f_u : Hid (b5 = true → Bk w r #[.int .i64 next,.slice xa cn xc] 45)) (f_lr : Hid (LgR w (fun k => g < k ∧ k < k0) oa2 on2 oc2 ba2 bn2 bc2 ta2 tn2 tc2 A)) (f_o : Hid (IsD DC w (FrG k0) xa cn xc cl)) : LAdT3 B g tb q r k0 next nx oa2 on2 oc2 ba2 bn2 bc2 ta2 tn2 tc2 xa cn xc cl A a0 w0 L a w
theorem szTx : (Tryz.prog.info? 45).map (·.size) = some 2 := by kernel_rfl
def LedgIn (w : World) (B k0 : Nat) (M : Lgr) (v : Value) : Prop :=
 ∃ oa on oc ba bn bc ta tn tc, v = .agg #[.int .i64 M.next, .slice oa on oc, .slice ba bn bc, .slice ta tn tc] ∧ LgR w (fun k => B ≤ k ∧ k < k0) oa on oc ba bn bc ta tn tc M
def AddIs (w : World) (next : Int) (M : Lgr) (cn : Nat) (cl : List Chg) (e : Ending) (w' : World) : Prop :=
 ∃ k0 v xa xc, e = .returned (.tuple #[v, .agg #[.int .i64 next, .slice xa cn xc]]) ∧ LedgIn w' w.heap.size k0 (addL M cl) v ∧ IsD DC w' (FrG k0) xa cn xc cl ∧ Below w.heap.size w w'
theorem addL_next (M : Lgr) (cl : List Chg) : (addL M cl).next = M.next + 1 := by
 simp only [addL, cls]
 split
 · split <;> rfl
 · rfl
set_option maxRecDepth 100000 in
set_option maxHeartbeats 2000000 in
theorem add_any (w : World) (hC : RC w) (Q : Nat → Prop) (next : Int) (oa : Option Addr) (on oc : Nat) (ba : Option Addr) (bn bc : Nat) (ta : Option Addr) (tn tc : Nat) (ca : Option Addr) (cn cc : Nat) (cl : List Chg) (M : Lgr) (hnx : M.next = next) (hlo : 0 ≤ next) (hhi : next ≤ 1000000) (h : LgR w Q oa on oc ba bn bc ta tn tc M) (hL : LgOk M) (hcl : TxOk (next,cl)) (hc : IsD DC w Q ca cn cc cl) :
 Calls Tryz.prog 19 #[.agg #[.int .i64 next, .slice oa on oc, .slice ba bn bc, .slice ta tn tc], .slice ca cn cc] w (AddIs w next M cn cl) := by
 have B0 : Below w.heap.size w (((w.alloc (.cells #[.int .i64 next,.slice oa on oc,.slice ba bn bc,.slice ta tn tc] 29)).alloc (.cells #[.int .i64 0,.slice none 0 0,.slice none 0 0,.slice none 0 0] 29)).alloc (.cells #[.int .i64 0,.slice none 0 0] 45)) := (((Below.refl _ _).alloc (Nat.le_refl _) _).alloc (by simp) _).alloc (by simp; omega) _
 have hP : Bk (((w.alloc (.cells #[.int .i64 next,.slice oa on oc,.slice ba bn bc,.slice ta tn tc] 29)).alloc (.cells #[.int .i64 0,.slice none 0 0,.slice none 0 0,.slice none 0 0] 29)).alloc (.cells #[.int .i64 0,.slice none 0 0] 45)) w.heap.size #[.int .i64 next,.slice oa on oc,.slice ba bn bc,.slice ta tn tc] 29 := ((Bk.new w _ _).alloc _).alloc _
 have hQ : Bk (((w.alloc (.cells #[.int .i64 next,.slice oa on oc,.slice ba bn bc,.slice ta tn tc] 29)).alloc (.cells #[.int .i64 0,.slice none 0 0,.slice none 0 0,.slice none 0 0] 29)).alloc (.cells #[.int .i64 0,.slice none 0 0] 45)) (w.heap.size + 1) #[.int .i64 0,.slice none 0 0,.slice none 0 0,.slice none 0 0] 29 := by
  have := Bk.new (w.alloc (.cells #[.int .i64 next,.slice oa on oc,.slice ba bn bc,.slice ta tn tc] 29)) #[.int .i64 0,.slice none 0 0,.slice none 0 0,.slice none 0 0] 29
  rw [World.size_alloc] at this
  exact this.alloc _
 have hR : Bk (((w.alloc (.cells #[.int .i64 next,.slice oa on oc,.slice ba bn bc,.slice ta tn tc] 29)).alloc (.cells #[.int .i64 0,.slice none 0 0,.slice none 0 0,.slice none 0 0] 29)).alloc (.cells #[.int .i64 0,.slice none 0 0] 45)) (w.heap.size + 1 + 1) #[.int .i64 0,.slice none 0 0] 45 := by
  have := Bk.new ((w.alloc (.cells #[.int .i64 next,.slice oa on oc,.slice ba bn bc,.slice ta tn tc] 29)).alloc (.cells #[.int .i64 0,.slice none 0 0,.slice none 0 0,.slice none 0 0] 29)) #[.int .i64 0,.slice none 0 0] 45
  rwa [World.size_alloc, World.size_alloc] at this
 have h1 := h.past B0
 have hc1 := hc.past B0
 go_enter Tryz.func19, Tryz.ntmps19
 go_upto_region 1 with fail
 generalize (((w.alloc (.cells #[.int .i64 next,.slice oa on oc,.slice ba bn bc,.slice ta tn tc] 29)).alloc (.cells #[.int .i64 0,.slice none 0 0,.slice none 0 0,.slice none 0 0] 29)).alloc (.cells #[.int .i64 0,.slice none 0 0] 45)) = W at B0 hP hQ hR h1 hc1 ⊢
 have hCW := hC.past B0
 obtain ⟨p, hp⟩ : ∃ p, w.heap.size = p := ⟨_, rfl⟩
 obtain ⟨q, hq⟩ : ∃ q, p + 1 = q := ⟨_, rfl⟩
 obtain ⟨r, hr⟩ : ∃ r, q + 1 = r := ⟨_, rfl⟩
 have HG := Lib.hid hp
 rw [hp] at hP hQ hR B0
 rw [hq] at hQ hR
 rw [hr] at hR
 simp only [hp, hq, hr]
 have hpq : p < q := by omega
 have hqr2 : q < r := by omega
 clear hp hq hr h hc
 have hrW := hR.lt
 obtain ⟨c0,c1,c2,c3⟩ : W.cell? ⟨p,0,none⟩ = some (.int .i64 next) ∧ W.cell? ⟨p,1,none⟩ = some (.slice oa on oc) ∧ W.cell? ⟨p,2,none⟩ = some (.slice ba bn bc) ∧ W.cell? ⟨p,3,none⟩ = some (.slice ta tn tc) := ⟨hP.c rfl,hP.c rfl,hP.c rfl,hP.c rfl⟩
 go_upto_region 2 with fail
 have X : Bk (W.alloc (.cells #[.int .u32 0,.int .i32 0,.int .u32 0,.int .i64 next,.slice oa on oc,.slice ba bn bc,.slice ta tn tc] 115)) W.heap.size (dfC 0 0 next oa on oc ba bn bc ta tn tc) 115 := Bk.new W _ _
 have hBV : Below W.heap.size W (W.alloc (.cells #[.int .u32 0,.int .i32 0,.int .u32 0,.int .i64 next,.slice oa on oc,.slice ba bn bc,.slice ta tn tc] 115)) := (Below.refl _ W).alloc (Nat.le_refl _) _
 have h2 := (h1.imp (Q' := fun b => b ≠ W.heap.size) (fun k hk _ => Nat.ne_of_lt hk)).past hBV
 have hc2 := (hc1.imp (Q' := fun b => b ≠ W.heap.size) (fun k hk _ => Nat.ne_of_lt hk)).past hBV
 have B1 := B0.alloc (by omega) (.cells #[.int .u32 0, .int .i32 0, .int .u32 0, .int .i64 next, .slice oa on oc, .slice ba bn bc, .slice ta tn tc] 115)
 have hQ2 := hQ.alloc (.cells #[.int .u32 0, .int .i32 0, .int .u32 0, .int .i64 next, .slice oa on oc, .slice ba bn bc, .slice ta tn tc] 115)
 have hR2 := hR.alloc (.cells #[.int .u32 0, .int .i32 0, .int .u32 0, .int .i64 next, .slice oa on oc, .slice ba bn bc, .slice ta tn tc] 115)
 obtain ⟨g, hg⟩ : ∃ g, W.heap.size = g := ⟨_, rfl⟩
 generalize W.alloc (.cells #[.int .u32 0, .int .i32 0, .int .u32 0, .int .i64 next, .slice oa on oc, .slice ba bn bc, .slice ta tn tc] 115) = V at X h2 hc2 B1 hQ2 hR2 hBV ⊢
 simp only [hg] at X h2 hc2 hrW hBV ⊢
 have hCV : ∀ w', Below g V w' → RC w' := fun w' hb => hCW.past (hg.symm ▸ hBV.trans hb)
 clear c0 c1 c2 c3 hP hQ hR h1 hc1 B0
 have hA := dadd_any V g hCV next oa on oc ba bn bc ta tn tc ca cn cc cl M hnx hlo hhi X h2 hL hcl hc2
 have hVg : g < V.heap.size := X.lt
 go_upto_region 3 with (go_at_call 52; refine hA.mono ?_; rintro e w2 ⟨oa2, on2, oc2, ba2, bn2, bc2, ta2, tn2, tc2, xa, xc, k0, rfl, X2, L2, o2, B2, hk0⟩)
 have hQ3 := Bk.alloc ((B2.block q (by omega)).trans hQ2) (.cells #[.int .i64 next, .slice xa cn xc] 45)
 have hR3 := Bk.alloc ((B2.block r (by omega)).trans hR2) (.cells #[.int .i64 next, .slice xa cn xc] 45)
 have X3 := X2.alloc (.cells #[.int .i64 next, .slice xa cn xc] 45)
 have BT : Below w2.heap.size w2 (w2.alloc (.cells #[.int .i64 next, .slice xa cn xc] 45)) := (Below.refl _ _).alloc (Nat.le_refl _) _
 have L3 := (L2.past BT).imp (Q' := fun k => g < k ∧ k < k0) (fun k _ hk => ⟨by have := hk.1; omega, hk.2⟩)
 have o3 := o2.past BT
 have hT : Bk (w2.alloc (.cells #[.int .i64 next, .slice xa cn xc] 45)) w2.heap.size #[.int .i64 next, .slice xa cn xc] 45 := Bk.new w2 _ _
 have hg2 := X2.lt
 have B3 := B1.trans ((B2.mono (show p ≤ g by omega)).trans (BT.mono (by omega)))
 obtain ⟨tb, htb⟩ : ∃ r, w2.heap.size = r := ⟨_, rfl⟩
 rw [htb] at hT hg2
 simp only [htb]
 generalize w2.alloc (.cells #[.int .i64 next, .slice xa cn xc] 45) = w3 at hQ3 hR3 X3 L3 o3 hT B3 ⊢
 have hB0 : q ≤ w3.heap.size := Nat.le_of_lt hQ3.lt
 have hgq : some g ≠ some q := fun e => by have := Option.some.inj e; omega
 have hgr : some g ≠ some r := fun e => by have := Option.some.inj e; omega
 have htq : some tb ≠ some q := fun e => by have := Option.some.inj e; omega
 have htr : some tb ≠ some r := fun e => by have := Option.some.inj e; omega
 have hrq : some r ≠ some q := fun e => by have := Option.some.inj e; omega
 have hqr : some q ≠ some r := fun e => by have := Option.some.inj e; omega
 have hLq : ¬ (g < q ∧ q < k0) := fun e => by omega
 have hLr : ¬ (g < r ∧ r < k0) := fun e => by omega
 have hOq : ¬ FrG k0 q := fun e => by have : k0 ≤ q := e; omega
 have hOr : ¬ FrG k0 r := fun e => by have : k0 ≤ r := e; omega
 have hBq : q ≤ q := Nat.le_refl _
 have hBr : q ≤ r := Nat.le_of_lt hqr2
 obtain ⟨nx, hnx2⟩ : ∃ n, next + 1 = n := ⟨_, rfl⟩
 obtain ⟨A, hAA⟩ : ∃ a, addL M cl = a := ⟨_, rfl⟩
 have hAn : (.agg #[.int .i64 nx,.slice oa2 on2 oc2,.slice ba2 bn2 bc2,.slice ta2 tn2 tc2] : Value) = .agg #[.int .i64 (addL M cl).next,.slice oa2 on2 oc2,.slice ba2 bn2 bc2,.slice ta2 tn2 tc2] := by rw [addL_next,hnx,hnx2]
 rw [hnx2] at X3
 rw [hAA] at L3 hAn
 have HAN := Lib.hid hAn
 have HAA := Lib.hid hAA
 clear hAn hAA
 clear hA X2 L2 o2 B2 hQ2 hR2 X h2 hc2 B1 hBV hCV hCW
 refine region_inv (LAdT3 q g tb q r k0 next nx oa2 on2 oc2 ba2 bn2 bc2 ta2 tn2 tc2 xa cn xc cl A) (by kernel_rfl) (by kernel_rfl) ?_ ?_ ?_
 · exact ⟨false,false,false,false,false,false,undef,undef,undef,undef,rfl,(by go_simp),Below.refl _ _,nf2,nf2,nf2,nf2,(X3.past (Below.refl _ _).drew),(hT.past (Below.refl _ _).drew),(fun h1 => hQ3.past (Below.refl _ _).drew),(fun h1 => hR3.past (Below.refl _ _).drew),nf2,nf2,(L3.past (Below.refl _ _).drew),(o3.past (Below.refl _ _).drew)⟩
 · refine ⟨?_, ?_, ?_, ?_, ?_, ?_, trivial⟩
   all_goals rintro L a w ⟨b0, b1, b2, b3, b4, b5, x12, x13, x14, x15, rfl, rfl, hb, cd0, cd1, cd2, cd3, f_g, f_t, f_q, f_r, f_s, f_u, f_lr, f_o⟩ hf hd
   · have hf' : b0 = false := hf
     subst hf'
     clear hf hd
     have W_g := f_g.out
     have W_t := f_t.out
     have W_lr := f_lr.out
     have W_o := f_o.out
     intro K hK
     rw [if_pos (by rfl)]
     go_simp
     go_at_call 51
     refine (own_done w g nx oa2 on2 oc2 ba2 bn2 bc2 ta2 tn2 tc2 W_g).mono ?_
     rintro e w' ⟨rfl, rfl⟩
     have bx := Below.refl w.heap.size w
     exact hK.out _ _ ⟨true,b1,b2,b3,b4,b5,(.pointer (some ⟨g,3,none⟩)),x13,x14,x15,(by go_simp),(by go_simp),hb.trans (bx.mono (Nat.le_trans hB0 hb.size)),rf,cd1,cd2,cd3,(f_g.out.past bx),(f_t.out.past bx),(fun h1 => (f_q.out h1).past bx),(fun h1 => (f_r.out h1).past bx),(fun h0 => (f_s.out h0).past bx),(fun h0 => (f_u.out h0).past bx),(f_lr.out.past bx),(f_o.out.past bx)⟩
   · have hf' : b1 = false := hf
     subst hf'
     have d0 : b0 = true := hd ⟨0, .data⟩ (by simp) rfl
     subst d0
     obtain rfl := cd0.out rfl
     clear hf hd
     have W_g := f_g.out
     have W_t := f_t.out
     have W_lr := f_lr.out
     have W_o := f_o.out
     intro K hK
     rw [if_pos (by rfl)]
     go_simp
     exact hK.out _ _ ⟨true,true,b2,b3,b4,b5,.pointer (some ⟨g,3,none⟩),(.pointer (some ⟨g,3,none⟩)),x14,x15,(by go_simp),(by go_simp),hb,(fun _ => rfl),(fun _ => rfl),cd2,cd3,f_g,f_t,f_q,f_r,f_s,f_u,f_lr,f_o⟩
   · have hf' : b2 = false := hf
     subst hf'
     have d1 : b1 = true := hd ⟨1, .data⟩ (by simp) rfl
     subst d1
     obtain rfl := cd1.out rfl
     clear hf hd
     have W_g := f_g.out
     have W_t := f_t.out
     have W_lr := f_lr.out
     have W_o := f_o.out
     try simp only [setIfInBounds_toArray, set_cons_zero, set_cons_succ]
     obtain ⟨d3, d4, d5, d6⟩ := df_cells W_g
     intro K hK
     rw [if_pos (by rfl)]
     go_simp
     exact hK.out _ _ ⟨b0,true,true,b3,b4,b5,x12,.pointer (some ⟨g,3,none⟩),(.agg #[.int .i64 nx,.slice oa2 on2 oc2,.slice ba2 bn2 bc2,.slice ta2 tn2 tc2]),x15,(by go_simp),(by go_simp),hb,cd0,(fun _ => rfl),(fun _ => rfl),cd3,f_g,f_t,f_q,f_r,f_s,f_u,f_lr,f_o⟩
   · have hf' : b3 = false := hf
     subst hf'
     clear hf hd
     have W_g := f_g.out
     have W_t := f_t.out
     have W_lr := f_lr.out
     have W_o := f_o.out
     try simp only [setIfInBounds_toArray, set_cons_zero, set_cons_succ]
     have z0 : w.cell? ⟨tb, 0, none⟩ = some (.int .i64 next) := W_t.c rfl
     have z1 : w.cell? ⟨tb, 1, none⟩ = some (.slice xa cn xc) := W_t.c rfl
     intro K hK
     rw [if_pos (by rfl)]
     go_simp
     exact hK.out _ _ ⟨b0,b1,b2,true,b4,b5,x12,x13,x14,(.agg #[.int .i64 next,.slice xa cn xc]),(by go_simp),(by go_simp),hb,cd0,cd1,cd2,(fun _ => rfl),f_g,f_t,f_q,f_r,f_s,f_u,f_lr,f_o⟩
   · have hf' : b4 = false := hf
     subst hf'
     have d2 : b2 = true := hd ⟨2, .data⟩ (by simp) rfl
     subst d2
     have d0 : b0 = true := hd ⟨0, .chain⟩ (by simp) rfl
     subst d0
     have d1 : b1 = true := hd ⟨1, .phase⟩ (by simp) rfl
     subst d1
     obtain rfl := cd2.out rfl
     obtain rfl := cd0.out rfl
     obtain rfl := cd1.out rfl
     clear hf hd
     have W_g := f_g.out
     have W_t := f_t.out
     have W_q := f_q.out rfl
     have W_lr := f_lr.out
     have W_o := f_o.out
     try simp only [setIfInBounds_toArray, set_cons_zero, set_cons_succ]
     have ZZ : Hid (w.heap[q]? = some (.cells #[.int .i64 0, .slice none 0 0, .slice none 0 0, .slice none 0 0] 29 (0, 0))) := Lib.hid W_q
     intro K hK
     rw [if_pos (by rfl)]
     refine wp_store_blkT 29 _ _ rfl q #[.int .i64 0,.slice none 0 0,.slice none 0 0,.slice none 0 0] #[.int .i64 nx,.slice oa2 on2 oc2,.slice ba2 bn2 bc2,.slice ta2 tn2 tc2] rfl rfl 29 ZZ 4 szLgr rfl rfl (by simp [Value.oneCell']) fun w2 h8 b8 => ?_
     have hb2 := hb.grown b8 (Nat.le_trans hB0 hb.size) (fun z hz => by cases hz; exact hBq)
     exact hK.out _ _ ⟨true,true,true,b3,true,b5,.pointer (some ⟨g,3,none⟩),.pointer (some ⟨g,3,none⟩),.agg #[.int .i64 nx,.slice oa2 on2 oc2,.slice ba2 bn2 bc2,.slice ta2 tn2 tc2],x15,(by go_simp),(by go_simp),hb2,rf,rf,rf,cd3,(Bk.grown f_g.out b8 hgq),(Bk.grown f_t.out b8 htq),nf2,(fun h1 => Bk.grown (f_r.out h1) b8 hrq),(fun _ => h8.out),(fun h0 => Bk.grown (f_u.out h0) b8 hrq),((f_lr.out).grown b8 hLq),((f_o.out).grown b8 hOq)⟩
   · have hf' : b5 = false := hf
     subst hf'
     have d3 : b3 = true := hd ⟨3, .data⟩ (by simp) rfl
     subst d3
     have d4 : b4 = true := hd ⟨4, .chain⟩ (by simp) rfl
     subst d4
     have d0 : b0 = true := hd ⟨0, .phase⟩ (by simp) rfl
     subst d0
     have d1 : b1 = true := hd ⟨1, .phase⟩ (by simp) rfl
     subst d1
     have d2 : b2 = true := hd ⟨2, .phase⟩ (by simp) rfl
     subst d2
     obtain rfl := cd3.out rfl
     obtain rfl := cd0.out rfl
     obtain rfl := cd1.out rfl
     obtain rfl := cd2.out rfl
     clear hf hd
     have W_g := f_g.out
     have W_t := f_t.out
     have W_r := f_r.out rfl
     have W_s := f_s.out rfl
     have W_lr := f_lr.out
     have W_o := f_o.out
     try simp only [setIfInBounds_toArray, set_cons_zero, set_cons_succ]
     have ZZ : Hid (w.heap[r]? = some (.cells #[.int .i64 0, .slice none 0 0] 45 (0, 0))) := Lib.hid W_r
     intro K hK
     rw [if_pos (by rfl)]
     refine wp_store_blkT 45 _ _ rfl r #[.int .i64 0, .slice none 0 0] #[.int .i64 next, .slice xa cn xc] rfl rfl 45 ZZ 2 szTx rfl rfl (by simp [Value.oneCell']) fun w2 h8 b8 => ?_
     have hb2 := hb.grown b8 (Nat.le_trans hB0 hb.size) (fun z hz => by cases hz; exact hBr)
     exact hK.out _ _ ⟨true,true,true,true,true,true,.pointer (some ⟨g,3,none⟩),.pointer (some ⟨g,3,none⟩),.agg #[.int .i64 nx,.slice oa2 on2 oc2,.slice ba2 bn2 bc2,.slice ta2 tn2 tc2],.agg #[.int .i64 next,.slice xa cn xc],(by go_simp),(by go_simp),hb2,rf,rf,rf,rf,(Bk.grown f_g.out b8 hgr),(Bk.grown f_t.out b8 htr),nf2,nf2,(fun h0 => Bk.grown (f_s.out h0) b8 hqr),(fun _ => h8.out),((f_lr.out).grown b8 hLr),((f_o.out).grown b8 hOr)⟩
 · rintro act V9 ⟨b0, b1, b2, b3, b4, b5, x12, x13, x14, x15, hL, rfl, hb, cd0, cd1, cd2, cd3, f_g, f_t, f_q, f_r, f_s, f_u, f_lr, f_o⟩
   have hL' : [true, true, true, true, true, true] = [b0, b1, b2, b3, b4, b5] := congrArg Array.toList hL
   simp only [List.cons.injEq, and_true] at hL'
   obtain ⟨rfl, rfl, rfl, rfl, rfl, rfl⟩ := hL'
   obtain rfl := cd0.out rfl
   obtain rfl := cd1.out rfl
   obtain rfl := cd2.out rfl
   obtain rfl := cd3.out rfl
   have W_g := f_g.out
   have W_t := f_t.out
   have W_s := f_s.out rfl
   have W_u := f_u.out rfl
   have W_lr := f_lr.out
   have W_o := f_o.out
   clear hL f_g f_t f_q f_r f_s f_u f_lr f_o cd0 cd1 cd2 cd3
   simp only [setIfInBounds_toArray, set_cons_zero, set_cons_succ]
   have S9 : Bk V9 q #[.int .i64 nx, .slice oa2 on2 oc2, .slice ba2 bn2 bc2, .slice ta2 tn2 tc2] 29 := W_s
   have U9 : Bk V9 r #[.int .i64 next, .slice xa cn xc] 45 := W_u
   have B9 : Below w.heap.size w V9 := (B3.trans (((Below.refl _ _).drew.trans hb).mono (Nat.le_of_lt hpq))).mono (Nat.le_of_eq HG.out)
   obtain ⟨y0,y1,y2,y3⟩ : V9.cell? ⟨q,0,none⟩ = some (.int .i64 nx) ∧ V9.cell? ⟨q,1,none⟩ = some (.slice oa2 on2 oc2) ∧ V9.cell? ⟨q,2,none⟩ = some (.slice ba2 bn2 bc2) ∧ V9.cell? ⟨q,3,none⟩ = some (.slice ta2 tn2 tc2) := ⟨S9.c rfl,S9.c rfl,S9.c rfl,S9.c rfl⟩
   obtain ⟨y4, y5⟩ : V9.cell? ⟨r, 0, none⟩ = some (.int .i64 next) ∧ V9.cell? ⟨r, 1, none⟩ = some (.slice xa cn xc) := ⟨U9.c rfl, U9.c rfl⟩
   go_wp2_with fail
   refine bodyPost_ret (v := .tuple #[.agg #[.int .i64 nx,.slice oa2 on2 oc2,.slice ba2 bn2 bc2,.slice ta2 tn2 tc2],.agg #[.int .i64 next,.slice xa cn xc]]) (by simp [results, Tryz.results19, go_sem,y0,y1,y2,y3,y4,y5]) rfl ?_
   unfold AddIs
   rw [HAA.out]
   refine ⟨k0, _, xa, xc, rfl, ⟨_, _, _, _, _, _, _, _, _, HAN.out, (W_lr).imp (fun k _ hk => ⟨by have := hk.1; have := HG.out; omega, hk.2⟩)⟩, W_o, B9⟩
def wth14 (a n : Int) : Int := if a.tmod n < 0 then a.tmod n + n else a.tmod n
theorem within14_any (a n : Int) (w : World) (hn : 0 < n) (hn2 : n ≤ 1000000) :
 Calls Tryz.prog 16 #[.int .i64 a, .int .i64 n] w fun e w' => e = .returned (.int .i64 (wth14 a n)) ∧ w = w' := by
 have h1 := Int.lt_tmod_of_pos a hn
 have h2 := Int.tmod_lt_of_pos a hn
 have hz : (n == 0) = false := by simp; omega
 by_cases h3 : a.tmod n < 0
 · go_enter Tryz.func16, Tryz.ntmps16
   go_wp2_with fail
   go_ret
   exact ⟨congrArg (fun z => Ending.returned (.int .i64 z)) (by unfold wth14; rw [if_pos h3]), rfl⟩
 · go_enter Tryz.func16, Tryz.ntmps16
   go_wp2_with fail
   go_ret
   exact ⟨congrArg (fun z => Ending.returned (.int .i64 z)) (by unfold wth14; rw [if_neg (by omega)]), rfl⟩
theorem wth14_lt (a n : Int) (hn : 0 < n) : 0 ≤ wth14 a n ∧ wth14 a n < n := by
 have h1 := Int.lt_tmod_of_pos a hn
 have h2 := Int.tmod_lt_of_pos a hn
 unfold wth14
 split <;> omega
def LVar (w : World) (p X : Nat) (M : Lgr) : Prop := ∃ oa on oc ba bn bc ta tn tc,Bk w p #[.int .i64 M.next,.slice oa on oc,.slice ba bn bc,.slice ta tn tc] 29 ∧ LgR w (fun j => X ≤ j) oa on oc ba bn bc ta tn tc M
def chX : Chg := ((⟨#[120]⟩, 1), [])
def kL : Nat → Lgr
 | 0 => ⟨0, [], [], []⟩
 | k + 1 => addL (kL k) [chX]
structure LInv (k : Nat) (M : Lgr) : Prop where
 next : M.next = k
 op : M.op.length < 4
 bl : M.bl.length + M.op.length ≤ k
 ts : M.ts.length = M.bl.length
 tx : ∀ x ∈ M.op, TxOk x
 txs : ∀ l ∈ M.ts, l.length ≤ 4 ∧ ∀ x ∈ l, TxOk x
theorem LInv.ok {k : Nat} {M : Lgr} (h : LInv k M) (hk : k ≤ 200) : LgOk M := ⟨Nat.le_of_lt h.op, by have := h.bl; omega, by have := h.ts; have := h.bl; omega, h.tx, h.txs⟩
theorem LInv.zero : LInv 0 ⟨0, [], [], []⟩ := ⟨rfl, by decide, by decide, rfl, fun x hx => by simp at hx, fun x hx => by simp at hx⟩
theorem LInv.cls' {k : Nat} {M : Lgr} (hn : M.next = k) (ho : M.op.length ≤ 4) (hb : M.bl.length + M.op.length ≤ k) (ht : M.ts.length = M.bl.length) (hx : ∀ x ∈ M.op,TxOk x) (hs : ∀ l ∈ M.ts,l.length ≤ 4 ∧ ∀ x ∈ l,TxOk x) : LInv k (cls M) := by
 unfold cls
 split
 · rename_i h
   exact ⟨hn, by rw [h]; decide, hb, ht, hx, hs⟩
 · rename_i h
   have hp : 0 < M.op.length := List.length_pos_iff.2 h
   refine ⟨hn, by simp, by simp; omega, by simp [ht], fun x hx => by simp at hx, fun l hl => ?_⟩
   rcases List.mem_append.1 hl with hl | hl
   · exact hs l hl
   · rw [List.mem_singleton.1 hl]; exact ⟨ho, hx⟩
theorem LInv.cls {k : Nat} {M : Lgr} (h : LInv k M) : LInv k (cls M) := LInv.cls' h.next (Nat.le_of_lt h.op) h.bl h.ts h.tx h.txs
theorem LInv.add {k : Nat} {M : Lgr} (h : LInv k M) (c : List Chg) (hc : TxOk ((k : Int), c)) : LInv (k + 1) (addL M c) := by
 have hx : ∀ x ∈ M.op ++ [(M.next, c)], TxOk x := fun x hx => by
  rcases List.mem_append.1 hx with hx | hx
  · exact h.tx x hx
  · rw [List.mem_singleton.1 hx, h.next]; exact hc
 have hl : (M.op ++ [(M.next, c)]).length = M.op.length + 1 := by simp
 have hn : M.next + 1 = ((k + 1 : Nat) : Int) := by rw [h.next]; rfl
 have h1 := h.op
 have h2 := h.bl
 simp only [addL]
 split
 · exact LInv.cls' hn (by rw [hl]; omega) (by show M.bl.length + _ ≤ _; rw [hl]; omega) h.ts hx h.txs
 · rename_i h4
   rw [hl] at h4
   exact ⟨hn, by rw [hl]; omega, by show M.bl.length + _ ≤ _; rw [hl]; omega, h.ts, hx, h.txs⟩
theorem txX (k : Int) : TxOk (k, [chX]) := ⟨by simp, fun c hc => by rw [List.mem_singleton.1 hc]; exact ⟨by decide, by decide, fun v hv => by simp [chX] at hv⟩⟩
theorem kL_inv : ∀ k, LInv k (kL k)
 | 0 => LInv.zero
 | k + 1 => (kL_inv k).add _ (txX _)
theorem kL4 : ∃ b t, kL 4 = ⟨4, [], [b], [t]⟩ ∧ b.n = 1 := ⟨_, _, by simp [kL, addL, cls]; exact ⟨rfl, rfl⟩, rfl⟩
theorem chX_is (w : World) (Q : Nat → Prop) (hq : Q w.heap.size) : IsD DC (w.alloc (.cells #[.string ⟨#[120]⟩,.int .i64 1,.slice none 0 0] 67)) Q (some ⟨w.heap.size,0,none⟩) 1 1 [chX] :=
 ⟨[((⟨#[120]⟩,1),⟨none,0,0⟩)],(OwnR.ofBlk (E := ECh) (l := [((⟨#[120]⟩,1),⟨none,0,0⟩)]) (n := 1) (heap_alloc_new w _) rfl rfl (by omega)).isR,fun _ a ha => by cases ha; exact hq,RdD.one ⟨rfl,IsD.nil _ _⟩⟩
theorem dgN_one (b : Blk) : dgN [b] = b.n := rfl
theorem LVar.put {w : World} {p X k0 : Nat} {v0 v1 v2 v3 : Value} {oa : Option Addr} {on oc : Nat} {ba : Option Addr} {bn bc : Nat} {ta : Option Addr} {tn tc : Nat} {M : Lgr} (hP : Bk w p #[v0,v1,v2,v3] 29) (hL : LgR w (fun j => X ≤ j ∧ j < k0) oa on oc ba bn bc ta tn tc M) (hp : p < X) {X' : Nat} (hX : X' ≤ X) :
 LVar ((((w.setCell ⟨p,0,none⟩ (.int .i64 M.next)).setCell ⟨p,1,none⟩ (.slice oa on oc)).setCell ⟨p,2,none⟩ (.slice ba bn bc)).setCell ⟨p,3,none⟩ (.slice ta tn tc)) p X' M ∧ w.grownBy ((((w.setCell ⟨p,0,none⟩ (.int .i64 M.next)).setCell ⟨p,1,none⟩ (.slice oa on oc)).setCell ⟨p,2,none⟩ (.slice ba bn bc)).setCell ⟨p,3,none⟩ (.slice ta tn tc)) (some p) := by
 have g3 : w.grownBy ((((w.setCell ⟨p,0,none⟩ (.int .i64 M.next)).setCell ⟨p,1,none⟩ (.slice oa on oc)).setCell ⟨p,2,none⟩ (.slice ba bn bc)).setCell ⟨p,3,none⟩ (.slice ta tn tc)) (some p) := grown_cell (grown_cell (grown_cell (grown_cell (grown_self _ _) _ _) _ _) _ _) _ _
 have h5 : Bk ((((w.setCell ⟨p,0,none⟩ (.int .i64 M.next)).setCell ⟨p,1,none⟩ (.slice oa on oc)).setCell ⟨p,2,none⟩ (.slice ba bn bc)).setCell ⟨p,3,none⟩ (.slice ta tn tc)) p #[.int .i64 M.next,.slice oa on oc,.slice ba bn bc,.slice ta tn tc] 29 := (heap_setCell_same (i := 3) (v := .slice ta tn tc) (heap_setCell_same (i := 2) (v := .slice ba bn bc) (heap_setCell_same (i := 1) (v := .slice oa on oc) (heap_setCell_same (i := 0) (v := .int .i64 M.next) hP))))
 exact ⟨⟨_, _, _, _, _, _, _, _, _, h5, (hL.grown g3 (fun e => by have := e.1; omega)).imp fun k _ hk => Nat.le_trans hX hk.1⟩, g3⟩
set_option maxRecDepth 100000 in
set_option maxHeartbeats 2000000 in
theorem known14 (w : World) (hC : RC w) : Calls Tryz.prog 13 #[] w fun e w' => e = .returned (.bool true) ∧ Below w.heap.size w w' := by
 have B0 : Below w.heap.size w (w.alloc (.cells #[.int .i64 0, .slice none 0 0, .slice none 0 0, .slice none 0 0] 29)) := (Below.refl _ _).alloc (Nat.le_refl _) _
 have V0 : LVar (w.alloc (.cells #[.int .i64 0,.slice none 0 0,.slice none 0 0,.slice none 0 0] 29)) w.heap.size (w.heap.size + 1) (kL 0) := ⟨_,_,_,_,_,_,_,_,_,Bk.new w _ _,⟨IsD.nil _ _,IsD.nil _ _,IsD.nil _ _⟩⟩
 obtain ⟨p, hp⟩ : ∃ p, w.heap.size = p := ⟨_, rfl⟩
 rw [hp] at B0 V0
 go_enter Tryz.func13, Tryz.ntmps13
 go_upto_region 2 with fail
 try simp only [hp]
 generalize w.alloc (.cells #[.int .i64 0, .slice none 0 0, .slice none 0 0, .slice none 0 0] 29) = W at B0 V0 ⊢
 have HP := Lib.hid hp
 clear hp
 go_wp2_with fail
 go_loopw [2] (fun i wr => ∃ k : Nat, k ≤ 4 ∧ i = .int .i64 (k : Nat) ∧ LVar wr p (p + 1) (kL k) ∧ Below p w wr) (fun i _ => 4 - (intOf i).toNat)
 case atStart => exact ⟨0, by omega, rfl, V0, B0⟩
 case round =>
  obtain ⟨k, hk, rfl, ⟨oa, on, oc, ba, bn, bc, ta, tn, tc, P, R⟩, hB⟩ := hrel
  have hpw := P.lt
  have hCw : RC wr := hC.past (HP.out.symm ▸ hB)
  by_cases hk4 : k < 4
  · have hki : ((k : Int) < 4) := by omega
    have hI := kL_inv k
    have B1 : Below wr.heap.size wr (wr.alloc (.cells #[.string ⟨#[120]⟩, .int .i64 1, .slice none 0 0] 67)) := (Below.refl _ _).alloc (Nat.le_refl _) _
    have HA := Lib.hid (add_any _ (hCw.past B1) (fun j => p + 1 ≤ j) (kL k).next oa on oc ba bn bc ta tn tc (some ⟨wr.heap.size,0,none⟩) 1 1 [chX] (kL k) rfl (by rw [hI.next]; omega) (by rw [hI.next]; omega) (R.past B1) (hI.ok (by omega)) (txX _) (chX_is wr _ hpw))
    have P1 := P.past B1
    obtain ⟨c0,c1,c2,c3⟩ : wr.cell? ⟨p,0,none⟩ = some (.int .i64 (kL k).next) ∧ wr.cell? ⟨p,1,none⟩ = some (.slice oa on oc) ∧ wr.cell? ⟨p,2,none⟩ = some (.slice ba bn bc) ∧ wr.cell? ⟨p,3,none⟩ = some (.slice ta tn tc) := ⟨P.c rfl,P.c rfl,P.c rfl,P.c rfl⟩
    obtain ⟨f0,f1,f2,f3⟩ : wr.frozen? ⟨p,0,none⟩ = false ∧ wr.frozen? ⟨p,1,none⟩ = false ∧ wr.frozen? ⟨p,2,none⟩ = false ∧ wr.frozen? ⟨p,3,none⟩ = false := ⟨free_blk P,free_blk P,free_blk P,free_blk P⟩
    go_wp2_with (go_at_call 19; refine HA.out.mono ?_; rintro e w3 ⟨k0,v,xa,xc,rfl,⟨oa2,on2,oc2,ba2,bn2,bc2,ta2,tn2,tc2,rfl,L3⟩,o3,b3⟩; have P3 := P1.past b3; obtain ⟨d0,d1,d2,d3⟩ : w3.cell? ⟨p,0,none⟩ = some (.int .i64 (kL k).next) ∧ w3.cell? ⟨p,1,none⟩ = some (.slice oa on oc) ∧ w3.cell? ⟨p,2,none⟩ = some (.slice ba bn bc) ∧ w3.cell? ⟨p,3,none⟩ = some (.slice ta tn tc) := ⟨P3.c rfl,P3.c rfl,P3.c rfl,P3.c rfl⟩; obtain ⟨u0,u1,u2,u3⟩ : w3.frozen? ⟨p,0,none⟩ = false ∧ w3.frozen? ⟨p,1,none⟩ = false ∧ w3.frozen? ⟨p,2,none⟩ = false ∧ w3.frozen? ⟨p,3,none⟩ = false := ⟨free_blk P3,free_blk P3,free_blk P3,free_blk P3⟩)
    have HV := LVar.put (X' := p + 1) P3 L3 (by rw [World.size_alloc]; omega) (by rw [World.size_alloc]; omega)
    have hB3 : Below p w w3 := hB.trans ((B1.mono (Nat.le_of_lt hpw)).trans (b3.mono (by rw [World.size_alloc]; omega)))
    go_roundw
    case rel => exact ⟨k + 1, by omega, by go_num, HV.1, hB3.grown HV.2 (show p ≤ w3.heap.size from Nat.le_of_lt P3.lt) (fun z hz => by cases hz; exact Nat.le_refl _)⟩
    case measure => simp [intOf]; omega
  · have hki : ¬ ((k : Int) < 4) := by omega
    obtain rfl : k = 4 := by omega
    obtain ⟨bk, t, e4, hbn⟩ := kL4
    rw [e4] at P R
    obtain rfl : 0 = on := R.op.len
    obtain rfl : 1 = bn := R.bl.len
    have hD := digest_any wr hCw 4 oa 0 oc ba 1 bc ta tn tc [bk] R.bl.flat (by omega)
    obtain ⟨DA, hDA⟩ : ∃ d, dgC [bk] = d := ⟨_, rfl⟩
    have HD1 : Hid (DA[0]? = some (.int .i64 1)) := Lib.hid (by rw [← hDA, dgC, dgN_one, hbn]; rfl)
    have HD2 : Hid (DA.size = 33) := Lib.hid (by rw [← hDA]; exact dgC_len _)
    have HD3 : Hid (DA.all (·.oneCell') = true) := Lib.hid (by rw [← hDA]; exact dgC_one _)
    rw [hDA] at hD
    have HD := Lib.hid hD
    clear hD hDA e4 hbn
    obtain ⟨c0,c1,c2,c3⟩ : wr.cell? ⟨p,0,none⟩ = some (.int .i64 4) ∧ wr.cell? ⟨p,1,none⟩ = some (.slice oa 0 oc) ∧ wr.cell? ⟨p,2,none⟩ = some (.slice ba 1 bc) ∧ wr.cell? ⟨p,3,none⟩ = some (.slice ta tn tc) := ⟨P.c rfl,P.c rfl,P.c rfl,P.c rfl⟩
    have HST : ∀ w' : World,Sem.run Tryz.prog (storeCells ⟨w'.heap.size,0,none⟩ DA.toList) (w'.alloc (.cells #[.int .i64 0,.int .u8 0,.int .u8 0,.int .u8 0,.int .u8 0,.int .u8 0,.int .u8 0,.int .u8 0,.int .u8 0,.int .u8 0,.int .u8 0,.int .u8 0,.int .u8 0,.int .u8 0,.int .u8 0,.int .u8 0,.int .u8 0,.int .u8 0,.int .u8 0,.int .u8 0,.int .u8 0,.int .u8 0,.int .u8 0,.int .u8 0,.int .u8 0,.int .u8 0,.int .u8 0,.int .u8 0,.int .u8 0,.int .u8 0,.int .u8 0,.int .u8 0,.int .u8 0] 55)) = .ok () (w'.alloc (.cells DA 55)) := fun w' => run_storeCells_new w' 55 #[.int .i64 0,.int .u8 0,.int .u8 0,.int .u8 0,.int .u8 0,.int .u8 0,.int .u8 0,.int .u8 0,.int .u8 0,.int .u8 0,.int .u8 0,.int .u8 0,.int .u8 0,.int .u8 0,.int .u8 0,.int .u8 0,.int .u8 0,.int .u8 0,.int .u8 0,.int .u8 0,.int .u8 0,.int .u8 0,.int .u8 0,.int .u8 0,.int .u8 0,.int .u8 0,.int .u8 0,.int .u8 0,.int .u8 0,.int .u8 0,.int .u8 0,.int .u8 0,.int .u8 0] DA (by rw [HD2.out]; exact dig_size) (by rw [HD2.out]; rfl) HD3.out
    go_upto_region 7 with (go_at_call 23; refine HD.out.mono ?_; rintro e w3 ⟨rfl, b3⟩)
    have P4 := (P.past b3).alloc (.cells DA 55)
    have N4 := Bk.new w3 DA 55
    have B4 : Below p w (w3.alloc (.cells DA 55)) := (hB.trans (b3.mono (Nat.le_of_lt hpw))).alloc (by have := b3.size; omega) _
    have n0 : (w3.alloc (.cells DA 55)).cell? ⟨w3.heap.size, 0, none⟩ = some (.int .i64 1) := N4.c HD1.out
    clear HD HST HD1 HD2 HD3
    generalize w3.alloc (.cells DA 55) = w4 at P4 N4 B4 n0 ⊢
    obtain ⟨d1, d2⟩ : w4.cell? ⟨p, 1, none⟩ = some (.slice oa 0 oc) ∧ w4.cell? ⟨p, 2, none⟩ = some (.slice ba 1 bc) := ⟨P4.c rfl, P4.c rfl⟩
    go_wp2_with fail
    go_ret
    exact ⟨rfl, HP.out.symm ▸ B4⟩
open Go.ChangeShapes Go.WideShapes Go.ChangeAt Go.RowKit Go.Joins Go.Deep
section
variable {H : Type} {enc : TypeId × Value → H} {W : World} {held : Bool}
structure CIn where
 t : ByteArray
 op : Int
 h : HdR
def CIn.b (c : CIn) : (ByteArray × Int) × HdR := ((c.t, c.op), c.h)
instance : Inhabited ((ByteArray × Int) × HdR) := ⟨((⟨#[]⟩, 0), ⟨none, 0, 0⟩)⟩
theorem slice_in {t e : TypeId} {n : Nat} {c : Value} {y : DataW H × List MemPlace} (hu : Tryz.prog.underlying t = some (.slice e)) (h : DataW.trod enc Tryz.prog W 0 (fun _ => true) held n t [c] = some y) : ∃ ao m k,c = .slice ao m k := by
 rcases open_slice hu h with ⟨hcs, _⟩ | ⟨a, len, cap, m, k, D, Pl, hcs, _⟩
 · simp at hcs
   exact ⟨none, 0, 0, hcs⟩
 · simp at hcs
   exact ⟨_, _, _, hcs⟩
end
end Go.Proofs.YtdmnjjknkcnkgaaGreatDoor
