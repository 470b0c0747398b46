/-
 The document's Close (by gen_rg7.py).
 The document's Add (by gen_rg7.py).
 Steps: plain, how they lie in cells; the law's Few (by gen_rg9.py).
 The law's Of: a ledger of the document's as the code's (by gen_rg9.py).
 The law's Changes of a step (by gen_rga.py).
-/
import Derived.Test.YtdmnjjknkcnkgaaGreatDoorMz9
import Derived.Test.YtdmnjjknkcnkgaaGreatDoorMzA
namespace Go.Proofs.YtdmnjjknkcnkgaaGreatDoor
open List (setIfInBounds_toArray set_cons_zero set_cons_succ)
open Go.RowKit
set_option linter.unusedSimpArgs false
set_option maxRecDepth 100000 in
set_option maxHeartbeats 2000000 in
theorem rclose_none (w : World) (Q : Nat → Prop) (next : Int) (oa : Option Addr) (oc : Nat) (ba : Option Addr) (bn bc : Nat) (ta : Option Addr) (tn tc : Nat) (M : Lgr) (hnx : M.next = next) (h : LgR w Q oa 0 oc ba bn bc ta tn tc M) :
 Calls Tryz.prog 18 #[.agg #[.int .i64 next, .slice oa 0 oc, .slice ba bn bc, .slice ta tn tc]] w (RClosed w Q M) := by
 have hop : M.op = [] := List.length_eq_zero_iff.1 h.op.len
 have HCE : Hid (clsE M = 2) := Lib.hid (if_pos hop)
 have HCM : Hid (cls M = M) := Lib.hid (if_pos hop)
 have HNX := Lib.hid hnx
 clear hop hnx
 have B0 : Below w.heap.size w ((w.alloc (.cells #[.int .i64 next,.slice oa 0 oc,.slice ba bn bc,.slice ta tn tc] 32)).alloc (.cells #[.int .i64 0,.slice none 0 0,.slice none 0 0,.slice none 0 0] 32)) := ((Below.refl _ _).alloc (Nat.le_refl _) _).alloc (by simp) _
 have hP : Bk ((w.alloc (.cells #[.int .i64 next,.slice oa 0 oc,.slice ba bn bc,.slice ta tn tc] 32)).alloc (.cells #[.int .i64 0,.slice none 0 0,.slice none 0 0,.slice none 0 0] 32)) w.heap.size #[.int .i64 next,.slice oa 0 oc,.slice ba bn bc,.slice ta tn tc] 32 := (Bk.new w _ _).alloc _
 have hQ0 : Bk ((w.alloc (.cells #[.int .i64 next,.slice oa 0 oc,.slice ba bn bc,.slice ta tn tc] 32)).alloc (.cells #[.int .i64 0,.slice none 0 0,.slice none 0 0,.slice none 0 0] 32)) (w.heap.size + 1) #[.int .i64 0,.slice none 0 0,.slice none 0 0,.slice none 0 0] 32 := by
  have := Bk.new (w.alloc (.cells #[.int .i64 next,.slice oa 0 oc,.slice ba bn bc,.slice ta tn tc] 32)) #[.int .i64 0,.slice none 0 0,.slice none 0 0,.slice none 0 0] 32
  rwa [World.size_alloc] at this
 have hsW : ((w.alloc (.cells #[.int .i64 next,.slice oa 0 oc,.slice ba bn bc,.slice ta tn tc] 32)).alloc (.cells #[.int .i64 0,.slice none 0 0,.slice none 0 0,.slice none 0 0] 32)).heap.size = w.heap.size + 1 + 1 := by simp only [World.size_alloc]
 go_enter Tryz.func18, Tryz.ntmps18
 go_upto_region 1 with fail
 generalize ((w.alloc (.cells #[.int .i64 next,.slice oa 0 oc,.slice ba bn bc,.slice ta tn tc] 32)).alloc (.cells #[.int .i64 0,.slice none 0 0,.slice none 0 0,.slice none 0 0] 32)) = W at B0 hP hQ0 hsW ⊢
 obtain ⟨p, hp⟩ : ∃ p, w.heap.size = p := ⟨_, rfl⟩
 obtain ⟨q, hq⟩ : ∃ q, p + 1 = q := ⟨_, rfl⟩
 have HG := Lib.hid hp
 rw [hp] at hP hQ0 B0 hsW
 rw [hq] at hQ0 hsW
 simp only [hp, hq]
 have hpq : p < q := by omega
 have hqp : some q ≠ some p := fun e => by have := Option.some.inj e; omega
 have B1 := B0
 clear hp hq B0
 obtain ⟨c0,c1,c2,c3⟩ : W.cell? ⟨p,0,none⟩ = some (.int .i64 next) ∧ W.cell? ⟨p,1,none⟩ = some (.slice oa 0 oc) ∧ W.cell? ⟨p,2,none⟩ = some (.slice ba bn bc) ∧ W.cell? ⟨p,3,none⟩ = some (.slice ta tn tc) := ⟨hP.c rfl,hP.c rfl,hP.c rfl,hP.c rfl⟩
 obtain ⟨e0,e1,e2,e3⟩ : W.cell? ⟨q,0,none⟩ = some (.int .i64 0) ∧ W.cell? ⟨q,1,none⟩ = some (.slice none 0 0) ∧ W.cell? ⟨q,2,none⟩ = some (.slice none 0 0) ∧ W.cell? ⟨q,3,none⟩ = some (.slice none 0 0) := ⟨hQ0.c rfl,hQ0.c rfl,hQ0.c rfl,hQ0.c rfl⟩
 obtain ⟨f0,f1,f2,f3⟩ : W.frozen? ⟨q,0,none⟩ = false ∧ W.frozen? ⟨q,1,none⟩ = false ∧ W.frozen? ⟨q,2,none⟩ = false ∧ W.frozen? ⟨q,3,none⟩ = false := ⟨free_blk hQ0,free_blk hQ0,free_blk hQ0,free_blk hQ0⟩
 go_wp2_with fail
 have G9 : W.grownBy ((((W.setCell ⟨q,0,none⟩ (.int .i64 next)).setCell ⟨q,1,none⟩ (.slice oa 0 oc)).setCell ⟨q,2,none⟩ (.slice ba bn bc)).setCell ⟨q,3,none⟩ (.slice ta tn tc)) (some q) := grown_cell (grown_cell (grown_cell (grown_cell (grown_self _ _) _ _) _ _) _ _) _ _
 have Q9 : Bk ((((W.setCell ⟨q,0,none⟩ (.int .i64 next)).setCell ⟨q,1,none⟩ (.slice oa 0 oc)).setCell ⟨q,2,none⟩ (.slice ba bn bc)).setCell ⟨q,3,none⟩ (.slice ta tn tc)) q #[.int .i64 next,.slice oa 0 oc,.slice ba bn bc,.slice ta tn tc] 32 := (heap_setCell_same (i := 3) (v := .slice ta tn tc) (heap_setCell_same (i := 2) (v := .slice ba bn bc) (heap_setCell_same (i := 1) (v := .slice oa 0 oc) (heap_setCell_same (i := 0) (v := .int .i64 next) hQ0))))
 have B9 : Below p w ((((W.setCell ⟨q,0,none⟩ (.int .i64 next)).setCell ⟨q,1,none⟩ (.slice oa 0 oc)).setCell ⟨q,2,none⟩ (.slice ba bn bc)).setCell ⟨q,3,none⟩ (.slice ta tn tc)) := B1.grown G9 (by omega) (fun z hz => by cases hz; exact Nat.le_of_lt hpq)
 generalize ((((W.setCell ⟨q, 0, none⟩ (.int .i64 next)).setCell ⟨q, 1, none⟩ (.slice oa 0 oc)).setCell ⟨q, 2, none⟩ (.slice ba bn bc)).setCell ⟨q, 3, none⟩ (.slice ta tn tc)) = w9 at Q9 B9 ⊢
 obtain ⟨d0,d1,d2,d3⟩ : w9.cell? ⟨q,0,none⟩ = some (.int .i64 next) ∧ w9.cell? ⟨q,1,none⟩ = some (.slice oa 0 oc) ∧ w9.cell? ⟨q,2,none⟩ = some (.slice ba bn bc) ∧ w9.cell? ⟨q,3,none⟩ = some (.slice ta tn tc) := ⟨Q9.c rfl,Q9.c rfl,Q9.c rfl,Q9.c rfl⟩
 refine bodyPost_ret (v := .tuple #[.agg #[.int .i64 next,.slice oa 0 oc,.slice ba bn bc,.slice ta tn tc],.int .i64 2]) (by simp [results, Tryz.results18, go_sem,d0,d1,d2,d3]) rfl ?_
 have BW9 : Below w.heap.size w w9 := by rw [HG.out]; exact B9
 unfold RClosed RLed
 rw [HCE.out, HCM.out]
 exact ⟨_, rfl, _, _, _, _, _, _, _, _, _, by rw [HNX.out], h.past BW9, BW9⟩
theorem rclose_any (w : World) (Q : Nat → Prop) (hQ : ∀ k,w.heap.size ≤ k → Q k) (next : Int) (oa : Option Addr) (on oc : Nat) (ba : Option Addr) (bn bc : Nat) (ta : Option Addr) (tn tc : Nat) (M : Lgr) (hnx : M.next = next) (h : LgR w Q oa on oc ba bn bc ta tn tc M) (hL : LgOk M) :
 Calls Tryz.prog 18 #[.agg #[.int .i64 next, .slice oa on oc, .slice ba bn bc, .slice ta tn tc]] w (RClosed w Q M) := by
 by_cases hz : on = 0
 · subst hz
   exact rclose_none w Q next oa oc ba bn bc ta tn tc M hnx h
 · exact rclose_some w Q hQ next oa on oc ba bn bc ta tn tc M hnx h hL (by omega)
theorem szTx' : (Tryz.prog.info? 45).map (·.size) = some 2 := by kernel_rfl
theorem szLgr' : (Tryz.prog.info? 32).map (·.size) = some 4 := by kernel_rfl
theorem tx_one' (w : World) (t : TypeId) (id : Int) (xa : Option Addr) (xn xc : Nat) : IsR ETx (w.alloc (.cells #[.int .i64 id,.slice xa xn xc] t)) (some ⟨w.heap.size,0,none⟩) 1 1 [(id,⟨xa,xn,xc⟩)] := (OwnR.ofBlk (E := ETx) (l := [(id,⟨xa,xn,xc⟩)]) (n := 1) (heap_alloc_new w _) rfl rfl (by omega)).isR
theorem lg_set0 {w : World} {p : Nat} {v0 v1 v2 v3 : Value} {t : TypeId} (h : Bk w p #[v0, v1, v2, v3] t) (v : Value) : Bk (w.setCell ⟨p, 0, none⟩ v) p #[v, v1, v2, v3] t := heap_setCell_same h
def RAdded (w : World) (Q : Nat → Prop) (next : Int) (M : Lgr) (cn : Nat) (cl : List Chg) (e : Ending) (w' : World) : Prop :=
 ∃ v xa xc, e = .returned (.tuple #[v, .agg #[.int .i64 next, .slice xa cn xc]]) ∧ RLed w Q (addL M cl) v w' ∧ IsD DC w' Q xa cn xc cl
inductive RgA1 (B : Nat) (p : Nat) (q : Nat) (rt : Nat) (r : Nat) (next : Int) (oa : Option Addr) (on : Nat) (oc : Nat) (ba : Option Addr) (bn : Nat) (bc : Nat) (ta : Option Addr) (tn : Nat) (tc : Nat) (ca : Option Addr) (cn : Nat) (cc : Nat) (h1 : List ((ByteArray × Int) × HdR)) (a0 : Act) (w0 : World) (L : Array Bool) (a : Act) (w : World) : Prop
 | mk (b0 b1 b2 b3 b4 b5 b6 b7 : Bool) (x7 x8 x9 x10 x11 x12 x6 : Value) (ge : Nat) (g3 : Nat) (c3 : Nat) (gt : Nat) (hL : L = #[b0,b1,b2,b3,b4,b5,b6,b7]) (ha : a = ⟨(((((((a0.tmps.setIfInBounds 7 x7).setIfInBounds 8 x8).setIfInBounds 9 x9).setIfInBounds 10 x10).setIfInBounds 11 x11).setIfInBounds 12 x12).setIfInBounds 6 x6),a0.defers⟩) (hb : Below B w0 w) (cd0 : Hid (b0 = true → x7 = .pointer (some ⟨p,0,none⟩))) (cd1 : Hid (b1 = true → x8 = .int .i64 next)) (cd2 : Hid (b2 = true → x9 = .slice (some ⟨ge,0,none⟩) 0 0)) (cd3 : Hid (b3 = true → x10 = .slice ca cn cc)) (cd4 : Hid (b4 = true → x11 = .slice (some ⟨g3,0,none⟩) cn c3)) (cd5 : Hid (b5 = true → x12 = .agg #[.int .i64 next,.slice (some ⟨g3,0,none⟩) cn c3])) (cd6 : Hid (b6 = true → x6 = .pointer (some ⟨gt,0,none⟩))) (f_p : Hid (Bk w p #[.int .i64 next,.slice oa on oc,.slice ba bn bc,.slice ta tn tc] 32)) (f_q : Hid (Bk w q #[.int .i64 0,.slice none 0 0,.slice none 0 0,.slice none 0 0] 32)) (f_rt : Hid (Bk w rt #[.int .i64 0,.slice none 0 0] 45)) (f_e : Hid (b2 = true → b4 = false → OwnR ECh w 67 ge 0 0 [])) (f_le : Hid (b2 = true → r ≤ ge)) (f_l0 : Hid (b2 = true → LtW w ge)) (f_l6 : Hid (b6 = true → LtW w gt)) (f_lt : Hid (b6 = true → r ≤ gt)) (f_nm : Hid ((b2 = true → b6 = true → ge ≠ gt))) (f_o : Hid (b4 = true → OwnR ECh w 67 g3 cn c3 h1)) (f_lo : Hid (b4 = true → r ≤ g3)) (f_nt : Hid ((b4 = true → b6 = true → g3 ≠ gt))) (f_tz : Hid (b6 = true → b7 = false → Bk w gt #[.int .i64 0,.slice none 0 0] 45)) (f_s : Hid (b7 = true → Bk w gt #[.int .i64 next,.slice (some ⟨g3,0,none⟩) cn c3] 45)) (f_q4 : Hid (b7 = true → b4 = true)) (f_q6 : Hid (b7 = true → b6 = true)) (w_5_4 : Hid (b5 = true → b4 = true)) : RgA1 B p q rt r next oa on oc ba bn bc ta tn tc ca cn cc h1 a0 w0 L a w
inductive RgA3 (B : Nat) (p : Nat) (q : Nat) (rt : Nat) (r4 : Nat) (gt : Nat) (gT : Nat) (cT : Nat) (nx : Int) (next : Int) (oa : Option Addr) (on : Nat) (oc : Nat) (ba : Option Addr) (bn : Nat) (bc : Nat) (ta : Option Addr) (tn : Nat) (tc : Nat) (cn : Nat) (h1 : List ((ByteArray × Int) × HdR)) (n1 : Nat) (l1 : List (Int × HdR)) (l2 : List (Int × HdR)) (a0 : Act) (w0 : World) (L : Array Bool) (a : Act) (w : World) : Prop
 | mk (b0 b1 b2 b3 b4 b5 b6 b7 b8 : Bool) (x17 x18 x19 x20 x21 x22 x23 x24 : Value) (ge : Nat) (g3 : Nat) (c3 : Nat) (gs : Nat) (g6 : Nat) (c6 : Nat) (hL : L = #[b0,b1,b2,b3,b4,b5,b6,b7,b8]) (ha : a = ⟨((((((((a0.tmps.setIfInBounds 17 x17).setIfInBounds 18 x18).setIfInBounds 19 x19).setIfInBounds 20 x20).setIfInBounds 21 x21).setIfInBounds 22 x22).setIfInBounds 23 x23).setIfInBounds 24 x24),a0.defers⟩) (hb : Below B w0 w) (cd0 : Hid (b0 = true → x17 = .slice (some ⟨ge,0,none⟩) 0 0)) (cd1 : Hid (b1 = true → x18 = .pointer (some ⟨p,1,none⟩))) (cd2 : Hid (b2 = true → x19 = .slice oa on oc)) (cd3 : Hid (b3 = true → x20 = .slice (some ⟨g3,0,none⟩) on c3)) (cd4 : Hid (b4 = true → x21 = .agg #[.int .i64 next,.slice (some ⟨gT,0,none⟩) cn cT])) (cd5 : Hid (b5 = true → x22 = .slice (some ⟨gs,0,none⟩) 1 1)) (cd6 : Hid (b6 = true → x23 = .slice (some ⟨g6,0,none⟩) n1 c6)) (cd7 : Hid (b7 = true → x24 = .pointer (some ⟨p,1,none⟩))) (f_p : Hid (b8 = false → Bk w p #[.int .i64 nx,.slice oa on oc,.slice ba bn bc,.slice ta tn tc] 32)) (f_q : Hid (Bk w q #[.int .i64 0,.slice none 0 0,.slice none 0 0,.slice none 0 0] 32)) (f_rt : Hid (Bk w rt #[.int .i64 0,.slice none 0 0] 45)) (f_t : Hid (Bk w gt #[.int .i64 next,.slice (some ⟨gT,0,none⟩) cn cT] 45)) (f_row : Hid (OwnR ECh w 67 gT cn cT h1)) (f_o6_3 : Hid ((b6 = true → b3 = true))) (f_o8_3 : Hid ((b8 = true → b3 = true))) (f_o8_6 : Hid ((b8 = true → b6 = true))) (f_e : Hid (b0 = true → b3 = false → OwnR ETx w 45 ge 0 0 [])) (f_le : Hid (b0 = true → r4 ≤ ge)) (f_f : Hid (b3 = true → b6 = false → OwnR ETx w 45 g3 on c3 l1)) (f_lf : Hid (b3 = true → r4 ≤ g3)) (f_l0 : Hid (b0 = true → LtW w ge)) (f_l5 : Hid (b5 = true → LtW w gs)) (f_nm : Hid ((b0 = true → b5 = true → ge ≠ gs))) (f_ls : Hid (b5 = true → b6 = false → IsR ETx w (some ⟨gs,0,none⟩) 1 1 [(next,⟨some ⟨gT,0,none⟩,cn,cT⟩)])) (f_o : Hid (b6 = true → OwnR ETx w 45 g6 n1 c6 l2)) (f_lo : Hid (b6 = true → r4 ≤ g6)) (f_s : Hid (b8 = true → Bk w p #[.int .i64 nx,.slice (some ⟨g6,0,none⟩) n1 c6,.slice ba bn bc,.slice ta tn tc] 32)) (f_qa2 : Hid (b8 = true → b2 = true)) : RgA3 B p q rt r4 gt gT cT nx next oa on oc ba bn bc ta tn tc cn h1 n1 l1 l2 a0 w0 L a w
inductive RgA6 (B : Nat) (p : Nat) (q : Nat) (rt : Nat) (gt : Nat) (gT : Nat) (cT : Nat) (cn : Nat) (mx : Int) (next : Int) (oa : Option Addr) (on : Nat) (oc : Nat) (ba : Option Addr) (bn : Nat) (bc : Nat) (ta : Option Addr) (tn : Nat) (tc : Nat) (Q : Nat → Prop) (M5 : Lgr) (cl : List Chg) (a0 : Act) (w0 : World) (L : Array Bool) (a : Act) (w : World) : Prop
 | mk (b0 b1 b2 b3 : Bool) (x34 x35 : Value) (hL : L = #[b0,b1,b2,b3]) (ha : a = ⟨((a0.tmps.setIfInBounds 34 x34).setIfInBounds 35 x35),a0.defers⟩) (hb : Below B w0 w) (cd0 : Hid (b0 = true → x34 = .agg #[.int .i64 mx,.slice oa on oc,.slice ba bn bc,.slice ta tn tc])) (cd1 : Hid (b1 = true → x35 = .agg #[.int .i64 next,.slice (some ⟨gT,0,none⟩) cn cT])) (f_p : Hid (Bk w p #[.int .i64 mx,.slice oa on oc,.slice ba bn bc,.slice ta tn tc] 32)) (f_t : Hid (Bk w gt #[.int .i64 next,.slice (some ⟨gT,0,none⟩) cn cT] 45)) (f_q : Hid (b2 = false → Bk w q #[.int .i64 0,.slice none 0 0,.slice none 0 0,.slice none 0 0] 32)) (f_rt : Hid (b3 = false → Bk w rt #[.int .i64 0,.slice none 0 0] 45)) (f_s1 : Hid (b2 = true → Bk w q #[.int .i64 mx,.slice oa on oc,.slice ba bn bc,.slice ta tn tc] 32)) (f_s2 : Hid (b3 = true → Bk w rt #[.int .i64 next,.slice (some ⟨gT,0,none⟩) cn cT] 45)) (f_lg : Hid (LgR w (fun k => Q k ∧ k ≠ p ∧ k ≠ q ∧ k ≠ rt) oa on oc ba bn bc ta tn tc M5)) (f_rw : Hid (IsD DC w (fun k => Q k ∧ k ≠ p ∧ k ≠ q ∧ k ≠ rt) (some ⟨gT,0,none⟩) cn cT cl)) : RgA6 B p q rt gt gT cT cn mx next oa on oc ba bn bc ta tn tc Q M5 cl a0 w0 L a w
set_option maxRecDepth 100000 in
set_option maxHeartbeats 2000000 in
theorem radd_any (w : World) (Q : Nat → Prop) (hQ : ∀ k,w.heap.size ≤ k → Q k) (next : Int) (oa : Option Addr) (on oc : Nat) (ba : Option Addr) (bn bc : Nat) (ta : Option Addr) (tn tc : Nat) (ca : Option Addr) (cn cc : Nat) (cl : List Chg) (M : Lgr) (hnx : M.next = next) (hlo : 0 ≤ next) (hhi : next ≤ 1000000) (h : LgR w Q oa on oc ba bn bc ta tn tc M) (hL : LgOk M) (hop : M.op.length < 4) (hcl : TxOk (next,cl)) (hc : IsD DC w Q ca cn cc cl) :
 Calls Tryz.prog 21 #[.agg #[.int .i64 next, .slice oa on oc, .slice ba bn bc, .slice ta tn tc], .slice ca cn cc] w (RAdded w Q next M cn cl) := by
 have hon := h.op.len
 have hon4 : on ≤ 3 := by omega
 have hcn := hc.len
 have hcn4 : cn ≤ 100 := by have := hcl.1; simp only at this; omega
 obtain ⟨h1x, hc1, hc2, hc3⟩ := id hc
 obtain ⟨l1x, ho1, ho2, ho3⟩ := id h.op
 obtain ⟨h1, rfl⟩ : ∃ l : List ((ByteArray × Int) × HdR), l = h1x := ⟨_, rfl⟩
 obtain ⟨l1, rfl⟩ : ∃ l : List (Int × HdR), l = l1x := ⟨_, rfl⟩
 have HSc0 := fun (w' : World) (b : Below w.heap.size w w') => hc1.past b
 have HSo0 := fun (w' : World) (b : Below w.heap.size w w') => ho1.past b
 have HLC : Hid (List.length (α := (ByteArray × Int) × HdR) h1 = cn) := Lib.hid (hc3.1.trans hcn)
 have HLN : Hid (List.length (α := Int × HdR) l1 = on) := Lib.hid (ho3.1.trans hon)
 obtain ⟨nx, hnx1⟩ : ∃ x, next + 1 = x := ⟨_, rfl⟩
 obtain ⟨M1, hM1⟩ : ∃ x : Lgr, ⟨next + 1, M.op ++ [(next, cl)], M.bl, M.ts⟩ = x := ⟨_, rfl⟩
 obtain ⟨n1, hn1⟩ : ∃ x, on + 1 = x := ⟨_, rfl⟩
 have HN1 := Lib.hid hn1
 have hn1s : n1 ≤ 4 := by omega
 have HN1x : Hid (M1.next = nx) := Lib.hid (by rw [← hM1]; exact hnx1)
 have hlen1 : (M.op ++ [(next, cl)]).length = n1 := by rw [List.length_append, hon]; exact hn1
 have HA0 : Hid (n1 ≠ 4 → addL M cl = M1) := Lib.hid fun h4 => by
  simp only [addL, hnx]
  rw [if_neg (by rw [hlen1]; exact h4)]
  exact hM1
 have HA4 : Hid (n1 = 4 → addL M cl = cls M1) := Lib.hid fun h4 => by
  simp only [addL, hnx]
  rw [if_pos (by rw [hlen1]; exact h4), hM1]
 have HOk : Hid (n1 = 4 → LgOk M1) := Lib.hid fun h4 => by
  rw [← hM1]
  exact ⟨by show (M.op ++ [(next, cl)]).length ≤ 4; omega, hL.bl, hL.ts, fun x hx => by
   rcases List.mem_append.1 hx with hx | hx
   · exact hL.tx x hx
   · rw [List.mem_singleton.1 hx]; exact hcl, hL.txs⟩
 have HD : Hid (∀ w',Below w.heap.size w w' → ∀ gT cT,OwnR ECh w' 67 gT cn cT h1 → w.heap.size ≤ gT → ∀ {p q rt : Nat}, gT ≠ p → gT ≠ q → gT ≠ rt → w.heap.size ≤ p → w.heap.size ≤ q → w.heap.size ≤ rt → IsD DC w' (fun k => Q k ∧ k ≠ p ∧ k ≠ q ∧ k ≠ rt) (some ⟨gT,0,none⟩) cn cT cl) := Lib.hid fun w' b gT cT o hg p q rt h7 h8 h9 hp hq hr =>
  ⟨h1, o.isR, fun _ a ha => by cases ha; exact ⟨hQ _ hg, h7, h8, h9⟩, (hc3.imp (Q' := fun k => Q k ∧ k ≠ p ∧ k ≠ q ∧ k ≠ rt) (fun k hk h => ⟨h, by omega, by omega, by omega⟩)).past b⟩
 have HL : Hid (∀ w',Below w.heap.size w w' → ∀ g6 c6 gT cT,OwnR ETx w' 45 g6 n1 c6 (l1 ++ [(next,(⟨some ⟨gT,0,none⟩,cn,cT⟩ : HdR))]) → w.heap.size ≤ g6 → ∀ {p q rt : Nat}, g6 ≠ p → g6 ≠ q → g6 ≠ rt → w.heap.size ≤ p → w.heap.size ≤ q → w.heap.size ≤ rt → IsD DC w' (fun k => Q k ∧ k ≠ p ∧ k ≠ q ∧ k ≠ rt) (some ⟨gT,0,none⟩) cn cT cl → LgR w' (fun k => Q k ∧ k ≠ p ∧ k ≠ q ∧ k ≠ rt) (some ⟨g6,0,none⟩) n1 c6 ba bn bc ta tn tc M1) := Lib.hid fun w' b g6 c6 gT cT o hg p q rt h7 h8 h9 hp hq hr hd => by
  rw [← hM1]
  have hi : ∀ k, k < w.heap.size → Q k → (Q k ∧ k ≠ p ∧ k ≠ q ∧ k ≠ rt) := fun k hk h => ⟨h, by omega, by omega, by omega⟩
  exact ⟨⟨_,o.isR,fun _ a ha => by cases ha; exact ⟨hQ _ hg,h7,h8,h9⟩,((ho3.imp hi).past b).append (RdD.one (D := DT) (b := (next,(⟨some ⟨gT,0,none⟩,cn,cT⟩ : HdR))) (x := (next,cl)) ⟨rfl,hd⟩)⟩,(h.bl.imp hi).past b,(h.ts.imp hi).past b⟩
 have HNX1 := Lib.hid hnx1
 have hhi2 : next + 1 ≤ 1000001 := by omega
 clear hc1 hc2 hc3 ho1 ho2 ho3 hM1 hn1 hlen1 hnx hcl hc hL h hop hcn hon hnx1
 have B0 : Below w.heap.size w (((w.alloc (.cells #[.int .i64 next,.slice oa on oc,.slice ba bn bc,.slice ta tn tc] 32)).alloc (.cells #[.int .i64 0,.slice none 0 0,.slice none 0 0,.slice none 0 0] 32)).alloc (.cells #[.int .i64 0,.slice none 0 0] 45)) := (((Below.refl _ _).alloc (Nat.le_refl _) _).alloc (by simp) _).alloc (by simp; omega) _
 have hP : Bk (((w.alloc (.cells #[.int .i64 next,.slice oa on oc,.slice ba bn bc,.slice ta tn tc] 32)).alloc (.cells #[.int .i64 0,.slice none 0 0,.slice none 0 0,.slice none 0 0] 32)).alloc (.cells #[.int .i64 0,.slice none 0 0] 45)) w.heap.size #[.int .i64 next,.slice oa on oc,.slice ba bn bc,.slice ta tn tc] 32 := ((Bk.new w _ _).alloc _).alloc _
 have hQ0 : Bk (((w.alloc (.cells #[.int .i64 next,.slice oa on oc,.slice ba bn bc,.slice ta tn tc] 32)).alloc (.cells #[.int .i64 0,.slice none 0 0,.slice none 0 0,.slice none 0 0] 32)).alloc (.cells #[.int .i64 0,.slice none 0 0] 45)) (w.heap.size + 1) #[.int .i64 0,.slice none 0 0,.slice none 0 0,.slice none 0 0] 32 := by
  have := Bk.new (w.alloc (.cells #[.int .i64 next,.slice oa on oc,.slice ba bn bc,.slice ta tn tc] 32)) #[.int .i64 0,.slice none 0 0,.slice none 0 0,.slice none 0 0] 32
  rw [World.size_alloc] at this
  exact this.alloc _
 have hR0 : Bk (((w.alloc (.cells #[.int .i64 next,.slice oa on oc,.slice ba bn bc,.slice ta tn tc] 32)).alloc (.cells #[.int .i64 0,.slice none 0 0,.slice none 0 0,.slice none 0 0] 32)).alloc (.cells #[.int .i64 0,.slice none 0 0] 45)) (w.heap.size + 1 + 1) #[.int .i64 0,.slice none 0 0] 45 := by
  have := Bk.new ((w.alloc (.cells #[.int .i64 next,.slice oa on oc,.slice ba bn bc,.slice ta tn tc] 32)).alloc (.cells #[.int .i64 0,.slice none 0 0,.slice none 0 0,.slice none 0 0] 32)) #[.int .i64 0,.slice none 0 0] 45
  rwa [World.size_alloc, World.size_alloc] at this
 go_enter Tryz.func21, Tryz.ntmps21
 go_upto_region 1 with fail
 generalize (((w.alloc (.cells #[.int .i64 next,.slice oa on oc,.slice ba bn bc,.slice ta tn tc] 32)).alloc (.cells #[.int .i64 0,.slice none 0 0,.slice none 0 0,.slice none 0 0] 32)).alloc (.cells #[.int .i64 0,.slice none 0 0] 45)) = W at B0 hP hQ0 hR0 ⊢
 obtain ⟨p, hp⟩ : ∃ p, w.heap.size = p := ⟨_, rfl⟩
 obtain ⟨q, hq⟩ : ∃ q, p + 1 = q := ⟨_, rfl⟩
 obtain ⟨rt, hrt⟩ : ∃ r, q + 1 = r := ⟨_, rfl⟩
 have HG := Lib.hid hp
 rw [hp] at hP hQ0 hR0 B0
 rw [hq] at hQ0 hR0
 rw [hrt] at hR0
 simp only [hp, hq, hrt]
 have hpq : p < q := by omega
 have hqrt' : q < rt := by omega
 have hqp : some q ≠ some p := fun e => by have := Option.some.inj e; omega
 have hpq2 : some p ≠ some q := Ne.symm hqp
 have hrp : some rt ≠ some p := fun e => by have := Option.some.inj e; omega
 have hprt : some p ≠ some rt := Ne.symm hrp
 have hrq : some rt ≠ some q := fun e => by have := Option.some.inj e; omega
 have hqrt : some q ≠ some rt := Ne.symm hrq
 have B1 := B0
 clear hp hq hrt B0
 have hP3 := hP
 have hQ3 := hQ0
 have hR3 := hR0
 obtain ⟨r, hr⟩ : ∃ x, W.heap.size = x := ⟨_, rfl⟩
 have hrW : r ≤ W.heap.size := Nat.le_of_eq hr.symm
 have hpr : p < r := by have := hP3.lt; omega
 have hpr' : p ≤ r := by omega
 have hqr : q < r := by have := hQ3.lt; omega
 have hrr : rt < r := by have := hR3.lt; omega
 have hB0 : p ≤ W.heap.size := by omega
 have HSo0 := fun (w' : World) (b : Below p w w') => HSo0 w' (by rw [HG.out]; exact b)
 have HSc := fun (w' : World) (hb : Below p W.drew w') => HSc0 w' (by rw [HG.out]; exact B1.trans ((Below.refl _ _).drew.trans hb))
 clear hr HSc0 hP hQ0 hR0
 refine region_inv (RgA1 p p q rt r next oa on oc ba bn bc ta tn tc ca cn cc h1) (by kernel_rfl) (by kernel_rfl) ?_ ?_ ?_
 · exact ⟨false,false,false,false,false,false,false,false,undef,undef,undef,undef,undef,undef,undef,0,0,0,0,rfl,(by go_simp),Below.refl _ _,nf2,nf2,nf2,nf2,nf2,nf2,nf2,(hP3.past (Below.refl _ _).drew),(hQ3.past (Below.refl _ _).drew),(hR3.past (Below.refl _ _).drew),nf2,nf2,nf2,nf2,nf2,(nf2),nf2,nf2,(nf2),nf2,nf2,nf2,nf2,nf2⟩
 · refine ⟨?_, ?_, ?_, ?_, ?_, ?_, ?_, ?_, trivial⟩
   all_goals rintro L a w ⟨b0,b1,b2,b3,b4,b5,b6,b7,x7,x8,x9,x10,x11,x12,x6,ge,g3,c3,gt,rfl,rfl,hb,cd0,cd1,cd2,cd3,cd4,cd5,cd6,f_p,f_q,f_rt,f_e,f_le,f_l0,f_l6,f_lt,f_nm,f_o,f_lo,f_nt,f_tz,f_s,f_q4,f_q6,w_5_4⟩ hf hd
   · have hf' : b0 = false := hf
     subst hf'
     clear hf hd
     have W_p := f_p.out
     have W_q := f_q.out
     have W_rt := f_rt.out
     have W_nm := f_nm.out
     have W_nt := f_nt.out
     intro K hK
     rw [if_pos (by rfl)]
     go_simp
     exact hK.out _ _ ⟨true,b1,b2,b3,b4,b5,b6,b7,(.pointer (some ⟨p,0,none⟩)),x8,x9,x10,x11,x12,x6,ge,g3,c3,gt,(by go_simp),(by go_simp),hb,(fun _ => rfl),cd1,cd2,cd3,cd4,cd5,cd6,f_p,f_q,f_rt,f_e,f_le,f_l0,f_l6,f_lt,f_nm,f_o,f_lo,f_nt,f_tz,f_s,f_q4,f_q6,w_5_4⟩
   · have hf' : b1 = false := hf
     subst hf'
     have d0 : b0 = true := hd ⟨0, .data⟩ (by simp) rfl
     subst d0
     obtain rfl := cd0.out rfl
     clear hf hd
     have W_p := f_p.out
     have W_q := f_q.out
     have W_rt := f_rt.out
     have W_nm := f_nm.out
     have W_nt := f_nt.out
     try simp only [setIfInBounds_toArray, set_cons_zero, set_cons_succ]
     have z0 : w.cell? ⟨p, 0, none⟩ = some (.int .i64 next) := W_p.c rfl
     intro K hK
     rw [if_pos (by rfl)]
     go_simp
     exact hK.out _ _ ⟨true,true,b2,b3,b4,b5,b6,b7,.pointer (some ⟨p,0,none⟩),(.int .i64 next),x9,x10,x11,x12,x6,ge,g3,c3,gt,(by go_simp),(by go_simp),hb,(fun _ => rfl),(fun _ => rfl),cd2,cd3,cd4,cd5,cd6,f_p,f_q,f_rt,f_e,f_le,f_l0,f_l6,f_lt,f_nm,f_o,f_lo,f_nt,f_tz,f_s,f_q4,f_q6,w_5_4⟩
   · have hf' : b2 = false := hf
     subst hf'
     clear hf hd
     have W_p := f_p.out
     have W_q := f_q.out
     have W_rt := f_rt.out
     have W_nm := f_nm.out
     have W_nt := f_nt.out
     intro K hK
     rw [if_pos (by rfl)]
     go_simp
     have bx : Below w.heap.size w (w.alloc (.cells #[] 67)) := (Below.refl _ _).alloc (Nat.le_refl _) _
     exact hK.out _ _ ⟨b0,b1,true,b3,b4,b5,b6,b7,x7,x8,(.slice (some ⟨(w.heap.size),0,none⟩) 0 0),x10,x11,x12,x6,w.heap.size,g3,c3,gt,(by go_simp),(by go_simp),hb.trans (bx.mono (Nat.le_trans hB0 hb.size)),cd0,cd1,rf,cd3,cd4,cd5,cd6,(f_p.out.past bx),(f_q.out.past bx),(f_rt.out.past bx),(fun _ _ => own_emptyR' w _),(fun _ => (Nat.le_trans hrW hb.size)),(fun _ => (by show _ < _; rw [World.size_alloc]; omega)),(fun h0 => (f_l6.out h0).past bx),f_lt,(fun _ h5 => Nat.ne_of_gt (f_l6.out h5)),(fun h0 => (f_o.out h0).past bx),f_lo,f_nt,(fun h0 h1 => (f_tz.out h0 h1).past bx),(fun h0 => (f_s.out h0).past bx),f_q4,f_q6,w_5_4⟩
   · have hf' : b3 = false := hf
     subst hf'
     clear hf hd
     have W_p := f_p.out
     have W_q := f_q.out
     have W_rt := f_rt.out
     have W_nm := f_nm.out
     have W_nt := f_nt.out
     intro K hK
     rw [if_pos (by rfl)]
     go_simp
     exact hK.out _ _ ⟨b0,b1,b2,true,b4,b5,b6,b7,x7,x8,x9,(.slice ca cn cc),x11,x12,x6,ge,g3,c3,gt,(by go_simp),(by go_simp),hb,cd0,cd1,cd2,(fun _ => rfl),cd4,cd5,cd6,f_p,f_q,f_rt,f_e,f_le,f_l0,f_l6,f_lt,f_nm,f_o,f_lo,f_nt,f_tz,f_s,f_q4,f_q6,w_5_4⟩
   · have hf' : b4 = false := hf
     subst hf'
     have d2 : b2 = true := hd ⟨2, .data⟩ (by simp) rfl
     subst d2
     have d3 : b3 = true := hd ⟨3, .data⟩ (by simp) rfl
     subst d3
     obtain rfl := cd2.out rfl
     obtain rfl := cd3.out rfl
     clear hf hd
     have W_p := f_p.out
     have W_q := f_q.out
     have W_rt := f_rt.out
     have W_e := f_e.out rfl rfl
     have W_le := f_le.out rfl
     have W_l0 := f_l0.out rfl
     have W_nm := f_nm.out
     have W_nt := f_nt.out
     try simp only [setIfInBounds_toArray, set_cons_zero, set_cons_succ]
     intro K hK
     rw [if_pos (by rfl)]
     refine wp_append_o (E := ECh) (bd := r) _ _ 43 43 rfl rowTyCh rfl W_e W_le (Nat.le_trans hrW hb.size) _ rfl cn h1 ((HSc _ hb).src Tryz.underlying43) HLC.out cn (Nat.zero_add _) h1 (List.nil_append _) (by omega) ?_
     intro g9 c9 w2 o9 h9 gz9 hg9 bz9
     have hb2 := hb.trans (bz9.mono hpr')
     have e_5 : b5 = false := by cases hq : b5 with | false => rfl | true => exact absurd (w_5_4.out hq) (by simp)
     subst e_5
     exact hK.out _ _ ⟨b0,b1,true,true,true,false,b6,b7,x7,x8,.slice (some ⟨ge,0,none⟩) 0 0,.slice ca cn cc,(.slice (some ⟨g9,0,none⟩) cn c9),x12,x6,ge,g9,c9,gt,(by go_simp),(by go_simp),hb2,cd0,cd1,rf,rf,rf,nf2,cd6,(Bk.past9 f_p.out bz9 hpr),(Bk.past9 f_q.out bz9 hqr),(Bk.past9 f_rt.out bz9 hrr),(fun _ h => by cases h),f_le,(fun h0 => ((f_l0.out h0)).grown gz9),(fun h0 => ((f_l6.out h0)).grown gz9),f_lt,f_nm,(fun _ => o9),(fun _ => h9),(fun _ h6 => by rcases hg9 with q9 | q9; exact fun e => W_nm rfl h6 (q9 ▸ e); exact fun e => by have : gt < w.heap.size := f_l6.out h6; omega),(fun h0 h1 => Bk.grown (f_tz.out h0 h1) gz9 (fun e => W_nm rfl h0 (Option.some.inj e).symm)),(fun h0 => absurd (f_q4.out h0) (by simp)),rf,f_q6,rf⟩
   · have hf' : b5 = false := hf
     subst hf'
     have d1 : b1 = true := hd ⟨1, .data⟩ (by simp) rfl
     subst d1
     have d4 : b4 = true := hd ⟨4, .data⟩ (by simp) rfl
     subst d4
     obtain rfl := cd1.out rfl
     obtain rfl := cd4.out rfl
     clear hf hd
     have W_p := f_p.out
     have W_q := f_q.out
     have W_rt := f_rt.out
     have W_nm := f_nm.out
     have W_o := f_o.out rfl
     have W_lo := f_lo.out rfl
     have W_nt := f_nt.out
     intro K hK
     rw [if_pos (by rfl)]
     go_simp
     exact hK.out _ _ ⟨b0,true,b2,b3,true,true,b6,b7,x7,.int .i64 next,x9,x10,.slice (some ⟨g3,0,none⟩) cn c3,(.agg #[.int .i64 next,.slice (some ⟨g3,0,none⟩) cn c3]),x6,ge,g3,c3,gt,(by go_simp),(by go_simp),hb,cd0,rf,cd2,cd3,rf,rf,cd6,f_p,f_q,f_rt,(fun _ h => by cases h),f_le,f_l0,f_l6,f_lt,f_nm,f_o,f_lo,f_nt,f_tz,f_s,f_q4,f_q6,rf⟩
   · have hf' : b6 = false := hf
     subst hf'
     clear hf hd
     have W_p := f_p.out
     have W_q := f_q.out
     have W_rt := f_rt.out
     have W_nm := f_nm.out
     have W_nt := f_nt.out
     intro K hK
     rw [if_pos (by rfl)]
     go_simp
     have bx : Below w.heap.size w (w.alloc (.cells #[.int .i64 0, .slice none 0 0] 45)) := (Below.refl _ _).alloc (Nat.le_refl _) _
     exact hK.out _ _ ⟨b0,b1,b2,b3,b4,b5,true,b7,x7,x8,x9,x10,x11,x12,(.pointer (some ⟨(w.heap.size),0,none⟩)),ge,g3,c3,w.heap.size,(by go_simp),(by go_simp),hb.trans (bx.mono (Nat.le_trans hB0 hb.size)),cd0,cd1,cd2,cd3,cd4,cd5,rf,(f_p.out.past bx),(f_q.out.past bx),(f_rt.out.past bx),(fun h0 h1 => (f_e.out h0 h1).past bx),f_le,(fun h0 => (f_l0.out h0).past bx),(fun _ => (by show _ < _; rw [World.size_alloc]; omega)),(fun _ => (Nat.le_trans hrW hb.size)),(fun h0 _ => Nat.ne_of_lt (f_l0.out h0)),(fun h0 => (f_o.out h0).past bx),f_lo,(fun h0 _ => Nat.ne_of_lt (f_o.out h0).lt),(fun _ _ => Bk.new w _ _),(fun h0 => absurd (f_q6.out h0) (by simp)),f_q4,rf,w_5_4⟩
   · have hf' : b7 = false := hf
     subst hf'
     have d6 : b6 = true := hd ⟨6, .data⟩ (by simp) rfl
     subst d6
     have d5 : b5 = true := hd ⟨5, .data⟩ (by simp) rfl
     subst d5
     have d4 : b4 = true := hd ⟨4, .chain⟩ (by simp) rfl
     subst d4
     have d0 : b0 = true := hd ⟨0, .phase⟩ (by simp) rfl
     subst d0
     have d1 : b1 = true := hd ⟨1, .phase⟩ (by simp) rfl
     subst d1
     have d2 : b2 = true := hd ⟨2, .phase⟩ (by simp) rfl
     subst d2
     have d3 : b3 = true := hd ⟨3, .phase⟩ (by simp) rfl
     subst d3
     obtain rfl := cd6.out rfl
     obtain rfl := cd5.out rfl
     obtain rfl := cd4.out rfl
     obtain rfl := cd0.out rfl
     obtain rfl := cd1.out rfl
     obtain rfl := cd2.out rfl
     obtain rfl := cd3.out rfl
     clear hf hd
     have W_p := f_p.out
     have W_q := f_q.out
     have W_rt := f_rt.out
     have W_le := f_le.out rfl
     have W_l0 := f_l0.out rfl
     have W_l6 := f_l6.out rfl
     have W_lt := f_lt.out rfl
     have W_nm := f_nm.out
     have W_o := f_o.out rfl
     have W_lo := f_lo.out rfl
     have W_nt := f_nt.out
     have W_tz := f_tz.out rfl rfl
     try simp only [setIfInBounds_toArray, set_cons_zero, set_cons_succ]
     have ZZ : Hid (w.heap[gt]? = some (.cells #[.int .i64 0, .slice none 0 0] 45 (0, 0))) := Lib.hid W_tz
     intro K hK
     rw [if_pos (by rfl)]
     refine wp_store_blkT 45 _ _ rfl gt #[.int .i64 0,.slice none 0 0] #[.int .i64 next,.slice (some ⟨g3,0,none⟩) cn c3] rfl rfl 45 ZZ 2 szTx' rfl rfl (by simp [Value.oneCell']) fun w2 h8 b8 => ?_
     have hb2 := hb.grown b8 (Nat.le_trans (Nat.le_trans hpr' hrW) hb.size) (fun z hz => by cases hz; have := W_lt; omega)
     exact hK.out _ _ ⟨true,true,true,true,true,true,true,true,.pointer (some ⟨p,0,none⟩),.int .i64 next,.slice (some ⟨ge,0,none⟩) 0 0,.slice ca cn cc,.slice (some ⟨g3,0,none⟩) cn c3,.agg #[.int .i64 next,.slice (some ⟨g3,0,none⟩) cn c3],.pointer (some ⟨gt,0,none⟩),ge,g3,c3,gt,(by go_simp),(by go_simp),hb2,rf,rf,rf,rf,rf,rf,rf,(Bk.grown f_p.out b8 (fun e => by have := Option.some.inj e; have := W_lt; omega)),(Bk.grown f_q.out b8 (fun e => by have := Option.some.inj e; have := W_lt; omega)),(Bk.grown f_rt.out b8 (fun e => by have := Option.some.inj e; have := W_lt; omega)),(fun _ h => by cases h),f_le,(fun h0 => ((f_l0.out h0)).grown b8),(fun h0 => ((f_l6.out h0)).grown b8),f_lt,f_nm,(fun h0 => OwnR.grown (f_o.out h0) b8 (fun e => W_nt rfl rfl (Option.some.inj e))),f_lo,f_nt,(fun _ h => by cases h),(fun _ => h8.out),rf,rf,rf⟩
 · rintro act V1 ⟨b0,b1,b2,b3,b4,b5,b6,b7,x7,x8,x9,x10,x11,x12,x6,ge,g3,c3,gt,hL,rfl,hb,cd0,cd1,cd2,cd3,cd4,cd5,cd6,f_p,f_q,f_rt,f_e,f_le,f_l0,f_l6,f_lt,f_nm,f_o,f_lo,f_nt,f_tz,f_s,f_q4,f_q6,w_5_4⟩
   have hL' : [true, true, true, true, true, true, true, true] = [b0, b1, b2, b3, b4, b5, b6, b7] := congrArg Array.toList hL
   simp only [List.cons.injEq, and_true] at hL'
   obtain ⟨rfl, rfl, rfl, rfl, rfl, rfl, rfl, rfl⟩ := hL'
   obtain rfl := cd0.out rfl
   obtain rfl := cd1.out rfl
   obtain rfl := cd2.out rfl
   obtain rfl := cd3.out rfl
   obtain rfl := cd4.out rfl
   obtain rfl := cd5.out rfl
   obtain rfl := cd6.out rfl
   have W_p := f_p.out
   have W_q := f_q.out
   have W_rt := f_rt.out
   have W_le := f_le.out rfl
   have W_l0 := f_l0.out rfl
   have W_l6 := f_l6.out rfl
   have W_lt := f_lt.out rfl
   have W_nm := f_nm.out
   have W_o := f_o.out rfl
   have W_lo := f_lo.out rfl
   have W_nt := f_nt.out
   have W_s := f_s.out rfl
   have W_q4 := f_q4.out rfl
   have W_q6 := f_q6.out rfl
   clear hL f_p f_q f_rt f_e f_le f_l0 f_l6 f_lt f_nm f_o f_lo f_nt f_tz f_s f_q4 f_q6 cd0 cd1 cd2 cd3 cd4 cd5 cd6 w_5_4
   simp only [setIfInBounds_toArray, set_cons_zero, set_cons_succ]
   have hP3' := W_p
   have hQ3' := W_q
   have hR3' := W_rt
   have hT3 := W_s
   have hO3 := W_o
   have hnt := W_nt
   have hlt := W_lt
   have hlo := W_lo
   have B3 : Below p w V1 := B1.trans ((Below.refl _ _).drew.trans hb)
   clear W_p W_q W_rt W_s W_o W_nt W_lt W_lo W_le W_l0 W_l6 W_nm W_q4 W_q6 hb
   replace hnt := hnt rfl rfl
   have f0 := free_blk (i := 0) hP3'
   have z0 : V1.cell? ⟨p, 0, none⟩ = some (.int .i64 next) := hP3'.c rfl
   go_upto_region 3 with fail
   try simp only [HNX1.out]
   have G4 := grown_cell (grown_self V1 p) 0 (.int .i64 nx)
   have hP4 := lg_set0 hP3' (.int .i64 nx)
   have hQ4 := hQ3'.grown G4 hqp
   have hR4 := hR3'.grown G4 hrp
   have hT4 := hT3.grown G4 (fun e => by have := Option.some.inj e; omega)
   have hO4 := hO3.grown G4 (fun e => by have := Option.some.inj e; omega)
   have B4 : Below p w (V1.setCell ⟨p, 0, none⟩ (.int .i64 nx)) := B3.grown G4 (Nat.le_of_lt hP3'.lt) (fun z hz => by cases hz; exact Nat.le_refl _)
   clear f0 z0 hP3' hQ3' hR3' hT3 hO3 B3 G4 hP3 hQ3 hR3 B1 hB0 HSc
   generalize V1.setCell ⟨p, 0, none⟩ (.int .i64 nx) = w4 at hP4 hQ4 hR4 hT4 hO4 B4 ⊢
   obtain ⟨gT, rfl⟩ : ∃ x, x = g3 := ⟨_, rfl⟩
   obtain ⟨cT, rfl⟩ : ∃ x, x = c3 := ⟨_, rfl⟩
   obtain ⟨r4, hr4⟩ : ∃ x, w4.heap.size = x := ⟨_, rfl⟩
   have hrW4 : r4 ≤ w4.heap.size := Nat.le_of_eq hr4.symm
   have hpr4 : p < r4 := by have := hP4.lt; omega
   have hpr4' : p ≤ r4 := by omega
   have hqr4 : q < r4 := by have := hQ4.lt; omega
   have hrr4 : rt < r4 := by have := hR4.lt; omega
   have htr : gt < r4 := by have := hT4.lt; omega
   have hOr : gT < r4 := by have := hO4.lt; omega
   have htp : some gt ≠ some p := fun e => by have := Option.some.inj e; omega
   have hOp : some gT ≠ some p := fun e => by have := Option.some.inj e; omega
   have htq : some gt ≠ some q := fun e => by have := Option.some.inj e; omega
   have htrt : some gt ≠ some rt := fun e => by have := Option.some.inj e; omega
   have hB0 : p ≤ w4.heap.size := by omega
   obtain ⟨l2, hl2⟩ : ∃ x : List (Int × HdR), l1 ++ [(next, (⟨some ⟨gT, 0, none⟩, cn, cT⟩ : HdR))] = x := ⟨_, rfl⟩
   have HL2 := Lib.hid hl2
   have HSo := fun (w' : World) (hb : Below p w4.drew w') => HSo0 w' (B4.trans ((Below.refl _ _).drew.trans hb))
   clear hl2 hr4 HSo0
   go_upto_region 3 with fail
   refine region_inv (RgA3 p p q rt r4 gt gT cT nx next oa on oc ba bn bc ta tn tc cn h1 n1 l1 l2) (by kernel_rfl) (by kernel_rfl) ?_ ?_ ?_
   · exact ⟨false,false,false,false,false,false,false,false,false,undef,undef,undef,undef,undef,undef,undef,undef,0,0,0,0,0,0,rfl,(by go_simp),Below.refl _ _,nf2,nf2,nf2,nf2,nf2,nf2,nf2,nf2,(fun h1 => hP4.past (Below.refl _ _).drew),(hQ4.past (Below.refl _ _).drew),(hR4.past (Below.refl _ _).drew),(hT4.past (Below.refl _ _).drew),(hO4.past (Below.refl _ _).drew),(nf2),(nf2),(nf2),nf2,nf2,nf2,nf2,nf2,nf2,(nf2),nf2,nf2,nf2,nf2,nf2⟩
   · refine ⟨?_, ?_, ?_, ?_, ?_, ?_, ?_, ?_, ?_, trivial⟩
     all_goals rintro L a w ⟨b0,b1,b2,b3,b4,b5,b6,b7,b8,x17,x18,x19,x20,x21,x22,x23,x24,ge,g3,c3,gs,g6,c6,rfl,rfl,hb,cd0,cd1,cd2,cd3,cd4,cd5,cd6,cd7,f_p,f_q,f_rt,f_t,f_row,f_o6_3,f_o8_3,f_o8_6,f_e,f_le,f_f,f_lf,f_l0,f_l5,f_nm,f_ls,f_o,f_lo,f_s,f_qa2⟩ hf hd
     · have hf' : b0 = false := hf
       subst hf'
       clear hf hd
       have W_q := f_q.out
       have W_rt := f_rt.out
       have W_t := f_t.out
       have W_row := f_row.out
       have W_o6_3 := f_o6_3.out
       have W_o8_3 := f_o8_3.out
       have W_o8_6 := f_o8_6.out
       have W_nm := f_nm.out
       intro K hK
       rw [if_pos (by rfl)]
       go_simp
       have bx : Below w.heap.size w (w.alloc (.cells #[] 45)) := (Below.refl _ _).alloc (Nat.le_refl _) _
       exact hK.out _ _ ⟨true,b1,b2,b3,b4,b5,b6,b7,b8,(.slice (some ⟨(w.heap.size),0,none⟩) 0 0),x18,x19,x20,x21,x22,x23,x24,w.heap.size,g3,c3,gs,g6,c6,(by go_simp),(by go_simp),hb.trans (bx.mono (Nat.le_trans hB0 hb.size)),rf,cd1,cd2,cd3,cd4,cd5,cd6,cd7,(fun h1 => (f_p.out h1).past bx),(f_q.out.past bx),(f_rt.out.past bx),(f_t.out.past bx),(f_row.out.past bx),f_o6_3,f_o8_3,f_o8_6,(fun _ _ => own_emptyR' w _),(fun _ => (Nat.le_trans hrW4 hb.size)),(fun h0 h1 => (f_f.out h0 h1).past bx),f_lf,(fun _ => (by show _ < _; rw [World.size_alloc]; omega)),(fun h0 => (f_l5.out h0).past bx),(fun _ h5 => Nat.ne_of_gt (f_l5.out h5)),(fun h0 h1 => (f_ls.out h0 h1).past bx),(fun h0 => (f_o.out h0).past bx),f_lo,(fun h0 => (f_s.out h0).past bx),f_qa2⟩
     · have hf' : b1 = false := hf
       subst hf'
       clear hf hd
       have W_q := f_q.out
       have W_rt := f_rt.out
       have W_t := f_t.out
       have W_row := f_row.out
       have W_o6_3 := f_o6_3.out
       have W_o8_3 := f_o8_3.out
       have W_o8_6 := f_o8_6.out
       have W_nm := f_nm.out
       intro K hK
       rw [if_pos (by rfl)]
       go_simp
       exact hK.out _ _ ⟨b0,true,b2,b3,b4,b5,b6,b7,b8,x17,(.pointer (some ⟨p,1,none⟩)),x19,x20,x21,x22,x23,x24,ge,g3,c3,gs,g6,c6,(by go_simp),(by go_simp),hb,cd0,rf,cd2,cd3,cd4,cd5,cd6,cd7,f_p,f_q,f_rt,f_t,f_row,f_o6_3,f_o8_3,f_o8_6,f_e,f_le,f_f,f_lf,f_l0,f_l5,f_nm,f_ls,f_o,f_lo,f_s,f_qa2⟩
     · have hf' : b2 = false := hf
       subst hf'
       have d1 : b1 = true := hd ⟨1, .data⟩ (by simp) rfl
       subst d1
       obtain rfl := cd1.out rfl
       clear hf hd
       have W_q := f_q.out
       have W_rt := f_rt.out
       have W_t := f_t.out
       have W_row := f_row.out
       have W_o6_3 := f_o6_3.out
       have W_o8_3 := f_o8_3.out
       have W_o8_6 := f_o8_6.out
       have W_nm := f_nm.out
       try simp only [setIfInBounds_toArray, set_cons_zero, set_cons_succ]
       have e_p : b8 = false := by cases hq : b8 with | false => rfl | true => exact absurd (f_qa2.out hq) (by simp)
       have W_p := f_p.out e_p
       have z1 : w.cell? ⟨p, 1, none⟩ = some (.slice oa on oc) := W_p.c rfl
       intro K hK
       rw [if_pos (by rfl)]
       go_simp
       exact hK.out _ _ ⟨b0,true,true,b3,b4,b5,b6,b7,b8,x17,.pointer (some ⟨p,1,none⟩),(.slice oa on oc),x20,x21,x22,x23,x24,ge,g3,c3,gs,g6,c6,(by go_simp),(by go_simp),hb,cd0,rf,rf,cd3,cd4,cd5,cd6,cd7,f_p,f_q,f_rt,f_t,f_row,f_o6_3,f_o8_3,f_o8_6,f_e,f_le,f_f,f_lf,f_l0,f_l5,f_nm,f_ls,f_o,f_lo,f_s,rf⟩
     · have hf' : b3 = false := hf
       subst hf'
       have d0 : b0 = true := hd ⟨0, .data⟩ (by simp) rfl
       subst d0
       have d2 : b2 = true := hd ⟨2, .data⟩ (by simp) rfl
       subst d2
       obtain rfl := cd0.out rfl
       obtain rfl := cd2.out rfl
       clear hf hd
       have W_q := f_q.out
       have W_rt := f_rt.out
       have W_t := f_t.out
       have W_row := f_row.out
       have W_o6_3 := f_o6_3.out
       have W_o8_3 := f_o8_3.out
       have W_o8_6 := f_o8_6.out
       have W_e := f_e.out rfl rfl
       have W_le := f_le.out rfl
       have W_l0 := f_l0.out rfl
       have W_nm := f_nm.out
       try simp only [setIfInBounds_toArray, set_cons_zero, set_cons_succ]
       intro K hK
       rw [if_pos (by rfl)]
       refine wp_append_o (E := ETx) (bd := r4) _ _ 25 25 rfl rowTyTx rfl W_e W_le (Nat.le_trans hrW4 hb.size) _ rfl on l1 ((HSo _ hb).src Tryz.underlying25) HLN.out on (Nat.zero_add _) l1 (List.nil_append _) (by omega) ?_
       intro g9 c9 w2 o9 h9 gz9 _ bz9
       have hb2 := hb.trans (bz9.mono hpr4')
       exact hK.out _ _ ⟨true,b1,true,true,b4,b5,b6,b7,b8,.slice (some ⟨ge,0,none⟩) 0 0,x18,.slice oa on oc,(.slice (some ⟨g9,0,none⟩) on c9),x21,x22,x23,x24,ge,g9,c9,gs,g6,c6,(by go_simp),(by go_simp),hb2,rf,cd1,rf,rf,cd4,cd5,cd6,cd7,(fun h1 => Bk.past9 (f_p.out h1) bz9 hpr4),(Bk.past9 f_q.out bz9 hqr4),(Bk.past9 f_rt.out bz9 hrr4),(Bk.past9 f_t.out bz9 htr),(OwnR.below f_row.out bz9 hOr),rf,rf,f_o8_6,(fun _ h => by cases h),f_le,(fun _ _ => o9),(fun _ => h9),(fun h0 => ((f_l0.out h0)).grown gz9),(fun h0 => ((f_l5.out h0)).grown gz9),f_nm,(fun h0 h1 => (IsR.grown (f_ls.out h0 h1) gz9 (fun a ha e => W_nm rfl h0 (by cases ha; exact (Option.some.inj e).symm)))),(fun h0 => absurd (f_o6_3.out h0) (by simp)),(fun h0 => absurd (f_o6_3.out h0) (by simp)),(fun h0 => absurd (f_o8_3.out h0) (by simp)),f_qa2⟩
     · have hf' : b4 = false := hf
       subst hf'
       clear hf hd
       have W_q := f_q.out
       have W_rt := f_rt.out
       have W_t := f_t.out
       have W_row := f_row.out
       have W_o6_3 := f_o6_3.out
       have W_o8_3 := f_o8_3.out
       have W_o8_6 := f_o8_6.out
       have W_nm := f_nm.out
       try simp only [setIfInBounds_toArray, set_cons_zero, set_cons_succ]
       have z0 : w.cell? ⟨gt, 0, none⟩ = some (.int .i64 next) := W_t.c rfl
       have z1 : w.cell? ⟨gt, 1, none⟩ = some (.slice (some ⟨gT, 0, none⟩) cn cT) := W_t.c rfl
       intro K hK
       rw [if_pos (by rfl)]
       go_simp
       exact hK.out _ _ ⟨b0,b1,b2,b3,true,b5,b6,b7,b8,x17,x18,x19,x20,(.agg #[.int .i64 next,.slice (some ⟨gT,0,none⟩) cn cT]),x22,x23,x24,ge,g3,c3,gs,g6,c6,(by go_simp),(by go_simp),hb,cd0,cd1,cd2,cd3,rf,cd5,cd6,cd7,f_p,f_q,f_rt,f_t,f_row,f_o6_3,f_o8_3,f_o8_6,f_e,f_le,f_f,f_lf,f_l0,f_l5,f_nm,f_ls,f_o,f_lo,f_s,f_qa2⟩
     · have hf' : b5 = false := hf
       subst hf'
       have d4 : b4 = true := hd ⟨4, .data⟩ (by simp) rfl
       subst d4
       obtain rfl := cd4.out rfl
       clear hf hd
       have W_q := f_q.out
       have W_rt := f_rt.out
       have W_t := f_t.out
       have W_row := f_row.out
       have W_o6_3 := f_o6_3.out
       have W_o8_3 := f_o8_3.out
       have W_o8_6 := f_o8_6.out
       have W_nm := f_nm.out
       intro K hK
       rw [if_pos (by rfl)]
       go_simp
       have bx : Below w.heap.size w (w.alloc (.cells #[.int .i64 next, .slice (some ⟨gT, 0, none⟩) cn cT] 45)) := (Below.refl _ _).alloc (Nat.le_refl _) _
       have l9 : w.heap.size < (w.alloc (.cells #[.int .i64 next, .slice (some ⟨gT, 0, none⟩) cn cT] 45)).heap.size := by rw [World.size_alloc]; omega
       exact hK.out _ _ ⟨b0,b1,b2,b3,true,true,b6,b7,b8,x17,x18,x19,x20,.agg #[.int .i64 next,.slice (some ⟨gT,0,none⟩) cn cT],(.slice (some ⟨(w.heap.size),0,none⟩) 1 1),x23,x24,ge,g3,c3,w.heap.size,g6,c6,(by go_simp),(by go_simp),hb.trans (bx.mono (Nat.le_trans hB0 hb.size)),cd0,cd1,cd2,cd3,rf,rf,cd6,cd7,(fun h1 => (f_p.out h1).past bx),(f_q.out.past bx),(f_rt.out.past bx),(f_t.out.past bx),(f_row.out.past bx),f_o6_3,f_o8_3,f_o8_6,(fun h0 h1 => (f_e.out h0 h1).past bx),f_le,(fun h0 h1 => (f_f.out h0 h1).past bx),f_lf,(fun h0 => (f_l0.out h0).past bx),(fun _ => l9),(fun h0 _ => Nat.ne_of_lt (f_l0.out h0)),(fun _ _ => tx_one' w _ next _ _ _),(fun h0 => (f_o.out h0).past bx),f_lo,(fun h0 => (f_s.out h0).past bx),f_qa2⟩
     · have hf' : b6 = false := hf
       subst hf'
       have d3 : b3 = true := hd ⟨3, .data⟩ (by simp) rfl
       subst d3
       have d5 : b5 = true := hd ⟨5, .data⟩ (by simp) rfl
       subst d5
       obtain rfl := cd3.out rfl
       obtain rfl := cd5.out rfl
       clear hf hd
       have W_q := f_q.out
       have W_rt := f_rt.out
       have W_t := f_t.out
       have W_row := f_row.out
       have W_o6_3 := f_o6_3.out
       have W_o8_3 := f_o8_3.out
       have W_o8_6 := f_o8_6.out
       have W_f := f_f.out rfl rfl
       have W_lf := f_lf.out rfl
       have W_l5 := f_l5.out rfl
       have W_nm := f_nm.out
       have W_ls := f_ls.out rfl rfl
       try simp only [setIfInBounds_toArray, set_cons_zero, set_cons_succ]
       intro K hK
       rw [if_pos (by rfl)]
       refine wp_append_o (E := ETx) (bd := r4) _ _ 25 25 rfl rowTyTx rfl W_f W_lf (Nat.le_trans hrW4 hb.size) _ rfl 1 [(next,⟨some ⟨gT,0,none⟩,cn,cT⟩)] (W_ls.src Tryz.underlying25) rfl n1 HN1.out l2 HL2.out (by omega) ?_
       intro g9 c9 w2 o9 h9 gz9 _ bz9
       have hb2 := hb.trans (bz9.mono hpr4')
       exact hK.out _ _ ⟨b0,b1,b2,true,b4,true,true,b7,b8,x17,x18,x19,.slice (some ⟨g3,0,none⟩) on c3,x21,.slice (some ⟨gs,0,none⟩) 1 1,(.slice (some ⟨g9,0,none⟩) n1 c9),x24,ge,g3,c3,gs,g9,c9,(by go_simp),(by go_simp),hb2,cd0,cd1,cd2,rf,cd4,rf,rf,cd7,(fun h1 => Bk.past9 (f_p.out h1) bz9 hpr4),(Bk.past9 f_q.out bz9 hqr4),(Bk.past9 f_rt.out bz9 hrr4),(Bk.past9 f_t.out bz9 htr),(OwnR.below f_row.out bz9 hOr),rf,f_o8_3,rf,(fun _ h => by cases h),f_le,(fun _ h => by cases h),f_lf,(fun h0 => ((f_l0.out h0)).grown gz9),(fun h0 => ((f_l5.out h0)).grown gz9),f_nm,(fun _ h => by cases h),(fun _ => o9),(fun _ => h9),(fun h0 => absurd (f_o8_6.out h0) (by simp)),f_qa2⟩
     · have hf' : b7 = false := hf
       subst hf'
       have d0 : b0 = true := hd ⟨0, .phase⟩ (by simp) rfl
       subst d0
       have d1 : b1 = true := hd ⟨1, .phase⟩ (by simp) rfl
       subst d1
       have d2 : b2 = true := hd ⟨2, .phase⟩ (by simp) rfl
       subst d2
       have d3 : b3 = true := hd ⟨3, .phase⟩ (by simp) rfl
       subst d3
       have d4 : b4 = true := hd ⟨4, .phase⟩ (by simp) rfl
       subst d4
       have d5 : b5 = true := hd ⟨5, .phase⟩ (by simp) rfl
       subst d5
       have d6 : b6 = true := hd ⟨6, .phase⟩ (by simp) rfl
       subst d6
       obtain rfl := cd0.out rfl
       obtain rfl := cd1.out rfl
       obtain rfl := cd2.out rfl
       obtain rfl := cd3.out rfl
       obtain rfl := cd4.out rfl
       obtain rfl := cd5.out rfl
       obtain rfl := cd6.out rfl
       clear hf hd
       have W_q := f_q.out
       have W_rt := f_rt.out
       have W_t := f_t.out
       have W_row := f_row.out
       have W_o6_3 := f_o6_3.out
       have W_o8_3 := f_o8_3.out
       have W_o8_6 := f_o8_6.out
       have W_le := f_le.out rfl
       have W_lf := f_lf.out rfl
       have W_l0 := f_l0.out rfl
       have W_l5 := f_l5.out rfl
       have W_nm := f_nm.out
       have W_o := f_o.out rfl
       have W_lo := f_lo.out rfl
       intro K hK
       rw [if_pos (by rfl)]
       go_simp
       exact hK.out _ _ ⟨true,true,true,true,true,true,true,true,b8,.slice (some ⟨ge,0,none⟩) 0 0,.pointer (some ⟨p,1,none⟩),.slice oa on oc,.slice (some ⟨g3,0,none⟩) on c3,.agg #[.int .i64 next,.slice (some ⟨gT,0,none⟩) cn cT],.slice (some ⟨gs,0,none⟩) 1 1,.slice (some ⟨g6,0,none⟩) n1 c6,(.pointer (some ⟨p,1,none⟩)),ge,g3,c3,gs,g6,c6,(by go_simp),(by go_simp),hb,rf,rf,rf,rf,rf,rf,rf,rf,f_p,f_q,f_rt,f_t,f_row,f_o6_3,f_o8_3,f_o8_6,(fun _ h => by cases h),f_le,(fun _ h => by cases h),f_lf,f_l0,f_l5,f_nm,(fun _ h => by cases h),f_o,f_lo,f_s,f_qa2⟩
     · have hf' : b8 = false := hf
       subst hf'
       have d7 : b7 = true := hd ⟨7, .data⟩ (by simp) rfl
       subst d7
       have d6 : b6 = true := hd ⟨6, .data⟩ (by simp) rfl
       subst d6
       have d0 : b0 = true := hd ⟨0, .phase⟩ (by simp) rfl
       subst d0
       have d1 : b1 = true := hd ⟨1, .phase⟩ (by simp) rfl
       subst d1
       have d2 : b2 = true := hd ⟨2, .phase⟩ (by simp) rfl
       subst d2
       have d3 : b3 = true := hd ⟨3, .phase⟩ (by simp) rfl
       subst d3
       have d4 : b4 = true := hd ⟨4, .phase⟩ (by simp) rfl
       subst d4
       have d5 : b5 = true := hd ⟨5, .phase⟩ (by simp) rfl
       subst d5
       obtain rfl := cd7.out rfl
       obtain rfl := cd6.out rfl
       obtain rfl := cd0.out rfl
       obtain rfl := cd1.out rfl
       obtain rfl := cd2.out rfl
       obtain rfl := cd3.out rfl
       obtain rfl := cd4.out rfl
       obtain rfl := cd5.out rfl
       clear hf hd
       have W_p := f_p.out rfl
       have W_q := f_q.out
       have W_rt := f_rt.out
       have W_t := f_t.out
       have W_row := f_row.out
       have W_o6_3 := f_o6_3.out
       have W_o8_3 := f_o8_3.out
       have W_o8_6 := f_o8_6.out
       have W_le := f_le.out rfl
       have W_lf := f_lf.out rfl
       have W_l0 := f_l0.out rfl
       have W_l5 := f_l5.out rfl
       have W_nm := f_nm.out
       have W_o := f_o.out rfl
       have W_lo := f_lo.out rfl
       try simp only [setIfInBounds_toArray, set_cons_zero, set_cons_succ]
       have z1 : w.cell? ⟨p, 1, none⟩ = some (.slice oa on oc) := W_p.c rfl
       have fz := free_blk (i := 1) W_p
       intro K hK
       rw [if_pos (by rfl)]
       go_simp
       have gz9 := grown_cell (grown_self w p) 1 (.slice (some ⟨g6, 0, none⟩) n1 c6)
       have hb2 := hb.grown gz9 (Nat.le_trans (Nat.le_trans hpr4' hrW4) hb.size) (fun z hz => by cases hz; exact Nat.le_refl _)
       exact hK.out _ _ ⟨true,true,true,true,true,true,true,true,true,.slice (some ⟨ge,0,none⟩) 0 0,.pointer (some ⟨p,1,none⟩),.slice oa on oc,.slice (some ⟨g3,0,none⟩) on c3,.agg #[.int .i64 next,.slice (some ⟨gT,0,none⟩) cn cT],.slice (some ⟨gs,0,none⟩) 1 1,.slice (some ⟨g6,0,none⟩) n1 c6,.pointer (some ⟨p,1,none⟩),ge,g3,c3,gs,g6,c6,(by go_simp),(by go_simp),hb2,rf,rf,rf,rf,rf,rf,rf,rf,nf2,(Bk.grown f_q.out gz9 hqp),(Bk.grown f_rt.out gz9 hrp),(Bk.grown f_t.out gz9 htp),(OwnR.grown f_row.out gz9 hOp),f_o6_3,(fun _ => f_o6_3.out rfl),rf,(fun _ h => by cases h),f_le,(fun _ h => by cases h),f_lf,(fun h0 => ((f_l0.out h0)).grown gz9),(fun h0 => ((f_l5.out h0)).grown gz9),f_nm,(fun _ h => by cases h),(fun h0 => ((f_o.out h0)).grown gz9 (fun e => by have := Option.some.inj e; have := W_lo; omega)),f_lo,(fun _ => lg_set1 W_p _),rf⟩
   · rintro act V3 ⟨b0,b1,b2,b3,b4,b5,b6,b7,b8,x17,x18,x19,x20,x21,x22,x23,x24,ge,g3,c3,gs,g6,c6,hL,rfl,hb,cd0,cd1,cd2,cd3,cd4,cd5,cd6,cd7,f_p,f_q,f_rt,f_t,f_row,f_o6_3,f_o8_3,f_o8_6,f_e,f_le,f_f,f_lf,f_l0,f_l5,f_nm,f_ls,f_o,f_lo,f_s,f_qa2⟩
     have hL' : [true, true, true, true, true, true, true, true, true] = [b0, b1, b2, b3, b4, b5, b6, b7, b8] := congrArg Array.toList hL
     simp only [List.cons.injEq, and_true] at hL'
     obtain ⟨rfl, rfl, rfl, rfl, rfl, rfl, rfl, rfl, rfl⟩ := hL'
     obtain rfl := cd0.out rfl
     obtain rfl := cd1.out rfl
     obtain rfl := cd2.out rfl
     obtain rfl := cd3.out rfl
     obtain rfl := cd4.out rfl
     obtain rfl := cd5.out rfl
     obtain rfl := cd6.out rfl
     obtain rfl := cd7.out rfl
     have W_q := f_q.out
     have W_rt := f_rt.out
     have W_t := f_t.out
     have W_row := f_row.out
     have W_o6_3 := f_o6_3.out
     have W_o8_3 := f_o8_3.out
     have W_o8_6 := f_o8_6.out
     have W_le := f_le.out rfl
     have W_lf := f_lf.out rfl
     have W_l0 := f_l0.out rfl
     have W_l5 := f_l5.out rfl
     have W_nm := f_nm.out
     have W_o := f_o.out rfl
     have W_lo := f_lo.out rfl
     have W_s := f_s.out rfl
     have W_qa2 := f_qa2.out rfl
     clear hL f_p f_q f_rt f_t f_row f_o6_3 f_o8_3 f_o8_6 f_e f_le f_f f_lf f_l0 f_l5 f_nm f_ls f_o f_lo f_s f_qa2 cd0 cd1 cd2 cd3 cd4 cd5 cd6 cd7
     simp only [setIfInBounds_toArray, set_cons_zero, set_cons_succ]
     have hP5 := W_s
     have hQ5 := W_q
     have hR5 := W_rt
     have hT5 := W_t
     have hO5 := W_row
     have hS5 := W_o
     have hl5 := W_lo
     have B5 : Below p w V3 := B4.trans ((Below.refl _ _).drew.trans hb)
     clear W_s W_q W_rt W_t W_row W_o W_lo W_le W_lf W_l0 W_l5 W_nm W_qa2 hb hB0
     obtain ⟨w5, rfl⟩ : ∃ x, x = V3 := ⟨_, rfl⟩
     obtain ⟨oa5, hoa5⟩ : ∃ x : Option Addr, (some ⟨g6, 0, none⟩) = x := ⟨_, rfl⟩
     have HOA := Lib.hid hoa5
     obtain ⟨oc5, rfl⟩ : ∃ x, x = c6 := ⟨_, rfl⟩
     have BW5 : Below w.heap.size w w5 := by rw [HG.out]; exact B5
     have hD5 : IsD DC w5 (fun k => Q k ∧ k ≠ p ∧ k ≠ q ∧ k ≠ rt) (some ⟨gT,0,none⟩) cn cT cl := HD.out w5 BW5 gT cT hO5 (by rw [HG.out]; omega) (by omega) (by omega) (by omega) (by rw [HG.out]; omega) (by rw [HG.out]; omega) (by rw [HG.out]; omega)
     have hL5 : LgR w5 (fun k => Q k ∧ k ≠ p ∧ k ≠ q ∧ k ≠ rt) oa5 n1 oc5 ba bn bc ta tn tc M1 := by
      rw [← HOA.out]
      exact HL.out w5 BW5 g6 oc5 gT cT (by rw [HL2.out]; exact hS5) (by rw [HG.out]; omega) (by omega) (by omega) (by omega) (by rw [HG.out]; omega) (by rw [HG.out]; omega) (by rw [HG.out]; omega) hD5
     rw [hoa5] at hP5
     simp only [hoa5]
     obtain ⟨x1, -⟩ : w5.cell? ⟨p, 1, none⟩ = some (.slice oa5 n1 oc5) ∧ True := ⟨hP5.c rfl, trivial⟩
     clear hO5 hS5 hl5 hoa5 HOA
     by_cases h4 : n1 = 4
     · have h4i : ((n1 : Int) == 4) = true := by simp; omega
       have hr4 : w.heap.size ≤ w5.heap.size := BW5.size
       have HCl := Lib.hid (rclose_any w5 (fun k => Q k ∧ k ≠ p ∧ k ≠ q ∧ k ≠ rt) (fun k hk => ⟨hQ k (by omega),by have := hP5.lt; omega,by have := hQ5.lt; omega,by have := hR5.lt; omega⟩) nx oa5 n1 oc5 ba bn bc ta tn tc M1 HN1x.out hL5 (HOk.out h4))
       have HH4 := Lib.hid h4
       clear h4
       have hcn : (cls M1).next = nx := by
        rw [← HN1x.out]
        unfold cls
        split <;> rfl
       obtain ⟨x0,x2,x3⟩ : w5.cell? ⟨p,0,none⟩ = some (.int .i64 nx) ∧ w5.cell? ⟨p,2,none⟩ = some (.slice ba bn bc) ∧ w5.cell? ⟨p,3,none⟩ = some (.slice ta tn tc) := ⟨hP5.c rfl,hP5.c rfl,hP5.c rfl⟩
       go_upto_region 6 with (go_at_call 18; refine HCl.out.mono ?_; rintro e w7 ⟨v7,rfl,oa7,on7,oc7,ba7,bn7,bc7,ta7,tn7,tc7,rfl,L7,b7⟩; rw [hcn]; have P7 := hP5.past b7; obtain ⟨y0,y1,y2,y3⟩ : w7.cell? ⟨p,0,none⟩ = some (.int .i64 nx) ∧ w7.cell? ⟨p,1,none⟩ = some (.slice oa5 n1 oc5) ∧ w7.cell? ⟨p,2,none⟩ = some (.slice ba bn bc) ∧ w7.cell? ⟨p,3,none⟩ = some (.slice ta tn tc) := ⟨P7.c rfl,P7.c rfl,P7.c rfl,P7.c rfl⟩; obtain ⟨f0,f1,f2,f3⟩ : w7.frozen? ⟨p,0,none⟩ = false ∧ w7.frozen? ⟨p,1,none⟩ = false ∧ w7.frozen? ⟨p,2,none⟩ = false ∧ w7.frozen? ⟨p,3,none⟩ = false := ⟨free_blk P7,free_blk P7,free_blk P7,free_blk P7⟩)
       have G8 := grown_cell (grown_cell (grown_cell (grown_cell (grown_self w7 p) 0 (.int .i64 nx)) 1 (.slice oa7 on7 oc7)) 2 (.slice ba7 bn7 bc7)) 3 (.slice ta7 tn7 tc7)
       have P8 : Bk (((((w7.setCell ⟨p,0,none⟩ (.int .i64 nx)).setCell ⟨p,1,none⟩ (.slice oa7 on7 oc7)).setCell ⟨p,2,none⟩ (.slice ba7 bn7 bc7)).setCell ⟨p,3,none⟩ (.slice ta7 tn7 tc7))) p #[.int .i64 nx,.slice oa7 on7 oc7,.slice ba7 bn7 bc7,.slice ta7 tn7 tc7] 32 := (heap_setCell_same (i := 3) (v := .slice ta7 tn7 tc7) (heap_setCell_same (i := 2) (v := .slice ba7 bn7 bc7) (heap_setCell_same (i := 1) (v := .slice oa7 on7 oc7) (heap_setCell_same (i := 0) (v := .int .i64 nx) P7))))
       have Q8 := (hQ5.past b7).grown G8 hqp
       have R8 := (hR5.past b7).grown G8 hrp
       have T8 := (hT5.past b7).grown G8 htp
       have L8 := L7.grown G8 (fun h => h.2.1 rfl)
       have D8 := (hD5.past b7).grown G8 (fun h => h.2.1 rfl)
       have B8 : Below p w _ := (B5.trans (b7.mono (Nat.le_of_lt hP5.lt))).grown G8 (Nat.le_of_lt P7.lt) (fun z hz => by cases hz; exact Nat.le_refl _)
       clear x0 x1 x2 x3 y0 y1 y2 y3 f0 f1 f2 f3 P7 L7 b7 G8 hP5 hQ5 hR5 hT5 hL5 hD5 B5 BW5 HCl hr4
       generalize (((((w7.setCell ⟨p,0,none⟩ (.int .i64 nx)).setCell ⟨p,1,none⟩ (.slice oa7 on7 oc7)).setCell ⟨p,2,none⟩ (.slice ba7 bn7 bc7)).setCell ⟨p,3,none⟩ (.slice ta7 tn7 tc7))) = w8 at P8 Q8 R8 T8 L8 D8 B8 ⊢
       obtain ⟨M5, hM5⟩ : ∃ x, cls M1 = x := ⟨_, rfl⟩
       have HMX : Hid (addL M cl = M5) := Lib.hid (by rw [← hM5]; exact HA4.out HH4.out)
       have HMN : Hid (M5.next = nx) := Lib.hid (by rw [← hM5]; exact hcn)
       rw [hM5] at L8
       clear hM5 hcn h4i
       have hB0 : p ≤ w8.heap.size := Nat.le_of_lt P8.lt
       refine region_inv (RgA6 p p q rt gt gT cT cn nx next oa7 on7 oc7 ba7 bn7 bc7 ta7 tn7 tc7 Q M5 cl) (by kernel_rfl) (by kernel_rfl) ?_ ?_ ?_
       · exact ⟨false,false,false,false,undef,undef,rfl,(by go_simp),Below.refl _ _,nf2,nf2,(P8.past (Below.refl _ _).drew),(T8.past (Below.refl _ _).drew),(fun h1 => Q8.past (Below.refl _ _).drew),(fun h1 => R8.past (Below.refl _ _).drew),nf2,nf2,(L8.past (Below.refl _ _).drew),(D8.past (Below.refl _ _).drew)⟩
       · refine ⟨?_, ?_, ?_, ?_, trivial⟩
         all_goals rintro L a w ⟨b0, b1, b2, b3, x34, x35, rfl, rfl, hb, cd0, cd1, f_p, f_t, f_q, f_rt, f_s1, f_s2, f_lg, f_rw⟩ hf hd
         · have hf' : b0 = false := hf
           subst hf'
           clear hf hd
           have W_p := f_p.out
           have W_t := f_t.out
           have W_lg := f_lg.out
           have W_rw := f_rw.out
           try simp only [setIfInBounds_toArray, set_cons_zero, set_cons_succ]
           have z0 : w.cell? ⟨p, 0, none⟩ = some (.int .i64 nx) := W_p.c rfl
           have z1 : w.cell? ⟨p, 1, none⟩ = some (.slice oa7 on7 oc7) := W_p.c rfl
           have z2 : w.cell? ⟨p, 2, none⟩ = some (.slice ba7 bn7 bc7) := W_p.c rfl
           have z3 : w.cell? ⟨p, 3, none⟩ = some (.slice ta7 tn7 tc7) := W_p.c rfl
           intro K hK
           rw [if_pos (by rfl)]
           go_simp
           exact hK.out _ _ ⟨true,b1,b2,b3,(.agg #[.int .i64 nx,.slice oa7 on7 oc7,.slice ba7 bn7 bc7,.slice ta7 tn7 tc7]),x35,(by go_simp),(by go_simp),hb,(fun _ => rfl),cd1,f_p,f_t,f_q,f_rt,f_s1,f_s2,f_lg,f_rw⟩
         · have hf' : b1 = false := hf
           subst hf'
           clear hf hd
           have W_p := f_p.out
           have W_t := f_t.out
           have W_lg := f_lg.out
           have W_rw := f_rw.out
           try simp only [setIfInBounds_toArray, set_cons_zero, set_cons_succ]
           have z0 : w.cell? ⟨gt, 0, none⟩ = some (.int .i64 next) := W_t.c rfl
           have z1 : w.cell? ⟨gt, 1, none⟩ = some (.slice (some ⟨gT, 0, none⟩) cn cT) := W_t.c rfl
           intro K hK
           rw [if_pos (by rfl)]
           go_simp
           exact hK.out _ _ ⟨b0,true,b2,b3,x34,(.agg #[.int .i64 next,.slice (some ⟨gT,0,none⟩) cn cT]),(by go_simp),(by go_simp),hb,cd0,(fun _ => rfl),f_p,f_t,f_q,f_rt,f_s1,f_s2,f_lg,f_rw⟩
         · have hf' : b2 = false := hf
           subst hf'
           have d0 : b0 = true := hd ⟨0, .data⟩ (by simp) rfl
           subst d0
           obtain rfl := cd0.out rfl
           clear hf hd
           have W_p := f_p.out
           have W_t := f_t.out
           have W_q := f_q.out rfl
           have W_lg := f_lg.out
           have W_rw := f_rw.out
           try simp only [setIfInBounds_toArray, set_cons_zero, set_cons_succ]
           have ZZ : Hid (w.heap[q]? = some (.cells #[.int .i64 0, .slice none 0 0, .slice none 0 0, .slice none 0 0] 32 (0, 0))) := Lib.hid W_q
           intro K hK
           rw [if_pos (by rfl)]
           refine wp_store_blkT 32 _ _ rfl q #[.int .i64 0,.slice none 0 0,.slice none 0 0,.slice none 0 0] #[.int .i64 nx,.slice oa7 on7 oc7,.slice ba7 bn7 bc7,.slice ta7 tn7 tc7] rfl rfl 32 ZZ 4 szLgr' rfl rfl (by simp [Value.oneCell']) fun w2 h8 b8 => ?_
           have hb2 := hb.grown b8 (Nat.le_trans hB0 hb.size) (fun z hz => by cases hz; omega)
           exact hK.out _ _ ⟨true,b1,true,b3,.agg #[.int .i64 nx,.slice oa7 on7 oc7,.slice ba7 bn7 bc7,.slice ta7 tn7 tc7],x35,(by go_simp),(by go_simp),hb2,rf,cd1,(Bk.grown f_p.out b8 hpq2),(Bk.grown f_t.out b8 htq),nf2,(fun h1 => Bk.grown (f_rt.out h1) b8 hrq),(fun _ => h8.out),(fun h0 => Bk.grown (f_s2.out h0) b8 hrq),((f_lg.out).grown b8 (fun h => h.2.2.1 rfl)),((f_rw.out).grown b8 (fun h => h.2.2.1 rfl))⟩
         · have hf' : b3 = false := hf
           subst hf'
           have d1 : b1 = true := hd ⟨1, .data⟩ (by simp) rfl
           subst d1
           have d2 : b2 = true := hd ⟨2, .chain⟩ (by simp) rfl
           subst d2
           have d0 : b0 = true := hd ⟨0, .phase⟩ (by simp) rfl
           subst d0
           obtain rfl := cd1.out rfl
           obtain rfl := cd0.out rfl
           clear hf hd
           have W_p := f_p.out
           have W_t := f_t.out
           have W_rt := f_rt.out rfl
           have W_s1 := f_s1.out rfl
           have W_lg := f_lg.out
           have W_rw := f_rw.out
           try simp only [setIfInBounds_toArray, set_cons_zero, set_cons_succ]
           have ZZ : Hid (w.heap[rt]? = some (.cells #[.int .i64 0, .slice none 0 0] 45 (0, 0))) := Lib.hid W_rt
           intro K hK
           rw [if_pos (by rfl)]
           refine wp_store_blkT 45 _ _ rfl rt #[.int .i64 0,.slice none 0 0] #[.int .i64 next,.slice (some ⟨gT,0,none⟩) cn cT] rfl rfl 45 ZZ 2 szTx' rfl rfl (by simp [Value.oneCell']) fun w2 h8 b8 => ?_
           have hb2 := hb.grown b8 (Nat.le_trans hB0 hb.size) (fun z hz => by cases hz; omega)
           exact hK.out _ _ ⟨true,true,true,true,.agg #[.int .i64 nx,.slice oa7 on7 oc7,.slice ba7 bn7 bc7,.slice ta7 tn7 tc7],.agg #[.int .i64 next,.slice (some ⟨gT,0,none⟩) cn cT],(by go_simp),(by go_simp),hb2,rf,rf,(Bk.grown f_p.out b8 hprt),(Bk.grown f_t.out b8 htrt),nf2,nf2,(fun h0 => Bk.grown (f_s1.out h0) b8 hqrt),(fun _ => h8.out),((f_lg.out).grown b8 (fun h => h.2.2.2 rfl)),((f_rw.out).grown b8 (fun h => h.2.2.2 rfl))⟩
       · rintro act V6 ⟨b0, b1, b2, b3, x34, x35, hL, rfl, hb, cd0, cd1, f_p, f_t, f_q, f_rt, f_s1, f_s2, f_lg, f_rw⟩
         have hL' : [true, true, true, true] = [b0, b1, b2, b3] := congrArg Array.toList hL
         simp only [List.cons.injEq, and_true] at hL'
         obtain ⟨rfl, rfl, rfl, rfl⟩ := hL'
         obtain rfl := cd0.out rfl
         obtain rfl := cd1.out rfl
         have W_p := f_p.out
         have W_t := f_t.out
         have W_s1 := f_s1.out rfl
         have W_s2 := f_s2.out rfl
         have W_lg := f_lg.out
         have W_rw := f_rw.out
         clear hL f_p f_t f_q f_rt f_s1 f_s2 f_lg f_rw cd0 cd1
         simp only [setIfInBounds_toArray, set_cons_zero, set_cons_succ]
         have S1 : Bk V6 q #[.int .i64 nx, .slice oa7 on7 oc7, .slice ba7 bn7 bc7, .slice ta7 tn7 tc7] 32 := W_s1
         have S2 : Bk V6 rt #[.int .i64 next, .slice (some ⟨gT, 0, none⟩) cn cT] 45 := W_s2
         have B9 : Below w.heap.size w V6 := by rw [HG.out]; exact B8.trans ((Below.refl _ _).drew.trans hb)
         obtain ⟨d0,d1,d2,d3⟩ : V6.cell? ⟨q,0,none⟩ = some (.int .i64 nx) ∧ V6.cell? ⟨q,1,none⟩ = some (.slice oa7 on7 oc7) ∧ V6.cell? ⟨q,2,none⟩ = some (.slice ba7 bn7 bc7) ∧ V6.cell? ⟨q,3,none⟩ = some (.slice ta7 tn7 tc7) := ⟨S1.c rfl,S1.c rfl,S1.c rfl,S1.c rfl⟩
         obtain ⟨e0, e1⟩ : V6.cell? ⟨rt, 0, none⟩ = some (.int .i64 next) ∧ V6.cell? ⟨rt, 1, none⟩ = some (.slice (some ⟨gT, 0, none⟩) cn cT) := ⟨S2.c rfl, S2.c rfl⟩
         have HL6 : LgR V6 Q oa7 on7 oc7 ba7 bn7 bc7 ta7 tn7 tc7 M5 := W_lg.imp (fun k _ h => h.1)
         have HR6 : IsD DC V6 Q (some ⟨gT, 0, none⟩) cn cT cl := W_rw.imp (fun k _ h => h.1)
         clear W_s1 W_s2 W_p W_t hb
         go_wp2_with fail
         refine bodyPost_ret (v := .tuple #[.agg #[.int .i64 nx,.slice oa7 on7 oc7,.slice ba7 bn7 bc7,.slice ta7 tn7 tc7],.agg #[.int .i64 next,.slice (some ⟨gT,0,none⟩) cn cT]]) (by simp [results, Tryz.results21, go_sem,d0,d1,d2,d3,e0,e1]) rfl ?_
         unfold RAdded RLed
         rw [HMX.out]
         exact ⟨_, _, _, rfl, ⟨_, _, _, _, _, _, _, _, _, by rw [HMN.out], HL6, B9⟩, HR6⟩
     · have h4i : ((n1 : Int) == 4) = false := by simp; omega
       have h4n : ¬ ((n1 : Int) = 4) := by omega
       go_upto_region 6 with fail
       try simp only [h4i]
       obtain ⟨M5, hM5⟩ : ∃ x, M1 = x := ⟨_, rfl⟩
       have HMX : Hid (addL M cl = M5) := Lib.hid (by rw [← hM5]; exact HA0.out h4)
       have HMN : Hid (M5.next = nx) := Lib.hid (by rw [← hM5]; exact HN1x.out)
       rw [hM5] at hL5
       clear x1 hM5
       have hB0 : p ≤ w5.heap.size := Nat.le_of_lt hP5.lt
       refine region_inv (RgA6 p p q rt gt gT cT cn nx next oa5 n1 oc5 ba bn bc ta tn tc Q M5 cl) (by kernel_rfl) (by kernel_rfl) ?_ ?_ ?_
       · exact ⟨false,false,false,false,undef,undef,rfl,(by go_simp),Below.refl _ _,nf2,nf2,(hP5.past (Below.refl _ _).drew),(hT5.past (Below.refl _ _).drew),(fun h1 => hQ5.past (Below.refl _ _).drew),(fun h1 => hR5.past (Below.refl _ _).drew),nf2,nf2,(hL5.past (Below.refl _ _).drew),(hD5.past (Below.refl _ _).drew)⟩
       · refine ⟨?_, ?_, ?_, ?_, trivial⟩
         all_goals rintro L a w ⟨b0, b1, b2, b3, x34, x35, rfl, rfl, hb, cd0, cd1, f_p, f_t, f_q, f_rt, f_s1, f_s2, f_lg, f_rw⟩ hf hd
         · have hf' : b0 = false := hf
           subst hf'
           clear hf hd
           have W_p := f_p.out
           have W_t := f_t.out
           have W_lg := f_lg.out
           have W_rw := f_rw.out
           try simp only [setIfInBounds_toArray, set_cons_zero, set_cons_succ]
           have z0 : w.cell? ⟨p, 0, none⟩ = some (.int .i64 nx) := W_p.c rfl
           have z1 : w.cell? ⟨p, 1, none⟩ = some (.slice oa5 n1 oc5) := W_p.c rfl
           have z2 : w.cell? ⟨p, 2, none⟩ = some (.slice ba bn bc) := W_p.c rfl
           have z3 : w.cell? ⟨p, 3, none⟩ = some (.slice ta tn tc) := W_p.c rfl
           intro K hK
           rw [if_pos (by rfl)]
           go_simp
           exact hK.out _ _ ⟨true,b1,b2,b3,(.agg #[.int .i64 nx,.slice oa5 n1 oc5,.slice ba bn bc,.slice ta tn tc]),x35,(by go_simp),(by go_simp),hb,(fun _ => rfl),cd1,f_p,f_t,f_q,f_rt,f_s1,f_s2,f_lg,f_rw⟩
         · have hf' : b1 = false := hf
           subst hf'
           clear hf hd
           have W_p := f_p.out
           have W_t := f_t.out
           have W_lg := f_lg.out
           have W_rw := f_rw.out
           try simp only [setIfInBounds_toArray, set_cons_zero, set_cons_succ]
           have z0 : w.cell? ⟨gt, 0, none⟩ = some (.int .i64 next) := W_t.c rfl
           have z1 : w.cell? ⟨gt, 1, none⟩ = some (.slice (some ⟨gT, 0, none⟩) cn cT) := W_t.c rfl
           intro K hK
           rw [if_pos (by rfl)]
           go_simp
           exact hK.out _ _ ⟨b0,true,b2,b3,x34,(.agg #[.int .i64 next,.slice (some ⟨gT,0,none⟩) cn cT]),(by go_simp),(by go_simp),hb,cd0,(fun _ => rfl),f_p,f_t,f_q,f_rt,f_s1,f_s2,f_lg,f_rw⟩
         · have hf' : b2 = false := hf
           subst hf'
           have d0 : b0 = true := hd ⟨0, .data⟩ (by simp) rfl
           subst d0
           obtain rfl := cd0.out rfl
           clear hf hd
           have W_p := f_p.out
           have W_t := f_t.out
           have W_q := f_q.out rfl
           have W_lg := f_lg.out
           have W_rw := f_rw.out
           try simp only [setIfInBounds_toArray, set_cons_zero, set_cons_succ]
           have ZZ : Hid (w.heap[q]? = some (.cells #[.int .i64 0, .slice none 0 0, .slice none 0 0, .slice none 0 0] 32 (0, 0))) := Lib.hid W_q
           intro K hK
           rw [if_pos (by rfl)]
           refine wp_store_blkT 32 _ _ rfl q #[.int .i64 0,.slice none 0 0,.slice none 0 0,.slice none 0 0] #[.int .i64 nx,.slice oa5 n1 oc5,.slice ba bn bc,.slice ta tn tc] rfl rfl 32 ZZ 4 szLgr' rfl rfl (by simp [Value.oneCell']) fun w2 h8 b8 => ?_
           have hb2 := hb.grown b8 (Nat.le_trans hB0 hb.size) (fun z hz => by cases hz; omega)
           exact hK.out _ _ ⟨true,b1,true,b3,.agg #[.int .i64 nx,.slice oa5 n1 oc5,.slice ba bn bc,.slice ta tn tc],x35,(by go_simp),(by go_simp),hb2,rf,cd1,(Bk.grown f_p.out b8 hpq2),(Bk.grown f_t.out b8 htq),nf2,(fun h1 => Bk.grown (f_rt.out h1) b8 hrq),(fun _ => h8.out),(fun h0 => Bk.grown (f_s2.out h0) b8 hrq),((f_lg.out).grown b8 (fun h => h.2.2.1 rfl)),((f_rw.out).grown b8 (fun h => h.2.2.1 rfl))⟩
         · have hf' : b3 = false := hf
           subst hf'
           have d1 : b1 = true := hd ⟨1, .data⟩ (by simp) rfl
           subst d1
           have d2 : b2 = true := hd ⟨2, .chain⟩ (by simp) rfl
           subst d2
           have d0 : b0 = true := hd ⟨0, .phase⟩ (by simp) rfl
           subst d0
           obtain rfl := cd1.out rfl
           obtain rfl := cd0.out rfl
           clear hf hd
           have W_p := f_p.out
           have W_t := f_t.out
           have W_rt := f_rt.out rfl
           have W_s1 := f_s1.out rfl
           have W_lg := f_lg.out
           have W_rw := f_rw.out
           try simp only [setIfInBounds_toArray, set_cons_zero, set_cons_succ]
           have ZZ : Hid (w.heap[rt]? = some (.cells #[.int .i64 0, .slice none 0 0] 45 (0, 0))) := Lib.hid W_rt
           intro K hK
           rw [if_pos (by rfl)]
           refine wp_store_blkT 45 _ _ rfl rt #[.int .i64 0,.slice none 0 0] #[.int .i64 next,.slice (some ⟨gT,0,none⟩) cn cT] rfl rfl 45 ZZ 2 szTx' rfl rfl (by simp [Value.oneCell']) fun w2 h8 b8 => ?_
           have hb2 := hb.grown b8 (Nat.le_trans hB0 hb.size) (fun z hz => by cases hz; omega)
           exact hK.out _ _ ⟨true,true,true,true,.agg #[.int .i64 nx,.slice oa5 n1 oc5,.slice ba bn bc,.slice ta tn tc],.agg #[.int .i64 next,.slice (some ⟨gT,0,none⟩) cn cT],(by go_simp),(by go_simp),hb2,rf,rf,(Bk.grown f_p.out b8 hprt),(Bk.grown f_t.out b8 htrt),nf2,nf2,(fun h0 => Bk.grown (f_s1.out h0) b8 hqrt),(fun _ => h8.out),((f_lg.out).grown b8 (fun h => h.2.2.2 rfl)),((f_rw.out).grown b8 (fun h => h.2.2.2 rfl))⟩
       · rintro act V6 ⟨b0, b1, b2, b3, x34, x35, hL, rfl, hb, cd0, cd1, f_p, f_t, f_q, f_rt, f_s1, f_s2, f_lg, f_rw⟩
         have hL' : [true, true, true, true] = [b0, b1, b2, b3] := congrArg Array.toList hL
         simp only [List.cons.injEq, and_true] at hL'
         obtain ⟨rfl, rfl, rfl, rfl⟩ := hL'
         obtain rfl := cd0.out rfl
         obtain rfl := cd1.out rfl
         have W_p := f_p.out
         have W_t := f_t.out
         have W_s1 := f_s1.out rfl
         have W_s2 := f_s2.out rfl
         have W_lg := f_lg.out
         have W_rw := f_rw.out
         clear hL f_p f_t f_q f_rt f_s1 f_s2 f_lg f_rw cd0 cd1
         simp only [setIfInBounds_toArray, set_cons_zero, set_cons_succ]
         have S1 : Bk V6 q #[.int .i64 nx, .slice oa5 n1 oc5, .slice ba bn bc, .slice ta tn tc] 32 := W_s1
         have S2 : Bk V6 rt #[.int .i64 next, .slice (some ⟨gT, 0, none⟩) cn cT] 45 := W_s2
         have B9 : Below w.heap.size w V6 := by rw [HG.out]; exact B5.trans ((Below.refl _ _).drew.trans hb)
         obtain ⟨d0,d1,d2,d3⟩ : V6.cell? ⟨q,0,none⟩ = some (.int .i64 nx) ∧ V6.cell? ⟨q,1,none⟩ = some (.slice oa5 n1 oc5) ∧ V6.cell? ⟨q,2,none⟩ = some (.slice ba bn bc) ∧ V6.cell? ⟨q,3,none⟩ = some (.slice ta tn tc) := ⟨S1.c rfl,S1.c rfl,S1.c rfl,S1.c rfl⟩
         obtain ⟨e0, e1⟩ : V6.cell? ⟨rt, 0, none⟩ = some (.int .i64 next) ∧ V6.cell? ⟨rt, 1, none⟩ = some (.slice (some ⟨gT, 0, none⟩) cn cT) := ⟨S2.c rfl, S2.c rfl⟩
         have HL6 : LgR V6 Q oa5 n1 oc5 ba bn bc ta tn tc M5 := W_lg.imp (fun k _ h => h.1)
         have HR6 : IsD DC V6 Q (some ⟨gT, 0, none⟩) cn cT cl := W_rw.imp (fun k _ h => h.1)
         clear W_s1 W_s2 W_p W_t hb
         go_wp2_with fail
         refine bodyPost_ret (v := .tuple #[.agg #[.int .i64 nx,.slice oa5 n1 oc5,.slice ba bn bc,.slice ta tn tc],.agg #[.int .i64 next,.slice (some ⟨gT,0,none⟩) cn cT]]) (by simp [results, Tryz.results21, go_sem,d0,d1,d2,d3,e0,e1]) rfl ?_
         unfold RAdded RLed
         rw [HMX.out]
         exact ⟨_, _, _, rfl, ⟨_, _, _, _, _, _, _, _, _, by rw [HMN.out], HL6, B9⟩, HR6⟩
abbrev Stp := (Int × Int × ByteArray) × List V
def ESt : Enc ((Int × Int × ByteArray) × HdR) where
 sz := 4
 f x := [.int .i64 x.1.1, .int .i64 x.1.2.1, .string x.1.2.2, .slice x.2.a x.2.n x.2.c]
 len _ := rfl
 one x u hu := by
  simp only [List.mem_cons, List.not_mem_nil, or_false] at hu
  rcases hu with rfl | rfl | rfl | rfl <;> rfl
def DSt : Dn Stp := recD DV ESt (by decide)
def StOk (s : Stp) : Prop := s.1.2.2.size ≤ 30 ∧ s.2.length ≤ 12
def gdV (s : Stp) : List V := s.2.map gd
def chgK (s : Stp) (k : Nat) : List Chg := (List.range k).map fun i => ((s.1.2.2, 1 + wth14 (IntKind.i64.wrap (s.1.2.1 + (i : Nat))) 2), gdV s ++ [⟨2, (i : Nat), ⟨#[]⟩⟩])
def chgs (s : Stp) : List Chg := chgK s (1 + (wth14 (wrap64 (s.1.1.tdiv 4)) 4).toNat)
def stepL (M : Lgr) (s : Stp) : Lgr := if wth14 s.1.1 4 = 3 then cls M else addL M (chgs s)
def buildL (l : List Stp) : Lgr := l.foldl stepL ⟨0, [], [], []⟩
theorem gd_60' (v : V) : (gd v).s.size ≤ 60 := by
 unfold gd
 split
 · exact Nat.zero_le _
 split
 · exact Nat.zero_le _
 split
 · show (v.s.extract 0 (min v.s.size 60)).size ≤ 60
   rw [ByteArray.size_extract]; omega
 · exact Nat.zero_le _
theorem chgK_ok (s : Stp) (k : Nat) (h : StOk s) : ∀ c ∈ chgK s k, ChOk c := fun c hc => by
 obtain ⟨i, -, rfl⟩ := List.mem_map.1 hc
 refine ⟨by have := h.1; show s.1.2.2.size ≤ 60; omega, by have := h.2; simp [gdV]; omega, fun v hv => ?_⟩
 rcases List.mem_append.1 hv with hv | hv
 · obtain ⟨y, -, rfl⟩ := List.mem_map.1 hv
   exact gd_60' y
 · rw [List.mem_singleton.1 hv]
   exact Nat.zero_le _
theorem chgK_len (s : Stp) (k : Nat) : (chgK s k).length = k := by simp [chgK]
theorem chgK_succ (s : Stp) (k : Nat) : chgK s (k + 1) = chgK s k ++ [((s.1.2.2,1 + wth14 (IntKind.i64.wrap (s.1.2.1 + (k : Nat))) 2),gdV s ++ [⟨2,(k : Nat),⟨#[]⟩⟩])] := by simp [chgK,List.range_succ]
theorem chgs_ok (s : Stp) (h : StOk s) (id : Int) : TxOk (id, chgs s) := ⟨by
 have := wth14_lt (wrap64 (s.1.1.tdiv 4)) 4 (by omega)
 show (chgs s).length ≤ 100
 rw [chgs, chgK_len]
 omega, chgK_ok s _ h⟩
theorem buildL_inv (l : List Stp) (h : ∀ s ∈ l, StOk s) : ∃ k, k ≤ l.length ∧ LInv k (buildL l) := by
 have key : ∀ (m : List Stp) (M : Lgr) (k : Nat), (∀ s ∈ m, StOk s) → LInv k M → ∃ k', k' ≤ k + m.length ∧ LInv k' (m.foldl stepL M) := by
  intro m
  induction m with
  | nil => exact fun M k _ hM => ⟨k, by simp, hM⟩
  | cons s m ih =>
   intro M k hm hM
   have hs := hm s List.mem_cons_self
   have hm2 : ∀ s ∈ m, StOk s := fun x hx => hm x (List.mem_cons_of_mem _ hx)
   rw [List.foldl_cons]
   by_cases h3 : wth14 s.1.1 4 = 3
   · obtain ⟨k', h1, h2⟩ := ih (stepL M s) k hm2 (by unfold stepL; rw [if_pos h3]; exact hM.cls)
     exact ⟨k', by simp only [List.length_cons]; omega, h2⟩
   · obtain ⟨k', h1, h2⟩ := ih (stepL M s) (k + 1) hm2 (by unfold stepL; rw [if_neg h3]; exact hM.add _ (chgs_ok s hs _))
     exact ⟨k', by simp only [List.length_cons]; omega, h2⟩
 obtain ⟨k, h1, h2⟩ := key l _ 0 h LInv.zero
 exact ⟨k, by omega, h2⟩
def FewIs (w : World) (n : Nat) (l : List Stp) (e : Ending) (w' : World) : Prop := ∃ b : Bool, e = .returned (.bool b) ∧ (b = true → n ≤ 40 ∧ ∀ s ∈ l, StOk s) ∧ Below w.heap.size w w'
set_option maxRecDepth 100000 in
set_option maxHeartbeats 2000000 in
theorem few14_any (w : World) (Q : Nat → Prop) (ao : Option Addr) (n c : Nat) (l : List Stp) (h : IsD DSt w Q ao n c l) :
 Calls Tryz.prog 14 #[.slice ao n c] w (FewIs w n l) := by
 have hln := h.len
 have hmx : n ≤ maxLen := by obtain ⟨bs, h1, -⟩ := id h; exact Nat.le_trans h1.le h1.max
 unfold maxLen at hmx
 go_enter Tryz.func14, Tryz.ntmps14
 go_wp2_with fail
 go_loopw [3] (fun i wr => ∃ j : Nat, j ≤ n ∧ i = .int .i64 (j : Nat) ∧ (∀ s ∈ l.take j, StOk s) ∧ Below w.heap.size w wr) (fun i _ => n - (intOf i).toNat)
 case atStart => exact ⟨0, Nat.zero_le _, rfl, fun s hs => by simp at hs, Below.refl _ _⟩
 case round =>
  obtain ⟨j, hj, rfl, hk, hB⟩ := hrel
  by_cases hlt : j < n
  · have hlti : (j : Int) < (n : Int) := by omega
    obtain ⟨x, hx⟩ : ∃ x, l[j]? = some x := ⟨l[j]'(by omega), List.getElem?_eq_getElem _⟩
    have htk : l.take (j + 1) = l.take j ++ [x] := by
     obtain ⟨hj2, rfl⟩ := List.getElem?_eq_some_iff.1 hx
     rw [List.take_succ_eq_append_getElem hj2]
    have HTk := Lib.hid htk
    obtain ⟨gb, goff, bb, rfl, hgl, -, hcl, hr⟩ := (h.past hB).at hx
    obtain ⟨⟨bn, bo, bt⟩, ⟨xa, xn, xc⟩⟩ := bb
    obtain ⟨⟨xi, xo, xt⟩, xl⟩ := x
    obtain ⟨hE, hr2⟩ := hr
    obtain ⟨rfl, rfl, rfl⟩ : bn = xi ∧ bo = xo ∧ bt = xt := by simpa using hE
    have hxl : xl.length = xn := hr2.flat.len
    have hcl : ∀ k u, (ESt.f ((bn, bo, bt), ⟨xa, xn, xc⟩))[k]? = some u → wr.cell? ⟨gb, goff + (j * 4 + k), none⟩ = some u := hcl
    have y2 : wr.cell? ⟨gb, goff + j * 4 + 2, none⟩ = some (.string bt) := by have := hcl 2 _ rfl; rwa [← Nat.add_assoc] at this
    have y3 : wr.cell? ⟨gb, goff + j * 4 + 3, none⟩ = some (.slice xa xn xc) := by have := hcl 3 _ rfl; rwa [← Nat.add_assoc] at this
    have hFw := fun (w' : World) (b : Below wr.heap.size wr w') => few5_any xa xn xc xl w' (hr2.flat.past b)
    obtain ⟨fb, hfb⟩ : ∃ x, (fewB xl && decide ((xn : Int) ≤ 12)) = x := ⟨_, rfl⟩
    simp only [hfb] at hFw
    have HFB := Lib.hid hfb
    clear hfb htk hcl hx
    by_cases ht : bt.size ≤ 30
    · have hti : ¬ ((30 : Int) < (bt.size : Int)) := by omega
      cases fb with
      | false =>
       go_wp2_with (go_at_call 28; refine (hFw _ (Below.refl _ _)).mono ?_; rintro e w4 ⟨rfl, b4⟩)
       go_ret
       unfold FewIs
       exact ⟨false, rfl, (fun h => by cases h), hB.trans (b4.mono hB.size)⟩
      | true =>
       have hxn : xn ≤ 12 := by
        have := HFB.out
        rw [Bool.and_eq_true, decide_eq_true_eq] at this
        omega
       go_wp2_with (go_at_call 28; refine (hFw _ (Below.refl _ _)).mono ?_; rintro e w4 ⟨rfl, b4⟩)
       go_roundw
       case rel =>
        refine ⟨j + 1, by omega, by go_num, fun s hs => ?_, hB.trans (b4.mono hB.size)⟩
        rw [HTk.out] at hs
        rcases List.mem_append.1 hs with hs | hs
        · exact hk s hs
        · rw [List.mem_singleton.1 hs]; exact ⟨ht, show xl.length ≤ 12 by omega⟩
       case measure => simp [intOf]; omega
    · have hti : ((30 : Int) < (bt.size : Int)) := by omega
      go_wp2_with fail
      go_ret
      unfold FewIs
      exact ⟨false, rfl, (fun h => by cases h), hB⟩
  · have hlti : ¬ (j : Int) < (n : Int) := by omega
    obtain rfl : j = n := by omega
    rw [List.take_of_length_le (Nat.le_of_eq hln)] at hk
    obtain ⟨m, hm⟩ : ∃ m, m = decide (j ≤ 40) := ⟨_, rfl⟩
    go_wp2_with fail
    go_ret
    unfold FewIs
    exact ⟨_, rfl, fun h9 => ⟨by have := of_decide_eq_true h9; omega, hk⟩, hB⟩
theorem rblk_agg9 (w : World) : (isAgg 73).run Tryz.prog w = .ok true w := by kernel_rfl
theorem isB_cells {w : World} {a : Addr} {n c : Nat} {l : List UInt8} (h : IsB w (some a) n c l) : ∀ j v, (bcs l)[j]? = some v → w.cell? (a.add j) = some v := fun j v hv => by
 simp only [bcs, List.getElem?_map, Option.map_eq_some_iff] at hv
 obtain ⟨y, hy, rfl⟩ := hv
 exact h.cell _ rfl j y hy
def OfIs (w : World) (Q : Nat → Prop) (M : Lgr) (e : Ending) (w' : World) : Prop := ∃ v, e = .returned v ∧ RLed w Q M v w'
set_option maxRecDepth 100000 in
set_option maxHeartbeats 2000000 in
theorem of14_any (w : World) (Q : Nat → Prop) (hQ : ∀ k,w.heap.size ≤ k → Q k) (next : Int) (oa : Option Addr) (on oc : Nat) (ba : Option Addr) (bn bc : Nat) (ta : Option Addr) (tn tc : Nat) (M : Lgr) (hnx : M.next = next) (h : LgR w Q oa on oc ba bn bc ta tn tc M) (hb : bn ≤ 1000) :
 Calls Tryz.prog 27 #[.agg #[.int .i64 next, .slice oa on oc, .slice ba bn bc, .slice ta tn tc]] w (OfIs w Q M) := by
 have hbn := h.bl.len
 have hHB := h.bl.flat
 have HNX := Lib.hid hnx
 clear hnx
 have B0 : Below w.heap.size w (((w.alloc (.cells #[.int .i64 next,.slice oa on oc,.slice ba bn bc,.slice ta tn tc] 32)).alloc (.cells #[.int .i64 0,.slice none 0 0,.slice none 0 0,.slice none 0 0] 29)).alloc (.cells #[.int .i64 next,.slice oa on oc,.slice none 0 0,.slice ta tn tc] 29)) := (((Below.refl _ _).alloc (Nat.le_refl _) _).alloc (by simp) _).alloc (by simp; omega) _
 have hP : Bk (((w.alloc (.cells #[.int .i64 next,.slice oa on oc,.slice ba bn bc,.slice ta tn tc] 32)).alloc (.cells #[.int .i64 0,.slice none 0 0,.slice none 0 0,.slice none 0 0] 29)).alloc (.cells #[.int .i64 next,.slice oa on oc,.slice none 0 0,.slice ta tn tc] 29)) w.heap.size #[.int .i64 next,.slice oa on oc,.slice ba bn bc,.slice ta tn tc] 32 := ((Bk.new w _ _).alloc _).alloc _
 have hQ0 : Bk (((w.alloc (.cells #[.int .i64 next,.slice oa on oc,.slice ba bn bc,.slice ta tn tc] 32)).alloc (.cells #[.int .i64 0,.slice none 0 0,.slice none 0 0,.slice none 0 0] 29)).alloc (.cells #[.int .i64 next,.slice oa on oc,.slice none 0 0,.slice ta tn tc] 29)) (w.heap.size + 1) #[.int .i64 0,.slice none 0 0,.slice none 0 0,.slice none 0 0] 29 := by
  have := Bk.new (w.alloc (.cells #[.int .i64 next,.slice oa on oc,.slice ba bn bc,.slice ta tn tc] 32)) #[.int .i64 0,.slice none 0 0,.slice none 0 0,.slice none 0 0] 29
  rw [World.size_alloc] at this
  exact this.alloc _
 have hL0 : Bk (((w.alloc (.cells #[.int .i64 next,.slice oa on oc,.slice ba bn bc,.slice ta tn tc] 32)).alloc (.cells #[.int .i64 0,.slice none 0 0,.slice none 0 0,.slice none 0 0] 29)).alloc (.cells #[.int .i64 next,.slice oa on oc,.slice none 0 0,.slice ta tn tc] 29)) (w.heap.size + 1 + 1) #[.int .i64 next,.slice oa on oc,.slice none 0 0,.slice ta tn tc] 29 := by
  have := Bk.new ((w.alloc (.cells #[.int .i64 next,.slice oa on oc,.slice ba bn bc,.slice ta tn tc] 32)).alloc (.cells #[.int .i64 0,.slice none 0 0,.slice none 0 0,.slice none 0 0] 29)) #[.int .i64 next,.slice oa on oc,.slice none 0 0,.slice ta tn tc] 29
  rwa [World.size_alloc, World.size_alloc] at this
 have P00 : Bk ((w.alloc (.cells #[.int .i64 next,.slice oa on oc,.slice ba bn bc,.slice ta tn tc] 32)).alloc (.cells #[.int .i64 0,.slice none 0 0,.slice none 0 0,.slice none 0 0] 29)) w.heap.size #[.int .i64 next,.slice oa on oc,.slice ba bn bc,.slice ta tn tc] 32 := (Bk.new w _ _).alloc _
 have p00 : w.heap.size < ((w.alloc (.cells #[.int .i64 next,.slice oa on oc,.slice ba bn bc,.slice ta tn tc] 32)).alloc (.cells #[.int .i64 0,.slice none 0 0,.slice none 0 0,.slice none 0 0] 29)).heap.size := P00.lt
 obtain ⟨c0,c1,c2,c3⟩ : ((w.alloc (.cells #[.int .i64 next,.slice oa on oc,.slice ba bn bc,.slice ta tn tc] 32)).alloc (.cells #[.int .i64 0,.slice none 0 0,.slice none 0 0,.slice none 0 0] 29)).cell? ⟨w.heap.size,0,none⟩ = some (.int .i64 next) ∧ ((w.alloc (.cells #[.int .i64 next,.slice oa on oc,.slice ba bn bc,.slice ta tn tc] 32)).alloc (.cells #[.int .i64 0,.slice none 0 0,.slice none 0 0,.slice none 0 0] 29)).cell? ⟨w.heap.size,1,none⟩ = some (.slice oa on oc) ∧ ((w.alloc (.cells #[.int .i64 next,.slice oa on oc,.slice ba bn bc,.slice ta tn tc] 32)).alloc (.cells #[.int .i64 0,.slice none 0 0,.slice none 0 0,.slice none 0 0] 29)).cell? ⟨w.heap.size,2,none⟩ = some (.slice ba bn bc) ∧ ((w.alloc (.cells #[.int .i64 next,.slice oa on oc,.slice ba bn bc,.slice ta tn tc] 32)).alloc (.cells #[.int .i64 0,.slice none 0 0,.slice none 0 0,.slice none 0 0] 29)).cell? ⟨w.heap.size,3,none⟩ = some (.slice ta tn tc) := ⟨P00.c rfl,P00.c rfl,P00.c rfl,P00.c rfl⟩
 go_enter Tryz.func27, Tryz.ntmps27
 go_upto_region 2 with fail
 clear c0 c1 c2 c3 P00 p00
 generalize (((w.alloc (.cells #[.int .i64 next,.slice oa on oc,.slice ba bn bc,.slice ta tn tc] 32)).alloc (.cells #[.int .i64 0,.slice none 0 0,.slice none 0 0,.slice none 0 0] 29)).alloc (.cells #[.int .i64 next,.slice oa on oc,.slice none 0 0,.slice ta tn tc] 29)) = W at B0 hP hQ0 hL0 ⊢
 obtain ⟨p, hp⟩ : ∃ p, w.heap.size = p := ⟨_, rfl⟩
 obtain ⟨q, hq⟩ : ∃ q, p + 1 = q := ⟨_, rfl⟩
 obtain ⟨pl, hpl⟩ : ∃ r, q + 1 = r := ⟨_, rfl⟩
 have HG := Lib.hid hp
 rw [hp] at hP hQ0 hL0 B0
 rw [hq] at hQ0 hL0
 rw [hpl] at hL0
 simp only [hp, hq, hpl]
 have hpq : p < q := by omega
 have hql : q < pl := by omega
 clear hp hq hpl
 go_wp2_with fail
 go_loopw [4] (fun i wr => ∃ (jn : Nat) (bo : Option Addr) (bc2 : Nat),jn ≤ bn ∧ i = .int .i64 (jn : Nat) ∧ Bk wr pl #[.int .i64 next,.slice oa on oc,.slice bo jn bc2,.slice ta tn tc] 29 ∧ TxtR EBk wr 64 (pl + 1) bo jn bc2 (M.bl.take jn) ∧ Below pl W wr) (fun i _ => bn - (intOf i).toNat)
 case atStart => exact ⟨0, none, 0, Nat.zero_le _, rfl, hL0, TxtR.nil .., Below.refl _ _⟩
 case round =>
  obtain ⟨jn, bo, bc2, hj, rfl, hU, hO, hB⟩ := hrel
  have P3 := hP.past9 hB (show p < pl by omega)
  have Q3 := hQ0.past9 hB hql
  have hBw : Below w.heap.size w wr := by rw [HG.out]; exact B0.trans (hB.mono (by omega))
  have hpw := hU.lt
  obtain ⟨c2, -⟩ : wr.cell? ⟨p, 2, none⟩ = some (.slice ba bn bc) ∧ True := ⟨P3.c rfl, trivial⟩
  by_cases hlt : jn < bn
  · have hlti : (jn : Int) < (bn : Int) := by omega
    obtain ⟨b, hbj⟩ : ∃ b, M.bl[jn]? = some b := ⟨M.bl[jn]'(by omega), List.getElem?_eq_getElem _⟩
    have HTk : Hid (M.bl.take (jn + 1) = M.bl.take jn ++ [b]) := Lib.hid (by
     obtain ⟨hj2, rfl⟩ := List.getElem?_eq_some_iff.1 hbj
     rw [List.take_succ_eq_append_getElem hj2])
    obtain ⟨gv, gvo, rfl, hgv, hcv⟩ := blk_in (hHB.past hBw) hbj
    have hcv2 : ∀ j v, b.cs[j]? = some v → wr.cell? ((⟨gv, gvo + jn * 66, none⟩ : Addr).add j) = some v := hcv
    obtain ⟨BA, hBA⟩ : ∃ x, b.cs.toArray = x := ⟨_, rfl⟩
    have HBA := Lib.hid hBA
    have HD1 : Hid (BA.size = 66) := Lib.hid (by rw [← hBA]; simp [Blk.cs_len])
    have HD2 : Hid (BA.all (·.oneCell') = true) := Lib.hid (by rw [← hBA]; exact Array.all_eq_true_iff_forall_mem.2 fun v hv => EBk.one b v (Array.mem_toList_iff.2 hv))
    have HST : ∀ w' : World,Sem.run Tryz.prog (storeCells ⟨w'.heap.size,0,none⟩ BA.toList) (w'.alloc (.cells Tryz.zeroCells73 73)) = .ok () (w'.alloc (.cells BA 73)) := fun w' => run_storeCells_new w' 73 Tryz.zeroCells73 BA (by rw [HD1.out]; exact rblk_size) (by rw [HD1.out]; kernel_rfl) HD2.out
    have hd1 := HD1.out
    have hcb : b.cs = BA.toList := by rw [← hBA]
    rw [hcb] at hcv2
    clear hcv hBA
    go_upto_region 6 with ((with_reducible refine wpList_load_cells rfl 73 _ rfl ⟨gv,gvo + jn * 66,none⟩ ?_ BA.toList hcv2 rblk_agg9 ?_ ?_); (rfl); (rw [rblk_size,Array.length_toList,HD1.out]); (simp only [Array.toArray_toList]))
    have BX : Below wr.heap.size wr (wr.alloc (.cells BA 73)) := (Below.refl _ _).alloc (Nat.le_refl _) _
    have V5 : Bk (wr.alloc (.cells BA 73)) wr.heap.size BA 73 := Bk.new wr _ _
    have U5 := hU.past BX
    have O5 := hO.past BX
    have B5 := hB.trans (BX.mono (Nat.le_of_lt hpw))
    obtain ⟨pb, hpb⟩ : ∃ x, wr.heap.size = x := ⟨_, rfl⟩
    rw [hpb] at V5
    simp only [hpb]
    clear HST BX hpb c2 P3 Q3 hU hO hB hcv2 hbj
    generalize wr.alloc (.cells BA 73) = w5 at V5 U5 O5 B5 ⊢
    have Vb : Bk w5 pb b.cs.toArray 73 := by rw [HBA.out]; exact V5
    have h1c := isB_cells (blk_prev Vb)
    have h33c := isB_cells (blk_root Vb)
    have hl1 : (bcs b.prev.l).length = 32 := by rw [bcs_length, b.prev.len]
    have hl2 : (bcs b.root.l).length = 32 := by rw [bcs_length, b.root.len]
    have HBB : Hid (Tryz.prog.built 64 [(0,.int .i64 b.n),(1,.agg (bcs b.prev.l).toArray),(2,.agg (bcs b.root.l).toArray),(3,.int .i64 b.count)] = some BA) := Lib.hid (by rw [← HBA.out]; exact built_blk b)
    obtain ⟨e0,e65,eu⟩ : w5.cell? ⟨pb,0,none⟩ = some (.int .i64 b.n) ∧ w5.cell? ⟨pb,65,none⟩ = some (.int .i64 b.count) ∧ w5.cell? ⟨pl,2,none⟩ = some (.slice bo jn bc2) := ⟨Vb.c (blk_cs0 b),Vb.c (blk_cs65 b),U5.c rfl⟩
    have hs5 := U5.lt
    go_wp2_with (first
     | ((with_reducible refine wpList_load_cells rfl 53 _ rfl ⟨pb, 1, none⟩ ?_ (bcs b.prev.l) h1c hash_agg ?_ ?_); (rfl); (rw [sizeHash, hl1]))
     | ((with_reducible refine wpList_load_cells rfl 53 _ rfl ⟨pb, 33, none⟩ ?_ (bcs b.root.l) h33c hash_agg ?_ ?_); (rfl); (rw [sizeHash, hl2]))
     | ((with_reducible refine wpList_build_at rfl 64 _ rfl BA ?_ ?_); (simp only [List.map_toArray, List.map_cons, List.map_nil]; exact HBB.out))
     | ((with_reducible refine wpList_buildSlice_one rfl 26 64 _ rfl b.cs 66 ?_ ?_ (by omega) (by omega) Tryz.underlying26 blk_i ?_); (exact congrArg Value.agg HBA.out.symm); (exact b.cs_len); (intro w6 h7 b6; have i6 := blk_row h7 rfl; have O6 := O5.past b6; have U6 := U5.past b6))
     | (at_builtin; refine wpList_append_txtR rfl _ _ 26 26 rfl 64 rowTyBk (pl + 1) bo jn bc2 (M.bl.take jn) rfl O6 (Nat.le_trans hs5 b6.size) _ rfl 1 [b] (i6.src Tryz.underlying26) rfl (by omega) ?_; intro ao7 c7 w7 o7 b7; have U7 := U6.past9 b7 (Nat.lt_succ_self _); have e7 : w7.cell? ⟨pl,2,none⟩ = some (.slice bo jn bc2) := U7.c rfl; have f7 := free_blk (i := 2) U7))
    have G8 := grown_cell (grown_self w7 pl) 2 (.slice ao7 (jn + 1) c7)
    have U8 : Bk (w7.setCell ⟨pl, 2, none⟩ (.slice ao7 (jn + 1) c7)) pl #[.int .i64 next, .slice oa on oc, .slice ao7 (jn + 1) c7, .slice ta tn tc] 29 := heap_setCell_same U7
    have O8 := o7.grown G8 (fun z hz e => by have := o7.geB z hz; have := Option.some.inj e; omega)
    have B8 : Below pl W _ := ((B5.trans (b6.mono (Nat.le_of_lt hs5))).trans (b7.mono (Nat.le_succ _))).grown G8 (Nat.le_of_lt U7.lt) (fun z hz => by cases hz; exact Nat.le_refl _)
    go_roundw
    case rel => exact ⟨jn + 1, ao7, c7, by omega, by go_num, U8, by rw [HTk.out]; exact O8, B8⟩
    case measure => simp [intOf]; omega
  · have hlti : ¬ (jn : Int) < (bn : Int) := by omega
    obtain rfl : jn = bn := by omega
    rw [List.take_of_length_le (Nat.le_of_eq hbn)] at hO
    obtain ⟨d0,d1,d2,d3⟩ : wr.cell? ⟨pl,0,none⟩ = some (.int .i64 next) ∧ wr.cell? ⟨pl,1,none⟩ = some (.slice oa on oc) ∧ wr.cell? ⟨pl,2,none⟩ = some (.slice bo jn bc2) ∧ wr.cell? ⟨pl,3,none⟩ = some (.slice ta tn tc) := ⟨hU.c rfl,hU.c rfl,hU.c rfl,hU.c rfl⟩
    obtain ⟨e0,e1,e2,e3⟩ : wr.cell? ⟨q,0,none⟩ = some (.int .i64 0) ∧ wr.cell? ⟨q,1,none⟩ = some (.slice none 0 0) ∧ wr.cell? ⟨q,2,none⟩ = some (.slice none 0 0) ∧ wr.cell? ⟨q,3,none⟩ = some (.slice none 0 0) := ⟨Q3.c rfl,Q3.c rfl,Q3.c rfl,Q3.c rfl⟩
    obtain ⟨f0,f1,f2,f3⟩ : wr.frozen? ⟨q,0,none⟩ = false ∧ wr.frozen? ⟨q,1,none⟩ = false ∧ wr.frozen? ⟨q,2,none⟩ = false ∧ wr.frozen? ⟨q,3,none⟩ = false := ⟨free_blk Q3,free_blk Q3,free_blk Q3,free_blk Q3⟩
    go_wp2_with fail
    have G9 : wr.grownBy ((((wr.setCell ⟨q,0,none⟩ (.int .i64 next)).setCell ⟨q,1,none⟩ (.slice oa on oc)).setCell ⟨q,2,none⟩ (.slice bo jn bc2)).setCell ⟨q,3,none⟩ (.slice ta tn tc)) (some q) := grown_cell (grown_cell (grown_cell (grown_cell (grown_self _ _) _ _) _ _) _ _) _ _
    have Q9 : Bk ((((wr.setCell ⟨q,0,none⟩ (.int .i64 next)).setCell ⟨q,1,none⟩ (.slice oa on oc)).setCell ⟨q,2,none⟩ (.slice bo jn bc2)).setCell ⟨q,3,none⟩ (.slice ta tn tc)) q #[.int .i64 next,.slice oa on oc,.slice bo jn bc2,.slice ta tn tc] 29 := (heap_setCell_same (i := 3) (v := .slice ta tn tc) (heap_setCell_same (i := 2) (v := .slice bo jn bc2) (heap_setCell_same (i := 1) (v := .slice oa on oc) (heap_setCell_same (i := 0) (v := .int .i64 next) Q3))))
    have O9 := hO.grown G9 (fun z hz e => by have := hO.geB z hz; have := Option.some.inj e; omega)
    have B9 : Below w.heap.size w ((((wr.setCell ⟨q,0,none⟩ (.int .i64 next)).setCell ⟨q,1,none⟩ (.slice oa on oc)).setCell ⟨q,2,none⟩ (.slice bo jn bc2)).setCell ⟨q,3,none⟩ (.slice ta tn tc)) := hBw.grown G9 hBw.size (fun z hz => by cases hz; have := HG.out; omega)
    generalize ((((wr.setCell ⟨q,0,none⟩ (.int .i64 next)).setCell ⟨q,1,none⟩ (.slice oa on oc)).setCell ⟨q,2,none⟩ (.slice bo jn bc2)).setCell ⟨q,3,none⟩ (.slice ta tn tc)) = w9 at Q9 O9 B9 ⊢
    obtain ⟨r0,r1,r2,r3⟩ : w9.cell? ⟨q,0,none⟩ = some (.int .i64 next) ∧ w9.cell? ⟨q,1,none⟩ = some (.slice oa on oc) ∧ w9.cell? ⟨q,2,none⟩ = some (.slice bo jn bc2) ∧ w9.cell? ⟨q,3,none⟩ = some (.slice ta tn tc) := ⟨Q9.c rfl,Q9.c rfl,Q9.c rfl,Q9.c rfl⟩
    refine bodyPost_ret (v := .agg #[.int .i64 next,.slice oa on oc,.slice bo jn bc2,.slice ta tn tc]) (by simp [results, Tryz.results27, go_sem,r0,r1,r2,r3]) rfl ?_
    unfold OfIs RLed
    have hbl : IsD DB w9 Q bo jn bc2 M.bl := TxtR.isD (D := DB) O9 (fun k hk => hQ k (by have := HG.out; omega)) (RdD.flat EBk (by decide) w9 Q M.bl)
    exact ⟨_, rfl, _, _, _, _, _, _, _, _, _, by rw [HNX.out], ⟨h.op.past B9, hbl, h.ts.past B9⟩, B9⟩
theorem v_one (w : World) (t : TypeId) (k n : Int) (s : ByteArray) : IsR EV (w.alloc (.cells #[.int .i64 k,.int .i64 n,.string s] t)) (some ⟨w.heap.size,0,none⟩) 1 1 [⟨k,n,s⟩] := (OwnR.ofBlk (E := EV) (l := [⟨k,n,s⟩]) (n := 1) (heap_alloc_new w _) rfl rfl (by omega)).isR
theorem ch_one (w : World) (t : TypeId) (s : ByteArray) (o : Int) (xa : Option Addr) (xn xc : Nat) : IsR ECh (w.alloc (.cells #[.string s,.int .i64 o,.slice xa xn xc] t)) (some ⟨w.heap.size,0,none⟩) 1 1 [((s,o),⟨xa,xn,xc⟩)] := (OwnR.ofBlk (E := ECh) (l := [((s,o),⟨xa,xn,xc⟩)]) (n := 1) (heap_alloc_new w _) rfl rfl (by omega)).isR
theorem TxD.app' {α : Type} {D : Dn α} {w w' : World} {e : TypeId} {Q Qx : Nat → Prop} {ao : Option Addr} {n c : Nat} {bs : List D.β} {ls : List α} {b : D.β} {x : α} {g' c' j1 : Nat} (hj : n + 1 = j1) (h : TxD D w e Q ao n c bs ls) (hx : D.R w Qx b x) (hne : ∀ z,blk ao = some z → ¬ Qx z) (o' : TxtR D.E w' e 0 (some ⟨g',0,none⟩) j1 c' (bs ++ [b])) (g : w.grownBy w' (blk ao)) (hg' : blk ao = some g' ∨ w.heap.size ≤ g') :
 TxD D w' e (fun k => Q k ∨ Qx k ∨ w.heap.size ≤ k) (some ⟨g', 0, none⟩) j1 c' (bs ++ [b]) (ls ++ [x]) := by
 subst hj
 exact TxD.app h hx hne o' g hg'
inductive RgS6 (B : Nat) (p : Nat) (X : Nat) (r : Nat) (sn : Int) (so : Int) (nm : ByteArray) (va : Option Addr) (vn : Nat) (vc : Nat) (ga : Option Addr) (gcp : Nat) (co : Option Addr) (jn : Nat) (cc2 : Nat) (n1 : Nat) (j1 : Nat) (z : Int) (bs : List ((ByteArray × Int) × HdR)) (cl : List Chg) (gv : List V) (gv2 : List V) (a0 : Act) (w0 : World) (L : Array Bool) (a : Act) (w : World) : Prop
 | mk (b0 b1 b2 b3 b4 b5 b6 b7 b8 b9 b10 b11 b12 b13 b14 b15 b16 b17 b18 b19 : Bool) (x18 x19 x20 x21 x22 x23 x24 x25 x26 x27 x28 x29 x30 x31 x32 x33 x34 x35 x36 x3 : Value) (ge : Nat) (g3 : Nat) (c3 : Nat) (gs : Nat) (g6 : Nat) (c6 : Nat) (gl : Nat) (g8 : Nat) (c8 : Nat) (hL : L = #[b0,b1,b2,b3,b4,b5,b6,b7,b8,b9,b10,b11,b12,b13,b14,b15,b16,b17,b18,b19]) (ha : a = ⟨((((((((((((((((((((a0.tmps.setIfInBounds 18 x18).setIfInBounds 19 x19).setIfInBounds 20 x20).setIfInBounds 21 x21).setIfInBounds 22 x22).setIfInBounds 23 x23).setIfInBounds 24 x24).setIfInBounds 25 x25).setIfInBounds 26 x26).setIfInBounds 27 x27).setIfInBounds 28 x28).setIfInBounds 29 x29).setIfInBounds 30 x30).setIfInBounds 31 x31).setIfInBounds 32 x32).setIfInBounds 33 x33).setIfInBounds 34 x34).setIfInBounds 35 x35).setIfInBounds 36 x36).setIfInBounds 3 x3),a0.defers⟩) (hb : Below B w0 w) (cd0 : Hid (b0 = true → x18 = .slice co jn cc2)) (cd1 : Hid (b1 = true → x19 = .pointer (some ⟨p,2,none⟩))) (cd2 : Hid (b2 = true → x20 = .string nm)) (cd3 : Hid (b3 = true → x21 = .pointer (some ⟨p,1,none⟩))) (cd4 : Hid (b4 = true → x22 = .int .i64 so)) (cd5 : Hid (b5 = true → x23 = .int .i64 (jn : Nat))) (cd6 : Hid (b6 = true → x24 = .int .i64 (IntKind.i64.wrap (so + (jn : Nat))))) (cd7 : Hid (b7 = true → x25 = .int .i64 z)) (cd8 : Hid (b8 = true → x26 = .int .i64 (1 + z))) (cd9 : Hid (b9 = true → x27 = .slice (some ⟨ge,0,none⟩) 0 0)) (cd10 : Hid (b10 = true → x28 = .slice ga vn gcp)) (cd11 : Hid (b11 = true → x29 = .slice (some ⟨g3,0,none⟩) vn c3)) (cd12 : Hid (b12 = true → x30 = .int .i64 (jn : Nat))) (cd13 : Hid (b13 = true → x31 = .agg #[.int .i64 2,.int .i64 (jn : Nat),.string ⟨#[]⟩])) (cd14 : Hid (b14 = true → x32 = .slice (some ⟨gs,0,none⟩) 1 1)) (cd15 : Hid (b15 = true → x33 = .slice (some ⟨g6,0,none⟩) n1 c6)) (cd16 : Hid (b16 = true → x34 = .agg #[.string nm,.int .i64 (1 + z),.slice (some ⟨g6,0,none⟩) n1 c6])) (cd17 : Hid (b17 = true → x35 = .slice (some ⟨gl,0,none⟩) 1 1)) (cd18 : Hid (b18 = true → x36 = .slice (some ⟨g8,0,none⟩) j1 c8)) (cd19 : Hid (b19 = true → x3 = .slice (some ⟨g8,0,none⟩) j1 c8)) (f_p : Hid (Bk w p #[.int .i64 sn,.int .i64 so,.string nm,.slice va vn vc] 37)) (f_ct : Hid (b18 = false → TxD DC w 67 (fun k => X ≤ k ∧ k < r) co jn cc2 bs cl)) (f_o15_11 : Hid ((b15 = true → b11 = true))) (f_o18_11 : Hid ((b18 = true → b11 = true))) (f_o18_15 : Hid ((b18 = true → b15 = true))) (f_e : Hid (b9 = true → b11 = false → OwnR EV w 98 ge 0 0 [])) (f_le : Hid (b9 = true → r ≤ ge)) (f_f : Hid (b11 = true → b15 = false → OwnR EV w 98 g3 vn c3 gv)) (f_lf : Hid (b11 = true → r ≤ g3)) (f_l0 : Hid (b9 = true → LtW w ge)) (f_l5 : Hid (b14 = true → LtW w gs)) (f_nm : Hid ((b9 = true → b14 = true → ge ≠ gs))) (f_ls : Hid (b14 = true → b15 = false → IsR EV w (some ⟨gs,0,none⟩) 1 1 [⟨2,(jn : Nat),⟨#[]⟩⟩])) (f_o : Hid (b15 = true → b18 = false → OwnR EV w 98 g6 n1 c6 gv2)) (f_lo : Hid (b15 = true → r ≤ g6)) (f_m15 : Hid (b16 = true → b15 = true)) (f_k15 : Hid (b17 = true → b15 = true)) (f_lc : Hid (b17 = true → b18 = false → IsR ECh w (some ⟨gl,0,none⟩) 1 1 [((nm,1 + z),(⟨some ⟨g6,0,none⟩,n1,c6⟩ : HdR))])) (f_s : Hid (b18 = true → TxD DC w 67 (fun k => X ≤ k) (some ⟨g8,0,none⟩) j1 c8 (bs ++ [((nm,1 + z),(⟨some ⟨g6,0,none⟩,n1,c6⟩ : HdR))]) (cl ++ [((nm,1 + z),gv2)]))) (f_om19 : Hid (b19 = true → b0 = true)) (f_sm19 : Hid (b19 = false → x3 = .slice co jn cc2)) (w_16_15 : Hid (b16 = true → b15 = true)) (w_19_18 : Hid (b19 = true → b18 = true)) : RgS6 B p X r sn so nm va vn vc ga gcp co jn cc2 n1 j1 z bs cl gv gv2 a0 w0 L a w
def ChIs (w : World) (X : Nat) (s : Stp) (e : Ending) (w' : World) : Prop := ∃ co n cc, e = .returned (.slice co n cc) ∧ IsD DC w' (fun k => X ≤ k) co n cc (chgs s) ∧ Below w.heap.size w w'
set_option maxRecDepth 100000 in
set_option maxHeartbeats 2000000 in
theorem changes_any (w : World) (Q : Nat → Prop) (sn so : Int) (nm : ByteArray) (va : Option Addr) (vn vc : Nat) (vl : List V) (h : IsD DV w Q va vn vc vl) (hn : vn ≤ 12) :
 Calls Tryz.prog 20 #[.agg #[.int .i64 sn, .int .i64 so, .string nm, .slice va vn vc]] w (ChIs w w.heap.size ((sn, so, nm), vl)) := by
 have hlt := wth14_lt (wrap64 (sn.tdiv 4)) 4 (by omega)
 obtain ⟨KM, hKM⟩ : ∃ k : Nat, wth14 (wrap64 (sn.tdiv 4)) 4 = (k : Int) := ⟨(wth14 (wrap64 (sn.tdiv 4)) 4).toNat, by omega⟩
 have HCH : Hid (chgs ((sn, so, nm), vl) = chgK ((sn, so, nm), vl) (KM + 1)) := Lib.hid (by
  show chgK _ (1 + (wth14 (wrap64 (sn.tdiv 4)) 4).toNat) = _
  rw [hKM, Int.toNat_natCast, Nat.add_comm])
 have hvl := h.len
 have B0 : Below w.heap.size w (w.alloc (.cells #[.int .i64 sn, .int .i64 so, .string nm, .slice va vn vc] 37)) := (Below.refl _ _).alloc (Nat.le_refl _) _
 have hP0 : Bk (w.alloc (.cells #[.int .i64 sn,.int .i64 so,.string nm,.slice va vn vc] 37)) w.heap.size #[.int .i64 sn,.int .i64 so,.string nm,.slice va vn vc] 37 := Bk.new w _ _
 have hGd := good5_any va vn vc vl _ (h.flat.past B0) (by omega)
 obtain ⟨z3, -⟩ : (w.alloc (.cells #[.int .i64 sn,.int .i64 so,.string nm,.slice va vn vc] 37)).cell? ⟨w.heap.size,3,none⟩ = some (.slice va vn vc) ∧ True := ⟨hP0.c rfl,trivial⟩
 go_enter Tryz.func20, Tryz.ntmps20
 go_upto_region 3 with (go_at_call 29; refine hGd.mono ?_; rintro e w6 ⟨ga, gcp, rfl, b6, hg6⟩)
 have P6 := hP0.past b6
 have B6 := B0.trans (b6.mono B0.size)
 obtain ⟨gv, hgv⟩ : ∃ x, vl.map gd = x := ⟨_, rfl⟩
 have hgvl : gv.length = vn := by rw [← hgv, List.length_map]; exact hvl
 rw [hgv] at hg6
 have hv6 : IsR EV w6 ga vn gcp gv := by
  rcases hg6 with ⟨q0, q1, q2⟩ | ⟨g, q1, o, hge⟩
  · have q3 : gv = [] := List.length_eq_zero_iff.1 (by omega)
    rw [q0, q1, q2, q3]
    exact IsR.nilR _
  · rw [q1]
    exact o.isR
 obtain ⟨p, hp⟩ : ∃ p, w.heap.size = p := ⟨_, rfl⟩
 have HG := Lib.hid hp
 rw [hp] at P6 B6
 simp only [hp]
 clear hp hg6 b6 hP0 B0 hGd z3
 obtain ⟨X, hX⟩ : ∃ x, w6.heap.size = x := ⟨_, rfl⟩
 have hpX : p < X := by have := P6.lt; omega
 have hXX := Lib.hid hX
 obtain ⟨W, rfl⟩ : ∃ x, x = w6 := ⟨_, rfl⟩
 have HSX := fun (w' : World) (b : Below X W w') => hv6.past (show Below W.heap.size W w' by rw [hXX.out]; exact b)
 have HGv := Lib.hid hgvl
 have HGG := Lib.hid hgv
 obtain ⟨n1, hn1⟩ : ∃ n, vn + 1 = n := ⟨_, rfl⟩
 have HN1 := Lib.hid hn1
 have hn1s : n1 ≤ 13 := by omega
 clear hX hv6 hgvl hgv hvl hn1 h
 have hXW : X ≤ W.heap.size := Nat.le_of_eq hXX.out.symm
 have HKw := fun (w' : World) => within14_any (wrap64 (sn.tdiv 4)) 4 w' (by omega) (by omega)
 simp only [hKM] at HKw
 have hKM3 : KM ≤ 3 := by omega
 clear hlt hKM
 go_wp2_with fail
 go_loopw [3,5] (fun v i wr => ∃ (jn : Nat) (co : Option Addr) (cc2 : Nat) (bs : List ((ByteArray × Int) × HdR)),jn ≤ KM + 1 ∧ i = .int .i64 (jn : Nat) ∧ v = .slice co jn cc2 ∧ TxD DC wr 67 (fun k => X ≤ k) co jn cc2 bs (chgK ((sn,so,nm),vl) jn) ∧ Below X W wr) (fun _ i _ => KM + 1 - (intOf i).toNat)
 case atStart => exact ⟨0, none, 0, [], Nat.zero_le _, rfl, rfl, TxD.nil _ _ _, Below.refl _ _⟩
 case round =>
  obtain ⟨jn, co, cc2, bs, hj, rfl, rfl, hT, B2⟩ := hrel
  have hP6 := P6.past9 B2 hpX
  have z0 : wr.cell? ⟨p, 0, none⟩ = some (.int .i64 sn) := hP6.c rfl
  by_cases hlt : jn < KM + 1
  · have hlti : (jn : Int) < 1 + (KM : Int) := by omega
    go_upto_region 6 with (go_at_call 16; refine (HKw _).mono ?_; rintro e w9 ⟨rfl, rfl⟩)
    obtain ⟨r, hr⟩ : ∃ r, wr.heap.size = r := ⟨_, rfl⟩
    have hrW : r ≤ wr.heap.size := Nat.le_of_eq hr.symm
    have hXr : X ≤ r := by have := B2.size; omega
    have hB0 : X ≤ wr.heap.size := by omega
    have hT6 : TxD DC wr 67 (fun k => X ≤ k ∧ k < r) co jn cc2 bs (chgK ((sn, so, nm), vl) jn) := hT.imp (fun k hk h => ⟨h, by omega⟩)
    obtain ⟨z, hz⟩ : ∃ z, wth14 (IntKind.i64.wrap (so + (jn : Nat))) 2 = z := ⟨_, rfl⟩
    have hz2 := wth14_lt (IntKind.i64.wrap (so + (jn : Nat))) 2 (by omega)
    rw [hz] at hz2
    have HWi := fun (w' : World) => within14_any (IntKind.i64.wrap (so + (jn : Nat))) 2 w' (by omega) (by omega)
    simp only [hz] at HWi
    have HSg := fun (w' : World) (hb : Below X wr.drew w') => HSX w' (B2.trans ((Below.refl _ _).drew.trans hb))
    obtain ⟨gv2, hgv2⟩ : ∃ l : List V, gv ++ [⟨2, (jn : Nat), ⟨#[]⟩⟩] = l := ⟨_, rfl⟩
    have HGv2 := Lib.hid hgv2
    obtain ⟨j1, hj1⟩ : ∃ n, jn + 1 = n := ⟨_, rfl⟩
    have HJ1 := Lib.hid hj1
    have hj1s : j1 ≤ 100 := by omega
    obtain ⟨cl, hcl⟩ : ∃ l, chgK ((sn, so, nm), vl) jn = l := ⟨_, rfl⟩
    rw [hcl] at hT6
    have HCS : Hid (cl ++ [((nm, 1 + z), gv2)] = chgK ((sn, so, nm), vl) j1) := Lib.hid (by rw [← hj1, chgK_succ, hcl, ← hgv2, ← HGG.out, hz]; rfl)
    clear hr hT hz hgv2 hj1 hcl z0
    refine region_inv (RgS6 X p X r sn so nm va vn vc ga gcp co jn cc2 n1 j1 z bs cl gv gv2) (by kernel_rfl) (by kernel_rfl) ?_ ?_ ?_
    · exact ⟨false,false,false,false,false,false,false,false,false,false,false,false,false,false,false,false,false,false,false,false,u18,u19,u20,u21,u22,u23,u24,u25,u26,u27,u28,u29,u30,u31,u32,u33,u34,u35,u36,.slice co jn cc2,0,0,0,0,0,0,0,0,0,rfl,(by go_simp),Below.refl _ _,nf2,nf2,nf2,nf2,nf2,nf2,nf2,nf2,nf2,nf2,nf2,nf2,nf2,nf2,nf2,nf2,nf2,nf2,nf2,nf2,(hP6.past (Below.refl _ _).drew),(fun h1 => hT6.past (Below.refl _ _).drew),(nf2),(nf2),(nf2),nf2,nf2,nf2,nf2,nf2,nf2,(nf2),nf2,nf2,nf2,nf2,nf2,nf2,nf2,nf2,(fun h1 => rfl),nf2,nf2⟩
    · refine ⟨?_, ?_, ?_, ?_, ?_, ?_, ?_, ?_, ?_, ?_, ?_, ?_, ?_, ?_, ?_, ?_, ?_, ?_, ?_, ?_, trivial⟩
      all_goals rintro L a w ⟨b0,b1,b2,b3,b4,b5,b6,b7,b8,b9,b10,b11,b12,b13,b14,b15,b16,b17,b18,b19,x18,x19,x20,x21,x22,x23,x24,x25,x26,x27,x28,x29,x30,x31,x32,x33,x34,x35,x36,x3,ge,g3,c3,gs,g6,c6,gl,g8,c8,rfl,rfl,hb,cd0,cd1,cd2,cd3,cd4,cd5,cd6,cd7,cd8,cd9,cd10,cd11,cd12,cd13,cd14,cd15,cd16,cd17,cd18,cd19,f_p,f_ct,f_o15_11,f_o18_11,f_o18_15,f_e,f_le,f_f,f_lf,f_l0,f_l5,f_nm,f_ls,f_o,f_lo,f_m15,f_k15,f_lc,f_s,f_om19,f_sm19,w_16_15,w_19_18⟩ hf hd
      · have hf' : b0 = false := hf
        subst hf'
        clear hf hd
        have e19 : b19 = false := by cases hq : b19 with | false => rfl | true => exact absurd (f_om19.out hq) (by simp)
        subst e19
        obtain rfl := f_sm19.out rfl
        have W_p := f_p.out
        have W_o15_11 := f_o15_11.out
        have W_o18_11 := f_o18_11.out
        have W_o18_15 := f_o18_15.out
        have W_nm := f_nm.out
        intro K hK
        rw [if_pos (by rfl)]
        go_simp
        exact hK.out _ _ ⟨true,b1,b2,b3,b4,b5,b6,b7,b8,b9,b10,b11,b12,b13,b14,b15,b16,b17,b18,false,(.slice co jn cc2),x19,x20,x21,x22,x23,x24,x25,x26,x27,x28,x29,x30,x31,x32,x33,x34,x35,x36,(.slice co jn cc2),ge,g3,c3,gs,g6,c6,gl,g8,c8,(by go_simp),(by go_simp),hb,rf,cd1,cd2,cd3,cd4,cd5,cd6,cd7,cd8,cd9,cd10,cd11,cd12,cd13,cd14,cd15,cd16,cd17,cd18,cd19,f_p,f_ct,f_o15_11,f_o18_11,f_o18_15,f_e,f_le,f_f,f_lf,f_l0,f_l5,f_nm,f_ls,f_o,f_lo,f_m15,f_k15,f_lc,f_s,rf,f_sm19,w_16_15,w_19_18⟩
      · have hf' : b1 = false := hf
        subst hf'
        clear hf hd
        have W_p := f_p.out
        have W_o15_11 := f_o15_11.out
        have W_o18_11 := f_o18_11.out
        have W_o18_15 := f_o18_15.out
        have W_nm := f_nm.out
        intro K hK
        rw [if_pos (by rfl)]
        go_simp
        exact hK.out _ _ ⟨b0,true,b2,b3,b4,b5,b6,b7,b8,b9,b10,b11,b12,b13,b14,b15,b16,b17,b18,b19,x18,(.pointer (some ⟨p,2,none⟩)),x20,x21,x22,x23,x24,x25,x26,x27,x28,x29,x30,x31,x32,x33,x34,x35,x36,x3,ge,g3,c3,gs,g6,c6,gl,g8,c8,(by go_simp),(by go_simp),hb,cd0,rf,cd2,cd3,cd4,cd5,cd6,cd7,cd8,cd9,cd10,cd11,cd12,cd13,cd14,cd15,cd16,cd17,cd18,cd19,f_p,f_ct,f_o15_11,f_o18_11,f_o18_15,f_e,f_le,f_f,f_lf,f_l0,f_l5,f_nm,f_ls,f_o,f_lo,f_m15,f_k15,f_lc,f_s,f_om19,f_sm19,w_16_15,w_19_18⟩
      · have hf' : b2 = false := hf
        subst hf'
        have d1 : b1 = true := hd ⟨1, .data⟩ (by simp) rfl
        subst d1
        obtain rfl := cd1.out rfl
        clear hf hd
        have W_p := f_p.out
        have W_o15_11 := f_o15_11.out
        have W_o18_11 := f_o18_11.out
        have W_o18_15 := f_o18_15.out
        have W_nm := f_nm.out
        try simp only [setIfInBounds_toArray, set_cons_zero, set_cons_succ]
        have z2 : w.cell? ⟨p, 2, none⟩ = some (.string nm) := W_p.c rfl
        intro K hK
        rw [if_pos (by rfl)]
        go_simp
        exact hK.out _ _ ⟨b0,true,true,b3,b4,b5,b6,b7,b8,b9,b10,b11,b12,b13,b14,b15,b16,b17,b18,b19,x18,.pointer (some ⟨p,2,none⟩),(.string nm),x21,x22,x23,x24,x25,x26,x27,x28,x29,x30,x31,x32,x33,x34,x35,x36,x3,ge,g3,c3,gs,g6,c6,gl,g8,c8,(by go_simp),(by go_simp),hb,cd0,rf,rf,cd3,cd4,cd5,cd6,cd7,cd8,cd9,cd10,cd11,cd12,cd13,cd14,cd15,cd16,cd17,cd18,cd19,f_p,f_ct,f_o15_11,f_o18_11,f_o18_15,f_e,f_le,f_f,f_lf,f_l0,f_l5,f_nm,f_ls,f_o,f_lo,f_m15,f_k15,f_lc,f_s,f_om19,f_sm19,w_16_15,w_19_18⟩
      · have hf' : b3 = false := hf
        subst hf'
        clear hf hd
        have W_p := f_p.out
        have W_o15_11 := f_o15_11.out
        have W_o18_11 := f_o18_11.out
        have W_o18_15 := f_o18_15.out
        have W_nm := f_nm.out
        intro K hK
        rw [if_pos (by rfl)]
        go_simp
        exact hK.out _ _ ⟨b0,b1,b2,true,b4,b5,b6,b7,b8,b9,b10,b11,b12,b13,b14,b15,b16,b17,b18,b19,x18,x19,x20,(.pointer (some ⟨p,1,none⟩)),x22,x23,x24,x25,x26,x27,x28,x29,x30,x31,x32,x33,x34,x35,x36,x3,ge,g3,c3,gs,g6,c6,gl,g8,c8,(by go_simp),(by go_simp),hb,cd0,cd1,cd2,rf,cd4,cd5,cd6,cd7,cd8,cd9,cd10,cd11,cd12,cd13,cd14,cd15,cd16,cd17,cd18,cd19,f_p,f_ct,f_o15_11,f_o18_11,f_o18_15,f_e,f_le,f_f,f_lf,f_l0,f_l5,f_nm,f_ls,f_o,f_lo,f_m15,f_k15,f_lc,f_s,f_om19,f_sm19,w_16_15,w_19_18⟩
      · have hf' : b4 = false := hf
        subst hf'
        have d3 : b3 = true := hd ⟨3, .data⟩ (by simp) rfl
        subst d3
        obtain rfl := cd3.out rfl
        clear hf hd
        have W_p := f_p.out
        have W_o15_11 := f_o15_11.out
        have W_o18_11 := f_o18_11.out
        have W_o18_15 := f_o18_15.out
        have W_nm := f_nm.out
        try simp only [setIfInBounds_toArray, set_cons_zero, set_cons_succ]
        have z1 : w.cell? ⟨p, 1, none⟩ = some (.int .i64 so) := W_p.c rfl
        intro K hK
        rw [if_pos (by rfl)]
        go_simp
        exact hK.out _ _ ⟨b0,b1,b2,true,true,b5,b6,b7,b8,b9,b10,b11,b12,b13,b14,b15,b16,b17,b18,b19,x18,x19,x20,.pointer (some ⟨p,1,none⟩),(.int .i64 so),x23,x24,x25,x26,x27,x28,x29,x30,x31,x32,x33,x34,x35,x36,x3,ge,g3,c3,gs,g6,c6,gl,g8,c8,(by go_simp),(by go_simp),hb,cd0,cd1,cd2,rf,rf,cd5,cd6,cd7,cd8,cd9,cd10,cd11,cd12,cd13,cd14,cd15,cd16,cd17,cd18,cd19,f_p,f_ct,f_o15_11,f_o18_11,f_o18_15,f_e,f_le,f_f,f_lf,f_l0,f_l5,f_nm,f_ls,f_o,f_lo,f_m15,f_k15,f_lc,f_s,f_om19,f_sm19,w_16_15,w_19_18⟩
      · have hf' : b5 = false := hf
        subst hf'
        clear hf hd
        have W_p := f_p.out
        have W_o15_11 := f_o15_11.out
        have W_o18_11 := f_o18_11.out
        have W_o18_15 := f_o18_15.out
        have W_nm := f_nm.out
        intro K hK
        rw [if_pos (by rfl)]
        go_simp
        exact hK.out _ _ ⟨b0,b1,b2,b3,b4,true,b6,b7,b8,b9,b10,b11,b12,b13,b14,b15,b16,b17,b18,b19,x18,x19,x20,x21,x22,(.int .i64 (jn : Nat)),x24,x25,x26,x27,x28,x29,x30,x31,x32,x33,x34,x35,x36,x3,ge,g3,c3,gs,g6,c6,gl,g8,c8,(by go_simp),(by go_simp),hb,cd0,cd1,cd2,cd3,cd4,rf,cd6,cd7,cd8,cd9,cd10,cd11,cd12,cd13,cd14,cd15,cd16,cd17,cd18,cd19,f_p,f_ct,f_o15_11,f_o18_11,f_o18_15,f_e,f_le,f_f,f_lf,f_l0,f_l5,f_nm,f_ls,f_o,f_lo,f_m15,f_k15,f_lc,f_s,f_om19,f_sm19,w_16_15,w_19_18⟩
      · have hf' : b6 = false := hf
        subst hf'
        have d4 : b4 = true := hd ⟨4, .data⟩ (by simp) rfl
        subst d4
        have d5 : b5 = true := hd ⟨5, .data⟩ (by simp) rfl
        subst d5
        obtain rfl := cd4.out rfl
        obtain rfl := cd5.out rfl
        clear hf hd
        have W_p := f_p.out
        have W_o15_11 := f_o15_11.out
        have W_o18_11 := f_o18_11.out
        have W_o18_15 := f_o18_15.out
        have W_nm := f_nm.out
        intro K hK
        rw [if_pos (by rfl)]
        go_simp
        exact hK.out _ _ ⟨b0,b1,b2,b3,true,true,true,b7,b8,b9,b10,b11,b12,b13,b14,b15,b16,b17,b18,b19,x18,x19,x20,x21,.int .i64 so,.int .i64 (jn : Nat),(.int .i64 (IntKind.i64.wrap (so + (jn : Nat)))),x25,x26,x27,x28,x29,x30,x31,x32,x33,x34,x35,x36,x3,ge,g3,c3,gs,g6,c6,gl,g8,c8,(by go_simp),(by go_simp),hb,cd0,cd1,cd2,cd3,rf,rf,rf,cd7,cd8,cd9,cd10,cd11,cd12,cd13,cd14,cd15,cd16,cd17,cd18,cd19,f_p,f_ct,f_o15_11,f_o18_11,f_o18_15,f_e,f_le,f_f,f_lf,f_l0,f_l5,f_nm,f_ls,f_o,f_lo,f_m15,f_k15,f_lc,f_s,f_om19,f_sm19,w_16_15,w_19_18⟩
      · have hf' : b7 = false := hf
        subst hf'
        have d6 : b6 = true := hd ⟨6, .data⟩ (by simp) rfl
        subst d6
        obtain rfl := cd6.out rfl
        clear hf hd
        have W_p := f_p.out
        have W_o15_11 := f_o15_11.out
        have W_o18_11 := f_o18_11.out
        have W_o18_15 := f_o18_15.out
        have W_nm := f_nm.out
        intro K hK
        rw [if_pos (by rfl)]
        go_simp
        go_at_call 16
        refine (HWi _).mono ?_
        rintro e w' ⟨rfl, rfl⟩
        exact hK.out _ _ ⟨b0,b1,b2,b3,b4,b5,true,true,b8,b9,b10,b11,b12,b13,b14,b15,b16,b17,b18,b19,x18,x19,x20,x21,x22,x23,.int .i64 (IntKind.i64.wrap (so + (jn : Nat))),(.int .i64 z),x26,x27,x28,x29,x30,x31,x32,x33,x34,x35,x36,x3,ge,g3,c3,gs,g6,c6,gl,g8,c8,(by go_simp),(by go_simp),hb,cd0,cd1,cd2,cd3,cd4,cd5,rf,rf,cd8,cd9,cd10,cd11,cd12,cd13,cd14,cd15,cd16,cd17,cd18,cd19,f_p,f_ct,f_o15_11,f_o18_11,f_o18_15,f_e,f_le,f_f,f_lf,f_l0,f_l5,f_nm,f_ls,f_o,f_lo,f_m15,f_k15,f_lc,f_s,f_om19,f_sm19,w_16_15,w_19_18⟩
      · have hf' : b8 = false := hf
        subst hf'
        have d7 : b7 = true := hd ⟨7, .data⟩ (by simp) rfl
        subst d7
        obtain rfl := cd7.out rfl
        clear hf hd
        have W_p := f_p.out
        have W_o15_11 := f_o15_11.out
        have W_o18_11 := f_o18_11.out
        have W_o18_15 := f_o18_15.out
        have W_nm := f_nm.out
        intro K hK
        rw [if_pos (by rfl)]
        go_simp
        rw [IntWalk.i64_in _ (by omega)]
        exact hK.out _ _ ⟨b0,b1,b2,b3,b4,b5,b6,true,true,b9,b10,b11,b12,b13,b14,b15,b16,b17,b18,b19,x18,x19,x20,x21,x22,x23,x24,.int .i64 z,(.int .i64 (1 + z)),x27,x28,x29,x30,x31,x32,x33,x34,x35,x36,x3,ge,g3,c3,gs,g6,c6,gl,g8,c8,(by go_simp),(by go_simp),hb,cd0,cd1,cd2,cd3,cd4,cd5,cd6,rf,rf,cd9,cd10,cd11,cd12,cd13,cd14,cd15,cd16,cd17,cd18,cd19,f_p,f_ct,f_o15_11,f_o18_11,f_o18_15,f_e,f_le,f_f,f_lf,f_l0,f_l5,f_nm,f_ls,f_o,f_lo,f_m15,f_k15,f_lc,f_s,f_om19,f_sm19,w_16_15,w_19_18⟩
      · have hf' : b9 = false := hf
        subst hf'
        clear hf hd
        have W_p := f_p.out
        have W_o15_11 := f_o15_11.out
        have W_o18_11 := f_o18_11.out
        have W_o18_15 := f_o18_15.out
        have W_nm := f_nm.out
        intro K hK
        rw [if_pos (by rfl)]
        go_simp
        have bx : Below w.heap.size w (w.alloc (.cells #[] 98)) := (Below.refl _ _).alloc (Nat.le_refl _) _
        exact hK.out _ _ ⟨b0,b1,b2,b3,b4,b5,b6,b7,b8,true,b10,b11,b12,b13,b14,b15,b16,b17,b18,b19,x18,x19,x20,x21,x22,x23,x24,x25,x26,(.slice (some ⟨(w.heap.size),0,none⟩) 0 0),x28,x29,x30,x31,x32,x33,x34,x35,x36,x3,w.heap.size,g3,c3,gs,g6,c6,gl,g8,c8,(by go_simp),(by go_simp),hb.trans (bx.mono (Nat.le_trans hB0 hb.size)),cd0,cd1,cd2,cd3,cd4,cd5,cd6,cd7,cd8,rf,cd10,cd11,cd12,cd13,cd14,cd15,cd16,cd17,cd18,cd19,(f_p.out.past bx),(fun h1 => (f_ct.out h1).past bx),f_o15_11,f_o18_11,f_o18_15,(fun _ _ => own_emptyR' w _),(fun _ => (Nat.le_trans hrW hb.size)),(fun h0 h1 => (f_f.out h0 h1).past bx),f_lf,(fun _ => (by show _ < _; rw [World.size_alloc]; omega)),(fun h0 => (f_l5.out h0).past bx),(fun _ h5 => Nat.ne_of_gt (f_l5.out h5)),(fun h0 h1 => (f_ls.out h0 h1).past bx),(fun h0 h1 => (f_o.out h0 h1).past bx),f_lo,f_m15,f_k15,(fun h0 h1 => (f_lc.out h0 h1).past bx),(fun h0 => (f_s.out h0).past bx),f_om19,f_sm19,w_16_15,w_19_18⟩
      · have hf' : b10 = false := hf
        subst hf'
        clear hf hd
        have W_p := f_p.out
        have W_o15_11 := f_o15_11.out
        have W_o18_11 := f_o18_11.out
        have W_o18_15 := f_o18_15.out
        have W_nm := f_nm.out
        intro K hK
        rw [if_pos (by rfl)]
        go_simp
        exact hK.out _ _ ⟨b0,b1,b2,b3,b4,b5,b6,b7,b8,b9,true,b11,b12,b13,b14,b15,b16,b17,b18,b19,x18,x19,x20,x21,x22,x23,x24,x25,x26,x27,(.slice ga vn gcp),x29,x30,x31,x32,x33,x34,x35,x36,x3,ge,g3,c3,gs,g6,c6,gl,g8,c8,(by go_simp),(by go_simp),hb,cd0,cd1,cd2,cd3,cd4,cd5,cd6,cd7,cd8,cd9,rf,cd11,cd12,cd13,cd14,cd15,cd16,cd17,cd18,cd19,f_p,f_ct,f_o15_11,f_o18_11,f_o18_15,f_e,f_le,f_f,f_lf,f_l0,f_l5,f_nm,f_ls,f_o,f_lo,f_m15,f_k15,f_lc,f_s,f_om19,f_sm19,w_16_15,w_19_18⟩
      · have hf' : b11 = false := hf
        subst hf'
        have d9 : b9 = true := hd ⟨9, .data⟩ (by simp) rfl
        subst d9
        have d10 : b10 = true := hd ⟨10, .data⟩ (by simp) rfl
        subst d10
        have d7 : b7 = true := hd ⟨7, .chain⟩ (by simp) rfl
        subst d7
        obtain rfl := cd9.out rfl
        obtain rfl := cd10.out rfl
        obtain rfl := cd7.out rfl
        clear hf hd
        have W_p := f_p.out
        have W_o15_11 := f_o15_11.out
        have W_o18_11 := f_o18_11.out
        have W_o18_15 := f_o18_15.out
        have W_e := f_e.out rfl rfl
        have W_le := f_le.out rfl
        have W_l0 := f_l0.out rfl
        have W_nm := f_nm.out
        try simp only [setIfInBounds_toArray, set_cons_zero, set_cons_succ]
        intro K hK
        rw [if_pos (by rfl)]
        refine wp_append_o (E := EV) (bd := r) _ _ 35 35 rfl rowTyV rfl W_e W_le (Nat.le_trans hrW hb.size) _ rfl vn gv ((HSg _ hb).src Tryz.underlying35) HGv.out vn (Nat.zero_add _) gv (List.nil_append _) (by omega) ?_
        intro g9 c9 w2 o9 h9 gz9 _ bz9
        have hb2 := hb.trans (bz9.mono hXr)
        exact hK.out _ _ ⟨b0,b1,b2,b3,b4,b5,b6,true,b8,true,true,true,b12,b13,b14,b15,b16,b17,b18,b19,x18,x19,x20,x21,x22,x23,x24,.int .i64 z,x26,.slice (some ⟨ge,0,none⟩) 0 0,.slice ga vn gcp,(.slice (some ⟨g9,0,none⟩) vn c9),x30,x31,x32,x33,x34,x35,x36,x3,ge,g9,c9,gs,g6,c6,gl,g8,c8,(by go_simp),(by go_simp),hb2,cd0,cd1,cd2,cd3,cd4,cd5,cd6,rf,cd8,rf,rf,rf,cd12,cd13,cd14,cd15,cd16,cd17,cd18,cd19,(Bk.past9 f_p.out (bz9.mono hXr) hpX),(fun h1 => ((f_ct.out h1)).grownO gz9 (fun r9 er hq => by have := Option.some.inj er; have := W_le; omega)),rf,rf,f_o18_15,(fun _ h => by cases h),f_le,(fun _ _ => o9),(fun _ => h9),(fun h0 => ((f_l0.out h0)).grown gz9),(fun h0 => ((f_l5.out h0)).grown gz9),f_nm,(fun h0 h1 => (IsR.grown (f_ls.out h0 h1) gz9 (fun a ha e => W_nm rfl h0 (by cases ha; exact (Option.some.inj e).symm)))),(fun h0 _ => absurd (f_o15_11.out h0) (by simp)),(fun h0 => absurd (f_o15_11.out h0) (by simp)),f_m15,f_k15,(fun h0 _ => absurd (f_o15_11.out (f_k15.out h0)) (by simp)),(fun h0 => absurd (f_o18_11.out h0) (by simp)),f_om19,f_sm19,w_16_15,w_19_18⟩
      · have hf' : b12 = false := hf
        subst hf'
        clear hf hd
        have W_p := f_p.out
        have W_o15_11 := f_o15_11.out
        have W_o18_11 := f_o18_11.out
        have W_o18_15 := f_o18_15.out
        have W_nm := f_nm.out
        intro K hK
        rw [if_pos (by rfl)]
        go_simp
        exact hK.out _ _ ⟨b0,b1,b2,b3,b4,b5,b6,b7,b8,b9,b10,b11,true,b13,b14,b15,b16,b17,b18,b19,x18,x19,x20,x21,x22,x23,x24,x25,x26,x27,x28,x29,(.int .i64 (jn : Nat)),x31,x32,x33,x34,x35,x36,x3,ge,g3,c3,gs,g6,c6,gl,g8,c8,(by go_simp),(by go_simp),hb,cd0,cd1,cd2,cd3,cd4,cd5,cd6,cd7,cd8,cd9,cd10,cd11,rf,cd13,cd14,cd15,cd16,cd17,cd18,cd19,f_p,f_ct,f_o15_11,f_o18_11,f_o18_15,f_e,f_le,f_f,f_lf,f_l0,f_l5,f_nm,f_ls,f_o,f_lo,f_m15,f_k15,f_lc,f_s,f_om19,f_sm19,w_16_15,w_19_18⟩
      · have hf' : b13 = false := hf
        subst hf'
        have d12 : b12 = true := hd ⟨12, .data⟩ (by simp) rfl
        subst d12
        obtain rfl := cd12.out rfl
        clear hf hd
        have W_p := f_p.out
        have W_o15_11 := f_o15_11.out
        have W_o18_11 := f_o18_11.out
        have W_o18_15 := f_o18_15.out
        have W_nm := f_nm.out
        intro K hK
        rw [if_pos (by rfl)]
        go_simp
        exact hK.out _ _ ⟨b0,b1,b2,b3,b4,b5,b6,b7,b8,b9,b10,b11,true,true,b14,b15,b16,b17,b18,b19,x18,x19,x20,x21,x22,x23,x24,x25,x26,x27,x28,x29,.int .i64 (jn : Nat),(.agg #[.int .i64 2,.int .i64 (jn : Nat),.string ⟨#[]⟩]),x32,x33,x34,x35,x36,x3,ge,g3,c3,gs,g6,c6,gl,g8,c8,(by go_simp),(by go_simp),hb,cd0,cd1,cd2,cd3,cd4,cd5,cd6,cd7,cd8,cd9,cd10,cd11,rf,rf,cd14,cd15,cd16,cd17,cd18,cd19,f_p,f_ct,f_o15_11,f_o18_11,f_o18_15,f_e,f_le,f_f,f_lf,f_l0,f_l5,f_nm,f_ls,f_o,f_lo,f_m15,f_k15,f_lc,f_s,f_om19,f_sm19,w_16_15,w_19_18⟩
      · have hf' : b14 = false := hf
        subst hf'
        have d13 : b13 = true := hd ⟨13, .data⟩ (by simp) rfl
        subst d13
        obtain rfl := cd13.out rfl
        clear hf hd
        have W_p := f_p.out
        have W_o15_11 := f_o15_11.out
        have W_o18_11 := f_o18_11.out
        have W_o18_15 := f_o18_15.out
        have W_nm := f_nm.out
        intro K hK
        rw [if_pos (by rfl)]
        go_simp
        have bx : Below w.heap.size w (w.alloc (.cells #[.int .i64 2, .int .i64 (jn : Nat), .string ⟨#[]⟩] 98)) := (Below.refl _ _).alloc (Nat.le_refl _) _
        exact hK.out _ _ ⟨b0,b1,b2,b3,b4,b5,b6,b7,b8,b9,b10,b11,b12,true,true,b15,b16,b17,b18,b19,x18,x19,x20,x21,x22,x23,x24,x25,x26,x27,x28,x29,x30,.agg #[.int .i64 2,.int .i64 (jn : Nat),.string ⟨#[]⟩],(.slice (some ⟨(w.heap.size),0,none⟩) 1 1),x33,x34,x35,x36,x3,ge,g3,c3,w.heap.size,g6,c6,gl,g8,c8,(by go_simp),(by go_simp),hb.trans (bx.mono (Nat.le_trans hB0 hb.size)),cd0,cd1,cd2,cd3,cd4,cd5,cd6,cd7,cd8,cd9,cd10,cd11,cd12,rf,rf,cd15,cd16,cd17,cd18,cd19,(f_p.out.past bx),(fun h1 => (f_ct.out h1).past bx),f_o15_11,f_o18_11,f_o18_15,(fun h0 h1 => (f_e.out h0 h1).past bx),f_le,(fun h0 h1 => (f_f.out h0 h1).past bx),f_lf,(fun h0 => (f_l0.out h0).past bx),(fun _ => (by show _ < _; rw [World.size_alloc]; omega)),(fun h0 _ => Nat.ne_of_lt (f_l0.out h0)),(fun _ _ => v_one w _ _ _ _),(fun h0 h1 => (f_o.out h0 h1).past bx),f_lo,f_m15,f_k15,(fun h0 h1 => (f_lc.out h0 h1).past bx),(fun h0 => (f_s.out h0).past bx),f_om19,f_sm19,w_16_15,w_19_18⟩
      · have hf' : b15 = false := hf
        subst hf'
        have d11 : b11 = true := hd ⟨11, .data⟩ (by simp) rfl
        subst d11
        have d14 : b14 = true := hd ⟨14, .data⟩ (by simp) rfl
        subst d14
        obtain rfl := cd11.out rfl
        obtain rfl := cd14.out rfl
        clear hf hd
        have W_p := f_p.out
        have W_o15_11 := f_o15_11.out
        have W_o18_11 := f_o18_11.out
        have W_o18_15 := f_o18_15.out
        have W_f := f_f.out rfl rfl
        have W_lf := f_lf.out rfl
        have W_l5 := f_l5.out rfl
        have W_nm := f_nm.out
        have W_ls := f_ls.out rfl rfl
        try simp only [setIfInBounds_toArray, set_cons_zero, set_cons_succ]
        intro K hK
        rw [if_pos (by rfl)]
        refine wp_append_o (E := EV) (bd := r) _ _ 35 35 rfl rowTyV rfl W_f W_lf (Nat.le_trans hrW hb.size) _ rfl 1 [⟨2,(jn : Nat),⟨#[]⟩⟩] (W_ls.src Tryz.underlying35) rfl n1 HN1.out gv2 HGv2.out (by omega) ?_
        intro g9 c9 w2 o9 h9 gz9 _ bz9
        have hb2 := hb.trans (bz9.mono hXr)
        have e_16 : b16 = false := by cases hq : b16 with | false => rfl | true => exact absurd (w_16_15.out hq) (by simp)
        subst e_16
        exact hK.out _ _ ⟨b0,b1,b2,b3,b4,b5,b6,b7,b8,b9,b10,true,b12,b13,true,true,false,b17,b18,b19,x18,x19,x20,x21,x22,x23,x24,x25,x26,x27,x28,.slice (some ⟨g3,0,none⟩) vn c3,x30,x31,.slice (some ⟨gs,0,none⟩) 1 1,(.slice (some ⟨g9,0,none⟩) n1 c9),x34,x35,x36,x3,ge,g3,c3,gs,g9,c9,gl,g8,c8,(by go_simp),(by go_simp),hb2,cd0,cd1,cd2,cd3,cd4,cd5,cd6,cd7,cd8,cd9,cd10,rf,cd12,cd13,rf,rf,nf2,cd17,cd18,cd19,(Bk.past9 f_p.out (bz9.mono hXr) hpX),(fun h1 => ((f_ct.out h1)).grownO gz9 (fun r9 er hq => by have := Option.some.inj er; have := W_lf; omega)),rf,f_o18_11,rf,(fun _ h => by cases h),f_le,(fun _ h => by cases h),f_lf,(fun h0 => ((f_l0.out h0)).grown gz9),(fun h0 => ((f_l5.out h0)).grown gz9),f_nm,(fun _ h => by cases h),(fun _ _ => o9),(fun _ => h9),rf,rf,(fun h0 _ => absurd (f_k15.out h0) (by simp)),(fun h0 => absurd (f_o18_15.out h0) (by simp)),f_om19,f_sm19,rf,w_19_18⟩
      · have hf' : b16 = false := hf
        subst hf'
        have d2 : b2 = true := hd ⟨2, .data⟩ (by simp) rfl
        subst d2
        have d8 : b8 = true := hd ⟨8, .data⟩ (by simp) rfl
        subst d8
        have d15 : b15 = true := hd ⟨15, .data⟩ (by simp) rfl
        subst d15
        obtain rfl := cd2.out rfl
        obtain rfl := cd8.out rfl
        obtain rfl := cd15.out rfl
        clear hf hd
        have W_p := f_p.out
        have W_o15_11 := f_o15_11.out
        have W_o18_11 := f_o18_11.out
        have W_o18_15 := f_o18_15.out
        have W_nm := f_nm.out
        have W_lo := f_lo.out rfl
        intro K hK
        rw [if_pos (by rfl)]
        go_simp
        exact hK.out _ _ ⟨b0,b1,true,b3,b4,b5,b6,b7,true,b9,b10,b11,b12,b13,b14,true,true,b17,b18,b19,x18,x19,.string nm,x21,x22,x23,x24,x25,.int .i64 (1 + z),x27,x28,x29,x30,x31,x32,.slice (some ⟨g6,0,none⟩) n1 c6,(.agg #[.string nm,.int .i64 (1 + z),.slice (some ⟨g6,0,none⟩) n1 c6]),x35,x36,x3,ge,g3,c3,gs,g6,c6,gl,g8,c8,(by go_simp),(by go_simp),hb,cd0,cd1,rf,cd3,cd4,cd5,cd6,cd7,rf,cd9,cd10,cd11,cd12,cd13,cd14,rf,rf,cd17,cd18,cd19,f_p,f_ct,f_o15_11,f_o18_11,f_o18_15,f_e,f_le,(fun _ h => by cases h),f_lf,f_l0,f_l5,f_nm,(fun _ h => by cases h),f_o,f_lo,rf,f_k15,f_lc,f_s,f_om19,f_sm19,rf,w_19_18⟩
      · have hf' : b17 = false := hf
        subst hf'
        have d16 : b16 = true := hd ⟨16, .data⟩ (by simp) rfl
        subst d16
        obtain rfl := cd16.out rfl
        clear hf hd
        have W_p := f_p.out
        have W_o15_11 := f_o15_11.out
        have W_o18_11 := f_o18_11.out
        have W_o18_15 := f_o18_15.out
        have W_nm := f_nm.out
        have W_m15 := f_m15.out rfl
        intro K hK
        rw [if_pos (by rfl)]
        go_simp
        have bx : Below w.heap.size w (w.alloc (.cells #[.string nm, .int .i64 (1 + z), .slice (some ⟨g6, 0, none⟩) n1 c6] 67)) := (Below.refl _ _).alloc (Nat.le_refl _) _
        exact hK.out _ _ ⟨b0,b1,b2,b3,b4,b5,b6,b7,b8,b9,b10,b11,b12,b13,b14,b15,true,true,b18,b19,x18,x19,x20,x21,x22,x23,x24,x25,x26,x27,x28,x29,x30,x31,x32,x33,.agg #[.string nm,.int .i64 (1 + z),.slice (some ⟨g6,0,none⟩) n1 c6],(.slice (some ⟨(w.heap.size),0,none⟩) 1 1),x36,x3,ge,g3,c3,gs,g6,c6,w.heap.size,g8,c8,(by go_simp),(by go_simp),hb.trans (bx.mono (Nat.le_trans hB0 hb.size)),cd0,cd1,cd2,cd3,cd4,cd5,cd6,cd7,cd8,cd9,cd10,cd11,cd12,cd13,cd14,cd15,rf,rf,cd18,cd19,(f_p.out.past bx),(fun h1 => (f_ct.out h1).past bx),f_o15_11,f_o18_11,f_o18_15,(fun h0 h1 => (f_e.out h0 h1).past bx),f_le,(fun h0 h1 => (f_f.out h0 h1).past bx),f_lf,(fun h0 => (f_l0.out h0).past bx),(fun h0 => (f_l5.out h0).past bx),f_nm,(fun h0 h1 => (f_ls.out h0 h1).past bx),(fun h0 h1 => (f_o.out h0 h1).past bx),f_lo,f_m15,(fun _ => f_m15.out rfl),(fun _ _ => ch_one w _ _ _ _ _ _),(fun h0 => (f_s.out h0).past bx),f_om19,f_sm19,w_16_15,w_19_18⟩
      · have hf' : b18 = false := hf
        subst hf'
        have d0 : b0 = true := hd ⟨0, .data⟩ (by simp) rfl
        subst d0
        have d17 : b17 = true := hd ⟨17, .data⟩ (by simp) rfl
        subst d17
        have d15 : b15 = true := hd ⟨15, .chain⟩ (by simp) rfl
        subst d15
        obtain rfl := cd0.out rfl
        obtain rfl := cd17.out rfl
        obtain rfl := cd15.out rfl
        clear hf hd
        have W_p := f_p.out
        have W_ct := f_ct.out rfl
        have W_o15_11 := f_o15_11.out
        have W_o18_11 := f_o18_11.out
        have W_o18_15 := f_o18_15.out
        have W_nm := f_nm.out
        have W_o := f_o.out rfl rfl
        have W_lo := f_lo.out rfl
        have W_k15 := f_k15.out rfl
        have W_lc := f_lc.out rfl rfl
        try simp only [setIfInBounds_toArray, set_cons_zero, set_cons_succ]
        intro K hK
        rw [if_pos (by rfl)]
        refine wp_append_r (E := ECh) _ _ 43 43 rfl rowTyCh rfl W_ct.row (Nat.zero_le _) _ rfl 1 [((nm,1 + z),(⟨some ⟨g6,0,none⟩,n1,c6⟩ : HdR))] (W_lc.src Tryz.underlying43) rfl (by omega) j1 HJ1.out (bs ++ [((nm,1 + z),(⟨some ⟨g6,0,none⟩,n1,c6⟩ : HdR))]) rfl (by omega) ?_
        intro g9 c9 w2 o9 gz9 hg9 _
        have bz9 : Below X w w2 := ⟨gz9.os,gz9.tape,gz9.output,gz9.size,fun k hk => gz9.block k (Nat.lt_of_lt_of_le hk (Nat.le_trans hB0 hb.size)) (fun e => by have := (W_ct.frm k e.symm).1; omega)⟩
        have hb2 := hb.trans bz9
        have e_19 : b19 = false := by cases hq : b19 with | false => rfl | true => exact absurd (w_19_18.out hq) (by simp)
        subst e_19
        exact hK.out _ _ ⟨true,b1,b2,b3,b4,b5,b6,b7,b8,b9,b10,b11,b12,b13,b14,true,b16,true,true,false,.slice co jn cc2,x19,x20,x21,x22,x23,x24,x25,x26,x27,x28,x29,x30,x31,x32,.slice (some ⟨g6,0,none⟩) n1 c6,x34,.slice (some ⟨gl,0,none⟩) 1 1,(.slice (some ⟨g9,0,none⟩) j1 c9),x3,ge,g3,c3,gs,g6,c6,gl,g9,c9,(by go_simp),(by go_simp),hb2,rf,cd1,cd2,cd3,cd4,cd5,cd6,cd7,cd8,cd9,cd10,cd11,cd12,cd13,cd14,rf,cd16,rf,rf,nf2,(Bk.past9 f_p.out bz9 hpX),nf2,f_o15_11,(fun _ => f_o15_11.out rfl),rf,(fun _ h1 => by rw [f_o15_11.out rfl] at h1; cases h1),f_le,(fun _ h => by cases h),f_lf,(fun h0 => ((f_l0.out h0)).grown gz9),(fun h0 => ((f_l5.out h0)).grown gz9),f_nm,(fun _ h => by cases h),(fun _ h => by cases h),f_lo,f_m15,f_k15,(fun _ h => by cases h),(fun _ => ((TxD.app' (j1 := j1) HJ1.out (D := DC) (Qx := fun k => r ≤ k) (b := ((nm,1 + z),(⟨some ⟨g6,0,none⟩,n1,c6⟩ : HdR))) (x := ((nm,1 + z),gv2)) W_ct ⟨rfl,(W_o.isR).deep (E := EV) (by decide) (fun _ a ha => by cases ha; exact W_lo)⟩ (fun z9 hz9 h9 => by have := (W_ct.frm z9 hz9).2; omega) o9 gz9 hg9).imp (Q' := fun k => X ≤ k) (fun k _ hk => by rcases hk with hk | hk | hk; exact hk.1; (have : r ≤ k := hk; omega); exact Nat.le_trans (Nat.le_trans hB0 hb.size) hk))),f_om19,f_sm19,rf,rf⟩
      · have hf' : b19 = false := hf
        subst hf'
        have d18 : b18 = true := hd ⟨18, .data⟩ (by simp) rfl
        subst d18
        have d0 : b0 = true := hd ⟨0, .phase⟩ (by simp) rfl
        subst d0
        have d1 : b1 = true := hd ⟨1, .phase⟩ (by simp) rfl
        subst d1
        have d2 : b2 = true := hd ⟨2, .phase⟩ (by simp) rfl
        subst d2
        have d3 : b3 = true := hd ⟨3, .phase⟩ (by simp) rfl
        subst d3
        have d4 : b4 = true := hd ⟨4, .phase⟩ (by simp) rfl
        subst d4
        have d5 : b5 = true := hd ⟨5, .phase⟩ (by simp) rfl
        subst d5
        have d6 : b6 = true := hd ⟨6, .phase⟩ (by simp) rfl
        subst d6
        have d7 : b7 = true := hd ⟨7, .phase⟩ (by simp) rfl
        subst d7
        have d8 : b8 = true := hd ⟨8, .phase⟩ (by simp) rfl
        subst d8
        have d9 : b9 = true := hd ⟨9, .phase⟩ (by simp) rfl
        subst d9
        have d10 : b10 = true := hd ⟨10, .phase⟩ (by simp) rfl
        subst d10
        have d11 : b11 = true := hd ⟨11, .phase⟩ (by simp) rfl
        subst d11
        have d12 : b12 = true := hd ⟨12, .phase⟩ (by simp) rfl
        subst d12
        have d13 : b13 = true := hd ⟨13, .phase⟩ (by simp) rfl
        subst d13
        have d14 : b14 = true := hd ⟨14, .phase⟩ (by simp) rfl
        subst d14
        have d15 : b15 = true := hd ⟨15, .phase⟩ (by simp) rfl
        subst d15
        have d16 : b16 = true := hd ⟨16, .phase⟩ (by simp) rfl
        subst d16
        have d17 : b17 = true := hd ⟨17, .phase⟩ (by simp) rfl
        subst d17
        obtain rfl := cd18.out rfl
        obtain rfl := cd0.out rfl
        obtain rfl := cd1.out rfl
        obtain rfl := cd2.out rfl
        obtain rfl := cd3.out rfl
        obtain rfl := cd4.out rfl
        obtain rfl := cd5.out rfl
        obtain rfl := cd6.out rfl
        obtain rfl := cd7.out rfl
        obtain rfl := cd8.out rfl
        obtain rfl := cd9.out rfl
        obtain rfl := cd10.out rfl
        obtain rfl := cd11.out rfl
        obtain rfl := cd12.out rfl
        obtain rfl := cd13.out rfl
        obtain rfl := cd14.out rfl
        obtain rfl := cd15.out rfl
        obtain rfl := cd16.out rfl
        obtain rfl := cd17.out rfl
        clear hf hd
        have W_p := f_p.out
        have W_o15_11 := f_o15_11.out
        have W_o18_11 := f_o18_11.out
        have W_o18_15 := f_o18_15.out
        have W_le := f_le.out rfl
        have W_lf := f_lf.out rfl
        have W_l0 := f_l0.out rfl
        have W_l5 := f_l5.out rfl
        have W_nm := f_nm.out
        have W_lo := f_lo.out rfl
        have W_m15 := f_m15.out rfl
        have W_k15 := f_k15.out rfl
        have W_s := f_s.out rfl
        have W_sm19 := f_sm19.out rfl
        intro K hK
        rw [if_pos (by rfl)]
        go_simp
        exact hK.out _ _ ⟨true,true,true,true,true,true,true,true,true,true,true,true,true,true,true,true,true,true,true,true,.slice co jn cc2,.pointer (some ⟨p,2,none⟩),.string nm,.pointer (some ⟨p,1,none⟩),.int .i64 so,.int .i64 (jn : Nat),.int .i64 (IntKind.i64.wrap (so + (jn : Nat))),.int .i64 z,.int .i64 (1 + z),.slice (some ⟨ge,0,none⟩) 0 0,.slice ga vn gcp,.slice (some ⟨g3,0,none⟩) vn c3,.int .i64 (jn : Nat),.agg #[.int .i64 2,.int .i64 (jn : Nat),.string ⟨#[]⟩],.slice (some ⟨gs,0,none⟩) 1 1,.slice (some ⟨g6,0,none⟩) n1 c6,.agg #[.string nm,.int .i64 (1 + z),.slice (some ⟨g6,0,none⟩) n1 c6],.slice (some ⟨gl,0,none⟩) 1 1,.slice (some ⟨g8,0,none⟩) j1 c8,(.slice (some ⟨g8,0,none⟩) j1 c8),ge,g3,c3,gs,g6,c6,gl,g8,c8,(by go_simp),(by go_simp),hb,rf,rf,rf,rf,rf,rf,rf,rf,rf,rf,rf,rf,rf,rf,rf,rf,rf,rf,rf,rf,f_p,nf2,f_o15_11,f_o18_11,f_o18_15,(fun _ h => by cases h),f_le,(fun _ h => by cases h),f_lf,f_l0,f_l5,f_nm,(fun _ h => by cases h),(fun _ h => by cases h),f_lo,f_m15,f_k15,(fun _ h => by cases h),f_s,rf,nf2,rf,rf⟩
    · rintro act V ⟨b0,b1,b2,b3,b4,b5,b6,b7,b8,b9,b10,b11,b12,b13,b14,b15,b16,b17,b18,b19,x18,x19,x20,x21,x22,x23,x24,x25,x26,x27,x28,x29,x30,x31,x32,x33,x34,x35,x36,x3,ge,g3,c3,gs,g6,c6,gl,g8,c8,hL,rfl,hb,cd0,cd1,cd2,cd3,cd4,cd5,cd6,cd7,cd8,cd9,cd10,cd11,cd12,cd13,cd14,cd15,cd16,cd17,cd18,cd19,f_p,f_ct,f_o15_11,f_o18_11,f_o18_15,f_e,f_le,f_f,f_lf,f_l0,f_l5,f_nm,f_ls,f_o,f_lo,f_m15,f_k15,f_lc,f_s,f_om19,f_sm19,w_16_15,w_19_18⟩
      have hL' : [true,true,true,true,true,true,true,true,true,true,true,true,true,true,true,true,true,true,true,true] = [b0,b1,b2,b3,b4,b5,b6,b7,b8,b9,b10,b11,b12,b13,b14,b15,b16,b17,b18,b19] := congrArg Array.toList hL
      simp only [List.cons.injEq, and_true] at hL'
      obtain ⟨rfl, rfl, rfl, rfl, rfl, rfl, rfl, rfl, rfl, rfl, rfl, rfl, rfl, rfl, rfl, rfl, rfl, rfl, rfl, rfl⟩ := hL'
      obtain rfl := cd0.out rfl
      obtain rfl := cd1.out rfl
      obtain rfl := cd2.out rfl
      obtain rfl := cd3.out rfl
      obtain rfl := cd4.out rfl
      obtain rfl := cd5.out rfl
      obtain rfl := cd6.out rfl
      obtain rfl := cd7.out rfl
      obtain rfl := cd8.out rfl
      obtain rfl := cd9.out rfl
      obtain rfl := cd10.out rfl
      obtain rfl := cd11.out rfl
      obtain rfl := cd12.out rfl
      obtain rfl := cd13.out rfl
      obtain rfl := cd14.out rfl
      obtain rfl := cd15.out rfl
      obtain rfl := cd16.out rfl
      obtain rfl := cd17.out rfl
      obtain rfl := cd18.out rfl
      obtain rfl := cd19.out rfl
      have W_p := f_p.out
      have W_o15_11 := f_o15_11.out
      have W_o18_11 := f_o18_11.out
      have W_o18_15 := f_o18_15.out
      have W_le := f_le.out rfl
      have W_lf := f_lf.out rfl
      have W_l0 := f_l0.out rfl
      have W_l5 := f_l5.out rfl
      have W_nm := f_nm.out
      have W_lo := f_lo.out rfl
      have W_m15 := f_m15.out rfl
      have W_k15 := f_k15.out rfl
      have W_s := f_s.out rfl
      have W_om19 := f_om19.out rfl
      clear hL f_p f_ct f_o15_11 f_o18_11 f_o18_15 f_e f_le f_f f_lf f_l0 f_l5 f_nm f_ls f_o f_lo f_m15 f_k15 f_lc f_s f_om19 f_sm19 cd0 cd1 cd2 cd3 cd4 cd5 cd6 cd7 cd8 cd9 cd10 cd11 cd12 cd13 cd14 cd15 cd16 cd17 cd18 cd19 w_16_15 w_19_18
      simp only [setIfInBounds_toArray, set_cons_zero, set_cons_succ]
      have BV : Below X W V := B2.trans ((Below.refl _ _).drew.trans hb)
      have T9 := W_s
      clear W_s W_p hb
      go_wp2_with fail
      go_roundw
      case rel => exact ⟨j1, _, _, _, by have := HJ1.out; omega, by rw [← HJ1.out]; go_num, rfl, by rw [← HCS.out]; exact T9, BV⟩
      case measure => (have := HJ1.out; simp [intOf]; omega)
  · have hlti : ¬ ((jn : Int) < 1 + (KM : Int)) := by omega
    obtain rfl : jn = KM + 1 := by omega
    go_wp2_with (go_at_call 16; refine (HKw _).mono ?_; rintro e w9 ⟨rfl, rfl⟩)
    go_ret
    unfold ChIs
    rw [HCH.out]
    exact ⟨_, _, _, rfl, hT.isD.imp (fun k _ hk => by have := HG.out; omega), by rw [HG.out]; exact B6.trans (B2.mono (by omega))⟩
end Go.Proofs.YtdmnjjknkcnkgaaGreatDoor
