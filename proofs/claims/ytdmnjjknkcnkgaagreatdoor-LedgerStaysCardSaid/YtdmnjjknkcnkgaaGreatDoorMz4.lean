/-
 ledger: a draft's block; copy, own (by gen_lgo.py).
 append to a row of the call's own or nil, of whatever, nothing too; of noughts to nil.
 A region that draws its order, by ONE condition on what has come up, the frame and the world: each operation is shown once to carry it on, whatever has come up ahead of it. Of no program.
 slices.Concat of bytes; ledger: leaf, Row (by gen_lgs.py).
 The contracts of the reference's Int, Byte, Text, on a row of the call's own.
 The reference of chapter 5: Bytes.
 The document's code.Int of nothing; rows of bytes of the call's own, wherever they began.
 ledger: Root (by gen_lgt.py).
-/
import Derived.Test.YtdmnjjknkcnkgaaGreatDoorMz1
import Derived.Test.YtdmnjjknkcnkgaaGreatDoorMz3
import Derived.Defers
import Derived.Laws.Pointers
import Derived.Laws.LoneSync
import Derived.Test.YtdmnjjknkcnkgaaGreatDoorMz0
import Derived.Lib.AppendZerosOnto
import Derived.RegionTactic
import Derived.WalkKit
import Derived.Deep.RegionHeld
import Derived.Test.YtdmnjjknkcnkgaaGreatDoorMz2
namespace Go.Proofs.YtdmnjjknkcnkgaaGreatDoor
open List (setIfInBounds_toArray set_cons_zero set_cons_succ)
open Go.RowKit
theorem nf2 {p : Prop} {a : Bool} (h : a = !a) : p := by cases a <;> cases h
set_option linter.unusedSimpArgs false
def dfC (dn mu next : Int) (oa : Option Addr) (on oc : Nat) (ba : Option Addr) (bn bc : Nat) (ta : Option Addr) (tn tc : Nat) : Array Value := #[.int .u32 dn,.int .i32 mu,.int .u32 0,.int .i64 next,.slice oa on oc,.slice ba bn bc,.slice ta tn tc]
structure LgOk (L : Lgr) : Prop where
 op : L.op.length ≤ 4
 bl : L.bl.length ≤ 200
 ts : L.ts.length ≤ 200
 tx : ∀ x ∈ L.op, TxOk x
 txs : ∀ l ∈ L.ts, l.length ≤ 4 ∧ ∀ x ∈ l, TxOk x
theorem TxOk.sz {x : Txn} (h : TxOk x) : x.2.length ≤ 100000 ∧ ∀ y ∈ x.2, y.2.length ≤ 100000 := ⟨by have := h.1; omega, fun y hy => by have := (h.2 y hy).2.1; omega⟩
theorem LgOk.opS {L : Lgr} (h : LgOk L) : ∀ x ∈ L.op, x.2.length ≤ 100000 ∧ ∀ y ∈ x.2, y.2.length ≤ 100000 := fun x hx => (h.tx x hx).sz
theorem LgOk.tsS {L : Lgr} (h : LgOk L) : ∀ x ∈ L.ts,x.length ≤ 100000 ∧ ∀ y ∈ x,y.2.length ≤ 100000 ∧ ∀ z ∈ y.2,z.2.length ≤ 100000 := fun x hx => ⟨by have := (h.txs x hx).1; omega,fun y hy => ((h.txs x hx).2 y hy).sz⟩
section
variable {w : World} {g : Nat} {dn mu next : Int} {oa : Option Addr} {on oc : Nat} {ba : Option Addr} {bn bc : Nat} {ta : Option Addr} {tn tc : Nat}
theorem df_cells (h : Bk w g (dfC dn mu next oa on oc ba bn bc ta tn tc) 115) : w.cell? ⟨g,3,none⟩ = some (.int .i64 next) ∧ w.cell? ⟨g,4,none⟩ = some (.slice oa on oc) ∧ w.cell? ⟨g,5,none⟩ = some (.slice ba bn bc) ∧ w.cell? ⟨g,6,none⟩ = some (.slice ta tn tc) := ⟨h.c rfl,h.c rfl,h.c rfl,h.c rfl⟩
theorem df_set (h : Bk w g (dfC dn mu next oa on oc ba bn bc ta tn tc) 115) (i : Nat) (v : Value) {cs : Array Value} (hc : (dfC dn mu next oa on oc ba bn bc ta tn tc).setIfInBounds i v = cs) : Bk (w.setCell ⟨g,i,none⟩ v) g cs 115 := by
 have := heap_setCell_same (i := i) (v := v) h
 rw [hc] at this
 exact this
end
def In (a b k : Nat) : Prop := a ≤ k ∧ k < b
structure LgO (w : World) (B : Nat) (Qo Qb Qt : Nat → Prop) (oa : Option Addr) (on oc : Nat) (ba : Option Addr) (bn bc : Nat) (ta : Option Addr) (tn tc : Nat) (bo : List DT.β) (bb : List DB.β) (bt : List DTs.β) (L : Lgr) : Prop where
 op : TxD DT w 45 Qo oa on oc bo L.op
 bl : TxD DB w 64 Qb ba bn bc bb L.bl
 ts : TxD DTs w 25 Qt ta tn tc bt L.ts
 ob : ∀ k, Qo k → ¬ Qb k
 ot : ∀ k, Qo k → ¬ Qt k
 bt_ : ∀ k, Qb k → ¬ Qt k
 go : ∀ k, Qo k → B ≤ k ∧ k < w.heap.size
 gb : ∀ k, Qb k → B ≤ k ∧ k < w.heap.size
 gt : ∀ k, Qt k → B ≤ k ∧ k < w.heap.size
section
variable {w w' : World} {B : Nat} {Qo Qb Qt : Nat → Prop} {oa : Option Addr} {on oc : Nat} {ba : Option Addr} {bn bc : Nat} {ta : Option Addr} {tn tc : Nat} {bo : List DT.β} {bb : List DB.β} {bt : List DTs.β} {L : Lgr}
theorem LgO.r (h : LgO w B Qo Qb Qt oa on oc ba bn bc ta tn tc bo bb bt L) : LgR w (FrG B) oa on oc ba bn bc ta tn tc L :=
 ⟨h.op.isD.imp fun k _ hk => (h.go k hk).1, h.bl.isD.imp fun k _ hk => (h.gb k hk).1, h.ts.isD.imp fun k _ hk => (h.gt k hk).1⟩
theorem LgO.past (h : LgO w B Qo Qb Qt oa on oc ba bn bc ta tn tc bo bb bt L) (b : Below w.heap.size w w') : LgO w' B Qo Qb Qt oa on oc ba bn bc ta tn tc bo bb bt L :=
 ⟨h.op.past b,h.bl.past b,h.ts.past b,h.ob,h.ot,h.bt_,fun k hk => ⟨(h.go k hk).1,Nat.lt_of_lt_of_le (h.go k hk).2 b.size⟩,fun k hk => ⟨(h.gb k hk).1,Nat.lt_of_lt_of_le (h.gb k hk).2 b.size⟩,fun k hk => ⟨(h.gt k hk).1,Nat.lt_of_lt_of_le (h.gt k hk).2 b.size⟩⟩
theorem LgO.grown {g : Nat} (h : LgO w B Qo Qb Qt oa on oc ba bn bc ta tn tc bo bb bt L) (k : w.grownBy w' (some g)) (hg : g < B) : LgO w' B Qo Qb Qt oa on oc ba bn bc ta tn tc bo bb bt L :=
 ⟨h.op.grownO k (fun r e hq => by cases e; have := (h.go _ hq).1; omega),h.bl.grownO k (fun r e hq => by cases e; have := (h.gb _ hq).1; omega),h.ts.grownO k (fun r e hq => by cases e; have := (h.gt _ hq).1; omega),h.ob,h.ot,h.bt_,fun q hk => ⟨(h.go q hk).1,Nat.lt_of_lt_of_le (h.go q hk).2 k.size⟩,fun q hk => ⟨(h.gb q hk).1,Nat.lt_of_lt_of_le (h.gb q hk).2 k.size⟩,fun q hk => ⟨(h.gt q hk).1,Nat.lt_of_lt_of_le (h.gt q hk).2 k.size⟩⟩
end
theorem grown_past {w a b : World} {g : Nat} (h : w.grownBy a (some g)) (k : Below a.heap.size a b) : w.grownBy b (some g) :=
 ⟨k.os.trans h.os, k.tape.trans h.tape, k.output.trans h.output, Nat.le_trans h.size k.size, fun z hz hne => (k.block z (Nat.lt_of_lt_of_le hz h.size)).trans (h.block z hz hne)⟩
theorem grown_two {w a b : World} {g : Nat} (h : w.grownBy a (some g)) (k : a.grownBy b (some g)) : w.grownBy b (some g) :=
 ⟨k.os.trans h.os, k.tape.trans h.tape, k.output.trans h.output, Nat.le_trans h.size k.size, fun z hz hne => (k.block z (Nat.lt_of_lt_of_le hz h.size) hne).trans (h.block z hz hne)⟩
set_option maxRecDepth 100000 in
set_option maxHeartbeats 2000000 in
theorem dcopy_any (w : World) (g : Nat) (dn mu next : Int) (oa : Option Addr) (on oc : Nat) (ba : Option Addr) (bn bc : Nat) (ta : Option Addr) (tn tc : Nat) (L : Lgr) (X : Bk w g (dfC dn mu next oa on oc ba bn bc ta tn tc) 115) (h : LgR w (fun b => b ≠ g) oa on oc ba bn bc ta tn tc L) (hL : LgOk L) :
 Calls Tryz.prog 87 #[.pointer (some ⟨g,0,none⟩)] w fun e w' => ∃ oa2 oc2 ba2 bc2 ta2 tc2 Qo Qb Qt bo bb bt,e = .returned (.tuple #[]) ∧ Bk w' g (dfC dn mu next oa2 on oc2 ba2 bn bc2 ta2 tn tc2) 115 ∧ LgO w' w.heap.size Qo Qb Qt oa2 on oc2 ba2 bn bc2 ta2 tn tc2 bo bb bt L ∧ w.grownBy w' (some g) := by
 have hgl := X.lt
 have hon := h.op.len
 have hbn := h.bl.len
 have htn := h.ts.len
 have l1 := hL.op
 have l2 := hL.bl
 have l3 := hL.ts
 obtain ⟨c3, c4, c5, c6⟩ := df_cells X
 have HO := copyTxs_any w _ oa on oc L.op h.op (by omega) hL.opS
 go_enter Tryz.func87, Tryz.ntmps87
 go_upto_region 1 with (go_at_call 114; refine HO.mono ?_; rintro e w1 ⟨oa2,oc2,bo,rfl,i1,b1⟩; have X1 := X.past b1; have f1 := free_blk (i := 4) X1; obtain ⟨k3,k4,k5,k6⟩ := df_cells X1)
 have Y1 := df_set X1 4 (.slice oa2 on oc2) (cs := dfC dn mu next oa2 on oc2 ba bn bc ta tn tc) rfl
 have s1 := grown_cell (grown_self w1 g) 4 (.slice oa2 on oc2)
 have G1 := grown_cell (below_grown (some g) b1) 4 (.slice oa2 on oc2)
 have j1 := (i1.imp (Q' := In w.heap.size w1.heap.size) fun k hk hh => ⟨hh, hk⟩).grownO s1 (fun r e hq => by cases e; have := hq.1; omega)
 have hw1 : w.heap.size ≤ w1.heap.size := b1.size
 obtain ⟨S1, hS1⟩ : ∃ s, w1.heap.size = s := ⟨_, rfl⟩
 have hz1 : (w1.setCell ⟨g, 4, none⟩ (.slice oa2 on oc2)).heap.size = S1 := by simpa using hS1
 rw [hS1] at j1 hw1
 clear hS1
 have m2 := (h.bl.past b1).grown s1 (fun h => h rfl)
 have m3 := (h.ts.past b1).grown s1 (fun h => h rfl)
 clear X1 f1 k3 k4 k5 k6 i1 HO s1 c3 c4 c5 c6
 generalize w1.setCell ⟨g, 4, none⟩ (.slice oa2 on oc2) = W1 at Y1 G1 j1 m2 m3 hz1 ⊢
 obtain ⟨c3, c4, c5, c6⟩ := df_cells Y1
 have HB := kclone_bk W1 ba bn bc L.bl m2.flat (by omega)
 go_upto_region 2 with (go_at_call 115; refine HB.mono ?_; rintro e w2 ⟨ba2,bc2,rfl,o2,b2⟩; have X2 := Y1.past b2; have f2 := free_blk (i := 5) X2; obtain ⟨k3,k4,k5,k6⟩ := df_cells X2)
 have Y2 := df_set X2 5 (.slice ba2 bn bc2) (cs := dfC dn mu next oa2 on oc2 ba2 bn bc2 ta tn tc) rfl
 have s2 := grown_cell (grown_self w2 g) 5 (.slice ba2 bn bc2)
 have G2 := grown_cell (grown_past G1 b2) 5 (.slice ba2 bn bc2)
 have i2 : TxD DB w2 64 (In W1.heap.size w2.heap.size) ba2 bn bc2 L.bl L.bl := ⟨o2.zero, fun z hz => ⟨o2.geB z hz, o2.lt z hz⟩, RdD.flat EBk (by decide) w2 _ L.bl⟩
 have n1 := (j1.past b2).grownO s2 (fun r e hq => by cases e; have := hq.1; omega)
 have hW1 := G1.size
 have n2 := i2.grownO s2 (fun r e hq => by cases e; have := hq.1; omega)
 have hw2 : W1.heap.size ≤ w2.heap.size := b2.size
 obtain ⟨S2, hS2⟩ : ∃ s, w2.heap.size = s := ⟨_, rfl⟩
 have hz2 : (w2.setCell ⟨g, 5, none⟩ (.slice ba2 bn bc2)).heap.size = S2 := by simpa using hS2
 rw [hS2, hz1] at n2
 rw [hS2, hz1] at hw2
 clear hS2
 have n3 := (m3.past b2).grown s2 (fun h => h rfl)
 clear X2 f2 k3 k4 k5 k6 i2 HB s2 c3 c4 c5 c6 o2 m2 m3 j1 Y1 G1
 generalize w2.setCell ⟨g, 5, none⟩ (.slice ba2 bn bc2) = W2 at Y2 G2 n1 n2 n3 hz2 ⊢
 obtain ⟨c3, c4, c5, c6⟩ := df_cells Y2
 have HT := copiedS_any W2 _ ta tn tc L.ts n3 (by omega) hL.tsS
 go_wp2_with (go_at_call 116; refine HT.mono ?_; rintro e w3 ⟨ta2,tc2,bt,rfl,i3,b3⟩; have X3 := Y2.past b3; have f3 := free_blk (i := 6) X3; obtain ⟨k3,k4,k5,k6⟩ := df_cells X3)
 have Y3 := df_set X3 6 (.slice ta2 tn tc2) (cs := dfC dn mu next oa2 on oc2 ba2 bn bc2 ta2 tn tc2) rfl
 have s3 := grown_cell (grown_self w3 g) 6 (.slice ta2 tn tc2)
 have G3 := grown_cell (grown_past G2 b3) 6 (.slice ta2 tn tc2)
 have hW2 := G2.size
 have p1 := (n1.past b3).grownO s3 (fun r e hq => by cases e; have := hq.1; omega)
 have p2 := (n2.past b3).grownO s3 (fun r e hq => by cases e; have := hq.1; omega)
 have p3 := (i3.imp (Q' := In S2 w3.heap.size) fun k hk hh => ⟨by have hh' : W2.heap.size ≤ k := hh; omega, hk⟩).grownO s3 (fun r e hq => by cases e; have := hq.1; omega)
 have hw3 : S2 ≤ w3.heap.size := by rw [← hz2]; exact b3.size
 have hz3 : (w3.setCell ⟨g, 6, none⟩ (.slice ta2 tn tc2)).heap.size = w3.heap.size := by simp
 go_end0
 exact ⟨oa2,oc2,ba2,bc2,ta2,tc2,_,_,_,bo,L.bl,bt,rfl,Y3,⟨p1,p2,p3,fun k h1 h2 => by have := h1.2; have := h2.1; omega,fun k h1 h2 => by have := h1.2; have := h2.1; omega,fun k h1 h2 => by have := h1.2; have := h2.1; omega,fun k h1 => ⟨h1.1,by rw [hz3]; have := h1.2; omega⟩,fun k h1 => ⟨by have := h1.1; omega,by rw [hz3]; have := h1.2; omega⟩,fun k h1 => ⟨by have := h1.1; omega,by rw [hz3]; exact h1.2⟩⟩,G3⟩
def Owned (w : World) (g : Nat) (dn mu next : Int) (on bn tn : Nat) (L : Lgr) (e : Ending) (w' : World) : Prop :=
 ∃ oa2 oc2 ba2 bc2 ta2 tc2 Qo Qb Qt bo bb bt,e = .returned (.tuple #[]) ∧ Bk w' g (dfC dn mu next oa2 on oc2 ba2 bn bc2 ta2 tn tc2) 115 ∧ LgO w' w.heap.size Qo Qb Qt oa2 on oc2 ba2 bn bc2 ta2 tn tc2 bo bb bt L ∧ w.grownBy w' (some g)
set_option maxRecDepth 100000 in
set_option maxHeartbeats 1600000 in
theorem dslow_any (w : World) (g : Nat) (next : Int) (oa : Option Addr) (on oc : Nat) (ba : Option Addr) (bn bc : Nat) (ta : Option Addr) (tn tc : Nat) (L : Lgr) (X : Bk w g (dfC 0 0 next oa on oc ba bn bc ta tn tc) 115) (h : LgR w (fun b => b ≠ g) oa on oc ba bn bc ta tn tc L) (hL : LgOk L) :
 Calls Tryz.prog 113 #[.pointer (some ⟨g,0,none⟩),.func (.func 87) #[.pointer (some ⟨g,0,none⟩)] #[]] w (Owned w g 1 0 next on bn tn L) := by
 have X1 := df_set X 1 (.int .i32 1) (cs := dfC 0 1 next oa on oc ba bn bc ta tn tc) rfl
 have g1 := grown_cell (grown_self w g) 1 (.int .i32 1)
 have h1 := h.grown g1 (fun h => h rfl)
 have HC := dcopy_any _ g 0 1 next oa on oc ba bn bc ta tn tc L X1 h1 hL
 have c0 : w.cell? ⟨g, 0, none⟩ = some (.int .u32 0) := X.c rfl
 have c1 : w.cell? ⟨g, 1, none⟩ = some (.int .i32 0) := X.c rfl
 have f1 := free_blk (i := 1) X
 have k0 : (w.setCell ⟨g, 1, none⟩ (.int .i32 1)).cell? ⟨g, 0, none⟩ = some (.int .u32 0) := X1.c rfl
 have hgl := X.lt
 have hnot : ∀ (x : Bool) (w : World), (Op.unary .not (.bool x)).run Tryz.prog w = .ok (.bool (!x)) w := fun _ _ => rfl
 go_enter_defers Tryz.func113, Tryz.ntmps113
 go_wp2_with (first | (go_at_call 128; refine (lock_free ⟨g,1,none⟩ _ (by go_simp) (by go_simp)).mono ?_; rintro e w' ⟨rfl,rfl⟩) | (go_at_call 112; refine (load_any ⟨g,0,none⟩ 0 false rfl _ k0).mono ?_; rintro e w' ⟨rfl,rfl⟩) | (go_at_call 87; refine HC.mono ?_; rintro e w2 ⟨oa2,oc2,ba2,bc2,ta2,tc2,Qo,Qb,Qt,bo,bb,bt,rfl,X2,h2,G2⟩))
 go_wp2
 refine leaves_cons (f := 130) (args := #[.pointer (some ⟨g, 0, none⟩), .bool true]) (by simp) (by simp [go_sem]) ?_
 refine (store_deferred ⟨g, 0, none⟩ (.int .u32 0) .returning _ (X2.c rfl) (free_blk X2)).mono ?_
 rintro e u' w'' ⟨rfl, rfl, rfl⟩
 have X3 : Bk w2.drew g (dfC 0 1 next oa2 on oc2 ba2 bn bc2 ta2 tn tc2) 115 := X2
 have X4 := df_set X3 0 (.int .u32 1) (cs := dfC 1 1 next oa2 on oc2 ba2 bn bc2 ta2 tn tc2) rfl
 refine leaves_cons (f := 129) (args := #[.pointer (some ⟨g, 1, none⟩)]) (by simp [settle]) (by simp [go_sem]) ?_
 refine (unlock_deferred ⟨g, 1, none⟩ _ _ (X4.c rfl) (free_blk X4)).mono ?_
 rintro e u' w'' ⟨rfl, rfl, rfl⟩
 have X5 := df_set X4 1 (.int .i32 0) (cs := dfC 1 0 next oa2 on oc2 ba2 bn bc2 ta2 tn tc2) rfl
 have s5 : w2.grownBy ((w2.drew.setCell ⟨g, 0, none⟩ (.int .u32 1)).setCell ⟨g, 1, none⟩ (.int .i32 0)) (some g) := grown_cell (grown_cell (below_grown (some g) (Below.refl _ _).drew) 0 _) 1 _
 have hs1 : w.heap.size = (w.setCell ⟨g, 1, none⟩ (.int .i32 1)).heap.size := by simp
 rw [← hs1] at h2
 have h5 := h2.grown s5 hgl
 have G5 : w.grownBy ((w2.drew.setCell ⟨g, 0, none⟩ (.int .u32 1)).setCell ⟨g, 1, none⟩ (.int .i32 0)) (some g) := grown_two (grown_two g1 G2) s5
 have HH : Owned w g 1 0 next on bn tn L (.returned (.tuple #[])) ((w2.drew.setCell ⟨g,0,none⟩ (.int .u32 1)).setCell ⟨g,1,none⟩ (.int .i32 0)) := ⟨_,_,_,_,_,_,_,_,_,_,_,_,rfl,X5,h5,G5⟩
 simpa [Leaves, settle, results, Tryz.results113] using HH
set_option maxRecDepth 100000 in
set_option maxHeartbeats 1600000 in
theorem ddo_first (w : World) (g : Nat) (next : Int) (oa : Option Addr) (on oc : Nat) (ba : Option Addr) (bn bc : Nat) (ta : Option Addr) (tn tc : Nat) (L : Lgr) (X : Bk w g (dfC 0 0 next oa on oc ba bn bc ta tn tc) 115) (h : LgR w (fun b => b ≠ g) oa on oc ba bn bc ta tn tc L) (hL : LgOk L) :
 Calls Tryz.prog 86 #[.pointer (some ⟨g, 0, none⟩), .func (.func 87) #[.pointer (some ⟨g, 0, none⟩)] #[]] w (Owned w g 1 0 next on bn tn L) := by
 have hS := dslow_any w g next oa on oc ba bn bc ta tn tc L X h hL
 have c0 : w.cell? ⟨g, 0, none⟩ = some (.int .u32 0) := X.c rfl
 have hnot : ∀ (x : Bool) (w : World), (Op.unary .not (.bool x)).run Tryz.prog w = .ok (.bool (!x)) w := fun _ _ => rfl
 go_enter Tryz.func86, Tryz.ntmps86
 go_wp2_with (first | (go_at_call 113; refine hS.mono ?_; rintro e w' ⟨oa2,oc2,ba2,bc2,ta2,tc2,Qo,Qb,Qt,bo,bb,bt,rfl,N2,S2,G2⟩) | (go_at_call 112; refine (load_any ⟨g,0,none⟩ 0 false rfl _ c0).mono ?_; rintro e w' ⟨rfl,rfl⟩))
 go_end0
 exact ⟨_, _, _, _, _, _, _, _, _, _, _, _, rfl, N2, S2, G2⟩
set_option maxRecDepth 100000 in
theorem ddo_done (w : World) (g : Nat) (next : Int) (oa : Option Addr) (on oc : Nat) (ba : Option Addr) (bn bc : Nat) (ta : Option Addr) (tn tc : Nat) (X : Bk w g (dfC 1 0 next oa on oc ba bn bc ta tn tc) 115) (f : Value) :
 Calls Tryz.prog 86 #[.pointer (some ⟨g, 0, none⟩), f] w fun e w' => e = .returned (.tuple #[]) ∧ w = w' := by
 have c0 : w.cell? ⟨g, 0, none⟩ = some (.int .u32 1) := X.c rfl
 have hnot : ∀ (x : Bool) (w : World), (Op.unary .not (.bool x)).run Tryz.prog w = .ok (.bool (!x)) w := fun _ _ => rfl
 go_enter Tryz.func86, Tryz.ntmps86
 go_wp2_with (go_at_call 112; refine (load_any ⟨g, 0, none⟩ 1 true rfl _ c0).mono ?_; rintro e w' ⟨rfl, rfl⟩)
 go_end0
 exact ⟨rfl, rfl⟩
set_option maxRecDepth 100000 in
theorem own_first (w : World) (g : Nat) (next : Int) (oa : Option Addr) (on oc : Nat) (ba : Option Addr) (bn bc : Nat) (ta : Option Addr) (tn tc : Nat) (L : Lgr) (X : Bk w g (dfC 0 0 next oa on oc ba bn bc ta tn tc) 115) (h : LgR w (fun b => b ≠ g) oa on oc ba bn bc ta tn tc L) (hL : LgOk L) :
 Calls Tryz.prog 51 #[.pointer (some ⟨g,0,none⟩)] w fun e w' => e = .returned (.pointer (some ⟨g,3,none⟩)) ∧ Owned w g 1 0 next on bn tn L (.returned (.tuple #[])) w' := by
 have hS := ddo_first w g next oa on oc ba bn bc ta tn tc L X h hL
 go_enter Tryz.func51, Tryz.ntmps51
 go_wp2_with (go_at_call 86; refine hS.mono ?_; rintro e w' ⟨oa2, oc2, ba2, bc2, ta2, tc2, Qo, Qb, Qt, bo, bb, bt, rfl, N2, S2, G2⟩)
 go_ret
 exact ⟨rfl, _, _, _, _, _, _, _, _, _, _, _, _, rfl, N2, S2, G2⟩
set_option maxRecDepth 100000 in
theorem own_done (w : World) (g : Nat) (next : Int) (oa : Option Addr) (on oc : Nat) (ba : Option Addr) (bn bc : Nat) (ta : Option Addr) (tn tc : Nat) (X : Bk w g (dfC 1 0 next oa on oc ba bn bc ta tn tc) 115) :
 Calls Tryz.prog 51 #[.pointer (some ⟨g, 0, none⟩)] w fun e w' => e = .returned (.pointer (some ⟨g, 3, none⟩)) ∧ w = w' := by
 have hS := fun f => ddo_done w g next oa on oc ba bn bc ta tn tc X f
 go_enter Tryz.func51, Tryz.ntmps51
 go_wp2_with (go_at_call 86; refine (hS _).mono ?_; rintro e w' ⟨rfl, rfl⟩)
 go_ret
 exact ⟨rfl, rfl⟩
section
variable {α : Type} {E : Enc α} {w w' : World} {P : Program} {zero : α}
theorem run_append_none (t tx ty e : TypeId) (i : TypeInfo) (ht : P.underlying t = some (.slice e)) (hi : P.info? e = some i) (x : Value) (hs : Src P i.size tx x 0 [] w) :
 (Builtin.append_ #[t, tx] ty #[.slice none 0 0, x]).run P w = .ok (.slice none 0 0) w := by
 have h1 := hs.len
 have h2 := hs.cells
 rcases hs.kind with ⟨e', hk⟩ | hk <;> simp [Builtin.append_, run_underlying ht, run_underlying hk, sizeOf, typeInfo, hi, h1, h2]
theorem wpList_append_txtR {ops : Array Oper} {rest : List Oper} {o : Oper} {a : Act} {Q : Exit → Act → World → Prop} (hgd : o.guard = none) (s x : Operand) (t tx : TypeId)
 (ho : o.op = .call { callee := .builtin .append,args := #[s,x],argTypes := #[t,tx] }) (e : TypeId) (hB : RowTy E P t e zero) (B : Nat) (ao : Option Addr) (n c : Nat) (l : List α) (hsv : a.eval s = .slice ao n c) (h : TxtR E w e B ao n c l) (hBw : B ≤ w.heap.size)
 (X : Value) (hx : a.eval x = X) (m : Nat) (cs : List α) (hs : Src P E.sz tx X m (E.all cs) w) (hcl : cs.length = m) (hmax : n + m ≤ 1000000)
 (hK : ∀ ao' c' w', TxtR E w' e B ao' (n + m) c' (l ++ cs) → Below B w w' → wpList P ops Q rest (a.put o.dst (.slice ao' (n + m) c')) w') :
 wpList P ops Q (o :: rest) a w := by
 refine wpList_plain hgd fun K hK' => ?_
 rcases h.either with ⟨rfl, rfl, rfl, rfl⟩ | ⟨g, rfl, ow, hg⟩
 · by_cases hm : 0 < m
   · obtain ⟨cap', w', hr, h1, h2⟩ := run_append_nr (P := P) w t tx o.type e hB 0 rfl X m cs hs hcl hm (by omega)
     unfold Oper.wp execOp
     simp only [ho, resolve, invoke, builtin, Sem.run_bind, Sem.run_pure, Result.andThen_ok, List.map_toArray, List.map_cons, List.map_nil, hsv, hx, hr]
     have e0 : 0 + m = m := Nat.zero_add m
     have hh := hK (some ⟨w.heap.size, 0, none⟩) cap' w' ⟨.inr ⟨_, rfl, by rw [e0]; exact h1, hBw⟩⟩ (h2.mono hBw)
     rw [e0] at hh
     exact hK' _ _ hh
   · obtain rfl : m = 0 := by omega
     obtain rfl : cs = [] := List.eq_nil_of_length_eq_zero hcl
     obtain ⟨i, z, hi, hz, hsize, hzc, hby⟩ := hB.info
     have hr := run_append_none (P := P) t tx o.type e i hB.ht hi X (by rw [hsize]; exact hs)
     unfold Oper.wp execOp
     simp only [ho, resolve, invoke, builtin, Sem.run_bind, Sem.run_pure, Result.andThen_ok, List.map_toArray, List.map_cons, List.map_nil, hsv, hx, hr]
     exact hK' _ _ (hK none 0 w (TxtR.nil _ _ _) (Below.refl _ _))
 · obtain ⟨g', cap', w', hr, h1, h2, h3⟩ := run_append_or (P := P) w t tx o.type e hB g n c l ow X m cs hs hcl hmax
   unfold Oper.wp execOp
   simp only [ho, resolve, invoke, builtin, Sem.run_bind, Sem.run_pure, Result.andThen_ok, List.map_toArray, List.map_cons, List.map_nil, hsv, hx, hr]
   exact hK' _ _ (hK (some ⟨g', 0, none⟩) cap' w' ⟨.inr ⟨_, rfl, h1, by rcases h3 with rfl | h3; exact hg; exact Nat.le_trans hBw h3⟩⟩ (h2.below hg hBw))
theorem wpList_append_nil_zr {ops : Array Oper} {rest : List Oper} {o : Oper} {a : Act} {Q : Exit → Act → World → Prop} (hgd : o.guard = none) (s x : Operand) (t tn : TypeId)
 (ho : o.op = .call { callee := .builtin .append,args := #[s,x],argTypes := #[t,tn] }) (e : TypeId) (hB : RowTy E P t e zero) (kn kq : IntKind) (htn : P.underlying tn = some (.int kn)) (k : Nat) (hsv : a.eval s = .slice none 0 0) (hx : a.eval x = .int kq k) (h0 : 0 < k) (hk1 : k ≤ 1000000) (hz0 : 0 < E.sz)
 (hK : ∀ c w', k ≤ c → OwnR E w' e w.heap.size 0 c [] → Below w.heap.size w w' → wpList P ops Q rest (a.put o.dst (.slice (some ⟨w.heap.size, 0, none⟩) k c)) w') :
 wpList P ops Q (o :: rest) a w := by
 obtain ⟨i, z, hi, hz, hsize, hzc, hby⟩ := hB.info
 have hfit : Builtin.nextslicecap (0 + k) 0 * i.bytes ≤ 281474976710656 := growslice_fits (by omega) (Nat.le_trans (Nat.mul_le_mul (show 0 + k ≤ 1000000 by omega) hby) (by omega))
 have hr := Lib.run_append_grow_zeros (P := P) w t tn o.type e i z kq kn hB.ht htn hi hz none 0 0 [] (run_firstCells_none w.drew i.size 0 0 0) k h0 (by rw [hsize]; exact hz0) (by omega) (by omega) (Nat.le_trans (Nat.mul_le_mul hk1 hby) (by omega)) hfit
 simp only [Nat.zero_add] at hr
 have hge := grownCap_ge w k 0 e
 have hcm : grownCap w k 0 e ≤ maxLen := grownCap_le_maxLen w k 0 e (by simp only [maxLen]; omega)
 have hzl : z.cells.size = E.sz := by rw [← Array.length_toList, hzc, E.len]
 refine wpList_plain hgd fun K hK' => ?_
 unfold Oper.wp execOp
 simp only [ho, resolve, invoke, builtin, Sem.run_bind, Sem.run_pure, Result.andThen_ok, List.map_toArray, List.map_cons, List.map_nil, hsv, hx, hr]
 refine hK' _ _ (hK _ _ hge ⟨rfl, Nat.zero_le _, hcm, _, heap_alloc_new w.drew _, ?_, by simp [Enc.all]⟩ ((Below.refl _ _).drew.alloc (Nat.le_refl _) _))
 simp only [Array.size_append, List.size_toArray, size_zeroCells, List.length_nil, hzl]
 rw [Nat.zero_add, ← Nat.add_mul]
 congr 1
 omega
end
section
variable {P : Program} {ops : Array Oper} {Q : Exit → Act → World → Prop} {md : Region.Mode} {I : Array Bool → Act → World → Prop}
def backB (md : Region.Mode) (ops : Array Oper) : Bool :=
 (List.range ops.size).all fun j => ((ops[j]?).map (·.after.all fun e => !Region.binds md e || decide (e.on < j))).getD true
theorem backB_spec (h : backB md ops = true) (j : Nat) (o : Oper) (ho : ops[j]? = some o) (e : Edge) (he : e ∈ o.after) (hb : Region.binds md e = true) : e.on < j := by
 have hj : j < ops.size := (Array.getElem?_eq_some_iff.1 ho).1
 have h1 := List.all_eq_true.1 h j (List.mem_range.2 hj)
 rw [ho] at h1
 simp only [Option.map_some, Option.getD_some, Array.all_eq_true_iff_forall_mem] at h1
 have h2 := h1 e he
 simpa [hb] using h2
theorem listed_all {listed : Array Bool} (hb : backB md ops = true) (hs : listed.size = ops.size) (hr : Region.ready md ops listed = []) : ∀ j, j < ops.size → listed.getD j false = true := by
 intro j
 induction j using Nat.strongRecOn with
 | _ j ih =>
  intro hj
  cases hl : listed.getD j false with
  | true => rfl
  | false =>
   exfalso
   have hm : j ∈ Region.ready md ops listed := by
    refine mem_ready.2 ⟨?_, ops[j], Array.getElem?_eq_getElem hj, fun e he hbe => ?_⟩
    · simp [hs, hj] at hl ⊢
      exact hl
    · have h1 := backB_spec hb j _ (Array.getElem?_eq_getElem hj) e he hbe
      exact ih e.on h1 (by omega)
   rw [hr] at hm
   cases hm
theorem listed_rep {listed : Array Bool} {n : Nat} (hs : listed.size = n) (h : ∀ j, j < n → listed.getD j false = true) : listed = Array.replicate n true := by
 apply Array.ext
 · simp [hs]
 · intro i h1 h2
   have := h i (by omega)
   simp [h1] at this
   simp [this]
def unl (listed : Array Bool) : Nat := listed.toList.countP (fun b => !b)
theorem countP_set : ∀ (l : List Bool) (i : Nat), l[i]? = some false → (l.set i true).countP (fun b => !b) + 1 = l.countP (fun b => !b)
 | [], i, h => by simp at h
 | b :: l, 0, h => by
  obtain rfl : b = false := by simpa using h
  simp
 | b :: l, i + 1, h => by
  have := countP_set l i (by simpa using h)
  simp only [List.set_cons_succ, List.countP_cons]
  omega
theorem unl_set {listed : Array Bool} {i : Nat} (h : listed.getD i true = false) : unl (listed.setIfInBounds i true) + 1 = unl listed := by
 unfold unl
 rw [Array.toList_setIfInBounds]
 refine countP_set _ _ ?_
 rcases Nat.lt_or_ge i listed.size with h' | h'
 · simp [h'] at h ⊢
   exact h
 · simp [Array.getElem?_eq_none h'] at h
def StepOK (P : Program) (md : Region.Mode) (ops : Array Oper) (Q : Exit → Act → World → Prop) (I : Array Bool → Act → World → Prop) (j : Nat) (o : Oper) : Prop :=
 ∀ listed a w, I listed a w → listed.getD j true = false → (∀ e ∈ o.after, Region.binds md e = true → listed.getD e.on false = true) →
  ∀ K : Act → World → Prop, Shut (∀ a w, I (listed.setIfInBounds j true) a w → K a w) → if Region.wanted o (yielded ops a.tmps) = true then Oper.wp P o a w K Q else K (a.put o.dst undef) w
def StepsOK (P : Program) (md : Region.Mode) (ops : Array Oper) (Q : Exit → Act → World → Prop) (I : Array Bool → Act → World → Prop) : Nat → List Oper → Prop
 | _, [] => True
 | j, o :: r => StepOK P md ops Q I j o ∧ StepsOK P md ops Q I (j + 1) r
theorem StepsOK.get : ∀ (l : List Oper) (j i : Nat) (o : Oper), StepsOK P md ops Q I j l → l[i]? = some o → StepOK P md ops Q I (j + i) o
 | [], _, _, _, _, h => by simp at h
 | _ :: _, _, 0, _, hs, h => by
  obtain rfl := by simpa using h
  exact hs.1
 | _ :: l, j, i + 1, o, hs, h => by
  have := StepsOK.get l (j + 1) i o hs.2 (by simpa using h)
  rwa [show j + (i + 1) = j + 1 + i by omega]
theorem wpAny_inv (hb : backB md ops = true) (hs : StepsOK P md ops Q I 0 ops.toList) (hd : ∀ a w, I (Array.replicate ops.size true) a w → Q .normal a w) :
 ∀ (fuel : Nat) (listed : Array Bool) (a : Act) (w : World), listed.size = ops.size → unl listed ≤ fuel → I listed a w → wpAny P md ops Q fuel listed a w := by
 have done : ∀ listed a w, listed.size = ops.size → I listed a w → Region.ready md ops listed = [] → Q .normal a w := fun listed a w hz hI hr => by
  have := listed_rep hz (listed_all hb hz hr)
  rw [this] at hI
  exact hd a w hI
 intro fuel
 induction fuel with
 | zero =>
  intro listed a w hz hu hI
  have hr : Region.ready md ops listed = [] := by
   cases hr : Region.ready md ops listed with
   | nil => rfl
   | cons x r =>
    exfalso
    have hm : x ∈ Region.ready md ops listed := by rw [hr]; simp
    have := unl_set (mem_ready.1 hm).1
    omega
  exact ⟨hr, done listed a w hz hI hr⟩
 | succ fuel ih =>
  intro listed a w hz hu hI
  refine ⟨done listed a w hz hI, fun i hi => ?_⟩
  obtain ⟨h0, o, ho, hall⟩ := mem_ready.1 hi
  have h1 : StepOK P md ops Q I i o := by
   have := StepsOK.get ops.toList 0 i o hs (by simpa using ho)
   rwa [Nat.zero_add] at this
  have hu2 := unl_set h0
  exact wpOp_step ho fun K hK => h1 listed a w hI h0 hall K (fun a' w' h' => hK a' w' (ih _ a' w' (by simp [hz]) (by omega) h'))
theorem unl_rep (n : Nat) : unl (Array.replicate n false) = n := by simp [unl, List.countP_replicate]
theorem region_inv (I : Act → World → Array Bool → Act → World → Prop) {id : Nat} {a : Act} {w : World} (hm : P.follows .mixedOrders = true) (hb : backB .any ops = true) (h0 : I a w.drew (Array.replicate ops.size false) a w.drew)
 (hs : StepsOK P .any ops Q (I a w.drew) 0 ops.toList) (hd : ∀ a' w', I a w.drew (Array.replicate ops.size true) a' w' → Q .normal a' w') : (Code.region id ops true).wp P Q a w :=
 wp_region_any hm (wpAny_inv hb hs hd ops.size _ a w.drew (by simp) (by rw [unl_rep]; exact Nat.le_refl _) h0)
end
def EU8 : Enc UInt8 := ⟨1, fun u => [bc u], fun _ => rfl, fun u v hv => by
 obtain rfl := List.mem_singleton.1 hv
 rfl⟩
theorem EU8_all (l : List UInt8) : EU8.all l = bcs l := by
 induction l with
 | nil => rfl
 | cons x l ih => rw [EU8.all_cons, ih]; rfl
theorem rowTyU8 : RowTy EU8 Tryz.prog 81 5 0 := by
 obtain ⟨i, h1, h2, h3, h4⟩ := info_parts info_u8
 exact ⟨Tryz.underlying81, i, _, h1, h2, h3, rfl, by rw [h4]; decide⟩
theorem IsB.u8 {w : World} {ao : Option Addr} {n c : Nat} {l : List UInt8} (h : IsB w ao n c l) : IsR EU8 w ao n c l :=
 ⟨h.len, h.le, h.max, h.nil, fun a ha j u hu => by
  rw [EU8_all] at hu
  simp only [bcs, List.getElem?_map, Option.map_eq_some_iff] at hu
  obtain ⟨x, hx, rfl⟩ := hu
  exact h.cell a ha j x hx⟩
theorem IsR.b8 {w : World} {ao : Option Addr} {n c : Nat} {l : List UInt8} (h : IsR EU8 w ao n c l) : IsB w ao n c l :=
 ⟨h.len, h.le, h.max, h.nil, fun a ha j u hu => h.cell a ha j _ (by rw [EU8_all]; simp only [bcs, List.getElem?_map, hu]; rfl)⟩
theorem parts3 (w : World) (t : TypeId) (x0 : HdR) (x1 : HdR) (x2 : HdR) (l0 l1 l2 : List UInt8) (h0 : IsR EU8 w x0.a x0.n x0.c l0) (h1 : IsR EU8 w x1.a x1.n x1.c l1) (h2 : IsR EU8 w x2.a x2.n x2.c l2) :
 IsRR EU8 (w.alloc (.cells #[.slice x0.a x0.n x0.c, .slice x1.a x1.n x1.c, .slice x2.a x2.n x2.c] t)) 0 (some ⟨w.heap.size, 0, none⟩) 3 3 [l0, l1, l2] :=
 ⟨[x0,x1,x2],(OwnR.ofBlk (E := EH) (l := [x0,x1,x2]) (n := 3) (heap_alloc_new w _) rfl rfl (by omega)).isR,((((Rd.one h0).append (Rd.one h1)).append (Rd.one h2))).past ((Below.refl _ _).alloc (Nat.le_refl _) _),(fun _ _ => Nat.zero_le _ : Frm 0 _),(fun _ _ _ _ => Nat.zero_le _ : FrmH 0 _)⟩
theorem parts4 (w : World) (t : TypeId) (x0 : HdR) (x1 : HdR) (x2 : HdR) (x3 : HdR) (l0 l1 l2 l3 : List UInt8) (h0 : IsR EU8 w x0.a x0.n x0.c l0) (h1 : IsR EU8 w x1.a x1.n x1.c l1) (h2 : IsR EU8 w x2.a x2.n x2.c l2) (h3 : IsR EU8 w x3.a x3.n x3.c l3) :
 IsRR EU8 (w.alloc (.cells #[.slice x0.a x0.n x0.c, .slice x1.a x1.n x1.c, .slice x2.a x2.n x2.c, .slice x3.a x3.n x3.c] t)) 0 (some ⟨w.heap.size, 0, none⟩) 4 4 [l0, l1, l2, l3] :=
 ⟨[x0,x1,x2,x3],(OwnR.ofBlk (E := EH) (l := [x0,x1,x2,x3]) (n := 4) (heap_alloc_new w _) rfl rfl (by omega)).isR,(((((Rd.one h0).append (Rd.one h1)).append (Rd.one h2)).append (Rd.one h3))).past ((Below.refl _ _).alloc (Nat.le_refl _) _),(fun _ _ => Nat.zero_le _ : Frm 0 _),(fun _ _ _ _ => Nat.zero_le _ : FrmH 0 _)⟩
theorem parts5 (w : World) (t : TypeId) (x0 : HdR) (x1 : HdR) (x2 : HdR) (x3 : HdR) (x4 : HdR) (l0 l1 l2 l3 l4 : List UInt8) (h0 : IsR EU8 w x0.a x0.n x0.c l0) (h1 : IsR EU8 w x1.a x1.n x1.c l1) (h2 : IsR EU8 w x2.a x2.n x2.c l2) (h3 : IsR EU8 w x3.a x3.n x3.c l3) (h4 : IsR EU8 w x4.a x4.n x4.c l4) :
 IsRR EU8 (w.alloc (.cells #[.slice x0.a x0.n x0.c,.slice x1.a x1.n x1.c,.slice x2.a x2.n x2.c,.slice x3.a x3.n x3.c,.slice x4.a x4.n x4.c] t)) 0 (some ⟨w.heap.size,0,none⟩) 5 5 [l0,l1,l2,l3,l4] :=
 ⟨[x0,x1,x2,x3,x4],(OwnR.ofBlk (E := EH) (l := [x0,x1,x2,x3,x4]) (n := 5) (heap_alloc_new w _) rfl rfl (by omega)).isR,((((((Rd.one h0).append (Rd.one h1)).append (Rd.one h2)).append (Rd.one h3)).append (Rd.one h4))).past ((Below.refl _ _).alloc (Nat.le_refl _) _),(fun _ _ => Nat.zero_le _ : Frm 0 _),(fun _ _ _ _ => Nat.zero_le _ : FrmH 0 _)⟩
set_option maxRecDepth 100000 in
theorem grow_u8 (k : Nat) (hk : k ≤ 1000000) (w : World) : Calls Tryz.prog 122 #[.slice none 0 0,.int .i64 k] w fun e w' => ∃ ao c,e = .returned (.slice ao 0 c) ∧ TxtR EU8 w' 5 w.heap.size ao 0 c [] ∧ Below w.heap.size w w' := by
 have hw : wrap64 ((k : Int) - 0) = k := by rw [Int.sub_zero]; exact IntWalk.wrap64_in _ (by omega)
 have hk2 : ¬ ((k : Int) < 0) := by omega
 by_cases h0 : 0 < k
 · have hk1 : (0 : Int) < (k : Int) := by omega
   go_enter Tryz.func122, Tryz.ntmps122
   go_wp2_with (at_builtin; refine wpList_append_nil_zr (E := EU8) rfl _ _ 81 3 rfl 5 rowTyU8 .i64 .i64 Tryz.underlying3 k rfl rfl h0 hk (by decide) ?_; intro c w1 q1 o1 b1)
   go_ret
   exact ⟨_, c, rfl, ⟨.inr ⟨_, rfl, o1, Nat.le_refl _⟩⟩, b1⟩
 · obtain rfl : k = 0 := by omega
   go_enter Tryz.func122, Tryz.ntmps122
   go_wp2_with fail
   go_ret
   exact ⟨none, 0, rfl, TxtR.nil _ _ _, Below.refl _ _⟩
set_option maxRecDepth 100000 in
set_option maxHeartbeats 1000000 in
theorem concat_u8 (w : World) (B : Nat) (ao : Option Addr) (k c : Nat) (ls : List (List UInt8)) (h : IsRR EU8 w B ao k c ls) (hk : k ≤ 1000) (N : Nat) (hN : ls.flatten.length = N) (hmx : N ≤ 100000) :
 Calls Tryz.prog 93 #[.slice ao k c] w fun e w' => ∃ ao' c',e = .returned (.slice ao' N c') ∧ TxtR EU8 w' 5 w.heap.size ao' N c' ls.flatten ∧ Below w.heap.size w w' := by
 have hln := h.len
 have next : ∀ j l, ls[j]? = some l → (ls.take (j + 1)).flatten = (ls.take j).flatten ++ l := fun j l hl => by
  obtain ⟨hj, rfl⟩ := List.getElem?_eq_some_iff.1 hl
  rw [List.take_succ_eq_append_getElem hj, List.flatten_append]
  simp
 have le : ∀ j, (ls.take j).flatten.length ≤ N := fun j => by
  rw [← hN]
  conv => rhs; rw [← List.take_append_drop j ls, List.flatten_append, List.length_append]
  exact Nat.le_add_right _ _
 have NX := Lib.hid next
 have LE := Lib.hid le
 clear next le
 go_enter Tryz.func93, Tryz.ntmps93
 go_wp2_with fail
 go_loopw [3, 11] (fun z i wr => ∃ j q : Nat, j ≤ k ∧ i = .int .i64 (j : Nat) ∧ z = .int .i64 (q : Nat) ∧ Hid (q = (ls.take j).flatten.length) ∧ w = wr) (fun _ i _ => k - (intOf i).toNat)
 case atStart => exact ⟨0, 0, by omega, rfl, rfl, rfl, rfl⟩
 case round =>
  obtain ⟨j, q, hj, rfl, rfl, hq, rfl⟩ := hrel
  by_cases hlt : j < k
  · have hlti : (j : Int) < (k : Int) := by omega
    obtain ⟨l, hl⟩ : ∃ l, ls[j]? = some l := ⟨ls[j]'(by omega), List.getElem?_eq_getElem _⟩
    obtain ⟨b, off, x, rfl, hb, hc, hx⟩ := h.at hl
    have e1 : (ls.take (j + 1)).flatten.length = q + x.n := by rw [NX.out j l hl, List.length_append, ← hq.out, hx.len]
    have hq2 : q + x.n ≤ N := by rw [← e1]; exact LE.out (j + 1)
    have HE := Lib.hid e1.symm
    have hneg : ¬ ((q : Int) + (x.n : Int) < 0) := by omega
    obtain ⟨xa, xn, xc⟩ := x
    simp only at hc HE hq2 hneg
    clear e1 hl hx
    go_wp2_with fail
    go_roundw
    case rel => exact ⟨j + 1, q + xn, by omega, by go_num, by go_num, HE.out, trivial⟩
    case measure => simp [intOf]; omega
  · have hlti : ¬ ((j : Int) < (k : Int)) := by omega
    obtain rfl : j = k := by omega
    obtain rfl : q = N := by rw [hq.out, ← hN, List.take_of_length_le (by omega)]
    go_wp2_with (go_at_call 122; refine (grow_u8 q (by omega) _).mono ?_; rintro en w1 ⟨ga, gc, rfl, o1, b1⟩)
    have B1 : Below w.heap.size w w1 := b1
    go_loopw [6,27] (fun v i w2 => ∃ (j2 : Nat) (ao2 : Option Addr) (m c2 : Nat),j2 ≤ j ∧ i = .int .i64 (j2 : Nat) ∧ v = .slice ao2 m c2 ∧ TxtR EU8 w2 5 w.heap.size ao2 m c2 (ls.take j2).flatten ∧ Below w.heap.size w w2) (fun _ i _ => j - (intOf i).toNat)
    case atStart => exact ⟨0, ga, 0, gc, by omega, rfl, rfl, o1, B1⟩
    case round =>
     obtain ⟨j2, ao2, m, c2, hj2, rfl, rfl, o2, B2⟩ := hrel
     clear o1 b1 B1
     have hm := o2.len
     have hm2 := LE.out j2
     have hsz := B2.size
     by_cases hlt2 : j2 < j
     · have hlti2 : (j2 : Int) < (j : Int) := by omega
       obtain ⟨l, hl⟩ : ∃ l, ls[j2]? = some l := ⟨ls[j2]'(by omega), List.getElem?_eq_getElem _⟩
       obtain ⟨b, off, x, rfl, hb, hc, hx⟩ := h.at hl
       rw [← B2.cell hb] at hc
       have hx2 := hx.past B2
       have e1 := NX.out j2 l hl
       have HE := Lib.hid e1
       have hle2 : m + x.n ≤ 1000000 := by
        have := LE.out (j2 + 1)
        rw [e1, List.length_append, hm, hx.len] at this
        omega
       obtain ⟨xa, xn, xc⟩ := x
       simp only at hc hx2 hle2
       have hxl := hx2.len
       clear e1 hl hx hm
       go_wp2_with (at_builtin; refine wpList_append_txtR rfl _ _ 81 81 rfl 5 rowTyU8 w.heap.size ao2 m c2 _ rfl o2 hsz _ rfl xn l (hx2.src Tryz.underlying81) hxl hle2 ?_; intro a3 c3 w3 o3 b3)
       go_roundw
       case rel => exact ⟨j2 + 1, a3, m + xn, c3, by omega, by go_num, rfl, by rw [HE.out]; exact o3, B2.trans b3⟩
       case measure => simp [intOf]; omega
     · have hlti2 : ¬ ((j2 : Int) < (j : Int)) := by omega
       obtain rfl : j2 = j := by omega
       rw [List.take_of_length_le (by omega)] at o2
       obtain rfl : m = q := by rw [← o2.len, hN]
       go_wp2_with fail
       go_ret
       exact ⟨ao2, c2, rfl, o2, B2⟩
set_option maxRecDepth 100000 in
set_option maxHeartbeats 1000000 in
theorem lleaf_any (w : World) (hC : RC w) (ao : Option Addr) (n c : Nat) (ls : List (List UInt8)) (h : IsRR EU8 w 0 ao n c ls) (hn : n ≤ 1000) (hm : ls.flatten.length ≤ 100000) (LF : List UInt8) (hLF : ls.flatten = LF) :
 Calls Tryz.prog 60 #[.slice ao n c] w fun e w' => e = .returned (.agg (bcs (leafS LF)).toArray) ∧ Below w.heap.size w w' := by
 obtain ⟨N, hN⟩ : ∃ N, ls.flatten.length = N := ⟨_, rfl⟩
 rw [hN] at hm
 have HLF := Lib.hid hLF
 have HN := Lib.hid hN
 clear hLF hN
 go_enter Tryz.func60, Tryz.ntmps60
 go_upto_region 1 with (with_reducible refine wpList_alloc_blk (o := ⟨some 2, _, _, _, _, _⟩) rfl 53 rfl _ zeroHash ?_; intro w1 gr h1 b1 q1)
 have HC2 := concat_u8 w1 0 ao n c ls (h.past b1) hn N HN.out hm
 rw [HLF.out] at HC2
 have hC1 := hC.past b1
 go_wp2_with (first
  | (go_at_call 93; refine HC2.mono ?_; rintro e w2 ⟨ao2, c2, rfl, o2, b2⟩; have HL := leaf_any ao2 N c2 LF w2 (hC1.past b2) o2.isR.b8 (by omega))
  | (go_at_call 92; refine HL.mono ?_; rintro e w3 ⟨rfl,b3⟩; have B3 := b2.trans (b3.mono b2.size); have R3 : Hid (w3.heap[gr]? = some (.cells (bcs (List.replicate 32 0)).toArray 53 (0,0))) := (B3.block gr (Array.getElem?_eq_some_iff.1 h1.out).1).trans h1.out)
  | ((with_reducible refine wpList_store_blk rfl 53 _ _ rfl gr _ (bcs (leafS LF)).toArray ?_ ?_ _ R3 32 sizeHash (by simp [bcs_length]) (by simp [bcs_length,leafS_length]) (bcs_all _) ?_); (rfl); (rfl); (intro w8 h8 b8)))
 refine bodyPost_ret (v := .agg (bcs (leafS LF)).toArray) (results_cell_row rfl _ _ gr _ _ (0,0) _ rfl h8.out Tryz.underlying53 rfl (by rw [sizeHash]; simp [bcs_length,leafS_length])) rfl ⟨rfl,?_⟩
 exact (b1.trans (B3.mono b1.size)).grown b8 (Nat.le_trans b1.size B3.size) (fun k hk => by cases hk; omega)
inductive LRow1 (B : Nat) (p : Nat) (q : Nat) (t : Int) (s : Int) (tb : ByteArray) (op : Int) (ra : Option Addr) (rn : Nat) (rc : Nat) (l1 : List UInt8) (l2 : List UInt8) (l3 : List UInt8) (l4 : List UInt8) (l5 : List UInt8) (l6 : List UInt8) (n1 : Nat) (n2 : Nat) (n3 : Nat) (n4 : Nat) (n5 : Nat) (n6 : Nat) (Z0 : Array Value) (HA : Array Value) (a0 : Act) (w0 : World) (L : Array Bool) (a : Act) (w : World) : Prop
 | mk (b0 b1 b2 b3 b4 b5 b6 b7 b8 b9 b10 b11 b12 b13 b14 b15 b16 b17 : Bool) (x7 x8 x9 x10 x11 x12 x13 x14 x15 x16 x17 x18 x19 x20 x21 x22 x23 : Value) (g1 : Nat) (c1 : Nat) (g2 : Nat) (c2 : Nat) (g3 : Nat) (c3 : Nat) (g4 : Nat) (c4 : Nat) (g6 : Nat) (c6 : Nat) (g5 : Nat) (c5 : Nat) (gs : Nat) (hL : L = #[b0,b1,b2,b3,b4,b5,b6,b7,b8,b9,b10,b11,b12,b13,b14,b15,b16,b17]) (ha : a = ⟨(((((((((((((((((a0.tmps.setIfInBounds 7 x7).setIfInBounds 8 x8).setIfInBounds 9 x9).setIfInBounds 10 x10).setIfInBounds 11 x11).setIfInBounds 12 x12).setIfInBounds 13 x13).setIfInBounds 14 x14).setIfInBounds 15 x15).setIfInBounds 16 x16).setIfInBounds 17 x17).setIfInBounds 18 x18).setIfInBounds 19 x19).setIfInBounds 20 x20).setIfInBounds 21 x21).setIfInBounds 22 x22).setIfInBounds 23 x23),a0.defers⟩) (hb : Below B w0 w) (cd0 : Hid (b0 = true → x7 = .int .i64 t)) (cd1 : Hid (b1 = true → x8 = .slice (some ⟨g1,0,none⟩) n1 c1)) (cd2 : Hid (b2 = true → x9 = .int .i64 s)) (cd3 : Hid (b3 = true → x10 = .slice (some ⟨g2,0,none⟩) n2 c2)) (cd4 : Hid (b4 = true → x11 = .pointer (some ⟨p,1,none⟩))) (cd5 : Hid (b5 = true → x12 = .int .i64 op)) (cd6 : Hid (b6 = true → x13 = .slice (some ⟨g3,0,none⟩) n3 c3)) (cd7 : Hid (b7 = true → x14 = .pointer (some ⟨p,0,none⟩))) (cd8 : Hid (b8 = true → x15 = .string tb)) (cd9 : Hid (b9 = true → x16 = .slice (some ⟨g4,0,none⟩) n4 c4)) (cd10 : Hid (b10 = true → x17 = .pointer (some ⟨p,2,none⟩))) (cd11 : Hid (b11 = true → x18 = .slice ra rn rc)) (cd12 : Hid (b12 = true → x19 = .slice (some ⟨g6,0,none⟩) n6 c6)) (cd13 : Hid (b13 = true → x20 = .string (⟨l6.toArray⟩ : ByteArray))) (cd14 : Hid (b14 = true → x21 = .slice (some ⟨g5,0,none⟩) n5 c5)) (cd15 : Hid (b15 = true → x22 = .slice (some ⟨gs,0,none⟩) 5 5)) (cd16 : Hid (b16 = true → x23 = .agg HA)) (f_p : Hid (Bk w p #[.string tb,.int .i64 op,.slice ra rn rc] 67)) (f_a : Hid (b1 = true → b15 = false → IsB w (some ⟨g1,0,none⟩) n1 c1 l1)) (f_b : Hid (b3 = true → b15 = false → IsB w (some ⟨g2,0,none⟩) n2 c2 l2)) (f_c : Hid (b6 = true → b15 = false → IsB w (some ⟨g3,0,none⟩) n3 c3 l3)) (f_d : Hid (b9 = true → b15 = false → IsB w (some ⟨g4,0,none⟩) n4 c4 l4)) (f_e : Hid (b14 = true → b15 = false → IsB w (some ⟨g5,0,none⟩) n5 c5 l5)) (f_y : Hid (b12 = true → b13 = false → IsB w (some ⟨g6,0,none⟩) n6 c6 l6)) (f_m : Hid (b15 = true → b16 = false → IsRR EU8 w 0 (some ⟨gs,0,none⟩) 5 5 [l1,l2,l3,l4,l5])) (f_z : Hid (b17 = false → Bk w q Z0 53)) (f_s : Hid (b17 = true → Bk w q HA 53)) : LRow1 B p q t s tb op ra rn rc l1 l2 l3 l4 l5 l6 n1 n2 n3 n4 n5 n6 Z0 HA a0 w0 L a w
theorem chg_cells {w : World} {p : Nat} {tb : ByteArray} {op : Int} {ra : Option Addr} {rn rc : Nat} {t : TypeId} (h : Bk w p #[.string tb,.int .i64 op,.slice ra rn rc] t) : w.cell? ⟨p,0,none⟩ = some (.string tb) ∧ w.cell? ⟨p,1,none⟩ = some (.int .i64 op) ∧ w.cell? ⟨p,2,none⟩ = some (.slice ra rn rc) := ⟨h.c rfl,h.c rfl,h.c rfl⟩
theorem encVs_60 {l : List V} (h : ∀ v ∈ l, v.s.size ≤ 60) : (encVs l).length ≤ 70 * l.length := by
 induction l with
 | nil => simp [encVs]
 | cons v l ih =>
  have h1 := ih fun x hx => h x (List.mem_cons_of_mem _ hx)
  have h2 := h v List.mem_cons_self
  have h3 : (encV v).length ≤ 70 := by
   have e : v.s.data.toList.length = v.s.size := by simp
   unfold encV
   rw [List.length_append, le_length]
   split
   · rw [le_length]; omega
   split
   · rw [le_length]; omega
   split
   · unfold tx; rw [List.length_append, le_length, List.length_take]; omega
   · simp
  rw [encVs_cons, List.length_append, List.length_cons]
  omega
theorem tx_len (s : List UInt8) : (tx s).length ≤ 2 + s.length := by
 unfold tx
 rw [List.length_append, le_length, List.length_take]
 omega
set_option maxRecDepth 100000 in
set_option maxHeartbeats 1600000 in
theorem row_any (w : World) (hC : RC w) (t s : Int) (c : Chg) (ra : Option Addr) (rn rc : Nat) (h : IsR EV w ra rn rc c.2) (hok : ChOk c) :
 Calls Tryz.prog 30 #[.int .i64 t,.int .i64 s,.agg #[.string c.1.1,.int .i64 c.1.2,.slice ra rn rc]] w fun e w' => e = .returned (.agg (bcs (rowS t s c)).toArray) ∧ Below w.heap.size w w' := by
 obtain ⟨⟨tb, op⟩, l⟩ := c
 obtain ⟨k1, k2, k3⟩ := hok
 simp only at k1 k2 k3 h ⊢
 have hln := h.len
 have HI10 := fun w => int_nil t w
 have HI20 := fun w => int_nil s w
 have HBy0 := fun w => byte_nil op w
 have HT10 := fun w => text_nil tb w
 have HT20 := fun w => text_nil (⟨(encR l).toArray⟩ : ByteArray) w
 have HRB0 := fun (w' : World) (hw : IsR EV w' ra rn rc l) => bytes_any ra rn rc l w' hw (by omega)
 have e6 : (encR l).length ≤ 1 + 70 * 15 := by
  have := encVs_60 k3
  unfold encR
  rw [List.length_append, le_length]
  omega
 have e4 := tx_len tb.data.toList
 have e5 := tx_len (encR l)
 have e40 : tb.data.toList.length = tb.size := by simp
 have hS : rowS t s ((tb, op), l) = leafS (le 8 (XU t) ++ (le 8 (XU s) ++ (le 1 (XU op) ++ (tx tb.data.toList ++ tx (encR l))))) := rfl
 have HH0 := rowS_len t s ((tb, op), l)
 have q1 : (le 8 (XU t)).length = 8 := le_length _ _
 have q2 : (le 8 (XU s)).length = 8 := le_length _ _
 have q3 : (le 1 (XU op)).length = 1 := le_length _ _
 obtain ⟨l1, hl1⟩ : ∃ x, le 8 (XU t) = x := ⟨_, rfl⟩
 obtain ⟨l2, hl2⟩ : ∃ x, le 8 (XU s) = x := ⟨_, rfl⟩
 obtain ⟨l3, hl3⟩ : ∃ x, le 1 (XU op) = x := ⟨_, rfl⟩
 obtain ⟨l4, hl4⟩ : ∃ x, tx tb.data.toList = x := ⟨_, rfl⟩
 obtain ⟨l6, hl6⟩ : ∃ x, encR l = x := ⟨_, rfl⟩
 have ht6 : (⟨l6.toArray⟩ : ByteArray).data.toList = l6 := rfl
 simp only [hl6, ht6] at HT20 HRB0 e6 e5 hS
 obtain ⟨l5, hl5⟩ : ∃ x, tx l6 = x := ⟨_, rfl⟩
 simp only [hl1, hl2, hl3, hl4, hl5] at HI10 HI20 HBy0 HT10 HT20 hS q1 q2 q3 e4 e5
 obtain ⟨H, hH⟩ : ∃ x, rowS t s ((tb, op), l) = x := ⟨_, rfl⟩
 rw [hH] at hS HH0 ⊢
 obtain ⟨HA, hHA⟩ : ∃ z, (bcs H).toArray = z := ⟨_, rfl⟩
 have HA0 : Hid (HA.size = 32) := Lib.hid (by rw [← hHA]; simp [bcs_length, HH0])
 have HA1 : Hid (HA.all (·.oneCell') = true) := Lib.hid (by rw [← hHA]; exact bcs_all _)
 obtain ⟨n1, hn1⟩ : ∃ n, 8 = n := ⟨_, rfl⟩
 obtain ⟨n3, hn3⟩ : ∃ n, 1 = n := ⟨_, rfl⟩
 obtain ⟨n4, hn4⟩ : ∃ n, l4.length = n := ⟨_, rfl⟩
 obtain ⟨n5, hn5⟩ : ∃ n, l5.length = n := ⟨_, rfl⟩
 obtain ⟨n6, hn6⟩ : ∃ n, l6.length = n := ⟨_, rfl⟩
 simp only [hn1] at HI10 HI20
 simp only [hn3] at HBy0
 simp only [hn4] at HT10
 simp only [hn5] at HT20
 simp only [hn6] at HRB0
 have HLf0 := fun (w' : World) (hC' : RC w') (a : Option Addr) (n c : Nat) (hm : IsRR EU8 w' 0 a n c [l1,l2,l3,l4,l5]) (hn : n ≤ 1000) => lleaf_any w' hC' a n c _ hm hn (by simp only [List.flatten_cons,List.flatten_nil,List.length_append,List.length_nil]; omega) (l1 ++ (l2 ++ (l3 ++ (l4 ++ l5)))) (by simp)
 rw [← hS] at HLf0
 simp only [hHA] at HLf0
 rw [hHA]
 obtain ⟨n2, hn2⟩ : ∃ n, n1 = n := ⟨_, rfl⟩
 have HI1 : ∀ w, Calls Tryz.prog 61 #[.slice none 0 0, .int .i64 t] w (Fresh w n1 l1) := HI10
 have HI2 : ∀ w, Calls Tryz.prog 61 #[.slice none 0 0, .int .i64 s] w (Fresh w n2 l2) := by rw [← hn2]; exact HI20
 have HBy : ∀ w, Calls Tryz.prog 62 #[.slice none 0 0, .int .i64 op] w (Fresh w n3 l3) := HBy0
 have HT1 : ∀ w, Calls Tryz.prog 63 #[.slice none 0 0, .string tb] w (Fresh w n4 l4) := HT10
 have HT2 : ∀ w, Calls Tryz.prog 63 #[.slice none 0 0, .string (⟨l6.toArray⟩ : ByteArray)] w (Fresh w n5 l5) := HT20
 clear hHA hl1 hl2 hl3 hl4 hl5 hl6 ht6 hH hS HH0 hn1 hn2 hn3 hn4 hn5 hn6 HI10 HI20 HBy0 HT10 HT20 q1 q2 q3 e4 e40 e5 e6 k1 k2 k3
 have B0 : Below w.heap.size w (w.alloc (.cells #[.string tb, .int .i64 op, .slice ra rn rc] 67)) := (Below.refl _ _).alloc (Nat.le_refl _) _
 have hP0 : Bk (w.alloc (.cells #[.string tb, .int .i64 op, .slice ra rn rc] 67)) w.heap.size #[.string tb, .int .i64 op, .slice ra rn rc] 67 := Bk.new w _ _
 go_enter Tryz.func30, Tryz.ntmps30
 go_upto_region 1 with (with_reducible refine wpList_alloc_blk (o := ⟨some 6, _, _, _, _, _⟩) rfl 53 rfl _ zeroHash ?_; intro W q hq b1 q1)
 have hP1 := hP0.past b1
 have B1' := B0.trans (b1.mono B0.size)
 have hq1 : w.heap.size < q := by rw [World.size_alloc] at q1; omega
 obtain ⟨Z0, hZ0⟩ : ∃ z, (bcs (List.replicate 32 0)).toArray = z := ⟨_, rfl⟩
 have HZ0 : Hid (Z0.size = 32) := Lib.hid (by rw [← hZ0]; simp [bcs_length])
 have hQ : Bk W q Z0 53 := by rw [← hZ0]; exact hq.out
 clear hZ0
 obtain ⟨p, hp⟩ : ∃ p, w.heap.size = p := ⟨_, rfl⟩
 have HG := Lib.hid hp
 rw [hp] at hP1 hq1 B1'
 simp only [hp]
 have hP := hP1
 have B1 : Below p w W := B1'
 have hBq : p ≤ q := by omega
 have hpq : some p ≠ some q := fun e => by have := Option.some.inj e; omega
 have hB0 : p ≤ W.heap.size := Nat.le_of_lt hP.lt
 have HRB := fun (w' : World) (hb : Below p W.drew w') => HRB0 w' (h.past (by rw [HG.out]; exact B1.trans ((Below.refl _ _).drew.trans hb)))
 have HLf := fun (w' : World) (hb : Below p W.drew w') (a : Option Addr) (n c : Nat) (hm : IsRR EU8 w' 0 a n c [l1,l2,l3,l4,l5]) (hn : n ≤ 1000) => HLf0 w' (hC.past (by rw [HG.out]; exact B1.trans ((Below.refl _ _).drew.trans hb))) a n c hm hn
 clear HRB0 HLf0 hq b1 q1 hp hP0 hP1 B0 B1' hC h
 simp only [Act.put, setIfInBounds_toArray, set_cons_zero, set_cons_succ]
 refine region_inv (LRow1 p p q t s tb op ra rn rc l1 l2 l3 l4 l5 l6 n1 n2 n3 n4 n5 n6 Z0 HA) (by kernel_rfl) (by kernel_rfl) ?_ ?_ ?_
 · exact ⟨false,false,false,false,false,false,false,false,false,false,false,false,false,false,false,false,false,false,undef,undef,undef,undef,undef,undef,undef,undef,undef,undef,undef,undef,undef,undef,undef,undef,undef,0,0,0,0,0,0,0,0,0,0,0,0,0,rfl,(by go_simp),Below.refl _ _,nf2,nf2,nf2,nf2,nf2,nf2,nf2,nf2,nf2,nf2,nf2,nf2,nf2,nf2,nf2,nf2,nf2,(hP.past (Below.refl _ _).drew),nf2,nf2,nf2,nf2,nf2,nf2,nf2,(fun h1 => hQ.past (Below.refl _ _).drew),nf2⟩
 · refine ⟨?_, ?_, ?_, ?_, ?_, ?_, ?_, ?_, ?_, ?_, ?_, ?_, ?_, ?_, ?_, ?_, ?_, ?_, trivial⟩
   all_goals rintro L a w ⟨b0,b1,b2,b3,b4,b5,b6,b7,b8,b9,b10,b11,b12,b13,b14,b15,b16,b17,x7,x8,x9,x10,x11,x12,x13,x14,x15,x16,x17,x18,x19,x20,x21,x22,x23,g1,c1,g2,c2,g3,c3,g4,c4,g6,c6,g5,c5,gs,rfl,rfl,hb,cd0,cd1,cd2,cd3,cd4,cd5,cd6,cd7,cd8,cd9,cd10,cd11,cd12,cd13,cd14,cd15,cd16,f_p,f_a,f_b,f_c,f_d,f_e,f_y,f_m,f_z,f_s⟩ hf hd
   · have hf' : b0 = false := hf
     subst hf'
     clear hf hd
     have W_p := f_p.out
     intro K hK
     rw [if_pos (by rfl)]
     go_simp
     exact hK.out _ _ ⟨true,b1,b2,b3,b4,b5,b6,b7,b8,b9,b10,b11,b12,b13,b14,b15,b16,b17,(.int .i64 t),x8,x9,x10,x11,x12,x13,x14,x15,x16,x17,x18,x19,x20,x21,x22,x23,g1,c1,g2,c2,g3,c3,g4,c4,g6,c6,g5,c5,gs,(by go_simp),(by go_simp),hb,rf,cd1,cd2,cd3,cd4,cd5,cd6,cd7,cd8,cd9,cd10,cd11,cd12,cd13,cd14,cd15,cd16,f_p,f_a,f_b,f_c,f_d,f_e,f_y,f_m,f_z,f_s⟩
   · have hf' : b1 = false := hf
     subst hf'
     have d0 : b0 = true := hd ⟨0, .data⟩ (by simp) rfl
     subst d0
     obtain rfl := cd0.out rfl
     clear hf hd
     have W_p := f_p.out
     intro K hK
     rw [if_pos (by rfl)]
     go_simp
     go_at_call 61
     refine (HI1 _).mono ?_
     rintro e w' ⟨g, c, rfl, o9, bx, _⟩
     exact hK.out _ _ ⟨true,true,b2,b3,b4,b5,b6,b7,b8,b9,b10,b11,b12,b13,b14,b15,b16,b17,.int .i64 t,(.slice (some ⟨g,0,none⟩) n1 c),x9,x10,x11,x12,x13,x14,x15,x16,x17,x18,x19,x20,x21,x22,x23,g,c,g2,c2,g3,c3,g4,c4,g6,c6,g5,c5,gs,(by go_simp),(by go_simp),hb.trans (bx.mono (Nat.le_trans hB0 hb.size)),rf,rf,cd2,cd3,cd4,cd5,cd6,cd7,cd8,cd9,cd10,cd11,cd12,cd13,cd14,cd15,cd16,(f_p.out.past bx),(fun _ _ => o9.isB),(fun h0 h1 => (f_b.out h0 h1).past bx),(fun h0 h1 => (f_c.out h0 h1).past bx),(fun h0 h1 => (f_d.out h0 h1).past bx),(fun h0 h1 => (f_e.out h0 h1).past bx),(fun h0 h1 => (f_y.out h0 h1).past bx),(fun h0 h1 => (f_m.out h0 h1).past bx),(fun h1 => (f_z.out h1).past bx),(fun h0 => (f_s.out h0).past bx)⟩
   · have hf' : b2 = false := hf
     subst hf'
     clear hf hd
     have W_p := f_p.out
     intro K hK
     rw [if_pos (by rfl)]
     go_simp
     exact hK.out _ _ ⟨b0,b1,true,b3,b4,b5,b6,b7,b8,b9,b10,b11,b12,b13,b14,b15,b16,b17,x7,x8,(.int .i64 s),x10,x11,x12,x13,x14,x15,x16,x17,x18,x19,x20,x21,x22,x23,g1,c1,g2,c2,g3,c3,g4,c4,g6,c6,g5,c5,gs,(by go_simp),(by go_simp),hb,cd0,cd1,rf,cd3,cd4,cd5,cd6,cd7,cd8,cd9,cd10,cd11,cd12,cd13,cd14,cd15,cd16,f_p,f_a,f_b,f_c,f_d,f_e,f_y,f_m,f_z,f_s⟩
   · have hf' : b3 = false := hf
     subst hf'
     have d2 : b2 = true := hd ⟨2, .data⟩ (by simp) rfl
     subst d2
     have d1 : b1 = true := hd ⟨1, .chain⟩ (by simp) rfl
     subst d1
     obtain rfl := cd2.out rfl
     obtain rfl := cd1.out rfl
     clear hf hd
     have W_p := f_p.out
     intro K hK
     rw [if_pos (by rfl)]
     go_simp
     go_at_call 61
     refine (HI2 _).mono ?_
     rintro e w' ⟨g, c, rfl, o9, bx, _⟩
     exact hK.out _ _ ⟨b0,true,true,true,b4,b5,b6,b7,b8,b9,b10,b11,b12,b13,b14,b15,b16,b17,x7,.slice (some ⟨g1,0,none⟩) n1 c1,.int .i64 s,(.slice (some ⟨g,0,none⟩) n2 c),x11,x12,x13,x14,x15,x16,x17,x18,x19,x20,x21,x22,x23,g1,c1,g,c,g3,c3,g4,c4,g6,c6,g5,c5,gs,(by go_simp),(by go_simp),hb.trans (bx.mono (Nat.le_trans hB0 hb.size)),cd0,rf,rf,rf,cd4,cd5,cd6,cd7,cd8,cd9,cd10,cd11,cd12,cd13,cd14,cd15,cd16,(f_p.out.past bx),(fun h0 h1 => (f_a.out h0 h1).past bx),(fun _ _ => o9.isB),(fun h0 h1 => (f_c.out h0 h1).past bx),(fun h0 h1 => (f_d.out h0 h1).past bx),(fun h0 h1 => (f_e.out h0 h1).past bx),(fun h0 h1 => (f_y.out h0 h1).past bx),(fun h0 h1 => (f_m.out h0 h1).past bx),(fun h1 => (f_z.out h1).past bx),(fun h0 => (f_s.out h0).past bx)⟩
   · have hf' : b4 = false := hf
     subst hf'
     clear hf hd
     have W_p := f_p.out
     intro K hK
     rw [if_pos (by rfl)]
     go_simp
     exact hK.out _ _ ⟨b0,b1,b2,b3,true,b5,b6,b7,b8,b9,b10,b11,b12,b13,b14,b15,b16,b17,x7,x8,x9,x10,(.pointer (some ⟨p,1,none⟩)),x12,x13,x14,x15,x16,x17,x18,x19,x20,x21,x22,x23,g1,c1,g2,c2,g3,c3,g4,c4,g6,c6,g5,c5,gs,(by go_simp),(by go_simp),hb,cd0,cd1,cd2,cd3,rf,cd5,cd6,cd7,cd8,cd9,cd10,cd11,cd12,cd13,cd14,cd15,cd16,f_p,f_a,f_b,f_c,f_d,f_e,f_y,f_m,f_z,f_s⟩
   · have hf' : b5 = false := hf
     subst hf'
     have d4 : b4 = true := hd ⟨4, .data⟩ (by simp) rfl
     subst d4
     obtain rfl := cd4.out rfl
     clear hf hd
     have W_p := f_p.out
     try simp only [setIfInBounds_toArray, set_cons_zero, set_cons_succ]
     obtain ⟨z0, z1, z2⟩ := chg_cells W_p
     intro K hK
     rw [if_pos (by rfl)]
     go_simp
     exact hK.out _ _ ⟨b0,b1,b2,b3,true,true,b6,b7,b8,b9,b10,b11,b12,b13,b14,b15,b16,b17,x7,x8,x9,x10,.pointer (some ⟨p,1,none⟩),(.int .i64 op),x13,x14,x15,x16,x17,x18,x19,x20,x21,x22,x23,g1,c1,g2,c2,g3,c3,g4,c4,g6,c6,g5,c5,gs,(by go_simp),(by go_simp),hb,cd0,cd1,cd2,cd3,rf,rf,cd6,cd7,cd8,cd9,cd10,cd11,cd12,cd13,cd14,cd15,cd16,f_p,f_a,f_b,f_c,f_d,f_e,f_y,f_m,f_z,f_s⟩
   · have hf' : b6 = false := hf
     subst hf'
     have d5 : b5 = true := hd ⟨5, .data⟩ (by simp) rfl
     subst d5
     have d3 : b3 = true := hd ⟨3, .chain⟩ (by simp) rfl
     subst d3
     obtain rfl := cd5.out rfl
     obtain rfl := cd3.out rfl
     clear hf hd
     have W_p := f_p.out
     intro K hK
     rw [if_pos (by rfl)]
     go_simp
     go_at_call 62
     refine (HBy _).mono ?_
     rintro e w' ⟨g, c, rfl, o9, bx, _⟩
     exact hK.out _ _ ⟨b0,b1,b2,true,b4,true,true,b7,b8,b9,b10,b11,b12,b13,b14,b15,b16,b17,x7,x8,x9,.slice (some ⟨g2,0,none⟩) n2 c2,x11,.int .i64 op,(.slice (some ⟨g,0,none⟩) n3 c),x14,x15,x16,x17,x18,x19,x20,x21,x22,x23,g1,c1,g2,c2,g,c,g4,c4,g6,c6,g5,c5,gs,(by go_simp),(by go_simp),hb.trans (bx.mono (Nat.le_trans hB0 hb.size)),cd0,cd1,cd2,rf,cd4,rf,rf,cd7,cd8,cd9,cd10,cd11,cd12,cd13,cd14,cd15,cd16,(f_p.out.past bx),(fun h0 h1 => (f_a.out h0 h1).past bx),(fun h0 h1 => (f_b.out h0 h1).past bx),(fun _ _ => o9.isB),(fun h0 h1 => (f_d.out h0 h1).past bx),(fun h0 h1 => (f_e.out h0 h1).past bx),(fun h0 h1 => (f_y.out h0 h1).past bx),(fun h0 h1 => (f_m.out h0 h1).past bx),(fun h1 => (f_z.out h1).past bx),(fun h0 => (f_s.out h0).past bx)⟩
   · have hf' : b7 = false := hf
     subst hf'
     clear hf hd
     have W_p := f_p.out
     intro K hK
     rw [if_pos (by rfl)]
     go_simp
     exact hK.out _ _ ⟨b0,b1,b2,b3,b4,b5,b6,true,b8,b9,b10,b11,b12,b13,b14,b15,b16,b17,x7,x8,x9,x10,x11,x12,x13,(.pointer (some ⟨p,0,none⟩)),x15,x16,x17,x18,x19,x20,x21,x22,x23,g1,c1,g2,c2,g3,c3,g4,c4,g6,c6,g5,c5,gs,(by go_simp),(by go_simp),hb,cd0,cd1,cd2,cd3,cd4,cd5,cd6,rf,cd8,cd9,cd10,cd11,cd12,cd13,cd14,cd15,cd16,f_p,f_a,f_b,f_c,f_d,f_e,f_y,f_m,f_z,f_s⟩
   · have hf' : b8 = false := hf
     subst hf'
     have d7 : b7 = true := hd ⟨7, .data⟩ (by simp) rfl
     subst d7
     obtain rfl := cd7.out rfl
     clear hf hd
     have W_p := f_p.out
     try simp only [setIfInBounds_toArray, set_cons_zero, set_cons_succ]
     obtain ⟨z0, z1, z2⟩ := chg_cells W_p
     intro K hK
     rw [if_pos (by rfl)]
     go_simp
     exact hK.out _ _ ⟨b0,b1,b2,b3,b4,b5,b6,true,true,b9,b10,b11,b12,b13,b14,b15,b16,b17,x7,x8,x9,x10,x11,x12,x13,.pointer (some ⟨p,0,none⟩),(.string tb),x16,x17,x18,x19,x20,x21,x22,x23,g1,c1,g2,c2,g3,c3,g4,c4,g6,c6,g5,c5,gs,(by go_simp),(by go_simp),hb,cd0,cd1,cd2,cd3,cd4,cd5,cd6,rf,rf,cd9,cd10,cd11,cd12,cd13,cd14,cd15,cd16,f_p,f_a,f_b,f_c,f_d,f_e,f_y,f_m,f_z,f_s⟩
   · have hf' : b9 = false := hf
     subst hf'
     have d8 : b8 = true := hd ⟨8, .data⟩ (by simp) rfl
     subst d8
     have d6 : b6 = true := hd ⟨6, .chain⟩ (by simp) rfl
     subst d6
     obtain rfl := cd8.out rfl
     obtain rfl := cd6.out rfl
     clear hf hd
     have W_p := f_p.out
     intro K hK
     rw [if_pos (by rfl)]
     go_simp
     go_at_call 63
     refine (HT1 _).mono ?_
     rintro e w' ⟨g, c, rfl, o9, bx, _⟩
     exact hK.out _ _ ⟨b0,b1,b2,b3,b4,b5,true,b7,true,true,b10,b11,b12,b13,b14,b15,b16,b17,x7,x8,x9,x10,x11,x12,.slice (some ⟨g3,0,none⟩) n3 c3,x14,.string tb,(.slice (some ⟨g,0,none⟩) n4 c),x17,x18,x19,x20,x21,x22,x23,g1,c1,g2,c2,g3,c3,g,c,g6,c6,g5,c5,gs,(by go_simp),(by go_simp),hb.trans (bx.mono (Nat.le_trans hB0 hb.size)),cd0,cd1,cd2,cd3,cd4,cd5,rf,cd7,rf,rf,cd10,cd11,cd12,cd13,cd14,cd15,cd16,(f_p.out.past bx),(fun h0 h1 => (f_a.out h0 h1).past bx),(fun h0 h1 => (f_b.out h0 h1).past bx),(fun h0 h1 => (f_c.out h0 h1).past bx),(fun _ _ => o9.isB),(fun h0 h1 => (f_e.out h0 h1).past bx),(fun h0 h1 => (f_y.out h0 h1).past bx),(fun h0 h1 => (f_m.out h0 h1).past bx),(fun h1 => (f_z.out h1).past bx),(fun h0 => (f_s.out h0).past bx)⟩
   · have hf' : b10 = false := hf
     subst hf'
     clear hf hd
     have W_p := f_p.out
     intro K hK
     rw [if_pos (by rfl)]
     go_simp
     exact hK.out _ _ ⟨b0,b1,b2,b3,b4,b5,b6,b7,b8,b9,true,b11,b12,b13,b14,b15,b16,b17,x7,x8,x9,x10,x11,x12,x13,x14,x15,x16,(.pointer (some ⟨p,2,none⟩)),x18,x19,x20,x21,x22,x23,g1,c1,g2,c2,g3,c3,g4,c4,g6,c6,g5,c5,gs,(by go_simp),(by go_simp),hb,cd0,cd1,cd2,cd3,cd4,cd5,cd6,cd7,cd8,cd9,rf,cd11,cd12,cd13,cd14,cd15,cd16,f_p,f_a,f_b,f_c,f_d,f_e,f_y,f_m,f_z,f_s⟩
   · have hf' : b11 = false := hf
     subst hf'
     have d10 : b10 = true := hd ⟨10, .data⟩ (by simp) rfl
     subst d10
     obtain rfl := cd10.out rfl
     clear hf hd
     have W_p := f_p.out
     try simp only [setIfInBounds_toArray, set_cons_zero, set_cons_succ]
     obtain ⟨z0, z1, z2⟩ := chg_cells W_p
     intro K hK
     rw [if_pos (by rfl)]
     go_simp
     exact hK.out _ _ ⟨b0,b1,b2,b3,b4,b5,b6,b7,b8,b9,true,true,b12,b13,b14,b15,b16,b17,x7,x8,x9,x10,x11,x12,x13,x14,x15,x16,.pointer (some ⟨p,2,none⟩),(.slice ra rn rc),x19,x20,x21,x22,x23,g1,c1,g2,c2,g3,c3,g4,c4,g6,c6,g5,c5,gs,(by go_simp),(by go_simp),hb,cd0,cd1,cd2,cd3,cd4,cd5,cd6,cd7,cd8,cd9,rf,rf,cd12,cd13,cd14,cd15,cd16,f_p,f_a,f_b,f_c,f_d,f_e,f_y,f_m,f_z,f_s⟩
   · have hf' : b12 = false := hf
     subst hf'
     have d11 : b11 = true := hd ⟨11, .data⟩ (by simp) rfl
     subst d11
     have d9 : b9 = true := hd ⟨9, .chain⟩ (by simp) rfl
     subst d9
     obtain rfl := cd11.out rfl
     obtain rfl := cd9.out rfl
     clear hf hd
     have W_p := f_p.out
     intro K hK
     rw [if_pos (by rfl)]
     go_simp
     go_at_call 64
     refine (HRB _ hb).mono ?_
     rintro e w' ⟨g, c, rfl, o9, bx, _⟩
     exact hK.out _ _ ⟨b0,b1,b2,b3,b4,b5,b6,b7,b8,true,b10,true,true,b13,b14,b15,b16,b17,x7,x8,x9,x10,x11,x12,x13,x14,x15,.slice (some ⟨g4,0,none⟩) n4 c4,x17,.slice ra rn rc,(.slice (some ⟨g,0,none⟩) n6 c),x20,x21,x22,x23,g1,c1,g2,c2,g3,c3,g4,c4,g,c,g5,c5,gs,(by go_simp),(by go_simp),hb.trans (bx.mono (Nat.le_trans hB0 hb.size)),cd0,cd1,cd2,cd3,cd4,cd5,cd6,cd7,cd8,rf,cd10,rf,rf,cd13,cd14,cd15,cd16,(f_p.out.past bx),(fun h0 h1 => (f_a.out h0 h1).past bx),(fun h0 h1 => (f_b.out h0 h1).past bx),(fun h0 h1 => (f_c.out h0 h1).past bx),(fun h0 h1 => (f_d.out h0 h1).past bx),(fun h0 h1 => (f_e.out h0 h1).past bx),(fun _ _ => o9.isB),(fun h0 h1 => (f_m.out h0 h1).past bx),(fun h1 => (f_z.out h1).past bx),(fun h0 => (f_s.out h0).past bx)⟩
   · have hf' : b13 = false := hf
     subst hf'
     have d12 : b12 = true := hd ⟨12, .data⟩ (by simp) rfl
     subst d12
     obtain rfl := cd12.out rfl
     clear hf hd
     have W_p := f_p.out
     have W_y := f_y.out rfl rfl
     try simp only [setIfInBounds_toArray, set_cons_zero, set_cons_succ]
     have cv : (convert 81 9 (.slice (some ⟨g6, 0, none⟩) n6 c6)).run Tryz.prog w = .ok (.string (⟨l6.toArray⟩ : ByteArray)) w := W_y.conv byteTy Tryz.underlying9
     intro K hK
     rw [if_pos (by rfl)]
     go_simp
     exact hK.out _ _ ⟨b0,b1,b2,b3,b4,b5,b6,b7,b8,b9,b10,b11,true,true,b14,b15,b16,b17,x7,x8,x9,x10,x11,x12,x13,x14,x15,x16,x17,x18,.slice (some ⟨g6,0,none⟩) n6 c6,(.string (⟨l6.toArray⟩ : ByteArray)),x21,x22,x23,g1,c1,g2,c2,g3,c3,g4,c4,g6,c6,g5,c5,gs,(by go_simp),(by go_simp),hb,cd0,cd1,cd2,cd3,cd4,cd5,cd6,cd7,cd8,cd9,cd10,cd11,rf,rf,cd14,cd15,cd16,f_p,f_a,f_b,f_c,f_d,f_e,(fun _ h => by cases h),f_m,f_z,f_s⟩
   · have hf' : b14 = false := hf
     subst hf'
     have d13 : b13 = true := hd ⟨13, .data⟩ (by simp) rfl
     subst d13
     have d12 : b12 = true := hd ⟨12, .chain⟩ (by simp) rfl
     subst d12
     obtain rfl := cd13.out rfl
     obtain rfl := cd12.out rfl
     clear hf hd
     have W_p := f_p.out
     intro K hK
     rw [if_pos (by rfl)]
     go_simp
     go_at_call 63
     refine (HT2 _).mono ?_
     rintro e w' ⟨g, c, rfl, o9, bx, _⟩
     exact hK.out _ _ ⟨b0,b1,b2,b3,b4,b5,b6,b7,b8,b9,b10,b11,true,true,true,b15,b16,b17,x7,x8,x9,x10,x11,x12,x13,x14,x15,x16,x17,x18,.slice (some ⟨g6,0,none⟩) n6 c6,.string (⟨l6.toArray⟩ : ByteArray),(.slice (some ⟨g,0,none⟩) n5 c),x22,x23,g1,c1,g2,c2,g3,c3,g4,c4,g6,c6,g,c,gs,(by go_simp),(by go_simp),hb.trans (bx.mono (Nat.le_trans hB0 hb.size)),cd0,cd1,cd2,cd3,cd4,cd5,cd6,cd7,cd8,cd9,cd10,cd11,rf,rf,rf,cd15,cd16,(f_p.out.past bx),(fun h0 h1 => (f_a.out h0 h1).past bx),(fun h0 h1 => (f_b.out h0 h1).past bx),(fun h0 h1 => (f_c.out h0 h1).past bx),(fun h0 h1 => (f_d.out h0 h1).past bx),(fun _ _ => o9.isB),(fun _ h => by cases h),(fun h0 h1 => (f_m.out h0 h1).past bx),(fun h1 => (f_z.out h1).past bx),(fun h0 => (f_s.out h0).past bx)⟩
   · have hf' : b15 = false := hf
     subst hf'
     have d1 : b1 = true := hd ⟨1, .data⟩ (by simp) rfl
     subst d1
     have d3 : b3 = true := hd ⟨3, .data⟩ (by simp) rfl
     subst d3
     have d6 : b6 = true := hd ⟨6, .data⟩ (by simp) rfl
     subst d6
     have d9 : b9 = true := hd ⟨9, .data⟩ (by simp) rfl
     subst d9
     have d14 : b14 = true := hd ⟨14, .data⟩ (by simp) rfl
     subst d14
     obtain rfl := cd1.out rfl
     obtain rfl := cd3.out rfl
     obtain rfl := cd6.out rfl
     obtain rfl := cd9.out rfl
     obtain rfl := cd14.out rfl
     clear hf hd
     have W_p := f_p.out
     have W_a := f_a.out rfl rfl
     have W_b := f_b.out rfl rfl
     have W_c := f_c.out rfl rfl
     have W_d := f_d.out rfl rfl
     have W_e := f_e.out rfl rfl
     intro K hK
     rw [if_pos (by rfl)]
     go_simp
     have bx : Below w.heap.size w (w.alloc (.cells #[.slice (some ⟨g1,0,none⟩) n1 c1,.slice (some ⟨g2,0,none⟩) n2 c2,.slice (some ⟨g3,0,none⟩) n3 c3,.slice (some ⟨g4,0,none⟩) n4 c4,.slice (some ⟨g5,0,none⟩) n5 c5] 81)) := (Below.refl _ _).alloc (Nat.le_refl _) _
     exact hK.out _ _ ⟨b0,true,b2,true,b4,b5,true,b7,b8,true,b10,b11,b12,b13,true,true,b16,b17,x7,.slice (some ⟨g1,0,none⟩) n1 c1,x9,.slice (some ⟨g2,0,none⟩) n2 c2,x11,x12,.slice (some ⟨g3,0,none⟩) n3 c3,x14,x15,.slice (some ⟨g4,0,none⟩) n4 c4,x17,x18,x19,x20,.slice (some ⟨g5,0,none⟩) n5 c5,(.slice (some ⟨(w.heap.size),0,none⟩) 5 5),x23,g1,c1,g2,c2,g3,c3,g4,c4,g6,c6,g5,c5,w.heap.size,(by go_simp),(by go_simp),hb.trans (bx.mono (Nat.le_trans hB0 hb.size)),cd0,rf,cd2,rf,cd4,cd5,rf,cd7,cd8,rf,cd10,cd11,cd12,cd13,rf,rf,cd16,(f_p.out.past bx),(fun _ h => by cases h),(fun _ h => by cases h),(fun _ h => by cases h),(fun _ h => by cases h),(fun _ h => by cases h),(fun h0 h1 => (f_y.out h0 h1).past bx),(fun _ _ => parts5 w _ ⟨_,_,_⟩ ⟨_,_,_⟩ ⟨_,_,_⟩ ⟨_,_,_⟩ ⟨_,_,_⟩ _ _ _ _ _ W_a.u8 W_b.u8 W_c.u8 W_d.u8 W_e.u8),(fun h1 => (f_z.out h1).past bx),(fun h0 => (f_s.out h0).past bx)⟩
   · have hf' : b16 = false := hf
     subst hf'
     have d15 : b15 = true := hd ⟨15, .data⟩ (by simp) rfl
     subst d15
     have d14 : b14 = true := hd ⟨14, .chain⟩ (by simp) rfl
     subst d14
     obtain rfl := cd15.out rfl
     obtain rfl := cd14.out rfl
     clear hf hd
     have W_p := f_p.out
     have W_m := f_m.out rfl rfl
     intro K hK
     rw [if_pos (by rfl)]
     go_simp
     go_at_call 60
     refine (HLf _ hb _ _ _ W_m (by omega)).mono ?_
     rintro e w' ⟨rfl, bx⟩
     exact hK.out _ _ ⟨b0,b1,b2,b3,b4,b5,b6,b7,b8,b9,b10,b11,b12,b13,true,true,true,b17,x7,x8,x9,x10,x11,x12,x13,x14,x15,x16,x17,x18,x19,x20,.slice (some ⟨g5,0,none⟩) n5 c5,.slice (some ⟨gs,0,none⟩) 5 5,(.agg HA),g1,c1,g2,c2,g3,c3,g4,c4,g6,c6,g5,c5,gs,(by go_simp),(by go_simp),hb.trans (bx.mono (Nat.le_trans hB0 hb.size)),cd0,cd1,cd2,cd3,cd4,cd5,cd6,cd7,cd8,cd9,cd10,cd11,cd12,cd13,rf,rf,rf,(f_p.out.past bx),(fun _ h => by cases h),(fun _ h => by cases h),(fun _ h => by cases h),(fun _ h => by cases h),(fun _ h => by cases h),(fun h0 h1 => (f_y.out h0 h1).past bx),(fun _ h => by cases h),(fun h1 => (f_z.out h1).past bx),(fun h0 => (f_s.out h0).past bx)⟩
   · have hf' : b17 = false := hf
     subst hf'
     have d16 : b16 = true := hd ⟨16, .data⟩ (by simp) rfl
     subst d16
     have d0 : b0 = true := hd ⟨0, .phase⟩ (by simp) rfl
     subst d0
     have d1 : b1 = true := hd ⟨1, .phase⟩ (by simp) rfl
     subst d1
     have d2 : b2 = true := hd ⟨2, .phase⟩ (by simp) rfl
     subst d2
     have d3 : b3 = true := hd ⟨3, .phase⟩ (by simp) rfl
     subst d3
     have d4 : b4 = true := hd ⟨4, .phase⟩ (by simp) rfl
     subst d4
     have d5 : b5 = true := hd ⟨5, .phase⟩ (by simp) rfl
     subst d5
     have d6 : b6 = true := hd ⟨6, .phase⟩ (by simp) rfl
     subst d6
     have d7 : b7 = true := hd ⟨7, .phase⟩ (by simp) rfl
     subst d7
     have d8 : b8 = true := hd ⟨8, .phase⟩ (by simp) rfl
     subst d8
     have d9 : b9 = true := hd ⟨9, .phase⟩ (by simp) rfl
     subst d9
     have d10 : b10 = true := hd ⟨10, .phase⟩ (by simp) rfl
     subst d10
     have d11 : b11 = true := hd ⟨11, .phase⟩ (by simp) rfl
     subst d11
     have d12 : b12 = true := hd ⟨12, .phase⟩ (by simp) rfl
     subst d12
     have d13 : b13 = true := hd ⟨13, .phase⟩ (by simp) rfl
     subst d13
     have d14 : b14 = true := hd ⟨14, .phase⟩ (by simp) rfl
     subst d14
     have d15 : b15 = true := hd ⟨15, .phase⟩ (by simp) rfl
     subst d15
     obtain rfl := cd16.out rfl
     obtain rfl := cd0.out rfl
     obtain rfl := cd1.out rfl
     obtain rfl := cd2.out rfl
     obtain rfl := cd3.out rfl
     obtain rfl := cd4.out rfl
     obtain rfl := cd5.out rfl
     obtain rfl := cd6.out rfl
     obtain rfl := cd7.out rfl
     obtain rfl := cd8.out rfl
     obtain rfl := cd9.out rfl
     obtain rfl := cd10.out rfl
     obtain rfl := cd11.out rfl
     obtain rfl := cd12.out rfl
     obtain rfl := cd13.out rfl
     obtain rfl := cd14.out rfl
     obtain rfl := cd15.out rfl
     clear hf hd
     have W_p := f_p.out
     have W_z := f_z.out rfl
     try simp only [setIfInBounds_toArray, set_cons_zero, set_cons_succ]
     have ZZ : Hid (w.heap[q]? = some (.cells Z0 53 (0, 0))) := Lib.hid W_z
     intro K hK
     rw [if_pos (by rfl)]
     refine wp_store_blkT 53 _ _ rfl q Z0 HA rfl rfl 53 ZZ 32 sizeHash HZ0.out HA0.out HA1.out fun w2 h8 b8 => ?_
     have hb2 := hb.grown b8 (Nat.le_trans hB0 hb.size) (fun z hz => by cases hz; exact hBq)
     exact hK.out _ _ ⟨true,true,true,true,true,true,true,true,true,true,true,true,true,true,true,true,true,true,.int .i64 t,.slice (some ⟨g1,0,none⟩) n1 c1,.int .i64 s,.slice (some ⟨g2,0,none⟩) n2 c2,.pointer (some ⟨p,1,none⟩),.int .i64 op,.slice (some ⟨g3,0,none⟩) n3 c3,.pointer (some ⟨p,0,none⟩),.string tb,.slice (some ⟨g4,0,none⟩) n4 c4,.pointer (some ⟨p,2,none⟩),.slice ra rn rc,.slice (some ⟨g6,0,none⟩) n6 c6,.string (⟨l6.toArray⟩ : ByteArray),.slice (some ⟨g5,0,none⟩) n5 c5,.slice (some ⟨gs,0,none⟩) 5 5,.agg HA,g1,c1,g2,c2,g3,c3,g4,c4,g6,c6,g5,c5,gs,(by go_simp),(by go_simp),hb2,rf,rf,rf,rf,rf,rf,rf,rf,rf,rf,rf,rf,rf,rf,rf,rf,rf,(Bk.grown f_p.out b8 hpq),(fun _ h => by cases h),(fun _ h => by cases h),(fun _ h => by cases h),(fun _ h => by cases h),(fun _ h => by cases h),(fun _ h => by cases h),(fun _ h => by cases h),nf2,(fun _ => h8.out)⟩
 · rintro act V ⟨b0,b1,b2,b3,b4,b5,b6,b7,b8,b9,b10,b11,b12,b13,b14,b15,b16,b17,x7,x8,x9,x10,x11,x12,x13,x14,x15,x16,x17,x18,x19,x20,x21,x22,x23,g1,c1,g2,c2,g3,c3,g4,c4,g6,c6,g5,c5,gs,hL,rfl,hb,cd0,cd1,cd2,cd3,cd4,cd5,cd6,cd7,cd8,cd9,cd10,cd11,cd12,cd13,cd14,cd15,cd16,f_p,f_a,f_b,f_c,f_d,f_e,f_y,f_m,f_z,f_s⟩
   have hL' : [true,true,true,true,true,true,true,true,true,true,true,true,true,true,true,true,true,true] = [b0,b1,b2,b3,b4,b5,b6,b7,b8,b9,b10,b11,b12,b13,b14,b15,b16,b17] := congrArg Array.toList hL
   simp only [List.cons.injEq, and_true] at hL'
   obtain ⟨rfl, rfl, rfl, rfl, rfl, rfl, rfl, rfl, rfl, rfl, rfl, rfl, rfl, rfl, rfl, rfl, rfl, rfl⟩ := hL'
   obtain rfl := cd0.out rfl
   obtain rfl := cd1.out rfl
   obtain rfl := cd2.out rfl
   obtain rfl := cd3.out rfl
   obtain rfl := cd4.out rfl
   obtain rfl := cd5.out rfl
   obtain rfl := cd6.out rfl
   obtain rfl := cd7.out rfl
   obtain rfl := cd8.out rfl
   obtain rfl := cd9.out rfl
   obtain rfl := cd10.out rfl
   obtain rfl := cd11.out rfl
   obtain rfl := cd12.out rfl
   obtain rfl := cd13.out rfl
   obtain rfl := cd14.out rfl
   obtain rfl := cd15.out rfl
   obtain rfl := cd16.out rfl
   have W_p := f_p.out
   have W_s := f_s.out rfl
   clear hL f_p f_a f_b f_c f_d f_e f_y f_m f_z f_s cd0 cd1 cd2 cd3 cd4 cd5 cd6 cd7 cd8 cd9 cd10 cd11 cd12 cd13 cd14 cd15 cd16
   simp only [setIfInBounds_toArray, set_cons_zero, set_cons_succ]
   have BV : Below p w V := B1.trans ((Below.refl _ _).drew.trans hb)
   clear hb
   go_wp2_with fail
   refine bodyPost_ret (v := .agg HA) (results_cell_row rfl _ _ q _ _ (0, 0) _ rfl W_s Tryz.underlying53 rfl (by rw [sizeHash, HA0.out])) rfl ?_
   exact ⟨rfl, by rw [HG.out]; exact BV⟩
theorem bc_low (x : Int) : Value.int .u8 (x % 256) = bc (UInt8.ofNat (XU x % 256)) := by
 simp only [bc, Value.int.injEq, true_and, UInt8.toNat_ofNat', XU]
 omega
theorem bc_shift (x : Int) (j : Nat) : Value.int .u8 (IntKind.u64.wrap x / 2 ^ (8 * j) % 256) = bc (UInt8.ofNat (XU x / 256 ^ j % 256)) := by
 have e : (2 : Int) ^ (8 * j) = ((256 ^ j : Nat) : Int) := by
  rw [Int.pow_mul]; simp
 rw [u64_wrap, e, ← Int.natCast_ediv, bc_mod]
set_option maxHeartbeats 400000 in
theorem rbyte_any (g n cap : Nat) (l : List UInt8) (x : Int) (w : World) (h : OwnB w 5 g n cap l) (hn : n ≤ 1000000) :
 Calls Tryz.prog 98 #[.slice (some ⟨g, 0, none⟩) n cap, .int .i64 x] w (Went w g n (n + 1) (l ++ le 1 (XU x))) := by
 go_enter Tryz.func98, Tryz.ntmps98
 go_wp2_with (at_builtin; refine wpList_append_ob rfl _ _ 81 81 rfl 5 byteTy g n cap l rfl (h.alloc _) _ rfl 1 [UInt8.ofNat (XU x % 256)] (src_one byteTy.ht _ _ _ (bc_low x)) (n + 1) rfl (l ++ le 1 (XU x)) rfl (by omega) ?_; intro g2 cap2 w2 ho2 hp2 hg2)
 go_ret
 exact ⟨g2, cap2, rfl, ho2, ((Puts.refl w g n).alloc _ h.lt).trans hp2 (by omega), by simp at hg2; omega⟩
set_option maxHeartbeats 400000 in
theorem rint_any (g n cap : Nat) (l : List UInt8) (x : Int) (w : World) (h : OwnB w 5 g n cap l) (hn : n ≤ 1000000) :
 Calls Tryz.prog 75 #[.slice (some ⟨g, 0, none⟩) n cap, .int .i64 x] w (Went w g n (n + 8) (l ++ le 8 (XU x))) := by
 go_enter Tryz.func75, Tryz.ntmps75
 go_wp2_with fail
 go_loopw [0,5] (fun v i wr => ∃ j g' cap',j ≤ 8 ∧ i = .int .i64 (j : Nat) ∧ v = .slice (some ⟨g',0,none⟩) (n + j) cap' ∧ OwnB wr 5 g' (n + j) cap' (l ++ le j (XU x)) ∧ Puts w wr g n ∧ (g' = g ∨ w.heap.size ≤ g')) (fun _ i _ => 8 - (intOf i).toNat)
 case atStart => exact ⟨0, g, cap, by omega, rfl, rfl, by simpa [le] using h, Puts.refl _ _ _, .inl rfl⟩
 case round =>
  obtain ⟨j, g', cap', hj, rfl, rfl, ho, hp, hg'⟩ := hrel
  have hg := h.lt
  by_cases hlt' : j < 8
  · have HL : Hid (l ++ le j (XU x) ++ [UInt8.ofNat (XU x / 256 ^ j % 256)] = l ++ le (j + 1) (XU x)) := by rw [le_snoc, List.append_assoc]; exact rfl
    go_wp2_with (at_builtin; refine wpList_append_ob rfl _ _ 81 81 rfl 5 byteTy g' (n + j) cap' _ rfl (ho.alloc _) _ rfl 1 [UInt8.ofNat (XU x / 256 ^ j % 256)] (src_one byteTy.ht _ _ _ (bc_shift x j)) (n + (j + 1)) (by omega) (l ++ le (j + 1) (XU x)) HL.out (by omega) ?_; intro g2 cap2 w2 ho2 hp2 hg2)
    go_roundw
    case rel =>
     exact ⟨j + 1, g2, cap2, by omega, by go_num, rfl, ho2, (hp.alloc _ hg).trans hp2 (by omega), by have := hp.size; simp at hg2; omega⟩
    case measure => simp [intOf]; omega
  · go_wp2_with fail
    go_ret
    obtain rfl : j = 8 := by omega
    exact ⟨g', cap', rfl, ho, hp, hg'⟩
theorem le_two (n : Nat) (h : n ≤ 60000) : (#[Value.int .u8 ((n : Int) % 256), Value.int .u8 ((n : Int) / 256)] : Array Value).toList = bcs (le 2 n) := by
 have e : ((n : Int) / 256) = (((n / 256 : Nat) : Int)) % 256 := by omega
 rw [e, bc_mod, bc_mod]
 rfl
set_option maxHeartbeats 400000 in
theorem rtext_any (g n cap : Nat) (l : List UInt8) (s : ByteArray) (w : World) (h : OwnB w 5 g n cap l) (hn : n ≤ 1000000) (hs : s.size ≤ 60000) :
 Calls Tryz.prog 97 #[.slice (some ⟨g, 0, none⟩) n cap, .string s] w (Went w g n (n + (2 + s.size)) (l ++ (le 2 s.size ++ s.data.toList))) := by
 have hsrc : ∀ w', Src Tryz.prog 1 9 (.string s) s.size (bcs s.data.toList) w' := fun w' => by
  have := Src.ofString (P := Tryz.prog) w' Tryz.underlying9 s
  rw [byteCells_bcs] at this
  exact this
 have HS := Lib.hid hsrc
 clear hsrc
 go_enter Tryz.func97, Tryz.ntmps97
 go_wp2_with (first | (at_builtin; refine wpList_append_ob rfl _ _ 81 81 rfl 5 byteTy g n cap l rfl (h.alloc _) _ rfl 2 (le 2 s.size) (src_lit byteTy.ht _ _ _ _ (le_two _ hs) rfl) (n + 2) rfl (l ++ le 2 s.size) rfl (by omega) ?_; intro g2 cap2 w2 ho2 hp2 hg2) | (at_builtin; refine wpList_append_ob rfl _ _ 81 9 rfl 5 byteTy g2 (n + 2) cap2 _ rfl ho2 _ rfl s.size _ (HS.out _) (n + (2 + s.size)) (by omega) _ (List.append_assoc _ _ _) (by omega) ?_; intro g3 cap3 w3 ho3 hp3 hg3))
 go_ret
 have hl := h.lt
 have s2 := hp2.size
 simp at hg2 s2
 exact ⟨g3, cap3, rfl, ho3, (((Puts.refl w g n).alloc _ hl).trans hp2 (by omega)).trans hp3 (by omega), by omega⟩
def EB : Enc UInt8 where
 sz := 1
 f u := [bc u]
 len _ := rfl
 one u v hv := by
  simp only [List.mem_cons, List.not_mem_nil, or_false] at hv
  rw [hv]
  rfl
theorem EB_all (l : List UInt8) : EB.all l = bcs l := by
 induction l with
 | nil => rfl
 | cons x l ih => rw [EB.all_cons, ih]; rfl
theorem rowTyB : RowTy EB Tryz.prog 81 5 0 := by
 obtain ⟨i, hi, hz, hs, hb⟩ := byteTy.info
 exact ⟨byteTy.ht, i, _, hi, hz, hs, rfl, by rw [hb]; decide⟩
theorem ownB_of {w : World} {e : TypeId} {g n cap : Nat} {l : List UInt8} (h : OwnR EB w e g n cap l) : OwnB w e g n cap l := by
 obtain ⟨cur, hg, hs, ht⟩ := h.row
 exact ⟨h.len, h.le, h.max, cur, hg, by simpa [EB] using hs, by rw [EB_all] at ht; simpa [EB] using ht⟩
set_option maxHeartbeats 400000 in
theorem rbyte_nil (x : Int) (w : World) : Calls Tryz.prog 98 #[.slice none 0 0, .int .i64 x] w (Fresh w 1 (le 1 (XU x))) := by
 have hs : ∀ w' : World,Src Tryz.prog EB.sz 81 (.slice (some ⟨w'.heap.size,0,none⟩) 1 1) 1 (EB.all [UInt8.ofNat (XU x % 256)]) (w'.alloc (.cells #[.int .u8 (x % 256)] 5)) := fun w' => by
  rw [EB_all]
  exact src_one byteTy.ht w' _ _ (bc_low x)
 go_enter Tryz.func98, Tryz.ntmps98
 go_wp2_with (at_builtin; refine wpList_append_nr rfl _ _ 81 81 rfl 5 rowTyB 0 rfl rfl _ rfl 1 [UInt8.ofNat (XU x % 256)] (hs w) rfl (by omega) (by omega) ?_; intro g2 c2 w2 o2 b2 q2)
 go_ret
 have b0 : Below w.heap.size w (w.alloc (.cells #[.int .u8 (x % 256)] 5)) := (Below.refl _ _).alloc (Nat.le_refl _) _
 exact ⟨g2, c2, rfl, ownB_of o2, b0.trans (b2.mono b0.size), by simp at q2; omega⟩
theorem own_re {w : World} {e : TypeId} {g n n' cap : Nat} {l l' : List UInt8} (h : OwnB w e g n cap l) (hn : n' = n) (hl : l = l') : OwnB w e g n' cap l' := by
 subst hn
 subst hl
 exact h
theorem tx_eq5 (s : ByteArray) (h : s.size ≤ 60000) : tx s.data.toList = le 2 s.size ++ s.data.toList := by
 have hl : s.data.toList.length = s.size := by simp
 unfold tx
 rw [List.take_of_length_le (by omega), hl]
theorem encV_if (k n : Int) (s : ByteArray) : encV ⟨k, n, s⟩ = le 1 (XU k) ++ (if k = 1 then le 1 (XU n) else if k = 2 then le 8 (XU n) else if k = 3 then tx s.data.toList else []) := rfl
set_option maxRecDepth 100000 in
set_option maxHeartbeats 2000000 in
theorem rbytes_any (ao : Option Addr) (n cap : Nat) (l : List V) (w : World) (h : IsR EV w ao n cap l) (hn : n ≤ 15) (hz : ∀ v ∈ l, v.s.size ≤ 60000) :
 Calls Tryz.prog 99 #[.slice ao n cap] w (Fresh w (encR l).length (encR l)) := by
 have hln := h.len
 go_enter Tryz.func99, Tryz.ntmps99
 go_wp2_with (go_at_call 98; (with_reducible refine (rbyte_nil _ _).mono ?_); rintro e w1 ⟨g1, c1, rfl, o1, b1, q1⟩)
 go_loopw [3,4] (fun b i wr => ∃ j g' cap' : Nat,j ≤ n ∧ i = .int .i64 (j : Nat) ∧ b = .slice (some ⟨g',0,none⟩) (1 + (encVs (l.take j)).length) cap' ∧ OwnB wr 5 g' (1 + (encVs (l.take j)).length) cap' (le 1 (XU (n : Nat)) ++ encVs (l.take j)) ∧ Below w.heap.size w wr ∧ w.heap.size ≤ g') (fun _ i _ => n - (intOf i).toNat)
 case atStart => exact ⟨0, g1, c1, by omega, rfl, by simp [encVs], by simpa [encVs] using o1, b1, q1⟩
 case round =>
  obtain ⟨j, g', cap', hj, rfl, rfl, ho, hB, hg⟩ := hrel
  clear o1 b1 q1
  have LJ := encVs_length (l.take j)
  rw [List.length_take] at LJ
  by_cases hlt : j < n
  · obtain ⟨v, hv⟩ : ∃ v, l[j]? = some v := ⟨l[j]'(by omega), List.getElem?_eq_getElem _⟩
    obtain ⟨b, off, rfl, hb, hc⟩ := h.open (by omega) (by decide)
    obtain ⟨c0, c1, c2⟩ := cells_v hc j v hv
    have hsz := hz v (List.mem_of_getElem? hv)
    have HT := encVs_take l j v hv
    obtain ⟨k, m, s⟩ := v
    simp only at c0 c1 c2 hsz
    rw [encV_if] at HT
    have HT' := Lib.hid HT
    clear hc HT hv
    have LB := LJ
    generalize encVs (l.take j) = L at ho LJ HT'
    have c0w := fun (w' : World) (hb' : Below w.heap.size w w') => (hb'.cell (p := ⟨b, off + j * 3, none⟩) hb).trans c0
    have c1w := fun (w' : World) (hb' : Below w.heap.size w w') => (hb'.cell (p := ⟨b, off + j * 3 + 1, none⟩) hb).trans c1
    have c2w := fun (w' : World) (hb' : Below w.heap.size w w') => (hb'.cell (p := ⟨b, off + j * 3 + 2, none⟩) hb).trans c2
    have d0 := c0w wr hB
    clear c0 c1 c2
    have LL : L.length ≤ 990000 := by omega
    by_cases k1 : k = 1
    · subst k1
      have E : Hid (encVs (l.take (j + 1)) = L ++ (le 1 (XU 1) ++ (le 1 (XU m)))) := by unfold Hid; rw [HT'.out]; simp
      have LEN : Hid ((encVs (l.take (j + 1))).length = L.length + (1 + 1)) := by unfold Hid; rw [E.out]; simp only [List.length_append, le_length]; try rfl
      clear HT'
      go_wp2_with (first
       | (go_at_call 98; (with_reducible refine (rbyte_any g' (1 + L.length) cap' _ _ wr ho (by omega)).mono ?_); rintro e w2 ⟨g2,c2,rfl,o2,p2,q2⟩; have B2 := hB.trans (p2.below hg hB.size); have e0 := c0w w2 B2; have e1 := c1w w2 B2; have e2 := c2w w2 B2; have G2 := ge_old hB (Nat.le_refl _) hg q2)
       | (go_at_call 98; (with_reducible refine (rbyte_any g2 (1 + L.length + 1) c2 _ m w2 o2 (by omega)).mono ?_); rintro e w3 ⟨g3, c3, rfl, o3, p3, q3⟩))
      go_roundw
      case rel => exact ⟨j + 1,g3,c3,by omega,by go_num,congrArg (fun N => Value.slice (some ⟨g3,0,none⟩) N c3) (by rw [LEN.out]; omega),own_re o3 (by rw [LEN.out]; omega) (by rw [E.out]; simp only [List.append_assoc]),B2.trans (p3.below G2 B2.size),ge_old B2 (Nat.le_refl _) G2 q3⟩
      case measure => simp [intOf]; omega
    by_cases k2 : k = 2
    · subst k2
      have E : Hid (encVs (l.take (j + 1)) = L ++ (le 1 (XU 2) ++ (le 8 (XU m)))) := by unfold Hid; rw [HT'.out]; simp
      have LEN : Hid ((encVs (l.take (j + 1))).length = L.length + (1 + 8)) := by unfold Hid; rw [E.out]; simp only [List.length_append, le_length]; try rfl
      clear HT'
      go_wp2_with (first
       | (go_at_call 98; (with_reducible refine (rbyte_any g' (1 + L.length) cap' _ _ wr ho (by omega)).mono ?_); rintro e w2 ⟨g2,c2,rfl,o2,p2,q2⟩; have B2 := hB.trans (p2.below hg hB.size); have e0 := c0w w2 B2; have e1 := c1w w2 B2; have e2 := c2w w2 B2; have G2 := ge_old hB (Nat.le_refl _) hg q2)
       | (go_at_call 75; (with_reducible refine (rint_any g2 (1 + L.length + 1) c2 _ m w2 o2 (by omega)).mono ?_); rintro e w3 ⟨g3, c3, rfl, o3, p3, q3⟩))
      go_roundw
      case rel => exact ⟨j + 1,g3,c3,by omega,by go_num,congrArg (fun N => Value.slice (some ⟨g3,0,none⟩) N c3) (by rw [LEN.out]; omega),own_re o3 (by rw [LEN.out]; omega) (by rw [E.out]; simp only [List.append_assoc]),B2.trans (p3.below G2 B2.size),ge_old B2 (Nat.le_refl _) G2 q3⟩
      case measure => simp [intOf]; omega
    by_cases k3 : k = 3
    · subst k3
      have E : Hid (encVs (l.take (j + 1)) = L ++ (le 1 (XU 3) ++ (le 2 s.size ++ s.data.toList))) := by unfold Hid; rw [HT'.out]; simp [tx_eq5 s hsz]
      have LEN : Hid ((encVs (l.take (j + 1))).length = L.length + (1 + (2 + s.size))) := by unfold Hid; rw [E.out]; simp only [List.length_append, le_length]; try rfl
      clear HT'
      go_wp2_with (first
       | (go_at_call 98; (with_reducible refine (rbyte_any g' (1 + L.length) cap' _ _ wr ho (by omega)).mono ?_); rintro e w2 ⟨g2,c2,rfl,o2,p2,q2⟩; have B2 := hB.trans (p2.below hg hB.size); have e0 := c0w w2 B2; have e1 := c1w w2 B2; have e2 := c2w w2 B2; have G2 := ge_old hB (Nat.le_refl _) hg q2)
       | (go_at_call 97; (with_reducible refine (rtext_any g2 (1 + L.length + 1) c2 _ s w2 o2 (by omega) hsz).mono ?_); rintro e w3 ⟨g3, c3, rfl, o3, p3, q3⟩))
      go_roundw
      case rel => exact ⟨j + 1,g3,c3,by omega,by go_num,congrArg (fun N => Value.slice (some ⟨g3,0,none⟩) N c3) (by rw [LEN.out]; omega),own_re o3 (by rw [LEN.out]; omega) (by rw [E.out]; simp only [List.append_assoc]),B2.trans (p3.below G2 B2.size),ge_old B2 (Nat.le_refl _) G2 q3⟩
      case measure => simp [intOf]; omega
    · have b1 : (k == 1) = false := by simp [k1]
      have b2 : (k == 2) = false := by simp [k2]
      have b3 : (k == 3) = false := by simp [k3]
      have E : Hid (encVs (l.take (j + 1)) = L ++ le 1 (XU k)) := by unfold Hid; rw [HT'.out, if_neg k1, if_neg k2, if_neg k3, List.append_nil]
      have LEN : Hid ((encVs (l.take (j + 1))).length = L.length + 1) := by unfold Hid; rw [E.out, List.length_append, le_length]
      clear HT' k1 k2 k3
      go_wp2_with (go_at_call 98; (with_reducible refine (rbyte_any g' (1 + L.length) cap' _ _ wr ho (by omega)).mono ?_); rintro e w2 ⟨g2,c2,rfl,o2,p2,q2⟩; have B2 := hB.trans (p2.below hg hB.size); have e0 := c0w w2 B2; have e1 := c1w w2 B2; have e2 := c2w w2 B2; have G2 := ge_old hB (Nat.le_refl _) hg q2)
      go_roundw
      case rel => exact ⟨j + 1,g2,c2,by omega,by go_num,congrArg (fun N => Value.slice (some ⟨g2,0,none⟩) N c2) (by rw [LEN.out]; omega),own_re o2 (by rw [LEN.out]; omega) (by rw [E.out,List.append_assoc]),B2,G2⟩
      case measure => simp [intOf]; omega
  · go_wp2_with fail
    go_ret
    obtain rfl : j = n := by omega
    rw [List.take_of_length_le (by omega)] at ho
    have e : encR l = le 1 (XU (j : Nat)) ++ encVs l := by unfold encR; rw [hln]
    rw [e, List.length_append, le_length]
    rw [List.take_of_length_le (by omega)]
    exact ⟨g', cap', rfl, ho, hB, hg⟩
theorem ownB_u8 {w : World} {e : TypeId} {g n cap : Nat} {l : List UInt8} (h : OwnR EU8 w e g n cap l) : OwnB w e g n cap l := by
 obtain ⟨cur, hg, hs, ht⟩ := h.row
 exact ⟨h.len, h.le, h.max, cur, hg, by simpa [EU8] using hs, by rw [EU8_all] at ht; simpa [EU8] using ht⟩
set_option maxHeartbeats 400000 in
theorem rint_nil (x : Int) (w : World) : Calls Tryz.prog 75 #[.slice none 0 0, .int .i64 x] w (Fresh w 8 (le 8 (XU x))) := by
 have hs : ∀ (w' : World) (j : Nat),Src Tryz.prog EU8.sz 81 (.slice (some ⟨w'.heap.size,0,none⟩) 1 1) 1 (EU8.all [UInt8.ofNat (XU x / 256 ^ j % 256)]) (w'.alloc (.cells #[.int .u8 (IntKind.u64.wrap x / 2 ^ (8 * j) % 256)] 5)) := fun w' j => by
  rw [EU8_all]
  exact src_one byteTy.ht w' _ _ (bc_shift x j)
 have HS := Lib.hid hs
 clear hs
 go_enter Tryz.func75, Tryz.ntmps75
 go_wp2_with fail
 go_loopw [0,5] (fun v i wr => ∃ (j : Nat) (ao : Option Addr) (c : Nat),j ≤ 8 ∧ i = .int .i64 (j : Nat) ∧ v = .slice ao j c ∧ TxtR EU8 wr 5 w.heap.size ao j c (le j (XU x)) ∧ Below w.heap.size w wr) (fun _ i _ => 8 - (intOf i).toNat)
 case atStart => exact ⟨0, none, 0, by omega, rfl, rfl, TxtR.nil .., Below.refl _ _⟩
 case round =>
  obtain ⟨j, ao, c, hj, rfl, rfl, hT, hB⟩ := hrel
  have hs0 := hB.size
  by_cases hlt' : j < 8
  · have HL : Hid (le j (XU x) ++ [UInt8.ofNat (XU x / 256 ^ j % 256)] = le (j + 1) (XU x)) := by rw [le_snoc]; exact rfl
    go_wp2_with (at_builtin; refine wpList_append_txtR rfl _ _ 81 81 rfl 5 rowTyU8 w.heap.size ao j c (le j (XU x)) rfl (hT.past ((Below.refl _ _).alloc (Nat.le_refl _) _)) (by simp; omega) _ rfl 1 [UInt8.ofNat (XU x / 256 ^ j % 256)] (HS.out _ _) rfl (by omega) ?_; intro ao2 c2 w2 o2 b2)
    rw [HL.out] at o2
    go_roundw
    case rel => exact ⟨j + 1, ao2, c2, by omega, by go_num, rfl, o2, (hB.alloc hs0 _).trans b2⟩
    case measure => simp [intOf]; omega
  · go_wp2_with fail
    go_ret
    obtain rfl : j = 8 := by omega
    rcases hT.either with ⟨rfl, h0, -⟩ | ⟨g, rfl, o, hg⟩
    · omega
    · exact ⟨g, c, rfl, ownB_u8 o, hB, hg⟩
theorem ownR_u8 {w : World} {e : TypeId} {g n cap : Nat} {l : List UInt8} (h : OwnB w e g n cap l) : OwnR EU8 w e g n cap l := by
 obtain ⟨cur, hg, hs, ht⟩ := h.row
 exact ⟨h.len, h.le, h.max, cur, hg, by simpa [EU8] using hs, by rw [EU8_all]; simpa [EU8] using ht⟩
def WentB (w : World) (B N : Nat) (l : List UInt8) (en : Ending) (w' : World) : Prop :=
 ∃ g cap, en = .returned (.slice (some ⟨g, 0, none⟩) N cap) ∧ TxtR EU8 w' 5 B (some ⟨g, 0, none⟩) N cap l ∧ Below B w w'
theorem Fresh.b {w w' : World} {B N : Nat} {l : List UInt8} {en : Ending} (h : Fresh w N l en w') (hB : B ≤ w.heap.size) : WentB w B N l en w' := by
 obtain ⟨g, c, rfl, o, b, hg⟩ := h
 exact ⟨g, c, rfl, ⟨.inr ⟨g, rfl, ownR_u8 o, Nat.le_trans hB hg⟩⟩, b.mono hB⟩
theorem WentB.fresh {w w' : World} {N : Nat} {l : List UInt8} {en : Ending} (h : WentB w w.heap.size N l en w') : Fresh w N l en w' := by
 obtain ⟨g, c, rfl, o, b⟩ := h
 rcases o.either with ⟨h1, -⟩ | ⟨g', h1, o', hg⟩
 · cases h1
 · cases h1
   exact ⟨g, c, rfl, ownB_u8 o', b, hg⟩
theorem Went.b {w w' : World} {B g n N : Nat} {l : List UInt8} {en : Ending} (h : Went w g n N l en w') (hg : B ≤ g) (hB : B ≤ w.heap.size) : WentB w B N l en w' := by
 obtain ⟨g', c, rfl, o, p, hq⟩ := h
 exact ⟨g', c, rfl, ⟨.inr ⟨g', rfl, ownR_u8 o, hq.elim (fun e => e ▸ hg) (fun e => Nat.le_trans hB e)⟩⟩, p.below hg hB⟩
theorem TxtR.own8 {w : World} {e : TypeId} {B g n c : Nat} {l : List UInt8} (h : TxtR EU8 w e B (some ⟨g, 0, none⟩) n c l) : OwnB w e g n c l ∧ B ≤ g := by
 rcases h.either with ⟨h1, -⟩ | ⟨g', h1, o', hg⟩
 · cases h1
 · cases h1
   exact ⟨ownB_u8 o', hg⟩
section
variable {w : World} {B g n c N : Nat} {l L : List UInt8}
theorem rint0B (x : Int) (w : World) (hB : B ≤ w.heap.size) : Calls Tryz.prog 75 #[.slice none 0 0,.int .i64 x] w (WentB w B 8 (le 8 (XU x))) := (rint_nil x w).mono fun _ _ h => h.b hB
theorem rintB (x : Int) (h : TxtR EU8 w 5 B (some ⟨g, 0, none⟩) n c l) (hB : B ≤ w.heap.size) (hn : n ≤ 1000000) (hN : n + 8 = N) (hL : l ++ le 8 (XU x) = L) :
 Calls Tryz.prog 75 #[.slice (some ⟨g, 0, none⟩) n c, .int .i64 x] w (WentB w B N L) := by
 subst hN
 subst hL
 exact (rint_any g n c l x w h.own8.1 hn).mono fun _ _ k => k.b h.own8.2 hB
theorem rbyteB (x : Int) (h : TxtR EU8 w 5 B (some ⟨g, 0, none⟩) n c l) (hB : B ≤ w.heap.size) (hn : n ≤ 1000000) (hN : n + 1 = N) (hL : l ++ le 1 (XU x) = L) :
 Calls Tryz.prog 98 #[.slice (some ⟨g, 0, none⟩) n c, .int .i64 x] w (WentB w B N L) := by
 subst hN
 subst hL
 exact (rbyte_any g n c l x w h.own8.1 hn).mono fun _ _ k => k.b h.own8.2 hB
theorem rtextB (s : ByteArray) (h : TxtR EU8 w 5 B (some ⟨g,0,none⟩) n c l) (hB : B ≤ w.heap.size) (hn : n ≤ 1000000) (hs : s.size ≤ 60000) (hN : n + (2 + s.size) = N) (hL : l ++ (le 2 s.size ++ s.data.toList) = L) :
 Calls Tryz.prog 97 #[.slice (some ⟨g, 0, none⟩) n c, .string s] w (WentB w B N L) := by
 subst hN
 subst hL
 exact (rtext_any g n c l s w h.own8.1 hn hs).mono fun _ _ k => k.b h.own8.2 hB
end
theorem wpList_store_el {β : Type} {E : Enc β} {P : Program} {ops : Array Oper} {rest : List Oper} {o : Oper} {a : Act} {w : World} {Q : Exit → Act → World → Prop} (hgd : o.guard = none) (ty : TypeId) (x y : Operand) (ho : o.op = .store ty x y)
 (g i n c : Nat) (e : TypeId) (l : List β) (b : β) (h : OwnR E w e g n c l) (hi : i < n) (hx : a.eval x = .pointer (some ⟨g,i * E.sz,none⟩)) (hy : a.eval y = .agg (E.f b).toArray) (hs : (P.info? ty).map (·.size) = some E.sz)
 (hK : ∀ w', OwnR E w' e g n c (l.set i b) → w.grownBy w' (some g) → wpList P ops Q rest (a.put o.dst undef) w') : wpList P ops Q (o :: rest) a w := by
 obtain ⟨cur, hg, -, -⟩ := h.row
 have hr := h.room hi hg
 refine wpList_store_in hgd ty x y ho g (i * E.sz) (E.f b) cur.toList e hx hy (by simpa using hg) E.sz hs (E.len b) hr (Array.all_eq_true_iff_forall_mem.2 fun v hv => E.one b v (by simpa using hv)) fun w' h1 h2 => hK w' (h.setAll i b hi _ w' h1 fun cur' hg' => ?_) h2
 rw [hg] at hg'
 obtain rfl : cur = cur' := by simpa using hg'
 simp
theorem mix_next {α : Type} {R Z : List α} {j : Nat} {x : α} (hx : R[j]? = some x) (hz : Z.length = R.length) : (R.take j ++ Z.drop j).set j x = R.take (j + 1) ++ Z.drop (j + 1) := by
 obtain ⟨hj, rfl⟩ := List.getElem?_eq_some_iff.1 hx
 rw [List.set_append_right _ _ (by rw [List.length_take]; omega),List.length_take,Nat.min_eq_left (by omega),Nat.sub_self,List.drop_eq_getElem_cons (show j < Z.length by omega),List.set_cons_zero,List.take_succ_eq_append_getElem hj,List.append_assoc]
 rfl
theorem IsR.hs {w : World} {ao : Option Addr} {n c : Nat} {l : List H32} (h : IsR EHs w ao n c l) : IsH w ao n c (l.map (·.l)) :=
 ⟨by rw [List.length_map]; exact h.len, h.le, h.max, h.nil, fun x hx => by
  obtain ⟨y, -, rfl⟩ := List.mem_map.1 hx
  exact y.len, fun a ha i hi j u hu => by
  have hl := h.len
  obtain ⟨y, hy⟩ : ∃ y, l[i]? = some y := ⟨l[i]'(by omega), List.getElem?_eq_getElem _⟩
  have e : (l.map (·.l)).getD i [] = y.l := by rw [List.getD_eq_getElem?_getD, List.getElem?_map, hy]; rfl
  rw [e] at hu
  have hj : j < 32 := by have := (List.getElem?_eq_some_iff.1 hu).1; rw [y.len] at this; exact this
  rw [Addr.add_add]
  refine h.cell a ha _ _ ?_
  refine (EHs.all_get l i j y hy hj).trans ?_
  show (bcs y.l)[j]? = _
  simp only [bcs, List.getElem?_map, hu]
  rfl⟩
def rowsH (x : Txn) : List H32 := x.2.zipIdx.map fun c => ⟨rowS x.1 (c.2 : Nat) c.1, rowS_len _ _ _⟩
theorem rowsH_l (x : Txn) : (rowsH x).map (·.l) = rowsS x := by simp [rowsH, rowsS]
theorem rowsH_len (x : Txn) : (rowsH x).length = x.2.length := by simp [rowsH]
theorem rowsH_get (x : Txn) (i : Nat) (c : Chg) (h : x.2[i]? = some c) : (rowsH x)[i]? = some ⟨rowS x.1 (i : Nat) c, rowS_len _ _ _⟩ := by
 simp [rowsH, List.getElem?_zipIdx, h]
theorem rootX_len (x : Txn) : (rootX x).length = 32 := rootS_length _ (rowsS_all x)
theorem sizeEHs : (Tryz.prog.info? 53).map (·.size) = some EHs.sz := sizeHash
set_option maxRecDepth 100000 in
set_option maxHeartbeats 2000000 in
theorem rootx_any (w : World) (hC : RC w) (Q : Nat → Prop) (id : Int) (cs : List Chg) (ca : Option Addr) (cn cc : Nat) (h : IsD DC w Q ca cn cc cs) (hok : TxOk (id, cs)) :
 Calls Tryz.prog 32 #[.agg #[.int .i64 id, .slice ca cn cc]] w fun e w' => e = .returned (.agg (bcs (rootX (id, cs))).toArray) ∧ Below w.heap.size w w' := by
 have hln := h.len
 have hcn : cn ≤ 100 := by have := hok.1; simp only at this; omega
 have B0 : Below w.heap.size w (w.alloc (.cells #[.int .i64 id, .slice ca cn cc] 45)) := (Below.refl _ _).alloc (Nat.le_refl _) _
 have hP0 : Bk (w.alloc (.cells #[.int .i64 id, .slice ca cn cc] 45)) w.heap.size #[.int .i64 id, .slice ca cn cc] 45 := Bk.new w _ _
 obtain ⟨H, hH⟩ : ∃ x, rootX (id, cs) = x := ⟨_, rfl⟩
 have HH0 : H.length = 32 := by rw [← hH]; exact rootX_len _
 obtain ⟨HA, hHA⟩ : ∃ z, (bcs H).toArray = z := ⟨_, rfl⟩
 have HA0 : Hid (HA.size = 32) := Lib.hid (by rw [← hHA]; simp [bcs_length, HH0])
 have HA1 : Hid (HA.all (·.oneCell') = true) := Lib.hid (by rw [← hHA]; exact bcs_all _)
 have HRH : Hid ((bcs (rootS ((rowsH (id, cs)).map (·.l)))).toArray = HA) := Lib.hid (by rw [rowsH_l, ← hHA, ← hH]; rfl)
 rw [hH, hHA]
 clear hH hHA HH0
 obtain ⟨RL, hRL⟩ : ∃ r, rowsH (id, cs) = r := ⟨_, rfl⟩
 have hRg : Hid (∀ (j : Nat) (c : Chg), cs[j]? = some c → RL[j]? = some ⟨rowS id (j : Nat) c, rowS_len _ _ _⟩) := Lib.hid fun j c hc => by rw [← hRL]; exact rowsH_get (id, cs) j c hc
 have hRn : Hid (RL.length = cn) := Lib.hid (by rw [← hRL, rowsH_len]; exact hln)
 have hRa : Hid (∀ x ∈ RL.map (·.l), x.length = 32) := Lib.hid fun x hx => by
  obtain ⟨y, -, rfl⟩ := List.mem_map.1 hx
  exact y.len
 rw [hRL] at HRH
 clear hRL
 go_enter Tryz.func32, Tryz.ntmps32
 go_upto_region 1 with (with_reducible refine wpList_alloc_blk (o := ⟨some 2, _, _, _, _, _⟩) rfl 53 rfl _ zeroHash ?_; intro W q hq b1 q1)
 have hP1 := hP0.past b1
 have B1' := B0.trans (b1.mono B0.size)
 have hq1 : w.heap.size < q := by rw [World.size_alloc] at q1; omega
 obtain ⟨Z0, hZ0⟩ : ∃ z, (bcs (List.replicate 32 0)).toArray = z := ⟨_, rfl⟩
 have HZ0 : Hid (Z0.size = 32) := Lib.hid (by rw [← hZ0]; simp [bcs_length])
 have hQ : Bk W q Z0 53 := by rw [← hZ0]; exact hq.out
 clear hZ0
 have h1 := h.past B1'
 have hC1 := hC.past B1'
 obtain ⟨p, hp⟩ : ∃ p, w.heap.size = p := ⟨_, rfl⟩
 have HG := Lib.hid hp
 rw [hp] at hP1 hq1 B1'
 simp only [hp]
 have hP : Bk W p #[.int .i64 id, .slice ca cn cc] 45 := hP1
 have B1 : Below p w W := B1'
 clear hq b1 q1 hp hP0 hP1 B0 B1' hC h
 have hpW := hP.lt
 have hqW := hQ.lt
 obtain ⟨c0, c1⟩ : W.cell? ⟨p, 0, none⟩ = some (.int .i64 id) ∧ W.cell? ⟨p, 1, none⟩ = some (.slice ca cn cc) := ⟨hP.c rfl, hP.c rfl⟩
 simp only [Act.put, setIfInBounds_toArray, set_cons_zero, set_cons_succ]
 go_upto_region 2 with (at_make; refine wpList_make_or (E := EHs) rfl _ _ 77 rfl 53 rowTyHs .i64 .i64 _ _ cn rfl rfl rfl rfl (by omega) ?_; intro w2 o2 b2)
 have hP2 := hP.past b2
 clear c0 c1
 obtain ⟨c0, c1⟩ : w2.cell? ⟨p, 0, none⟩ = some (.int .i64 id) ∧ w2.cell? ⟨p, 1, none⟩ = some (.slice ca cn cc) := ⟨hP2.c rfl, hP2.c rfl⟩
 obtain ⟨gr, hgr⟩ : ∃ g, W.heap.size = g := ⟨_, rfl⟩
 have hgW : W.heap.size ≤ gr := Nat.le_of_eq hgr
 rw [hgr] at o2
 simp only [hgr]
 clear hgr
 have o3 : OwnR EHs w2 53 gr cn cn (RL.take 0 ++ (List.replicate cn H0s).drop 0) := by simpa using o2
 clear o2
 go_wp2_with fail
 go_loopw [13] (fun i wr => ∃ j : Nat,j ≤ cn ∧ i = .int .i64 (j : Nat) ∧ OwnR EHs wr 53 gr cn cn (RL.take j ++ (List.replicate cn H0s).drop j) ∧ Below W.heap.size W wr) (fun i _ => cn - (intOf i).toNat)
 case atStart => exact ⟨0, Nat.zero_le _, rfl, o3, b2⟩
 case round =>
  clear o3 b2 c0 c1 hP2
  obtain ⟨j, hj, rfl, o4, B2⟩ := hrel
  have hP2 := hP.past B2
  have hpwr := hP2.lt
  obtain ⟨c0, c1⟩ : wr.cell? ⟨p, 0, none⟩ = some (.int .i64 id) ∧ wr.cell? ⟨p, 1, none⟩ = some (.slice ca cn cc) := ⟨hP2.c rfl, hP2.c rfl⟩
  by_cases hlt : j < cn
  · have hlti : (j : Int) < (cn : Int) := by omega
    obtain ⟨x, hx⟩ : ∃ x, cs[j]? = some x := ⟨cs[j]'(by omega), List.getElem?_eq_getElem _⟩
    have hxm := List.mem_of_getElem? hx
    obtain ⟨gb, goff, b, rfl, hgl, -, hcl, hr⟩ := (h1.past B2).at hx
    obtain ⟨⟨bt, bo⟩, ⟨ba, bn, bc⟩⟩ := b
    obtain ⟨⟨xt, xo⟩, xl⟩ := x
    obtain ⟨hE, hr2⟩ := hr
    obtain ⟨rfl, rfl⟩ : bt = xt ∧ bo = xo := by simpa using hE
    have hcl : ∀ k u, (ECh.f ((bt, bo), ⟨ba, bn, bc⟩))[k]? = some u → wr.cell? ⟨gb, goff + (j * 3 + k), none⟩ = some u := hcl
    have y0 : wr.cell? ⟨gb, goff + j * 3, none⟩ = some (.string bt) := hcl 0 _ rfl
    have y1 : wr.cell? ⟨gb, goff + j * 3 + 1, none⟩ = some (.int .i64 bo) := by have := hcl 1 _ rfl; rwa [← Nat.add_assoc] at this
    have y2 : wr.cell? ⟨gb, goff + j * 3 + 2, none⟩ = some (.slice ba bn bc) := by have := hcl 2 _ rfl; rwa [← Nat.add_assoc] at this
    have bA : Below wr.heap.size wr (wr.alloc (.cells #[.string bt, .int .i64 bo, .slice ba bn bc] 67)) := (Below.refl _ _).alloc (Nat.le_refl _) _
    have HF := row_any (wr.alloc (.cells #[.string bt,.int .i64 bo,.slice ba bn bc] 67)) (hC1.past (B2.trans (bA.mono B2.size))) id (j : Nat) ((bt,bo),xl) ba bn bc (hr2.flat.past bA) (hok.2 _ hxm)
    have HX := hRg.out j _ hx
    obtain ⟨rh, hrh⟩ : ∃ r : H32, ⟨rowS id (j : Nat) ((bt, bo), xl), rowS_len _ _ _⟩ = r := ⟨_, rfl⟩
    have HF2 : Calls Tryz.prog 30 #[.int .i64 id,.int .i64 (j : Nat),.agg #[.string bt,.int .i64 bo,.slice ba bn bc]] (wr.alloc (.cells #[.string bt,.int .i64 bo,.slice ba bn bc] 67)) fun e w' => e = .returned (.agg (EHs.f rh).toArray) ∧ Below (wr.alloc (.cells #[.string bt,.int .i64 bo,.slice ba bn bc] 67)).heap.size (wr.alloc (.cells #[.string bt,.int .i64 bo,.slice ba bn bc] 67)) w' := by rw [← hrh]; exact HF
    rw [hrh] at HX
    have HXX := Lib.hid HX
    clear HF hx HX hrh hcl hE hr2 hxm
    go_wp2_with (first
     | (go_at_call 30; refine HF2.mono ?_; rintro e w3 ⟨rfl, b3⟩; have o5 := o4.past (bA.trans (b3.mono bA.size)))
     | ((with_reducible refine wpList_store_el rfl 53 _ _ rfl gr j cn cn 53 _ rh o5 hlt ?_ ?_ sizeEHs ?_); (rfl); (rfl); (intro w4 o6 g6)))
    go_roundw
    case rel => exact ⟨j + 1,by omega,by go_num,by rw [← mix_next HXX.out (by rw [List.length_replicate]; exact hRn.out.symm)]; exact o6,(B2.trans ((bA.trans (b3.mono bA.size)).mono B2.size)).grown g6 (Nat.le_trans B2.size (Nat.le_trans bA.size b3.size)) (fun z hz => by cases hz; exact hgW)⟩
    case measure => simp [intOf]; omega
  · have hlti : ¬ ((j : Int) < (cn : Int)) := by omega
    obtain rfl : j = cn := by omega
    have o5 : OwnR EHs wr 53 gr j j RL := by
     have := o4
     rwa [List.take_of_length_le (Nat.le_of_eq hRn.out), List.drop_of_length_le (by simp), List.append_nil] at this
    have HRt := root_any (some ⟨gr, 0, none⟩) j j _ wr (hC1.past B2) o5.isR.hs (by omega)
    rw [HRH.out] at HRt
    go_wp2_with (first
     | (go_at_call 67; refine HRt.mono ?_; rintro e w3 ⟨rfl, b3⟩; have R3 : Hid (w3.heap[q]? = some (.cells Z0 53 (0, 0))) := Lib.hid ((hQ.past B2).past b3))
     | ((with_reducible refine wpList_store_blk rfl 53 _ _ rfl q Z0 HA ?_ ?_ _ R3 32 sizeHash HZ0.out HA0.out HA1.out ?_); (rfl); (rfl); (intro w8 h8 b8)))
    refine bodyPost_ret (v := .agg HA) (results_cell_row rfl _ _ q _ _ (0, 0) _ rfl h8.out Tryz.underlying53 rfl (by rw [sizeHash, HA0.out])) rfl ⟨rfl, ?_⟩
    rw [HG.out]
    exact (B1.trans ((B2.trans (b3.mono B2.size)).mono (Nat.le_of_lt hpW))).grown b8 (by have := B2.size; have := b3.size; omega) (fun k hk => by cases hk; omega)
end Go.Proofs.YtdmnjjknkcnkgaaGreatDoor
