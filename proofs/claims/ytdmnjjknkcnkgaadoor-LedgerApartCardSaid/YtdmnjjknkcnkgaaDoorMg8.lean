/-
  merkle.Root.
  What is summed of changes, transactions, blocks; a ledger that is added to and closed: plain.
  ledger: a draft's block; copy, own (by gen_lgo.py).
  append to a row of the call's own or nil, of whatever, nothing too; of noughts to nil.
  A region that draws its order, by ONE condition on what has come up, the frame and the world: each operation is shown once to carry it on, whatever has come up ahead of it. Of no program.
-/
import Derived.Test.YtdmnjjknkcnkgaaDoorMg7
import Derived.Test.YtdmnjjknkcnkgaaDoorMg1
import Derived.Test.YtdmnjjknkcnkgaaDoorMg2
import Derived.Defers
import Derived.Laws.Pointers
import Derived.Laws.LoneSync
import Derived.Lib.AppendZerosOnto
import Derived.RegionTactic
import Derived.WalkKit
import Derived.Deep.RegionHeld
namespace Go.Proofs.YtdmnjjknkcnkgaaDoor
open Go.RowKit

def rootS (hs : List (List UInt8)) : List UInt8 := Mk.root two (sha []) hs
def proofS (hs : List (List UInt8)) (i : Nat) : List (List UInt8) := Mk.proof two (sha []) hs i
theorem rootS_length (hs : List (List UInt8)) (h : ∀ x ∈ hs, x.length = 32) : (rootS hs).length = 32 := by
  unfold rootS
  by_cases h2 : hs.length < 2
  · rw [Mk.root_one _ _ _ h2]
    match hs, h with
    | [], _ => exact sha_length _
    | x :: _, h => exact h x (by simp)
  · rw [Mk.root_more _ _ _ (by omega)]
    exact two_length _ _
theorem rootS_above (hs : List (List UInt8)) : rootS (Mk.above two hs) = rootS hs := Mk.root_above two (sha []) hs
set_option maxRecDepth 100000 in
set_option maxHeartbeats 2000000 in
theorem root_any (a0 : Option Addr) (n0 c0 : Nat) (hs : List (List UInt8)) (w : World) (hC : RC w) (h : IsH w a0 n0 c0 hs) (hn : n0 ≤ 1000) :
    Calls Tryd.prog 47 #[.slice a0 n0 c0] w fun e w' => e = .returned (.agg (bcs (rootS hs)).toArray) ∧ Below w.heap.size w w' := by
  have hl := h.len
  have H32 := Lib.hid (rootS_length hs h.all)
  have HL := Lib.hid hl
  clear hl
  rcases Nat.eq_zero_or_pos n0 with h0 | h0
  · subst h0
    have e0 : rootS hs = sha [] := by
      have : hs = [] := List.eq_nil_of_length_eq_zero HL.out
      subst this
      exact Mk.root_one _ _ _ (by simp)
    rw [e0]
    clear e0 H32 HL
    go_enter Tryd.func47, Tryd.ntmps47
    go_wp2_with (first | (with_reducible refine wpList_alloc_blk (o := ⟨some 2, _, _, _, _, _⟩) rfl 47 rfl _ zeroHash ?_; intro w1 gr h1 b1 q1))
    refine (sum_any none 0 0 [] _ (hC.past b1) (isP_nil _ none) (by omega) (by simp)).mono ?_
    rintro e w4 ⟨rfl, b4⟩
    rw [List.flatten_nil]
    have R4 : Hid (w4.heap[gr]? = some (.cells (bcs (List.replicate 32 0)).toArray 47 (0, 0))) := (b4.block gr (Array.getElem?_eq_some_iff.1 h1.out).1).trans h1.out
    have B4 := b1.trans (b4.mono b1.size)
    clear b4 h1 b1
    go_wp2_with ((with_reducible refine wpList_store_blk rfl 47 _ _ rfl gr _ (bcs (sha [])).toArray ?_ ?_ _ R4 32 sizeHash (by simp [bcs_length]) (by simp [bcs_length, sha_length]) (bcs_all _) ?_); (rfl); (rfl); (intro w8 h8 b8))
    refine bodyPost_ret (v := .agg (bcs (sha [])).toArray) (results_cell_row rfl _ _ gr _ _ (0, 0) _ rfl h8.out Tryd.underlying47 rfl (by rw [sizeHash]; simp [bcs_length, sha_length])) rfl ⟨rfl, ?_⟩
    exact B4.grown b8 B4.size (fun k hk => by cases hk; omega)
  · have hz : ((n0 : Int) == 0) = false := by simp; omega
    go_enter Tryd.func47, Tryd.ntmps47
    go_wp2_with (first | (with_reducible refine wpList_alloc_blk (o := ⟨some 2, _, _, _, _, _⟩) rfl 47 rfl _ zeroHash ?_; intro w1 gr h1 b1 q1))
    have hgr : gr < w1.heap.size := (Array.getElem?_eq_some_iff.1 h1.out).1
    go_loopw [0] (fun v wq => ∃ (ao : Option Addr) (n c : Nat) (hs' : List (List UInt8)), v = .slice ao n c ∧ IsH wq ao n c hs' ∧ 1 ≤ n ∧ n ≤ 1000 ∧ Hid (rootS hs' = rootS hs) ∧ Below w1.heap.size w1 wq) (fun v _ => match v with | .slice _ n _ => n | _ => 0)
    case atStart => exact ⟨a0, n0, c0, hs, rfl, h.past b1, h0, hn, rfl, Below.refl _ _⟩
    case round =>
      obtain ⟨ao, n, c, hs', rfl, hI, hn1, hn2, HR, hB⟩ := hrel
      have hBw : Below w.heap.size w wr := b1.trans (hB.mono b1.size)
      by_cases hn3 : 1 < n
      · obtain ⟨a, rfl⟩ := hI.has (by omega)
        go_wp2_with fail
        refine (above_any a n c hs' _ (hC.past hBw) hI hn2).mono ?_
        rintro e w3 ⟨v, rfl, hO, b3⟩
        obtain ⟨ao2, c2, rfl, hI2, -⟩ := hO.isH
        have HR2 : Hid (rootS (Mk.above two hs') = rootS hs) := (rootS_above hs').trans HR.out
        have B3 := hB.trans (b3.mono hB.size)
        clear hO b3
        go_wp2_with fail
        go_roundw
        case rel => exact ⟨ao2, (n + 1) / 2, c2, _, rfl, hI2, by omega, by omega, HR2, B3⟩
        case measure => simp; omega
      · obtain rfl : n = 1 := by omega
        obtain ⟨a, rfl⟩ := hI.has (by omega)
        have hat := hI.at_ a rfl 0 (by omega)
        have hd : hs'.getD 0 [] = rootS hs := by
          rw [← HR.out]
          have hl' := hI.len
          unfold rootS
          rw [Mk.root_one _ _ _ (by omega)]
          match hs', hl' with
          | [x], _ => rfl
        rw [hd] at hat
        have u24 := Tryd.underlying47
        have R4 : Hid (wr.heap[gr]? = some (.cells (bcs (List.replicate 32 0)).toArray 47 (0, 0))) := (hB.block gr hgr).trans h1.out
        have hat0 : AtA wr a (rootS hs) := by
          have := hat
          rw [Nat.zero_mul] at this
          exact this
        clear hat hd hI h1 hB HR
        go_wp2_with (first
          | ((with_reducible refine wpList_load_at rfl 47 _ rfl a ?_ (rootS hs) hat0 _ _ u24 (hash_size _ H32.out) ?_); (rfl))
          | ((with_reducible refine wpList_store_blk rfl 47 _ _ rfl gr _ (bcs (rootS hs)).toArray ?_ ?_ _ R4 32 sizeHash (by simp [bcs_length]) (by simp [bcs_length, H32.out]) (bcs_all _) ?_); (rfl); (rfl); (intro w8 h8 b8)))
        refine bodyPost_ret (v := .agg (bcs (rootS hs)).toArray) (results_cell_row rfl _ _ gr _ _ (0, 0) _ rfl h8.out Tryd.underlying47 rfl (by rw [sizeHash]; simp [bcs_length, H32.out])) rfl ⟨rfl, ?_⟩
        exact hBw.grown b8 hBw.size (fun k hk => by cases hk; omega)

end Go.Proofs.YtdmnjjknkcnkgaaDoor
namespace Go.Proofs.YtdmnjjknkcnkgaaDoor
open Go.RowKit
/-- What a change's sum is over. -/
def rowT (t s : Int) (c : Chg) : List UInt8 := le 8 (XU t) ++ (le 8 (XU s) ++ (le 1 (XU c.1.2) ++ (tx c.1.1.data.toList ++ tx (encR c.2))))
def rowS (t s : Int) (c : Chg) : List UInt8 := leafS (rowT t s c)
def rowsS (x : Txn) : List (List UInt8) := x.2.zipIdx.map fun c => rowS x.1 (c.2 : Nat) c.1
def rootX (x : Txn) : List UInt8 := rootS (rowsS x)
def entT (x : Txn) : List UInt8 := le 8 (XU x.1) ++ (le 8 (XU (x.2.length : Nat)) ++ rootX x)
def entS (x : Txn) : List UInt8 := leafS (entT x)
def blkT (b : Blk) : List UInt8 := le 8 (XU b.n) ++ (b.prev.l ++ (b.root.l ++ le 8 (XU b.count)))
def blkS (b : Blk) : List UInt8 := sha (blkT b)
theorem rowsS_len (x : Txn) : (rowsS x).length = x.2.length := by simp [rowsS]
theorem rowsS_get (x : Txn) (i : Nat) (c : Chg) (h : x.2[i]? = some c) : (rowsS x)[i]? = some (rowS x.1 (i : Nat) c) := by
  simp [rowsS, List.getElem?_zipIdx, h]
theorem rowS_len (t s : Int) (c : Chg) : (rowS t s c).length = 32 := leafS_length _
theorem rowsS_all (x : Txn) : ∀ h ∈ rowsS x, h.length = 32 := by
  intro h hm
  obtain ⟨c, -, rfl⟩ := List.mem_map.1 hm
  exact rowS_len _ _ _
theorem entS_len (x : Txn) : (entS x).length = 32 := leafS_length _
theorem blkS_len (b : Blk) : (blkS b).length = 32 := sha_length _
/-- Not too much for the sums. -/
def ChOk (c : Chg) : Prop := c.1.1.size ≤ 60 ∧ c.2.length ≤ 15 ∧ ∀ v ∈ c.2, v.s.size ≤ 60
def TxOk (x : Txn) : Prop := x.2.length ≤ 100 ∧ ∀ c ∈ x.2, ChOk c
def entsS (l : List Txn) : List (List UInt8) := l.map entS
def hLast (bl : List Blk) : List UInt8 := match bl.getLast? with
  | some b => blkS b
  | none => H0s.l
theorem hLast_len (bl : List Blk) : (hLast bl).length = 32 := by
  unfold hLast
  split
  · exact blkS_len _
  · rfl
def newB (L : Lgr) : Blk := ⟨(L.bl.length : Nat) + 1, ⟨hLast L.bl, hLast_len _⟩, ⟨rootS (entsS L.op), rootS_length _ fun h hm => by obtain ⟨x, -, rfl⟩ := List.mem_map.1 hm; exact entS_len x⟩, (L.op.length : Nat)⟩
/-- A block is closed. -/
def cls (L : Lgr) : Lgr := if L.op = [] then L else ⟨L.next, [], L.bl ++ [newB L], L.ts ++ [L.op]⟩
def clsE (L : Lgr) : Int := if L.op = [] then 2 else 0
def addL (L : Lgr) (c : List Chg) : Lgr := let M : Lgr := ⟨L.next + 1, L.op ++ [(L.next, c)], L.bl, L.ts⟩; if M.op.length = 4 then cls M else M
def digN (L : Lgr) : Int := match L.bl.getLast? with
  | some b => b.n
  | none => 0
def digE (L : Lgr) : Int := if L.bl = [] then 2 else 0
end Go.Proofs.YtdmnjjknkcnkgaaDoor
namespace Go.Proofs.YtdmnjjknkcnkgaaDoor
open Go.RowKit
set_option linter.unusedSimpArgs false
/-- A draft's cells. -/
def dfC (dn mu next : Int) (oa : Option Addr) (on oc : Nat) (ba : Option Addr) (bn bc : Nat) (ta : Option Addr) (tn tc : Nat) : Array Value := #[.int .u32 dn, .int .i32 mu, .int .u32 0, .int .i64 next, .slice oa on oc, .slice ba bn bc, .slice ta tn tc]
theorem df_info : (Tryd.prog.info? 68).map (fun i => (i.zero, i.size)) = some (some (.agg (dfC 0 0 0 none 0 0 none 0 0 none 0 0)), 7) := by kernel_rfl
/-- Not too long. -/
structure LgOk (L : Lgr) : Prop where
  op : L.op.length ≤ 4
  bl : L.bl.length ≤ 200
  ts : L.ts.length ≤ 200
  tx : ∀ x ∈ L.op, TxOk x
  txs : ∀ l ∈ L.ts, l.length ≤ 4 ∧ ∀ x ∈ l, TxOk x
theorem TxOk.sz {x : Txn} (h : TxOk x) : x.2.length ≤ 100000 ∧ ∀ y ∈ x.2, y.2.length ≤ 100000 := ⟨by have := h.1; omega, fun y hy => by have := (h.2 y hy).2.1; omega⟩
theorem LgOk.opS {L : Lgr} (h : LgOk L) : ∀ x ∈ L.op, x.2.length ≤ 100000 ∧ ∀ y ∈ x.2, y.2.length ≤ 100000 := fun x hx => (h.tx x hx).sz
theorem LgOk.tsS {L : Lgr} (h : LgOk L) : ∀ x ∈ L.ts, x.length ≤ 100000 ∧ ∀ y ∈ x, y.2.length ≤ 100000 ∧ ∀ z ∈ y.2, z.2.length ≤ 100000 := fun x hx => ⟨by have := (h.txs x hx).1; omega, fun y hy => ((h.txs x hx).2 y hy).sz⟩
section
variable {w : World} {g : Nat} {dn mu next : Int} {oa : Option Addr} {on oc : Nat} {ba : Option Addr} {bn bc : Nat} {ta : Option Addr} {tn tc : Nat}
theorem df_cells (h : Bk w g (dfC dn mu next oa on oc ba bn bc ta tn tc) 68) : w.cell? ⟨g, 3, none⟩ = some (.int .i64 next) ∧ w.cell? ⟨g, 4, none⟩ = some (.slice oa on oc) ∧ w.cell? ⟨g, 5, none⟩ = some (.slice ba bn bc) ∧ w.cell? ⟨g, 6, none⟩ = some (.slice ta tn tc) := ⟨h.c rfl, h.c rfl, h.c rfl, h.c rfl⟩
theorem df_set (h : Bk w g (dfC dn mu next oa on oc ba bn bc ta tn tc) 68) (i : Nat) (v : Value) {cs : Array Value} (hc : (dfC dn mu next oa on oc ba bn bc ta tn tc).setIfInBounds i v = cs) : Bk (w.setCell ⟨g, i, none⟩ v) g cs 68 := by
  have := heap_setCell_same (i := i) (v := v) h
  rw [hc] at this
  exact this
end
/-- Blocks from a on, below b. -/
def In (a b k : Nat) : Prop := a ≤ k ∧ k < b
/-- A LEDGER's ROWS ARE THE CALL's OWN: each in blocks of its own, all from B on. -/
structure LgO (w : World) (B : Nat) (Qo Qb Qt : Nat → Prop) (oa : Option Addr) (on oc : Nat) (ba : Option Addr) (bn bc : Nat) (ta : Option Addr) (tn tc : Nat) (bo : List DT.β) (bb : List DB.β) (bt : List DTs.β) (L : Lgr) : Prop where
  op : TxD DT w 32 Qo oa on oc bo L.op
  bl : TxD DB w 79 Qb ba bn bc bb L.bl
  ts : TxD DTs w 25 Qt ta tn tc bt L.ts
  ob : ∀ k, Qo k → ¬ Qb k
  ot : ∀ k, Qo k → ¬ Qt k
  bt_ : ∀ k, Qb k → ¬ Qt k
  go : ∀ k, Qo k → B ≤ k ∧ k < w.heap.size
  gb : ∀ k, Qb k → B ≤ k ∧ k < w.heap.size
  gt : ∀ k, Qt k → B ≤ k ∧ k < w.heap.size
section
variable {w w' : World} {B : Nat} {Qo Qb Qt : Nat → Prop} {oa : Option Addr} {on oc : Nat} {ba : Option Addr} {bn bc : Nat} {ta : Option Addr} {tn tc : Nat} {bo : List DT.β} {bb : List DB.β} {bt : List DTs.β} {L : Lgr}
theorem LgO.r (h : LgO w B Qo Qb Qt oa on oc ba bn bc ta tn tc bo bb bt L) : LgR w (FrG B) oa on oc ba bn bc ta tn tc L :=
  ⟨h.op.isD.imp fun k _ hk => (h.go k hk).1, h.bl.isD.imp fun k _ hk => (h.gb k hk).1, h.ts.isD.imp fun k _ hk => (h.gt k hk).1⟩
theorem LgO.past (h : LgO w B Qo Qb Qt oa on oc ba bn bc ta tn tc bo bb bt L) (b : Below w.heap.size w w') : LgO w' B Qo Qb Qt oa on oc ba bn bc ta tn tc bo bb bt L :=
  ⟨h.op.past b, h.bl.past b, h.ts.past b, h.ob, h.ot, h.bt_, fun k hk => ⟨(h.go k hk).1, Nat.lt_of_lt_of_le (h.go k hk).2 b.size⟩, fun k hk => ⟨(h.gb k hk).1, Nat.lt_of_lt_of_le (h.gb k hk).2 b.size⟩, fun k hk => ⟨(h.gt k hk).1, Nat.lt_of_lt_of_le (h.gt k hk).2 b.size⟩⟩
theorem LgO.grown {g : Nat} (h : LgO w B Qo Qb Qt oa on oc ba bn bc ta tn tc bo bb bt L) (k : w.grownBy w' (some g)) (hg : g < B) : LgO w' B Qo Qb Qt oa on oc ba bn bc ta tn tc bo bb bt L :=
  ⟨h.op.grownO k (fun r e hq => by cases e; have := (h.go _ hq).1; omega), h.bl.grownO k (fun r e hq => by cases e; have := (h.gb _ hq).1; omega), h.ts.grownO k (fun r e hq => by cases e; have := (h.gt _ hq).1; omega), h.ob, h.ot, h.bt_, fun q hk => ⟨(h.go q hk).1, Nat.lt_of_lt_of_le (h.go q hk).2 k.size⟩, fun q hk => ⟨(h.gb q hk).1, Nat.lt_of_lt_of_le (h.gb q hk).2 k.size⟩, fun q hk => ⟨(h.gt q hk).1, Nat.lt_of_lt_of_le (h.gt q hk).2 k.size⟩⟩
end
theorem grown_past {w a b : World} {g : Nat} (h : w.grownBy a (some g)) (k : Below a.heap.size a b) : w.grownBy b (some g) :=
  ⟨k.os.trans h.os, k.tape.trans h.tape, k.output.trans h.output, Nat.le_trans h.size k.size, fun z hz hne => (k.block z (Nat.lt_of_lt_of_le hz h.size)).trans (h.block z hz hne)⟩
theorem grown_two {w a b : World} {g : Nat} (h : w.grownBy a (some g)) (k : a.grownBy b (some g)) : w.grownBy b (some g) :=
  ⟨k.os.trans h.os, k.tape.trans h.tape, k.output.trans h.output, Nat.le_trans h.size k.size, fun z hz hne => (k.block z (Nat.lt_of_lt_of_le hz h.size) hne).trans (h.block z hz hne)⟩
set_option maxRecDepth 100000 in
set_option maxHeartbeats 2000000 in
theorem dcopy_any (w : World) (g : Nat) (dn mu next : Int) (oa : Option Addr) (on oc : Nat) (ba : Option Addr) (bn bc : Nat) (ta : Option Addr) (tn tc : Nat) (L : Lgr) (X : Bk w g (dfC dn mu next oa on oc ba bn bc ta tn tc) 68) (h : LgR w (fun b => b ≠ g) oa on oc ba bn bc ta tn tc L) (hL : LgOk L) :
    Calls Tryd.prog 30 #[.pointer (some ⟨g, 0, none⟩)] w fun e w' => ∃ oa2 oc2 ba2 bc2 ta2 tc2 Qo Qb Qt bo bb bt, e = .returned (.tuple #[]) ∧ Bk w' g (dfC dn mu next oa2 on oc2 ba2 bn bc2 ta2 tn tc2) 68 ∧ LgO w' w.heap.size Qo Qb Qt oa2 on oc2 ba2 bn bc2 ta2 tn tc2 bo bb bt L ∧ w.grownBy w' (some g) := by
  have hgl := X.lt
  have hon := h.op.len
  have hbn := h.bl.len
  have htn := h.ts.len
  have l1 := hL.op
  have l2 := hL.bl
  have l3 := hL.ts
  obtain ⟨c3, c4, c5, c6⟩ := df_cells X
  have HO := copyTxs_any w _ oa on oc L.op h.op (by omega) hL.opS
  go_enter Tryd.func30, Tryd.ntmps30
  go_upto_region 1 with (go_at_call 43; refine HO.mono ?_; rintro e w1 ⟨oa2, oc2, bo, rfl, i1, b1⟩; have X1 := X.past b1; have f1 := free_blk (i := 4) X1; obtain ⟨k3, k4, k5, k6⟩ := df_cells X1)
  have Y1 := df_set X1 4 (.slice oa2 on oc2) (cs := dfC dn mu next oa2 on oc2 ba bn bc ta tn tc) rfl
  have s1 := grown_cell (grown_self w1 g) 4 (.slice oa2 on oc2)
  have G1 := grown_cell (below_grown (some g) b1) 4 (.slice oa2 on oc2)
  have j1 := (i1.imp (Q' := In w.heap.size w1.heap.size) fun k hk hh => ⟨hh, hk⟩).grownO s1 (fun r e hq => by cases e; have := hq.1; omega)
  have hw1 : w.heap.size ≤ w1.heap.size := b1.size
  obtain ⟨S1, hS1⟩ : ∃ s, w1.heap.size = s := ⟨_, rfl⟩
  have hz1 : (w1.setCell ⟨g, 4, none⟩ (.slice oa2 on oc2)).heap.size = S1 := by simpa using hS1
  rw [hS1] at j1 hw1
  clear hS1
  have m2 := (h.bl.past b1).grown s1 (fun h => h rfl)
  have m3 := (h.ts.past b1).grown s1 (fun h => h rfl)
  clear X1 f1 k3 k4 k5 k6 i1 HO s1 c3 c4 c5 c6
  generalize w1.setCell ⟨g, 4, none⟩ (.slice oa2 on oc2) = W1 at Y1 G1 j1 m2 m3 hz1 ⊢
  obtain ⟨c3, c4, c5, c6⟩ := df_cells Y1
  have HB := kclone_bk W1 ba bn bc L.bl m2.flat (by omega)
  go_upto_region 2 with (go_at_call 44; refine HB.mono ?_; rintro e w2 ⟨ba2, bc2, rfl, o2, b2⟩; have X2 := Y1.past b2; have f2 := free_blk (i := 5) X2; obtain ⟨k3, k4, k5, k6⟩ := df_cells X2)
  have Y2 := df_set X2 5 (.slice ba2 bn bc2) (cs := dfC dn mu next oa2 on oc2 ba2 bn bc2 ta tn tc) rfl
  have s2 := grown_cell (grown_self w2 g) 5 (.slice ba2 bn bc2)
  have G2 := grown_cell (grown_past G1 b2) 5 (.slice ba2 bn bc2)
  have i2 : TxD DB w2 79 (In W1.heap.size w2.heap.size) ba2 bn bc2 L.bl L.bl := ⟨o2.zero, fun z hz => ⟨o2.geB z hz, o2.lt z hz⟩, RdD.flat EBk (by decide) w2 _ L.bl⟩
  have n1 := (j1.past b2).grownO s2 (fun r e hq => by cases e; have := hq.1; omega)
  have hW1 := G1.size
  have n2 := i2.grownO s2 (fun r e hq => by cases e; have := hq.1; omega)
  have hw2 : W1.heap.size ≤ w2.heap.size := b2.size
  obtain ⟨S2, hS2⟩ : ∃ s, w2.heap.size = s := ⟨_, rfl⟩
  have hz2 : (w2.setCell ⟨g, 5, none⟩ (.slice ba2 bn bc2)).heap.size = S2 := by simpa using hS2
  rw [hS2, hz1] at n2
  rw [hS2, hz1] at hw2
  clear hS2
  have n3 := (m3.past b2).grown s2 (fun h => h rfl)
  clear X2 f2 k3 k4 k5 k6 i2 HB s2 c3 c4 c5 c6 o2 m2 m3 j1 Y1 G1
  generalize w2.setCell ⟨g, 5, none⟩ (.slice ba2 bn bc2) = W2 at Y2 G2 n1 n2 n3 hz2 ⊢
  obtain ⟨c3, c4, c5, c6⟩ := df_cells Y2
  have HT := copiedS_any W2 _ ta tn tc L.ts n3 (by omega) hL.tsS
  go_wp2_with (go_at_call 45; refine HT.mono ?_; rintro e w3 ⟨ta2, tc2, bt, rfl, i3, b3⟩; have X3 := Y2.past b3; have f3 := free_blk (i := 6) X3; obtain ⟨k3, k4, k5, k6⟩ := df_cells X3)
  have Y3 := df_set X3 6 (.slice ta2 tn tc2) (cs := dfC dn mu next oa2 on oc2 ba2 bn bc2 ta2 tn tc2) rfl
  have s3 := grown_cell (grown_self w3 g) 6 (.slice ta2 tn tc2)
  have G3 := grown_cell (grown_past G2 b3) 6 (.slice ta2 tn tc2)
  have hW2 := G2.size
  have p1 := (n1.past b3).grownO s3 (fun r e hq => by cases e; have := hq.1; omega)
  have p2 := (n2.past b3).grownO s3 (fun r e hq => by cases e; have := hq.1; omega)
  have p3 := (i3.imp (Q' := In S2 w3.heap.size) fun k hk hh => ⟨by have hh' : W2.heap.size ≤ k := hh; omega, hk⟩).grownO s3 (fun r e hq => by cases e; have := hq.1; omega)
  have hw3 : S2 ≤ w3.heap.size := by rw [← hz2]; exact b3.size
  have hz3 : (w3.setCell ⟨g, 6, none⟩ (.slice ta2 tn tc2)).heap.size = w3.heap.size := by simp
  go_end0
  exact ⟨oa2, oc2, ba2, bc2, ta2, tc2, _, _, _, bo, L.bl, bt, rfl, Y3, ⟨p1, p2, p3, fun k h1 h2 => by have := h1.2; have := h2.1; omega, fun k h1 h2 => by have := h1.2; have := h2.1; omega, fun k h1 h2 => by have := h1.2; have := h2.1; omega, fun k h1 => ⟨h1.1, by rw [hz3]; have := h1.2; omega⟩, fun k h1 => ⟨by have := h1.1; omega, by rw [hz3]; have := h1.2; omega⟩, fun k h1 => ⟨by have := h1.1; omega, by rw [hz3]; exact h1.2⟩⟩, G3⟩
/-- The draft's ledger is its own now: nothing else that was there has changed. -/
def Owned (w : World) (g : Nat) (dn mu next : Int) (on bn tn : Nat) (L : Lgr) (e : Ending) (w' : World) : Prop :=
  ∃ oa2 oc2 ba2 bc2 ta2 tc2 Qo Qb Qt bo bb bt, e = .returned (.tuple #[]) ∧ Bk w' g (dfC dn mu next oa2 on oc2 ba2 bn bc2 ta2 tn tc2) 68 ∧ LgO w' w.heap.size Qo Qb Qt oa2 on oc2 ba2 bn bc2 ta2 tn tc2 bo bb bt L ∧ w.grownBy w' (some g)
set_option maxRecDepth 100000 in
set_option maxHeartbeats 1600000 in
theorem dslow_any (w : World) (g : Nat) (next : Int) (oa : Option Addr) (on oc : Nat) (ba : Option Addr) (bn bc : Nat) (ta : Option Addr) (tn tc : Nat) (L : Lgr) (X : Bk w g (dfC 0 0 next oa on oc ba bn bc ta tn tc) 68) (h : LgR w (fun b => b ≠ g) oa on oc ba bn bc ta tn tc L) (hL : LgOk L) :
    Calls Tryd.prog 42 #[.pointer (some ⟨g, 0, none⟩), .func (.func 30) #[.pointer (some ⟨g, 0, none⟩)] #[]] w (Owned w g 1 0 next on bn tn L) := by
  have X1 := df_set X 1 (.int .i32 1) (cs := dfC 0 1 next oa on oc ba bn bc ta tn tc) rfl
  have g1 := grown_cell (grown_self w g) 1 (.int .i32 1)
  have h1 := h.grown g1 (fun h => h rfl)
  have HC := dcopy_any _ g 0 1 next oa on oc ba bn bc ta tn tc L X1 h1 hL
  have c0 : w.cell? ⟨g, 0, none⟩ = some (.int .u32 0) := X.c rfl
  have c1 : w.cell? ⟨g, 1, none⟩ = some (.int .i32 0) := X.c rfl
  have f1 := free_blk (i := 1) X
  have k0 : (w.setCell ⟨g, 1, none⟩ (.int .i32 1)).cell? ⟨g, 0, none⟩ = some (.int .u32 0) := X1.c rfl
  have hgl := X.lt
  have hnot : ∀ (x : Bool) (w : World), (Op.unary .not (.bool x)).run Tryd.prog w = .ok (.bool (!x)) w := fun _ _ => rfl
  go_enter_defers Tryd.func42, Tryd.ntmps42
  go_wp2_with (first | (go_at_call 59; refine (lock_free ⟨g, 1, none⟩ _ (by go_simp) (by go_simp)).mono ?_; rintro e w' ⟨rfl, rfl⟩) | (go_at_call 41; refine (load_any ⟨g, 0, none⟩ 0 false rfl _ k0).mono ?_; rintro e w' ⟨rfl, rfl⟩) | (go_at_call 30; refine HC.mono ?_; rintro e w2 ⟨oa2, oc2, ba2, bc2, ta2, tc2, Qo, Qb, Qt, bo, bb, bt, rfl, X2, h2, G2⟩))
  go_wp2
  refine leaves_cons (f := 61) (args := #[.pointer (some ⟨g, 0, none⟩), .bool true]) (by simp) (by simp [go_sem]) ?_
  refine (store_deferred ⟨g, 0, none⟩ (.int .u32 0) .returning _ (X2.c rfl) (free_blk X2)).mono ?_
  rintro e u' w'' ⟨rfl, rfl, rfl⟩
  have X3 : Bk w2.drew g (dfC 0 1 next oa2 on oc2 ba2 bn bc2 ta2 tn tc2) 68 := X2
  have X4 := df_set X3 0 (.int .u32 1) (cs := dfC 1 1 next oa2 on oc2 ba2 bn bc2 ta2 tn tc2) rfl
  refine leaves_cons (f := 60) (args := #[.pointer (some ⟨g, 1, none⟩)]) (by simp [settle]) (by simp [go_sem]) ?_
  refine (unlock_deferred ⟨g, 1, none⟩ _ _ (X4.c rfl) (free_blk X4)).mono ?_
  rintro e u' w'' ⟨rfl, rfl, rfl⟩
  have X5 := df_set X4 1 (.int .i32 0) (cs := dfC 1 0 next oa2 on oc2 ba2 bn bc2 ta2 tn tc2) rfl
  have s5 : w2.grownBy ((w2.drew.setCell ⟨g, 0, none⟩ (.int .u32 1)).setCell ⟨g, 1, none⟩ (.int .i32 0)) (some g) := grown_cell (grown_cell (below_grown (some g) (Below.refl _ _).drew) 0 _) 1 _
  have hs1 : w.heap.size = (w.setCell ⟨g, 1, none⟩ (.int .i32 1)).heap.size := by simp
  rw [← hs1] at h2
  have h5 := h2.grown s5 hgl
  have G5 : w.grownBy ((w2.drew.setCell ⟨g, 0, none⟩ (.int .u32 1)).setCell ⟨g, 1, none⟩ (.int .i32 0)) (some g) := grown_two (grown_two g1 G2) s5
  have HH : Owned w g 1 0 next on bn tn L (.returned (.tuple #[])) ((w2.drew.setCell ⟨g, 0, none⟩ (.int .u32 1)).setCell ⟨g, 1, none⟩ (.int .i32 0)) := ⟨_, _, _, _, _, _, _, _, _, _, _, _, rfl, X5, h5, G5⟩
  simpa [Leaves, settle, results, Tryd.results42] using HH
set_option maxRecDepth 100000 in
set_option maxHeartbeats 1600000 in
theorem ddo_first (w : World) (g : Nat) (next : Int) (oa : Option Addr) (on oc : Nat) (ba : Option Addr) (bn bc : Nat) (ta : Option Addr) (tn tc : Nat) (L : Lgr) (X : Bk w g (dfC 0 0 next oa on oc ba bn bc ta tn tc) 68) (h : LgR w (fun b => b ≠ g) oa on oc ba bn bc ta tn tc L) (hL : LgOk L) :
    Calls Tryd.prog 29 #[.pointer (some ⟨g, 0, none⟩), .func (.func 30) #[.pointer (some ⟨g, 0, none⟩)] #[]] w (Owned w g 1 0 next on bn tn L) := by
  have hS := dslow_any w g next oa on oc ba bn bc ta tn tc L X h hL
  have c0 : w.cell? ⟨g, 0, none⟩ = some (.int .u32 0) := X.c rfl
  have hnot : ∀ (x : Bool) (w : World), (Op.unary .not (.bool x)).run Tryd.prog w = .ok (.bool (!x)) w := fun _ _ => rfl
  go_enter Tryd.func29, Tryd.ntmps29
  go_wp2_with (first | (go_at_call 42; refine hS.mono ?_; rintro e w' ⟨oa2, oc2, ba2, bc2, ta2, tc2, Qo, Qb, Qt, bo, bb, bt, rfl, N2, S2, G2⟩) | (go_at_call 41; refine (load_any ⟨g, 0, none⟩ 0 false rfl _ c0).mono ?_; rintro e w' ⟨rfl, rfl⟩))
  go_end0
  exact ⟨_, _, _, _, _, _, _, _, _, _, _, _, rfl, N2, S2, G2⟩
set_option maxRecDepth 100000 in
theorem ddo_done (w : World) (g : Nat) (next : Int) (oa : Option Addr) (on oc : Nat) (ba : Option Addr) (bn bc : Nat) (ta : Option Addr) (tn tc : Nat) (X : Bk w g (dfC 1 0 next oa on oc ba bn bc ta tn tc) 68) (f : Value) :
    Calls Tryd.prog 29 #[.pointer (some ⟨g, 0, none⟩), f] w fun e w' => e = .returned (.tuple #[]) ∧ w = w' := by
  have c0 : w.cell? ⟨g, 0, none⟩ = some (.int .u32 1) := X.c rfl
  have hnot : ∀ (x : Bool) (w : World), (Op.unary .not (.bool x)).run Tryd.prog w = .ok (.bool (!x)) w := fun _ _ => rfl
  go_enter Tryd.func29, Tryd.ntmps29
  go_wp2_with (go_at_call 41; refine (load_any ⟨g, 0, none⟩ 1 true rfl _ c0).mono ?_; rintro e w' ⟨rfl, rfl⟩)
  go_end0
  exact ⟨rfl, rfl⟩
set_option maxRecDepth 100000 in
theorem own_first (w : World) (g : Nat) (next : Int) (oa : Option Addr) (on oc : Nat) (ba : Option Addr) (bn bc : Nat) (ta : Option Addr) (tn tc : Nat) (L : Lgr) (X : Bk w g (dfC 0 0 next oa on oc ba bn bc ta tn tc) 68) (h : LgR w (fun b => b ≠ g) oa on oc ba bn bc ta tn tc L) (hL : LgOk L) :
    Calls Tryd.prog 15 #[.pointer (some ⟨g, 0, none⟩)] w fun e w' => e = .returned (.pointer (some ⟨g, 3, none⟩)) ∧ Owned w g 1 0 next on bn tn L (.returned (.tuple #[])) w' := by
  have hS := ddo_first w g next oa on oc ba bn bc ta tn tc L X h hL
  go_enter Tryd.func15, Tryd.ntmps15
  go_wp2_with (go_at_call 29; refine hS.mono ?_; rintro e w' ⟨oa2, oc2, ba2, bc2, ta2, tc2, Qo, Qb, Qt, bo, bb, bt, rfl, N2, S2, G2⟩)
  go_ret
  exact ⟨rfl, _, _, _, _, _, _, _, _, _, _, _, _, rfl, N2, S2, G2⟩
set_option maxRecDepth 100000 in
theorem own_done (w : World) (g : Nat) (next : Int) (oa : Option Addr) (on oc : Nat) (ba : Option Addr) (bn bc : Nat) (ta : Option Addr) (tn tc : Nat) (X : Bk w g (dfC 1 0 next oa on oc ba bn bc ta tn tc) 68) :
    Calls Tryd.prog 15 #[.pointer (some ⟨g, 0, none⟩)] w fun e w' => e = .returned (.pointer (some ⟨g, 3, none⟩)) ∧ w = w' := by
  have hS := fun f => ddo_done w g next oa on oc ba bn bc ta tn tc X f
  go_enter Tryd.func15, Tryd.ntmps15
  go_wp2_with (go_at_call 29; refine (hS _).mono ?_; rintro e w' ⟨rfl, rfl⟩)
  go_ret
  exact ⟨rfl, rfl⟩
end Go.Proofs.YtdmnjjknkcnkgaaDoor
namespace Go.Proofs.YtdmnjjknkcnkgaaDoor
open Go.RowKit
section
variable {α : Type} {E : Enc α} {w w' : World} {P : Program} {zero : α}
theorem run_append_none (t tx ty e : TypeId) (i : TypeInfo) (ht : P.underlying t = some (.slice e)) (hi : P.info? e = some i) (x : Value) (hs : Src P i.size tx x 0 [] w) :
    (Builtin.append_ #[t, tx] ty #[.slice none 0 0, x]).run P w = .ok (.slice none 0 0) w := by
  have h1 := hs.len
  have h2 := hs.cells
  rcases hs.kind with ⟨e', hk⟩ | hk <;> simp [Builtin.append_, run_underlying ht, run_underlying hk, sizeOf, typeInfo, hi, h1, h2]
theorem wpList_append_txtR {ops : Array Oper} {rest : List Oper} {o : Oper} {a : Act} {Q : Exit → Act → World → Prop} (hgd : o.guard = none) (s x : Operand) (t tx : TypeId)
    (ho : o.op = .call { callee := .builtin .append, args := #[s, x], argTypes := #[t, tx] }) (e : TypeId) (hB : RowTy E P t e zero) (B : Nat) (ao : Option Addr) (n c : Nat) (l : List α) (hsv : a.eval s = .slice ao n c) (h : TxtR E w e B ao n c l) (hBw : B ≤ w.heap.size)
    (X : Value) (hx : a.eval x = X) (m : Nat) (cs : List α) (hs : Src P E.sz tx X m (E.all cs) w) (hcl : cs.length = m) (hmax : n + m ≤ 1000000)
    (hK : ∀ ao' c' w', TxtR E w' e B ao' (n + m) c' (l ++ cs) → Below B w w' → wpList P ops Q rest (a.put o.dst (.slice ao' (n + m) c')) w') :
    wpList P ops Q (o :: rest) a w := by
  refine wpList_plain hgd fun K hK' => ?_
  rcases h.either with ⟨rfl, rfl, rfl, rfl⟩ | ⟨g, rfl, ow, hg⟩
  · by_cases hm : 0 < m
    · obtain ⟨cap', w', hr, h1, h2⟩ := run_append_nr (P := P) w t tx o.type e hB 0 rfl X m cs hs hcl hm (by omega)
      unfold Oper.wp execOp
      simp only [ho, resolve, invoke, builtin, Sem.run_bind, Sem.run_pure, Result.andThen_ok, List.map_toArray, List.map_cons, List.map_nil, hsv, hx, hr]
      have e0 : 0 + m = m := Nat.zero_add m
      have hh := hK (some ⟨w.heap.size, 0, none⟩) cap' w' ⟨.inr ⟨_, rfl, by rw [e0]; exact h1, hBw⟩⟩ (h2.mono hBw)
      rw [e0] at hh
      exact hK' _ _ hh
    · obtain rfl : m = 0 := by omega
      obtain rfl : cs = [] := List.eq_nil_of_length_eq_zero hcl
      obtain ⟨i, z, hi, hz, hsize, hzc, hby⟩ := hB.info
      have hr := run_append_none (P := P) t tx o.type e i hB.ht hi X (by rw [hsize]; exact hs)
      unfold Oper.wp execOp
      simp only [ho, resolve, invoke, builtin, Sem.run_bind, Sem.run_pure, Result.andThen_ok, List.map_toArray, List.map_cons, List.map_nil, hsv, hx, hr]
      exact hK' _ _ (hK none 0 w (TxtR.nil _ _ _) (Below.refl _ _))
  · obtain ⟨g', cap', w', hr, h1, h2, h3⟩ := run_append_or (P := P) w t tx o.type e hB g n c l ow X m cs hs hcl hmax
    unfold Oper.wp execOp
    simp only [ho, resolve, invoke, builtin, Sem.run_bind, Sem.run_pure, Result.andThen_ok, List.map_toArray, List.map_cons, List.map_nil, hsv, hx, hr]
    exact hK' _ _ (hK (some ⟨g', 0, none⟩) cap' w' ⟨.inr ⟨_, rfl, h1, by rcases h3 with rfl | h3; exact hg; exact Nat.le_trans hBw h3⟩⟩ (h2.below hg hBw))
/-- append of some noughts to nil: a new row with room. -/
theorem wpList_append_nil_zr {ops : Array Oper} {rest : List Oper} {o : Oper} {a : Act} {Q : Exit → Act → World → Prop} (hgd : o.guard = none) (s x : Operand) (t tn : TypeId)
    (ho : o.op = .call { callee := .builtin .append, args := #[s, x], argTypes := #[t, tn] }) (e : TypeId) (hB : RowTy E P t e zero) (kn kq : IntKind) (htn : P.underlying tn = some (.int kn)) (k : Nat) (hsv : a.eval s = .slice none 0 0) (hx : a.eval x = .int kq k) (h0 : 0 < k) (hk1 : k ≤ 1000000) (hz0 : 0 < E.sz)
    (hK : ∀ c w', k ≤ c → OwnR E w' e w.heap.size 0 c [] → Below w.heap.size w w' → wpList P ops Q rest (a.put o.dst (.slice (some ⟨w.heap.size, 0, none⟩) k c)) w') :
    wpList P ops Q (o :: rest) a w := by
  obtain ⟨i, z, hi, hz, hsize, hzc, hby⟩ := hB.info
  have hfit : Builtin.nextslicecap (0 + k) 0 * i.bytes ≤ 281474976710656 := growslice_fits (by omega) (Nat.le_trans (Nat.mul_le_mul (show 0 + k ≤ 1000000 by omega) hby) (by omega))
  have hr := Lib.run_append_grow_zeros (P := P) w t tn o.type e i z kq kn hB.ht htn hi hz none 0 0 [] (run_firstCells_none w.drew i.size 0 0 0) k h0 (by rw [hsize]; exact hz0) (by omega) (by omega) (Nat.le_trans (Nat.mul_le_mul hk1 hby) (by omega)) hfit
  simp only [Nat.zero_add] at hr
  have hge := grownCap_ge w k 0 e
  have hcm : grownCap w k 0 e ≤ maxLen := grownCap_le_maxLen w k 0 e (by simp only [maxLen]; omega)
  have hzl : z.cells.size = E.sz := by rw [← Array.length_toList, hzc, E.len]
  refine wpList_plain hgd fun K hK' => ?_
  unfold Oper.wp execOp
  simp only [ho, resolve, invoke, builtin, Sem.run_bind, Sem.run_pure, Result.andThen_ok, List.map_toArray, List.map_cons, List.map_nil, hsv, hx, hr]
  refine hK' _ _ (hK _ _ hge ⟨rfl, Nat.zero_le _, hcm, _, heap_alloc_new w.drew _, ?_, by simp [Enc.all]⟩ ((Below.refl _ _).drew.alloc (Nat.le_refl _) _))
  simp only [Array.size_append, List.size_toArray, size_zeroCells, List.length_nil, hzl]
  rw [Nat.zero_add, ← Nat.add_mul]
  congr 1
  omega
end
end Go.Proofs.YtdmnjjknkcnkgaaDoor
namespace Go.Proofs.YtdmnjjknkcnkgaaDoor
open Go.RowKit

section
variable {P : Program} {ops : Array Oper} {Q : Exit → Act → World → Prop} {md : Region.Mode} {I : Array Bool → Act → World → Prop}

/-- Each operation waits for earlier ones alone. -/
def backB (md : Region.Mode) (ops : Array Oper) : Bool :=
  (List.range ops.size).all fun j => ((ops[j]?).map (·.after.all fun e => !Region.binds md e || decide (e.on < j))).getD true
theorem backB_spec (h : backB md ops = true) (j : Nat) (o : Oper) (ho : ops[j]? = some o) (e : Edge) (he : e ∈ o.after) (hb : Region.binds md e = true) : e.on < j := by
  have hj : j < ops.size := (Array.getElem?_eq_some_iff.1 ho).1
  have h1 := List.all_eq_true.1 h j (List.mem_range.2 hj)
  rw [ho] at h1
  simp only [Option.map_some, Option.getD_some, Array.all_eq_true_iff_forall_mem] at h1
  have h2 := h1 e he
  simpa [hb] using h2
theorem listed_all {listed : Array Bool} (hb : backB md ops = true) (hs : listed.size = ops.size) (hr : Region.ready md ops listed = []) : ∀ j, j < ops.size → listed.getD j false = true := by
  intro j
  induction j using Nat.strongRecOn with
  | _ j ih =>
    intro hj
    cases hl : listed.getD j false with
    | true => rfl
    | false =>
      exfalso
      have hm : j ∈ Region.ready md ops listed := by
        refine mem_ready.2 ⟨?_, ops[j], Array.getElem?_eq_getElem hj, fun e he hbe => ?_⟩
        · simp [hs, hj] at hl ⊢
          exact hl
        · have h1 := backB_spec hb j _ (Array.getElem?_eq_getElem hj) e he hbe
          exact ih e.on h1 (by omega)
      rw [hr] at hm
      cases hm
theorem listed_rep {listed : Array Bool} {n : Nat} (hs : listed.size = n) (h : ∀ j, j < n → listed.getD j false = true) : listed = Array.replicate n true := by
  apply Array.ext
  · simp [hs]
  · intro i h1 h2
    have := h i (by omega)
    simp [h1] at this
    simp [this]
/-- How many have not come up. -/
def unl (listed : Array Bool) : Nat := listed.toList.countP (fun b => !b)
theorem countP_set : ∀ (l : List Bool) (i : Nat), l[i]? = some false → (l.set i true).countP (fun b => !b) + 1 = l.countP (fun b => !b)
  | [], i, h => by simp at h
  | b :: l, 0, h => by
    obtain rfl : b = false := by simpa using h
    simp
  | b :: l, i + 1, h => by
    have := countP_set l i (by simpa using h)
    simp only [List.set_cons_succ, List.countP_cons]
    omega
theorem unl_set {listed : Array Bool} {i : Nat} (h : listed.getD i true = false) : unl (listed.setIfInBounds i true) + 1 = unl listed := by
  unfold unl
  rw [Array.toList_setIfInBounds]
  refine countP_set _ _ ?_
  rcases Nat.lt_or_ge i listed.size with h' | h'
  · simp [h'] at h ⊢
    exact h
  · simp [Array.getElem?_eq_none h'] at h
/-- Operation number j carries I on. -/
def StepOK (P : Program) (md : Region.Mode) (ops : Array Oper) (Q : Exit → Act → World → Prop) (I : Array Bool → Act → World → Prop) (j : Nat) (o : Oper) : Prop :=
  ∀ listed a w, I listed a w → listed.getD j true = false → (∀ e ∈ o.after, Region.binds md e = true → listed.getD e.on false = true) →
    ∀ K : Act → World → Prop, Shut (∀ a w, I (listed.setIfInBounds j true) a w → K a w) → if Region.wanted o (yielded ops a.tmps) = true then Oper.wp P o a w K Q else K (a.put o.dst undef) w
def StepsOK (P : Program) (md : Region.Mode) (ops : Array Oper) (Q : Exit → Act → World → Prop) (I : Array Bool → Act → World → Prop) : Nat → List Oper → Prop
  | _, [] => True
  | j, o :: r => StepOK P md ops Q I j o ∧ StepsOK P md ops Q I (j + 1) r
theorem StepsOK.get : ∀ (l : List Oper) (j i : Nat) (o : Oper), StepsOK P md ops Q I j l → l[i]? = some o → StepOK P md ops Q I (j + i) o
  | [], _, _, _, _, h => by simp at h
  | _ :: _, _, 0, _, hs, h => by
    obtain rfl := by simpa using h
    exact hs.1
  | _ :: l, j, i + 1, o, hs, h => by
    have := StepsOK.get l (j + 1) i o hs.2 (by simpa using h)
    rwa [show j + (i + 1) = j + 1 + i by omega]
theorem wpAny_inv (hb : backB md ops = true) (hs : StepsOK P md ops Q I 0 ops.toList) (hd : ∀ a w, I (Array.replicate ops.size true) a w → Q .normal a w) :
    ∀ (fuel : Nat) (listed : Array Bool) (a : Act) (w : World), listed.size = ops.size → unl listed ≤ fuel → I listed a w → wpAny P md ops Q fuel listed a w := by
  have done : ∀ listed a w, listed.size = ops.size → I listed a w → Region.ready md ops listed = [] → Q .normal a w := fun listed a w hz hI hr => by
    have := listed_rep hz (listed_all hb hz hr)
    rw [this] at hI
    exact hd a w hI
  intro fuel
  induction fuel with
  | zero =>
    intro listed a w hz hu hI
    have hr : Region.ready md ops listed = [] := by
      cases hr : Region.ready md ops listed with
      | nil => rfl
      | cons x r =>
        exfalso
        have hm : x ∈ Region.ready md ops listed := by rw [hr]; simp
        have := unl_set (mem_ready.1 hm).1
        omega
    exact ⟨hr, done listed a w hz hI hr⟩
  | succ fuel ih =>
    intro listed a w hz hu hI
    refine ⟨done listed a w hz hI, fun i hi => ?_⟩
    obtain ⟨h0, o, ho, hall⟩ := mem_ready.1 hi
    have h1 : StepOK P md ops Q I i o := by
      have := StepsOK.get ops.toList 0 i o hs (by simpa using ho)
      rwa [Nat.zero_add] at this
    have hu2 := unl_set h0
    exact wpOp_step ho fun K hK => h1 listed a w hI h0 hall K (fun a' w' h' => hK a' w' (ih _ a' w' (by simp [hz]) (by omega) h'))
theorem unl_rep (n : Nat) : unl (Array.replicate n false) = n := by simp [unl, List.countP_replicate]
/-- THE LAW: the condition (of the frame and the world at the start) stands at the start, is carried on by each operation, and is enough at the end. -/
theorem region_inv (I : Act → World → Array Bool → Act → World → Prop) {id : Nat} {a : Act} {w : World} (hm : P.follows .mixedOrders = true) (hb : backB .any ops = true) (h0 : I a w.drew (Array.replicate ops.size false) a w.drew)
    (hs : StepsOK P .any ops Q (I a w.drew) 0 ops.toList) (hd : ∀ a' w', I a w.drew (Array.replicate ops.size true) a' w' → Q .normal a' w') : (Code.region id ops true).wp P Q a w :=
  wp_region_any hm (wpAny_inv hb hs hd ops.size _ a w.drew (by simp) (by rw [unl_rep]; exact Nat.le_refl _) h0)
end
end Go.Proofs.YtdmnjjknkcnkgaaDoor
