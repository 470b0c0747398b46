/-
 LedgerBlocks (by gen_lblocks.py).
-/
import Derived.Test.YtdmnjjknkcnkgaaGreatDoorMzD
namespace Go.Proofs.YtdmnjjknkcnkgaaGreatDoor
open List (setIfInBounds_toArray set_cons_zero set_cons_succ)
open Go.RowKit
set_option linter.unusedSimpArgs false
inductive LBl10 (B : Nat) (pa : Nat) (px : Nat) (gv : Nat) (gvo : Nat) (gx : Nat) (gxo : Nat) (jn : Nat) (bn : Nat) (bc : Nat) (bc2 : Nat) (BA : Array Value) (HA : Array Value) (TT : List UInt8) (a0 : Act) (w0 : World) (L : Array Bool) (a : Act) (w : World) : Prop
 | mk (b0 b1 b2 b3 b4 b5 b6 b7 b8 b9 b10 b11 b12 b13 : Bool) (x24 x25 x26 x27 x28 x29 x30 x31 x32 x33 x34 x35 x36 x37 : Value) (g1 : Nat) (c1 : Nat) (hL : L = #[b0,b1,b2,b3,b4,b5,b6,b7,b8,b9,b10,b11,b12,b13]) (ha : a = ⟨((((((((((((((a0.tmps.setIfInBounds 24 x24).setIfInBounds 25 x25).setIfInBounds 26 x26).setIfInBounds 27 x27).setIfInBounds 28 x28).setIfInBounds 29 x29).setIfInBounds 30 x30).setIfInBounds 31 x31).setIfInBounds 32 x32).setIfInBounds 33 x33).setIfInBounds 34 x34).setIfInBounds 35 x35).setIfInBounds 36 x36).setIfInBounds 37 x37),a0.defers⟩) (hb : Below B w0 w) (cd0 : Hid (b0 = true → x24 = .pointer (some ⟨pa,2,none⟩))) (cd1 : Hid (b1 = true → x25 = .slice (some ⟨gv,gvo,none⟩) bn bc2)) (cd2 : Hid (b2 = true → x26 = .int .i64 (jn : Nat))) (cd3 : Hid (b3 = true → x27 = .pointer (some ⟨gv,gvo + jn * 66,none⟩))) (cd4 : Hid (b4 = true → x28 = .agg BA)) (cd5 : Hid (b5 = true → x29 = .agg HA)) (cd6 : Hid (b6 = true → x30 = .pointer (some ⟨px,2,none⟩))) (cd7 : Hid (b7 = true → x31 = .slice (some ⟨gx,gxo,none⟩) bn bc)) (cd8 : Hid (b8 = true → x32 = .int .i64 (jn : Nat))) (cd9 : Hid (b9 = true → x33 = .pointer (some ⟨gx,gxo + jn * 66,none⟩))) (cd10 : Hid (b10 = true → x34 = .agg BA)) (cd11 : Hid (b11 = true → x35 = .slice (some ⟨g1,0,none⟩) 80 c1)) (cd12 : Hid (b12 = true → x36 = .agg HA)) (cd13 : Hid (b13 = true → x37 = .bool false)) (f_t : Hid (b11 = true → b12 = false → IsB w (some ⟨g1,0,none⟩) 80 c1 TT)) : LBl10 B pa px gv gvo gx gxo jn bn bc bc2 BA HA TT a0 w0 L a w
inductive LBl15 (B : Nat) (pa : Nat) (pg : Nat) (gv : Nat) (gvo : Nat) (bm : Nat) (bn : Nat) (bc2 : Nat) (BA : Array Value) (HA : Array Value) (a0 : Act) (w0 : World) (L : Array Bool) (a : Act) (w : World) : Prop
 | mk (b0 b1 b2 b3 b4 b5 b6 b7 b8 b9 b10 b11 b12 b13 b14 b15 b16 b17 b18 b19 b20 b21 b22 b23 b24 : Bool) (x54 x55 x56 x57 x58 x59 x60 x61 x62 x63 x64 x65 x66 x67 x68 x69 x70 x71 x72 x73 x74 x75 x76 x77 x2 : Value) (hL : L = #[b0,b1,b2,b3,b4,b5,b6,b7,b8,b9,b10,b11,b12,b13,b14,b15,b16,b17,b18,b19,b20,b21,b22,b23,b24]) (ha : a = ⟨(((((((((((((((((((((((((a0.tmps.setIfInBounds 54 x54).setIfInBounds 55 x55).setIfInBounds 56 x56).setIfInBounds 57 x57).setIfInBounds 58 x58).setIfInBounds 59 x59).setIfInBounds 60 x60).setIfInBounds 61 x61).setIfInBounds 62 x62).setIfInBounds 63 x63).setIfInBounds 64 x64).setIfInBounds 65 x65).setIfInBounds 66 x66).setIfInBounds 67 x67).setIfInBounds 68 x68).setIfInBounds 69 x69).setIfInBounds 70 x70).setIfInBounds 71 x71).setIfInBounds 72 x72).setIfInBounds 73 x73).setIfInBounds 74 x74).setIfInBounds 75 x75).setIfInBounds 76 x76).setIfInBounds 77 x77).setIfInBounds 2 x2),a0.defers⟩) (hb : Below B w0 w) (cd0 : Hid (b0 = true → x54 = .int .i64 0)) (cd1 : Hid (b1 = true → x55 = .bool true)) (cd2 : Hid (b2 = true → x56 = .bool true)) (cd3 : Hid (b3 = true → x57 = .pointer (some ⟨pg,0,none⟩))) (cd4 : Hid (b4 = true → x58 = .int .i64 (bn : Nat))) (cd5 : Hid (b5 = true → x59 = .pointer (some ⟨pa,2,none⟩))) (cd6 : Hid (b6 = true → x60 = .slice (some ⟨gv,gvo,none⟩) bn bc2)) (cd7 : Hid (b7 = true → x61 = .int .i64 (bn : Nat))) (cd8 : Hid (b8 = true → x62 = .bool true)) (cd9 : Hid (b9 = true → x63 = .bool true)) (cd10 : Hid (b10 = true → x64 = .bool true)) (cd11 : Hid (b11 = true → x65 = .pointer (some ⟨pg,1,none⟩))) (cd12 : Hid (b12 = true → x66 = .agg HA)) (cd13 : Hid (b13 = true → x67 = .pointer (some ⟨pa,2,none⟩))) (cd14 : Hid (b14 = true → x68 = .slice (some ⟨gv,gvo,none⟩) bn bc2)) (cd15 : Hid (b15 = true → x69 = .pointer (some ⟨pa,2,none⟩))) (cd16 : Hid (b16 = true → x70 = .slice (some ⟨gv,gvo,none⟩) bn bc2)) (cd17 : Hid (b17 = true → x71 = .int .i64 (bn : Nat))) (cd18 : Hid (b18 = true → x72 = .int .i64 (bm : Nat))) (cd19 : Hid (b19 = true → x73 = .pointer (some ⟨gv,gvo + bm * 66,none⟩))) (cd20 : Hid (b20 = true → x74 = .agg BA)) (cd21 : Hid (b21 = true → x75 = .agg HA)) (cd22 : Hid (b22 = true → x76 = .bool true)) (cd23 : Hid (b23 = true → x77 = .bool true)) (cd24 : Hid (b24 = true → x2 = .bool true)) : LBl15 B pa pg gv gvo bm bn bc2 BA HA a0 w0 L a w
def NumB (M : Lgr) : Prop := ∀ (i : Nat) (b : Blk), M.bl[i]? = some b → b.n = (i : Int) + 1
theorem NumB.cls {M : Lgr} (h : NumB M) : NumB (cls M) := by
 unfold Go.Proofs.YtdmnjjknkcnkgaaGreatDoor.cls
 split
 · exact h
 · intro i b hb
   have hb : (M.bl ++ [newB M])[i]? = some b := hb
   rw [List.getElem?_append] at hb
   split at hb
   · exact h i b hb
   · rename_i h1
     rw [List.getElem?_singleton] at hb
     split at hb
     · rename_i h2
       obtain rfl := Option.some.inj hb
       show ((M.bl.length : Nat) : Int) + 1 = (i : Int) + 1
       omega
     · cases hb
theorem NumB.add {M : Lgr} (h : NumB M) (c : List Chg) : NumB (addL M c) := by
 simp only [addL]
 split
 · exact NumB.cls (M := ⟨M.next + 1, M.op ++ [(M.next, c)], M.bl, M.ts⟩) h
 · exact h
theorem buildL_num (l : List Stp) : NumB (buildL l) := by
 have key : ∀ (m : List Stp) (M : Lgr), NumB M → NumB (m.foldl stepL M) := by
  intro m
  induction m with
  | nil => exact fun M h => h
  | cons s m ih =>
   intro M h
   rw [List.foldl_cons]
   refine ih _ ?_
   unfold stepL
   split
   · exact h.cls
   · exact h.add _
 exact key l _ (fun i b hb => by simp at hb)
theorem dgC_last {bl : List Blk} {bm : Nat} {b : Blk} (hb : bl[bm]? = some b) (hl : bl.length = bm + 1) : dgC bl = (Value.int .i64 b.n :: bcs (blkS b)).toArray := by
 have e : bl.getLast? = some b := by rw [List.getLast?_eq_getElem?, hl]; exact hb
 unfold dgC dgN hLast
 rw [e]
theorem wpList_load_cells_if {P : Program} {ops : Array Oper} {rest : List Oper} {o : Oper} {a : Act} {w : World} {Q : Exit → Act → World → Prop} (hgd : Region.wanted o (yielded ops a.tmps) = true) (ty : TypeId) (x : Operand) (ho : o.op = .load ty x)
 (p : Addr) (hx : a.eval x = .pointer (some p)) (l : List Value) (hc : ∀ j v,l[j]? = some v → w.cell? (p.add j) = some v) (hagg : ∀ w,(isAgg ty).run P w = .ok true w) (hi : (P.info? ty).map (·.size) = some l.length)
 (h : wpList P ops Q rest (a.put o.dst (.agg l.toArray)) w) : wpList P ops Q (o :: rest) a w :=
 wpList_step fun K hK => by
  rw [if_pos hgd]
  exact wp_load_cells ty x ho p hx l hc hagg hi (hK _ _ h)
theorem wpList_build_if {P : Program} {ops : Array Oper} {rest : List Oper} {o : Oper} {a : Act} {w : World} {Q : Exit → Act → World → Prop} (hgd : Region.wanted o (yielded ops a.tmps) = true) (t : TypeId) (parts : Array (Nat × Operand)) (ho : o.op = .build t parts) (V : Array Value)
 (hf : P.built t (parts.map fun (i, x) => (i, a.eval x)).toList = some V) (h : wpList P ops Q rest (a.put o.dst (.agg V)) w) : wpList P ops Q (o :: rest) a w :=
 wpList_step fun K hK => by
  rw [if_pos hgd]
  exact wp_build t parts ho (by rw [hf]; rfl) (by rw [hf]; exact hK _ _ h)
theorem dig_agg' (w : World) : (isAgg 55).run Tryz.prog w = .ok true w := by kernel_rfl
theorem equal_dig0 (w : World) : (Op.equalIn 10000 55 (.agg (dgC [])) (.agg (dgC []))).run Tryz.prog w = .ok true w := by kernel_rfl
set_option maxRecDepth 100000 in
set_option maxHeartbeats 4000000 in
theorem ledgerBlocks_walk (a0 : Option Addr) (n0 c0 : Nat) (l : List Stp) (w : World) (hC : RC w) (h : IsD DSt w (fun _ => True) a0 n0 c0 l) :
 Calls Tryz.prog 6 #[.slice a0 n0 c0] w fun e w' => e = .returned (.bool true) ∧ Below w.heap.size w w' := by
 have hln := h.len
 go_enter Tryz.func6, Tryz.ntmps6
 go_upto_region 3 with (go_at_call 13; refine (known14 w hC).mono ?_; rintro e w1 ⟨rfl, b1⟩)
 have HF := Lib.hid (few14_any w1 _ a0 n0 c0 l (h.past b1))
 go_upto_region 5 with (go_at_call 14; refine HF.out.mono ?_; rintro e w2 ⟨b, rfl, hb, b2⟩)
 · have B2 := b1.trans (b2.mono b1.size)
   go_ret
   exact ⟨rfl, B2⟩
 · have B2 := b1.trans (b2.mono b1.size)
   obtain ⟨hn, hok⟩ := hb (by simpa using ‹(!b) = false›)
   have HB0 := build_any w2 _ a0 n0 c0 l (h.past B2) hn hok
   obtain ⟨k, hk, hI⟩ := buildL_inv l hok
   have hNB := buildL_num l
   unfold BuiltIs at HB0
   obtain ⟨M, hM⟩ : ∃ M, buildL l = M := ⟨_, rfl⟩
   rw [hM] at HB0 hI hNB
   have HB := Lib.hid HB0
   have hnk := hI.next
   clear HB0 hM
   go_upto_region 6 with (go_at_call 38; refine HB.out.mono ?_; rintro e w3 ⟨v, rfl, oa, on, oc, ba, bn, bc, ta, tn, tc, rfl, L3, b3⟩; rw [hnk])
   have B3 := B2.trans (b3.mono B2.size)
   have BX : Below w3.heap.size w3 (w3.alloc (.cells #[.int .i64 (k : Int),.slice oa on oc,.slice ba bn bc,.slice ta tn tc] 32)) := (Below.refl _ _).alloc (Nat.le_refl _) _
   have X4 : Bk (w3.alloc (.cells #[.int .i64 (k : Int),.slice oa on oc,.slice ba bn bc,.slice ta tn tc] 32)) w3.heap.size #[.int .i64 (k : Int),.slice oa on oc,.slice ba bn bc,.slice ta tn tc] 32 := Bk.new w3 _ _
   have L4 := (L3.past BX).imp (Q' := fun _ => True) (fun _ _ _ => trivial)
   have B4 := B3.trans (BX.mono B3.size)
   obtain ⟨px, hpx⟩ : ∃ x, w3.heap.size = x := ⟨_, rfl⟩
   rw [hpx] at X4
   simp only [hpx]
   clear BX hpx b3 L3
   generalize w3.alloc (.cells #[.int .i64 (k : Int), .slice oa on oc, .slice ba bn bc, .slice ta tn tc] 32) = w4 at X4 L4 B4 ⊢
   have hbl := L4.bl.len
   have hbn : bn ≤ 40 := by have := hI.bl; omega
   have HO0 := of14_any w4 (fun _ => True) (fun _ _ => trivial) (k : Int) oa on oc ba bn bc ta tn tc M hnk L4 (by omega)
   unfold OfIs at HO0
   have HO := Lib.hid HO0
   clear HO0
   have px4 := X4.lt
   obtain ⟨c0,c1,c2,c3⟩ : w4.cell? ⟨px,0,none⟩ = some (.int .i64 (k : Int)) ∧ w4.cell? ⟨px,1,none⟩ = some (.slice oa on oc) ∧ w4.cell? ⟨px,2,none⟩ = some (.slice ba bn bc) ∧ w4.cell? ⟨px,3,none⟩ = some (.slice ta tn tc) := ⟨X4.c rfl,X4.c rfl,X4.c rfl,X4.c rfl⟩
   go_upto_region 7 with (go_at_call 27; refine HO.out.mono ?_; rintro e w5 ⟨v, rfl, oa2, on2, oc2, ba2, bn2, bc2, ta2, tn2, tc2, rfl, L5, b5⟩; rw [hnk])
   obtain rfl : bn2 = bn := by rw [← L5.bl.len]; exact hbl
   have hbl2 := L5.bl.flat
   obtain ⟨bn, rfl⟩ : ∃ x, x = bn2 := ⟨_, rfl⟩
   have BX : Below w5.heap.size w5 (w5.alloc (.cells #[.int .i64 (k : Int), .slice oa2 on2 oc2, .slice ba2 bn bc2, .slice ta2 tn2 tc2] 29)) := (Below.refl _ _).alloc (Nat.le_refl _) _
   have A6 : Bk (w5.alloc (.cells #[.int .i64 (k : Int),.slice oa2 on2 oc2,.slice ba2 bn bc2,.slice ta2 tn2 tc2] 29)) w5.heap.size #[.int .i64 (k : Int),.slice oa2 on2 oc2,.slice ba2 bn bc2,.slice ta2 tn2 tc2] 29 := Bk.new w5 _ _
   have bx5 := b5.trans (BX.mono b5.size)
   have X6 := X4.past bx5
   have hX6 := L4.bl.flat.past bx5
   have hA6 := hbl2.past BX
   have B6 := B4.trans (bx5.mono B4.size)
   obtain ⟨pa, hpa⟩ : ∃ x, w5.heap.size = x := ⟨_, rfl⟩
   rw [hpa] at A6
   simp only [hpa]
   clear BX hpa b5 bx5 L5 L4 X4 px4 c0 c1 c2 c3 hbl2 HO
   generalize w5.alloc (.cells #[.int .i64 (k : Int), .slice oa2 on2 oc2, .slice ba2 bn bc2, .slice ta2 tn2 tc2] 29) = W at A6 X6 hX6 hA6 B6 ⊢
   go_wp2_with fail
   go_loopw [5] (fun i wr => ∃ jn : Nat, jn ≤ bn ∧ i = .int .i64 (jn : Nat) ∧ Below W.heap.size W wr) (fun i _ => bn - (intOf i).toNat)
   case atStart => exact ⟨0, Nat.zero_le _, rfl, Below.refl _ _⟩
   case round =>
    obtain ⟨jn, hj, rfl, hB⟩ := hrel
    have X3 := X6.past hB
    have A3 := A6.past hB
    have hXr := hX6.past hB
    have hAr := hA6.past hB
    have hBw := B6.trans (hB.mono B6.size)
    have hCr : RC wr := hC.past hBw
    by_cases hlt : jn < bn
    · have hlti : (jn : Int) < (bn : Int) := by omega
      obtain ⟨b, hb⟩ : ∃ b, M.bl[jn]? = some b := ⟨M.bl[jn]'(by omega), List.getElem?_eq_getElem _⟩
      obtain ⟨gx, gxo, rfl, hgx, hcx⟩ := blk_in hXr hb
      obtain ⟨gv, gvo, rfl, hgv, hcv⟩ := blk_in hAr hb
      have hpa := A3.lt
      have hpx := X3.lt
      obtain ⟨c2, d2⟩ : wr.cell? ⟨pa, 2, none⟩ = some (.slice (some ⟨gv, gvo, none⟩) bn bc2) ∧ wr.cell? ⟨px, 2, none⟩ = some (.slice (some ⟨gx, gxo, none⟩) bn bc) := ⟨A3.c rfl, X3.c rfl⟩
      obtain ⟨r, hr⟩ : ∃ r, wr.heap.size = r := ⟨_, rfl⟩
      have HR := Lib.hid hr
      have hB0 : r ≤ wr.heap.size := Nat.le_of_eq hr.symm
      rw [hr] at hpa hpx hgx hgv
      have ca2 : wr.drew.cell? ⟨pa, 2, none⟩ = some (.slice (some ⟨gv, gvo, none⟩) bn bc2) := c2
      have cx2 : wr.drew.cell? ⟨px, 2, none⟩ = some (.slice (some ⟨gx, gxo, none⟩) bn bc) := d2
      have HW := fun (w' : World) (hb : Below r wr.drew w') => (show Below wr.heap.size wr w' by rw [HR.out]; exact (Below.refl _ _).drew.trans hb)
      have HHw0 := fun (w' : World) (hb : Below r wr.drew w') => lhash_any w' (hCr.past (HW w' hb)) b
      have HT00 := fun (w' : World) => blkText_any w' b
      have HS00 := fun (w' : World) (ao : Option Addr) (c0 : Nat) (hI : IsB w' ao 80 c0 (blkT b)) => rsum_any ao 80 c0 (blkT b) w' hI (by omega)
      have hLe : sha (blkT b) = blkS b := rfl
      have qH := equal_hash _ _ (blkS_len b) (blkS_len b)
      simp only [beq_self_eq_true] at qH
      obtain ⟨HA, hHA⟩ : ∃ x, (bcs (blkS b)).toArray = x := ⟨_, rfl⟩
      obtain ⟨TT, hTT⟩ : ∃ x, blkT b = x := ⟨_, rfl⟩
      obtain ⟨BA, hBA⟩ : ∃ x, b.cs.toArray = x := ⟨_, rfl⟩
      have HBS : Hid (BA.toList.length = 66) := Lib.hid (by rw [← hBA]; simp [Blk.cs_len])
      have hcb : b.cs = BA.toList := by rw [← hBA]
      rw [hcb] at hcx hcv
      simp only [hLe] at HS00
      simp only [hTT] at HS00 HT00
      simp only [hHA] at HHw0 HS00 qH
      simp only [hBA] at HHw0 HT00
      have HV : Hid (∀ (w' : World) (hb : Below r wr.drew w') (q : Nat) (v : Value),BA.toList[q]? = some v → w'.cell? ((⟨gv,gvo + jn * 66,none⟩ : Addr).add q) = some v) := Lib.hid fun w' hb q v hv => by
       have h9 := hcv q v hv
       rw [Addr.add_lit] at h9 ⊢
       exact (hb.cell hgv).trans h9
      have HX : Hid (∀ (w' : World) (hb : Below r wr.drew w') (q : Nat) (v : Value),BA.toList[q]? = some v → w'.cell? ((⟨gx,gxo + jn * 66,none⟩ : Addr).add q) = some v) := Lib.hid fun w' hb q v hv => by
       have h9 := hcx q v hv
       rw [Addr.add_lit] at h9 ⊢
       exact (hb.cell hgx).trans h9
      have HHw : ∀ (w' : World) (hb : Below r wr.drew w'), Calls Tryz.prog 36 #[.agg BA] w' fun e w2 => e = .returned (.agg HA) ∧ Below w'.heap.size w' w2 := HHw0
      have HT0 : ∀ (w' : World), Calls Tryz.prog 42 #[.agg BA] w' (Fresh w' 80 TT) := HT00
      have HS0 : ∀ (w' : World) (ao : Option Addr) (c0 : Nat) (hI : IsB w' ao 80 c0 TT),Calls Tryz.prog 41 #[.slice ao 80 c0] w' fun e w2 => e = .returned (.agg HA) ∧ Below w'.heap.size w' w2 := HS00
      clear HHw0 HT00 HS00 hLe hHA hTT hBA hcb hcx hcv hb hXr hAr X3 hr hNB hI hln hn hok hk hnk
      go_upto_region 10 with fail
      refine region_inv (LBl10 r pa px gv gvo gx gxo jn bn bc bc2 BA HA TT) (by kernel_rfl) (by kernel_rfl) ?_ ?_ ?_
      · exact ⟨false,false,false,false,false,false,false,false,false,false,false,false,false,false,u24,u25,u26,u27,u28,u29,u30,u31,u32,u33,u34,u35,u36,u37,0,0,rfl,(by go_simp),Below.refl _ _,nf2,nf2,nf2,nf2,nf2,nf2,nf2,nf2,nf2,nf2,nf2,nf2,nf2,nf2,nf2⟩
      · refine ⟨?_, ?_, ?_, ?_, ?_, ?_, ?_, ?_, ?_, ?_, ?_, ?_, ?_, ?_, trivial⟩
        all_goals rintro L a w ⟨b0,b1,b2,b3,b4,b5,b6,b7,b8,b9,b10,b11,b12,b13,x24,x25,x26,x27,x28,x29,x30,x31,x32,x33,x34,x35,x36,x37,g1,c1,rfl,rfl,hb,cd0,cd1,cd2,cd3,cd4,cd5,cd6,cd7,cd8,cd9,cd10,cd11,cd12,cd13,f_t⟩ hf hd
        · have hf' : b0 = false := hf
          subst hf'
          clear hf hd
          try simp only [setIfInBounds_toArray, set_cons_zero, set_cons_succ]
          intro K hK
          rw [if_pos (by rfl)]
          go_simp
          exact hK.out _ _ ⟨true,b1,b2,b3,b4,b5,b6,b7,b8,b9,b10,b11,b12,b13,(.pointer (some ⟨pa,2,none⟩)),x25,x26,x27,x28,x29,x30,x31,x32,x33,x34,x35,x36,x37,g1,c1,(by go_simp),(by go_simp),hb,(fun _ => rfl),cd1,cd2,cd3,cd4,cd5,cd6,cd7,cd8,cd9,cd10,cd11,cd12,cd13,f_t⟩
        · have hf' : b1 = false := hf
          subst hf'
          have d0 : b0 = true := hd ⟨0, .data⟩ (by simp) rfl
          subst d0
          obtain rfl := cd0.out rfl
          clear hf hd
          try simp only [setIfInBounds_toArray, set_cons_zero, set_cons_succ]
          have z0 := (hb.cell hpa).trans ca2
          intro K hK
          rw [if_pos (by rfl)]
          go_simp
          exact hK.out _ _ ⟨true,true,b2,b3,b4,b5,b6,b7,b8,b9,b10,b11,b12,b13,.pointer (some ⟨pa,2,none⟩),(.slice (some ⟨gv,gvo,none⟩) bn bc2),x26,x27,x28,x29,x30,x31,x32,x33,x34,x35,x36,x37,g1,c1,(by go_simp),(by go_simp),hb,rf,rf,cd2,cd3,cd4,cd5,cd6,cd7,cd8,cd9,cd10,cd11,cd12,cd13,f_t⟩
        · have hf' : b2 = false := hf
          subst hf'
          clear hf hd
          try simp only [setIfInBounds_toArray, set_cons_zero, set_cons_succ]
          intro K hK
          rw [if_pos (by rfl)]
          go_simp
          exact hK.out _ _ ⟨b0,b1,true,b3,b4,b5,b6,b7,b8,b9,b10,b11,b12,b13,x24,x25,(.int .i64 (jn : Nat)),x27,x28,x29,x30,x31,x32,x33,x34,x35,x36,x37,g1,c1,(by go_simp),(by go_simp),hb,cd0,cd1,(fun _ => rfl),cd3,cd4,cd5,cd6,cd7,cd8,cd9,cd10,cd11,cd12,cd13,f_t⟩
        · have hf' : b3 = false := hf
          subst hf'
          have d1 : b1 = true := hd ⟨1, .data⟩ (by simp) rfl
          subst d1
          have d2 : b2 = true := hd ⟨2, .data⟩ (by simp) rfl
          subst d2
          obtain rfl := cd1.out rfl
          obtain rfl := cd2.out rfl
          clear hf hd
          try simp only [setIfInBounds_toArray, set_cons_zero, set_cons_succ]
          intro K hK
          rw [if_pos (by rfl)]
          go_simp
          exact hK.out _ _ ⟨b0,true,true,true,b4,b5,b6,b7,b8,b9,b10,b11,b12,b13,x24,.slice (some ⟨gv,gvo,none⟩) bn bc2,.int .i64 (jn : Nat),(.pointer (some ⟨gv,gvo + jn * 66,none⟩)),x28,x29,x30,x31,x32,x33,x34,x35,x36,x37,g1,c1,(by go_simp),(by go_simp),hb,cd0,rf,rf,rf,cd4,cd5,cd6,cd7,cd8,cd9,cd10,cd11,cd12,cd13,f_t⟩
        · have hf' : b4 = false := hf
          subst hf'
          have d3 : b3 = true := hd ⟨3, .data⟩ (by simp) rfl
          subst d3
          obtain rfl := cd3.out rfl
          clear hf hd
          try simp only [setIfInBounds_toArray, set_cons_zero, set_cons_succ]
          intro K hK
          rw [if_pos (by rfl)]
          refine wp_load_cells 64 _ rfl ⟨gv, gvo + jn * 66, none⟩ rfl BA.toList (fun q v hv => HV.out w hb q v hv) dig_agg (by rw [blk_size, HBS.out]) ?_
          simp only [Array.toArray_toList]
          exact hK.out _ _ ⟨b0,b1,b2,true,true,b5,b6,b7,b8,b9,b10,b11,b12,b13,x24,x25,x26,.pointer (some ⟨gv,gvo + jn * 66,none⟩),(.agg BA),x29,x30,x31,x32,x33,x34,x35,x36,x37,g1,c1,(by go_simp),(by go_simp),hb,cd0,cd1,cd2,(fun _ => rfl),(fun _ => rfl),cd5,cd6,cd7,cd8,cd9,cd10,cd11,cd12,cd13,f_t⟩
        · have hf' : b5 = false := hf
          subst hf'
          have d4 : b4 = true := hd ⟨4, .data⟩ (by simp) rfl
          subst d4
          obtain rfl := cd4.out rfl
          clear hf hd
          try simp only [setIfInBounds_toArray, set_cons_zero, set_cons_succ]
          intro K hK
          rw [if_pos (by rfl)]
          go_simp
          go_at_call 36
          refine (HHw _ hb).mono ?_
          rintro e w' ⟨rfl, bx⟩
          exact hK.out _ _ ⟨b0,b1,b2,b3,true,true,b6,b7,b8,b9,b10,b11,b12,b13,x24,x25,x26,x27,.agg BA,(.agg HA),x30,x31,x32,x33,x34,x35,x36,x37,g1,c1,(by go_simp),(by go_simp),hb.trans (bx.mono (Nat.le_trans hB0 hb.size)),cd0,cd1,cd2,cd3,rf,rf,cd6,cd7,cd8,cd9,cd10,cd11,cd12,cd13,(fun h0 h1 => (f_t.out h0 h1).past bx)⟩
        · have hf' : b6 = false := hf
          subst hf'
          clear hf hd
          try simp only [setIfInBounds_toArray, set_cons_zero, set_cons_succ]
          intro K hK
          rw [if_pos (by rfl)]
          go_simp
          exact hK.out _ _ ⟨b0,b1,b2,b3,b4,b5,true,b7,b8,b9,b10,b11,b12,b13,x24,x25,x26,x27,x28,x29,(.pointer (some ⟨px,2,none⟩)),x31,x32,x33,x34,x35,x36,x37,g1,c1,(by go_simp),(by go_simp),hb,cd0,cd1,cd2,cd3,cd4,cd5,(fun _ => rfl),cd7,cd8,cd9,cd10,cd11,cd12,cd13,f_t⟩
        · have hf' : b7 = false := hf
          subst hf'
          have d6 : b6 = true := hd ⟨6, .data⟩ (by simp) rfl
          subst d6
          obtain rfl := cd6.out rfl
          clear hf hd
          try simp only [setIfInBounds_toArray, set_cons_zero, set_cons_succ]
          have z0 := (hb.cell hpx).trans cx2
          intro K hK
          rw [if_pos (by rfl)]
          go_simp
          exact hK.out _ _ ⟨b0,b1,b2,b3,b4,b5,true,true,b8,b9,b10,b11,b12,b13,x24,x25,x26,x27,x28,x29,.pointer (some ⟨px,2,none⟩),(.slice (some ⟨gx,gxo,none⟩) bn bc),x32,x33,x34,x35,x36,x37,g1,c1,(by go_simp),(by go_simp),hb,cd0,cd1,cd2,cd3,cd4,cd5,rf,rf,cd8,cd9,cd10,cd11,cd12,cd13,f_t⟩
        · have hf' : b8 = false := hf
          subst hf'
          clear hf hd
          try simp only [setIfInBounds_toArray, set_cons_zero, set_cons_succ]
          intro K hK
          rw [if_pos (by rfl)]
          go_simp
          exact hK.out _ _ ⟨b0,b1,b2,b3,b4,b5,b6,b7,true,b9,b10,b11,b12,b13,x24,x25,x26,x27,x28,x29,x30,x31,(.int .i64 (jn : Nat)),x33,x34,x35,x36,x37,g1,c1,(by go_simp),(by go_simp),hb,cd0,cd1,cd2,cd3,cd4,cd5,cd6,cd7,(fun _ => rfl),cd9,cd10,cd11,cd12,cd13,f_t⟩
        · have hf' : b9 = false := hf
          subst hf'
          have d7 : b7 = true := hd ⟨7, .data⟩ (by simp) rfl
          subst d7
          have d8 : b8 = true := hd ⟨8, .data⟩ (by simp) rfl
          subst d8
          obtain rfl := cd7.out rfl
          obtain rfl := cd8.out rfl
          clear hf hd
          try simp only [setIfInBounds_toArray, set_cons_zero, set_cons_succ]
          intro K hK
          rw [if_pos (by rfl)]
          go_simp
          exact hK.out _ _ ⟨b0,b1,b2,b3,b4,b5,b6,true,true,true,b10,b11,b12,b13,x24,x25,x26,x27,x28,x29,x30,.slice (some ⟨gx,gxo,none⟩) bn bc,.int .i64 (jn : Nat),(.pointer (some ⟨gx,gxo + jn * 66,none⟩)),x34,x35,x36,x37,g1,c1,(by go_simp),(by go_simp),hb,cd0,cd1,cd2,cd3,cd4,cd5,cd6,rf,rf,rf,cd10,cd11,cd12,cd13,f_t⟩
        · have hf' : b10 = false := hf
          subst hf'
          have d9 : b9 = true := hd ⟨9, .data⟩ (by simp) rfl
          subst d9
          obtain rfl := cd9.out rfl
          clear hf hd
          try simp only [setIfInBounds_toArray, set_cons_zero, set_cons_succ]
          intro K hK
          rw [if_pos (by rfl)]
          refine wp_load_cells 73 _ rfl ⟨gx, gxo + jn * 66, none⟩ rfl BA.toList (fun q v hv => HX.out w hb q v hv) rblk_agg (by rw [rblk_size, HBS.out]) ?_
          simp only [Array.toArray_toList]
          exact hK.out _ _ ⟨b0,b1,b2,b3,b4,b5,b6,b7,b8,true,true,b11,b12,b13,x24,x25,x26,x27,x28,x29,x30,x31,x32,.pointer (some ⟨gx,gxo + jn * 66,none⟩),(.agg BA),x35,x36,x37,g1,c1,(by go_simp),(by go_simp),hb,cd0,cd1,cd2,cd3,cd4,cd5,cd6,cd7,cd8,(fun _ => rfl),(fun _ => rfl),cd11,cd12,cd13,f_t⟩
        · have hf' : b11 = false := hf
          subst hf'
          have d10 : b10 = true := hd ⟨10, .data⟩ (by simp) rfl
          subst d10
          have d5 : b5 = true := hd ⟨5, .chain⟩ (by simp) rfl
          subst d5
          obtain rfl := cd10.out rfl
          obtain rfl := cd5.out rfl
          clear hf hd
          try simp only [setIfInBounds_toArray, set_cons_zero, set_cons_succ]
          intro K hK
          rw [if_pos (by rfl)]
          go_simp
          go_at_call 42
          refine (HT0 _).mono ?_
          rintro e w' ⟨g, c, rfl, o9, bx, _⟩
          exact hK.out _ _ ⟨b0,b1,b2,b3,b4,true,b6,b7,b8,b9,true,true,b12,b13,x24,x25,x26,x27,x28,.agg HA,x30,x31,x32,x33,.agg BA,(.slice (some ⟨g,0,none⟩) 80 c),x36,x37,g,c,(by go_simp),(by go_simp),hb.trans (bx.mono (Nat.le_trans hB0 hb.size)),cd0,cd1,cd2,cd3,cd4,rf,cd6,cd7,cd8,cd9,rf,rf,cd12,cd13,(fun _ _ => o9.isB)⟩
        · have hf' : b12 = false := hf
          subst hf'
          have d11 : b11 = true := hd ⟨11, .data⟩ (by simp) rfl
          subst d11
          obtain rfl := cd11.out rfl
          clear hf hd
          have W_t := f_t.out rfl rfl
          try simp only [setIfInBounds_toArray, set_cons_zero, set_cons_succ]
          intro K hK
          rw [if_pos (by rfl)]
          go_simp
          go_at_call 41
          refine (HS0 _ _ _ W_t).mono ?_
          rintro e w' ⟨rfl, bx⟩
          exact hK.out _ _ ⟨b0,b1,b2,b3,b4,b5,b6,b7,b8,b9,b10,true,true,b13,x24,x25,x26,x27,x28,x29,x30,x31,x32,x33,x34,.slice (some ⟨g1,0,none⟩) 80 c1,(.agg HA),x37,g1,c1,(by go_simp),(by go_simp),hb.trans (bx.mono (Nat.le_trans hB0 hb.size)),cd0,cd1,cd2,cd3,cd4,cd5,cd6,cd7,cd8,cd9,cd10,rf,rf,cd13,(fun _ h => by cases h)⟩
        · have hf' : b13 = false := hf
          subst hf'
          have d5 : b5 = true := hd ⟨5, .data⟩ (by simp) rfl
          subst d5
          have d12 : b12 = true := hd ⟨12, .data⟩ (by simp) rfl
          subst d12
          obtain rfl := cd5.out rfl
          obtain rfl := cd12.out rfl
          clear hf hd
          try simp only [setIfInBounds_toArray, set_cons_zero, set_cons_succ]
          intro K hK
          rw [if_pos (by rfl)]
          go_simp
          exact hK.out _ _ ⟨b0,b1,b2,b3,b4,true,b6,b7,b8,b9,b10,b11,true,true,x24,x25,x26,x27,x28,.agg HA,x30,x31,x32,x33,x34,x35,.agg HA,(.bool false),g1,c1,(by go_simp),(by go_simp),hb,cd0,cd1,cd2,cd3,cd4,rf,cd6,cd7,cd8,cd9,cd10,cd11,rf,rf,(fun _ h => by cases h)⟩
      · rintro act V ⟨b0,b1,b2,b3,b4,b5,b6,b7,b8,b9,b10,b11,b12,b13,x24,x25,x26,x27,x28,x29,x30,x31,x32,x33,x34,x35,x36,x37,g1,c1,hL,rfl,hb,cd0,cd1,cd2,cd3,cd4,cd5,cd6,cd7,cd8,cd9,cd10,cd11,cd12,cd13,f_t⟩
        have hL' : [true, true, true, true, true, true, true, true, true, true, true, true, true, true] = [b0, b1, b2, b3, b4, b5, b6, b7, b8, b9, b10, b11, b12, b13] := congrArg Array.toList hL
        simp only [List.cons.injEq, and_true] at hL'
        obtain ⟨rfl, rfl, rfl, rfl, rfl, rfl, rfl, rfl, rfl, rfl, rfl, rfl, rfl, rfl⟩ := hL'
        obtain rfl := cd0.out rfl
        obtain rfl := cd1.out rfl
        obtain rfl := cd2.out rfl
        obtain rfl := cd3.out rfl
        obtain rfl := cd4.out rfl
        obtain rfl := cd5.out rfl
        obtain rfl := cd6.out rfl
        obtain rfl := cd7.out rfl
        obtain rfl := cd8.out rfl
        obtain rfl := cd9.out rfl
        obtain rfl := cd10.out rfl
        obtain rfl := cd11.out rfl
        obtain rfl := cd12.out rfl
        obtain rfl := cd13.out rfl
        clear hL f_t cd0 cd1 cd2 cd3 cd4 cd5 cd6 cd7 cd8 cd9 cd10 cd11 cd12 cd13
        simp only [setIfInBounds_toArray, set_cons_zero, set_cons_succ]
        have BV : Below wr.heap.size wr V := by rw [HR.out]; exact (Below.refl _ _).drew.trans hb
        clear hb
        go_wp2_with fail
        go_roundw
        case rel => exact ⟨jn + 1, by omega, by go_num, hB.trans (BV.mono hB.size)⟩
        case measure => simp [intOf]; omega
    · have hlti : ¬ (jn : Int) < (bn : Int) := by omega
      have hD := digest_any wr hCr (k : Int) oa2 on2 oc2 ba2 bn bc2 ta2 tn2 tc2 M.bl hAr (by omega)
      obtain ⟨DA, hDA⟩ : ∃ d, dgC M.bl = d := ⟨_, rfl⟩
      rw [hDA] at hD
      by_cases hz : bn = 0
      · subst hz
        have hnil : M.bl = [] := List.length_eq_zero_iff.1 hbl
        rw [hnil] at hDA
        have HD : Hid (Calls Tryz.prog 23 #[.agg #[.int .i64 (k : Int),.slice oa2 on2 oc2,.slice ba2 0 bc2,.slice ta2 tn2 tc2]] wr fun e w' => e = .returned (.tuple #[.agg DA,.int .i64 2]) ∧ Below wr.heap.size wr w') := Lib.hid hD
        clear hD
        obtain ⟨c0,c1,c2,c3⟩ : wr.cell? ⟨pa,0,none⟩ = some (.int .i64 (k : Int)) ∧ wr.cell? ⟨pa,1,none⟩ = some (.slice oa2 on2 oc2) ∧ wr.cell? ⟨pa,2,none⟩ = some (.slice ba2 0 bc2) ∧ wr.cell? ⟨pa,3,none⟩ = some (.slice ta2 tn2 tc2) := ⟨A3.c rfl,A3.c rfl,A3.c rfl,A3.c rfl⟩
        have HD2 : Hid (DA.size = 33) := Lib.hid (by rw [← hDA]; exact dgC_len _)
        have HD3 : Hid (DA.all (·.oneCell') = true) := Lib.hid (by rw [← hDA]; exact dgC_one _)
        have HST : ∀ w' : World,Sem.run Tryz.prog (storeCells ⟨w'.heap.size,0,none⟩ DA.toList) (w'.alloc (.cells #[.int .i64 0,.int .u8 0,.int .u8 0,.int .u8 0,.int .u8 0,.int .u8 0,.int .u8 0,.int .u8 0,.int .u8 0,.int .u8 0,.int .u8 0,.int .u8 0,.int .u8 0,.int .u8 0,.int .u8 0,.int .u8 0,.int .u8 0,.int .u8 0,.int .u8 0,.int .u8 0,.int .u8 0,.int .u8 0,.int .u8 0,.int .u8 0,.int .u8 0,.int .u8 0,.int .u8 0,.int .u8 0,.int .u8 0,.int .u8 0,.int .u8 0,.int .u8 0,.int .u8 0] 55)) = .ok () (w'.alloc (.cells DA 55)) := fun w' => run_storeCells_new w' 55 #[.int .i64 0,.int .u8 0,.int .u8 0,.int .u8 0,.int .u8 0,.int .u8 0,.int .u8 0,.int .u8 0,.int .u8 0,.int .u8 0,.int .u8 0,.int .u8 0,.int .u8 0,.int .u8 0,.int .u8 0,.int .u8 0,.int .u8 0,.int .u8 0,.int .u8 0,.int .u8 0,.int .u8 0,.int .u8 0,.int .u8 0,.int .u8 0,.int .u8 0,.int .u8 0,.int .u8 0,.int .u8 0,.int .u8 0,.int .u8 0,.int .u8 0,.int .u8 0,.int .u8 0] DA (by rw [HD2.out]; exact dig_size) (by rw [HD2.out]; rfl) HD3.out
        go_upto_region 13 with (go_at_call 23; refine HD.out.mono ?_; rintro e w7 ⟨rfl, b7⟩)
        have A8 := (A3.past b7).alloc (.cells DA 55)
        have N8 := Bk.new w7 DA 55
        have B8 : Below w.heap.size w (w7.alloc (.cells DA 55)) := (hBw.trans (b7.mono hBw.size)).alloc (by have := b7.size; have := hBw.size; omega) _
        have B8r : Below wr.heap.size wr (w7.alloc (.cells DA 55)) := b7.alloc b7.size _
        obtain ⟨pg, hpg⟩ : ∃ x, w7.heap.size = x := ⟨_, rfl⟩
        rw [hpg] at N8
        simp only [hpg]
        clear HST hpg c0 c1 c2 c3 b7
        generalize w7.alloc (.cells DA 55) = w8 at A8 N8 B8 B8r ⊢
        have e2 : w8.cell? ⟨pa, 2, none⟩ = some (.slice ba2 0 bc2) := A8.c rfl
        have hqD : ∀ w : World, (Op.equalIn 10000 55 (.agg DA) (.agg DA)).run Tryz.prog w = .ok true w := by rw [← hDA]; exact equal_dig0
        have hbd : Tryz.prog.built 55 [] = some DA := by rw [← hDA]; exact built_dig0
        have HBD := Lib.hid hbd
        have HCL : Hid (∀ q v, DA.toList[q]? = some v → w8.cell? ((⟨pg, 0, none⟩ : Addr).add q) = some v) := Lib.hid fun q v hv => by rw [Addr.add_lit, Nat.zero_add]; exact N8.c (by simpa using hv)
        have HDL : Hid (DA.toList.length = 33) := Lib.hid (by rw [Array.length_toList, HD2.out])
        clear hbd hDA
        go_wp2_with (first
         | ((with_reducible refine wpList_load_cells_if ?_ 55 _ rfl ⟨pg,0,none⟩ ?_ DA.toList HCL.out dig_agg' ?_ ?_); (rfl); (rfl); (rw [dig_size,HDL.out]); (simp only [Array.toArray_toList]))
         | ((with_reducible refine wpList_build_if ?_ 55 _ rfl DA ?_ ?_); (rfl); (first | exact HBD.out | (simp only [List.map_toArray,List.map_nil]; exact HBD.out) | (simp; exact HBD.out))))
        go_ret
        exact ⟨rfl, B8⟩
      · obtain ⟨bm, hbm⟩ : ∃ m, bn = m + 1 := ⟨bn - 1, by omega⟩
        rw [if_neg hz] at hD
        obtain ⟨b, hb⟩ : ∃ b, M.bl[bm]? = some b := ⟨M.bl[bm]'(by omega), List.getElem?_eq_getElem _⟩
        have hnb := hNB bm b hb
        have hDL := dgC_last hb (by omega)
        rw [hDA] at hDL
        have HD := Lib.hid hD
        have HDL := Lib.hid hDL
        have HNB := Lib.hid hnb
        have HBM := Lib.hid hbm
        clear hD hDL hnb hbm
        obtain ⟨c0,c1,c2,c3⟩ : wr.cell? ⟨pa,0,none⟩ = some (.int .i64 (k : Int)) ∧ wr.cell? ⟨pa,1,none⟩ = some (.slice oa2 on2 oc2) ∧ wr.cell? ⟨pa,2,none⟩ = some (.slice ba2 bn bc2) ∧ wr.cell? ⟨pa,3,none⟩ = some (.slice ta2 tn2 tc2) := ⟨A3.c rfl,A3.c rfl,A3.c rfl,A3.c rfl⟩
        have HD2 : Hid (DA.size = 33) := Lib.hid (by rw [← hDA]; exact dgC_len _)
        have HD3 : Hid (DA.all (·.oneCell') = true) := Lib.hid (by rw [← hDA]; exact dgC_one _)
        have HST : ∀ w' : World,Sem.run Tryz.prog (storeCells ⟨w'.heap.size,0,none⟩ DA.toList) (w'.alloc (.cells #[.int .i64 0,.int .u8 0,.int .u8 0,.int .u8 0,.int .u8 0,.int .u8 0,.int .u8 0,.int .u8 0,.int .u8 0,.int .u8 0,.int .u8 0,.int .u8 0,.int .u8 0,.int .u8 0,.int .u8 0,.int .u8 0,.int .u8 0,.int .u8 0,.int .u8 0,.int .u8 0,.int .u8 0,.int .u8 0,.int .u8 0,.int .u8 0,.int .u8 0,.int .u8 0,.int .u8 0,.int .u8 0,.int .u8 0,.int .u8 0,.int .u8 0,.int .u8 0,.int .u8 0] 55)) = .ok () (w'.alloc (.cells DA 55)) := fun w' => run_storeCells_new w' 55 #[.int .i64 0,.int .u8 0,.int .u8 0,.int .u8 0,.int .u8 0,.int .u8 0,.int .u8 0,.int .u8 0,.int .u8 0,.int .u8 0,.int .u8 0,.int .u8 0,.int .u8 0,.int .u8 0,.int .u8 0,.int .u8 0,.int .u8 0,.int .u8 0,.int .u8 0,.int .u8 0,.int .u8 0,.int .u8 0,.int .u8 0,.int .u8 0,.int .u8 0,.int .u8 0,.int .u8 0,.int .u8 0,.int .u8 0,.int .u8 0,.int .u8 0,.int .u8 0,.int .u8 0] DA (by rw [HD2.out]; exact dig_size) (by rw [HD2.out]; rfl) HD3.out
        go_upto_region 13 with (go_at_call 23; refine HD.out.mono ?_; rintro e w7 ⟨rfl, b7⟩)
        have A8 := (A3.past b7).alloc (.cells DA 55)
        have N8 := Bk.new w7 DA 55
        have B8 : Below w.heap.size w (w7.alloc (.cells DA 55)) := (hBw.trans (b7.mono hBw.size)).alloc (by have := b7.size; have := hBw.size; omega) _
        have B8r : Below wr.heap.size wr (w7.alloc (.cells DA 55)) := b7.alloc b7.size _
        obtain ⟨pg, hpg⟩ : ∃ x, w7.heap.size = x := ⟨_, rfl⟩
        rw [hpg] at N8
        simp only [hpg]
        clear HST hpg c0 c1 c2 c3 b7
        generalize w7.alloc (.cells DA 55) = w8 at A8 N8 B8 B8r ⊢
        have e2 : w8.cell? ⟨pa, 2, none⟩ = some (.slice ba2 bn bc2) := A8.c rfl
        have hDL := HDL.out
        have hnb := HNB.out
        have hbm := HBM.out
        have hA8 := hAr.past B8r
        obtain ⟨gv, gvo, rfl, hgv, hcv⟩ := blk_in hA8 hb
        have hbz : ((bn : Int) == 0) = false := by simp; omega
        try simp only [hbz]
        have hpa := A8.lt
        have hpg := N8.lt
        obtain ⟨r, hr⟩ : ∃ r, w8.heap.size = r := ⟨_, rfl⟩
        have HR := Lib.hid hr
        have hB0 : r ≤ w8.heap.size := Nat.le_of_eq hr.symm
        rw [hr] at hpa hpg hgv
        have ca2 : w8.drew.cell? ⟨pa, 2, none⟩ = some (.slice (some ⟨gv, gvo, none⟩) bn bc2) := e2
        have cg0 : w8.drew.cell? ⟨pg, 0, none⟩ = some (.int .i64 (bn : Nat)) := by
         have h9 : w8.cell? ⟨pg, 0, none⟩ = some (.int .i64 b.n) := N8.c (by rw [hDL]; rfl)
         rw [hnb, show ((bm : Int) + 1) = (bn : Nat) by omega] at h9
         exact h9
        have HW := fun (w' : World) (hb : Below r w8.drew w') => (show Below w8.heap.size w8 w' by rw [HR.out]; exact (Below.refl _ _).drew.trans hb)
        have hC8 : RC w8 := hC.past B8
        have HHw0 := fun (w' : World) (hb : Below r w8.drew w') => lhash_any w' (hC8.past (HW w' hb)) b
        have qH := equal_hash _ _ (blkS_len b) (blkS_len b)
        simp only [beq_self_eq_true] at qH
        have HSB : Hid (IntKind.i64.wrap ((bn : Int) - 1) = (bm : Nat)) := Lib.hid (by rw [IntWalk.i64_in _ (by omega)]; omega)
        have hbml : (bm : Int) < (bn : Int) := by omega
        clear hbm
        obtain ⟨HA, hHA⟩ : ∃ x, (bcs (blkS b)).toArray = x := ⟨_, rfl⟩
        obtain ⟨BA, hBA⟩ : ∃ x, b.cs.toArray = x := ⟨_, rfl⟩
        have HBS : Hid (BA.toList.length = 66) := Lib.hid (by rw [← hBA]; simp [Blk.cs_len])
        have HAS : Hid (HA.toList.length = 32) := Lib.hid (by rw [← hHA]; simp [bcs_length, blkS_len])
        have hcg : ∀ (q : Nat) (v : Value), HA.toList[q]? = some v → w8.cell? ((⟨pg, 1, none⟩ : Addr).add q) = some v := fun q v hv => by
         rw [Addr.add_lit]
         refine N8.c ?_
         rw [hDL, Nat.add_comm]
         rw [← hHA] at hv
         simpa using hv
        have hcb : b.cs = BA.toList := by rw [← hBA]
        rw [hcb] at hcv
        simp only [hHA] at HHw0 qH
        simp only [hBA] at HHw0
        have HV : Hid (∀ (w' : World) (hb : Below r w8.drew w') (q : Nat) (v : Value),BA.toList[q]? = some v → w'.cell? ((⟨gv,gvo + bm * 66,none⟩ : Addr).add q) = some v) := Lib.hid fun w' hb q v hv => by
         have h9 := hcv q v hv
         rw [Addr.add_lit] at h9 ⊢
         exact (hb.cell hgv).trans h9
        have HG1 : Hid (∀ (w' : World) (hb : Below r w8.drew w') (q : Nat) (v : Value), HA.toList[q]? = some v → w'.cell? ((⟨pg, 1, none⟩ : Addr).add q) = some v) := Lib.hid fun w' hb q v hv => by
         have h9 := hcg q v hv
         rw [Addr.add_lit] at h9 ⊢
         exact (hb.cell hpg).trans h9
        have HHw : ∀ (w' : World) (hb : Below r w8.drew w'), Calls Tryz.prog 36 #[.agg BA] w' fun e w2 => e = .returned (.agg HA) ∧ Below w'.heap.size w' w2 := HHw0
        clear HHw0 hHA hBA hcb hcg hcv hb hXr hAr X3 hr hNB hI hln hn hok hk hnk hDL hDA hA8 hnb HD
        go_upto_region 15 with fail
        refine region_inv (LBl15 r pa pg gv gvo bm bn bc2 BA HA) (by kernel_rfl) (by kernel_rfl) ?_ ?_ ?_
        · exact ⟨false,false,false,false,false,false,false,false,false,false,false,false,false,false,false,false,false,false,false,false,false,false,false,false,false,undef,undef,undef,undef,undef,undef,undef,undef,undef,undef,undef,undef,undef,undef,undef,undef,undef,undef,undef,undef,undef,undef,undef,undef,u2,rfl,(by go_simp),Below.refl _ _,nf2,nf2,nf2,nf2,nf2,nf2,nf2,nf2,nf2,nf2,nf2,nf2,nf2,nf2,nf2,nf2,nf2,nf2,nf2,nf2,nf2,nf2,nf2,nf2,nf2⟩
        · refine ⟨?_, ?_, ?_, ?_, ?_, ?_, ?_, ?_, ?_, ?_, ?_, ?_, ?_, ?_, ?_, ?_, ?_, ?_, ?_, ?_, ?_, ?_, ?_, ?_, ?_, trivial⟩
          all_goals rintro L a w ⟨b0,b1,b2,b3,b4,b5,b6,b7,b8,b9,b10,b11,b12,b13,b14,b15,b16,b17,b18,b19,b20,b21,b22,b23,b24,x54,x55,x56,x57,x58,x59,x60,x61,x62,x63,x64,x65,x66,x67,x68,x69,x70,x71,x72,x73,x74,x75,x76,x77,x2,rfl,rfl,hb,cd0,cd1,cd2,cd3,cd4,cd5,cd6,cd7,cd8,cd9,cd10,cd11,cd12,cd13,cd14,cd15,cd16,cd17,cd18,cd19,cd20,cd21,cd22,cd23,cd24⟩ hf hd
          · have hf' : b0 = false := hf
            subst hf'
            clear hf hd
            try simp only [setIfInBounds_toArray, set_cons_zero, set_cons_succ]
            intro K hK
            rw [if_pos (by rfl)]
            go_simp
            exact hK.out _ _ ⟨true,b1,b2,b3,b4,b5,b6,b7,b8,b9,b10,b11,b12,b13,b14,b15,b16,b17,b18,b19,b20,b21,b22,b23,b24,(.int .i64 0),x55,x56,x57,x58,x59,x60,x61,x62,x63,x64,x65,x66,x67,x68,x69,x70,x71,x72,x73,x74,x75,x76,x77,x2,(by go_simp),(by go_simp),hb,rf,cd1,cd2,cd3,cd4,cd5,cd6,cd7,cd8,cd9,cd10,cd11,cd12,cd13,cd14,cd15,cd16,cd17,cd18,cd19,cd20,cd21,cd22,cd23,cd24⟩
          · have hf' : b1 = false := hf
            subst hf'
            have d0 : b0 = true := hd ⟨0, .data⟩ (by simp) rfl
            subst d0
            obtain rfl := cd0.out rfl
            clear hf hd
            try simp only [setIfInBounds_toArray, set_cons_zero, set_cons_succ]
            intro K hK
            rw [if_pos (by rfl)]
            go_simp
            exact hK.out _ _ ⟨true,true,b2,b3,b4,b5,b6,b7,b8,b9,b10,b11,b12,b13,b14,b15,b16,b17,b18,b19,b20,b21,b22,b23,b24,.int .i64 0,(.bool true),x56,x57,x58,x59,x60,x61,x62,x63,x64,x65,x66,x67,x68,x69,x70,x71,x72,x73,x74,x75,x76,x77,x2,(by go_simp),(by go_simp),hb,rf,rf,cd2,cd3,cd4,cd5,cd6,cd7,cd8,cd9,cd10,cd11,cd12,cd13,cd14,cd15,cd16,cd17,cd18,cd19,cd20,cd21,cd22,cd23,cd24⟩
          · have hf' : b2 = false := hf
            subst hf'
            have d1 : b1 = true := hd ⟨1, .data⟩ (by simp) rfl
            subst d1
            obtain rfl := cd1.out rfl
            clear hf hd
            try simp only [setIfInBounds_toArray, set_cons_zero, set_cons_succ]
            intro K hK
            rw [if_pos (by rfl)]
            go_simp
            exact hK.out _ _ ⟨b0,true,true,b3,b4,b5,b6,b7,b8,b9,b10,b11,b12,b13,b14,b15,b16,b17,b18,b19,b20,b21,b22,b23,b24,x54,.bool true,(.bool true),x57,x58,x59,x60,x61,x62,x63,x64,x65,x66,x67,x68,x69,x70,x71,x72,x73,x74,x75,x76,x77,x2,(by go_simp),(by go_simp),hb,cd0,rf,rf,cd3,cd4,cd5,cd6,cd7,cd8,cd9,cd10,cd11,cd12,cd13,cd14,cd15,cd16,cd17,cd18,cd19,cd20,cd21,cd22,cd23,cd24⟩
          · have hf' : b3 = false := hf
            subst hf'
            have d2 : b2 = true := hd ⟨2, .guard⟩ (by simp) rfl
            subst d2
            obtain rfl := cd2.out rfl
            clear hf hd
            try simp only [setIfInBounds_toArray, set_cons_zero, set_cons_succ]
            intro K hK
            rw [if_pos (by rfl)]
            go_simp
            exact hK.out _ _ ⟨b0,b1,true,true,b4,b5,b6,b7,b8,b9,b10,b11,b12,b13,b14,b15,b16,b17,b18,b19,b20,b21,b22,b23,b24,x54,x55,.bool true,(.pointer (some ⟨pg,0,none⟩)),x58,x59,x60,x61,x62,x63,x64,x65,x66,x67,x68,x69,x70,x71,x72,x73,x74,x75,x76,x77,x2,(by go_simp),(by go_simp),hb,cd0,cd1,rf,rf,cd4,cd5,cd6,cd7,cd8,cd9,cd10,cd11,cd12,cd13,cd14,cd15,cd16,cd17,cd18,cd19,cd20,cd21,cd22,cd23,cd24⟩
          · have hf' : b4 = false := hf
            subst hf'
            have d3 : b3 = true := hd ⟨3, .data⟩ (by simp) rfl
            subst d3
            have d2 : b2 = true := hd ⟨2, .guard⟩ (by simp) rfl
            subst d2
            obtain rfl := cd3.out rfl
            obtain rfl := cd2.out rfl
            clear hf hd
            try simp only [setIfInBounds_toArray, set_cons_zero, set_cons_succ]
            have z0 := (hb.cell hpg).trans cg0
            intro K hK
            rw [if_pos (by rfl)]
            go_simp
            exact hK.out _ _ ⟨b0,b1,true,true,true,b5,b6,b7,b8,b9,b10,b11,b12,b13,b14,b15,b16,b17,b18,b19,b20,b21,b22,b23,b24,x54,x55,.bool true,.pointer (some ⟨pg,0,none⟩),(.int .i64 (bn : Nat)),x59,x60,x61,x62,x63,x64,x65,x66,x67,x68,x69,x70,x71,x72,x73,x74,x75,x76,x77,x2,(by go_simp),(by go_simp),hb,cd0,cd1,rf,rf,rf,cd5,cd6,cd7,cd8,cd9,cd10,cd11,cd12,cd13,cd14,cd15,cd16,cd17,cd18,cd19,cd20,cd21,cd22,cd23,cd24⟩
          · have hf' : b5 = false := hf
            subst hf'
            have d2 : b2 = true := hd ⟨2, .guard⟩ (by simp) rfl
            subst d2
            obtain rfl := cd2.out rfl
            clear hf hd
            try simp only [setIfInBounds_toArray, set_cons_zero, set_cons_succ]
            intro K hK
            rw [if_pos (by rfl)]
            go_simp
            exact hK.out _ _ ⟨b0,b1,true,b3,b4,true,b6,b7,b8,b9,b10,b11,b12,b13,b14,b15,b16,b17,b18,b19,b20,b21,b22,b23,b24,x54,x55,.bool true,x57,x58,(.pointer (some ⟨pa,2,none⟩)),x60,x61,x62,x63,x64,x65,x66,x67,x68,x69,x70,x71,x72,x73,x74,x75,x76,x77,x2,(by go_simp),(by go_simp),hb,cd0,cd1,rf,cd3,cd4,rf,cd6,cd7,cd8,cd9,cd10,cd11,cd12,cd13,cd14,cd15,cd16,cd17,cd18,cd19,cd20,cd21,cd22,cd23,cd24⟩
          · have hf' : b6 = false := hf
            subst hf'
            have d5 : b5 = true := hd ⟨5, .data⟩ (by simp) rfl
            subst d5
            have d2 : b2 = true := hd ⟨2, .guard⟩ (by simp) rfl
            subst d2
            obtain rfl := cd5.out rfl
            obtain rfl := cd2.out rfl
            clear hf hd
            try simp only [setIfInBounds_toArray, set_cons_zero, set_cons_succ]
            have z0 := (hb.cell hpa).trans ca2
            intro K hK
            rw [if_pos (by rfl)]
            go_simp
            exact hK.out _ _ ⟨b0,b1,true,b3,b4,true,true,b7,b8,b9,b10,b11,b12,b13,b14,b15,b16,b17,b18,b19,b20,b21,b22,b23,b24,x54,x55,.bool true,x57,x58,.pointer (some ⟨pa,2,none⟩),(.slice (some ⟨gv,gvo,none⟩) bn bc2),x61,x62,x63,x64,x65,x66,x67,x68,x69,x70,x71,x72,x73,x74,x75,x76,x77,x2,(by go_simp),(by go_simp),hb,cd0,cd1,rf,cd3,cd4,rf,rf,cd7,cd8,cd9,cd10,cd11,cd12,cd13,cd14,cd15,cd16,cd17,cd18,cd19,cd20,cd21,cd22,cd23,cd24⟩
          · have hf' : b7 = false := hf
            subst hf'
            have d6 : b6 = true := hd ⟨6, .data⟩ (by simp) rfl
            subst d6
            have d2 : b2 = true := hd ⟨2, .guard⟩ (by simp) rfl
            subst d2
            obtain rfl := cd6.out rfl
            obtain rfl := cd2.out rfl
            clear hf hd
            try simp only [setIfInBounds_toArray, set_cons_zero, set_cons_succ]
            intro K hK
            rw [if_pos (by rfl)]
            go_simp
            exact hK.out _ _ ⟨b0,b1,true,b3,b4,b5,true,true,b8,b9,b10,b11,b12,b13,b14,b15,b16,b17,b18,b19,b20,b21,b22,b23,b24,x54,x55,.bool true,x57,x58,x59,.slice (some ⟨gv,gvo,none⟩) bn bc2,(.int .i64 (bn : Nat)),x62,x63,x64,x65,x66,x67,x68,x69,x70,x71,x72,x73,x74,x75,x76,x77,x2,(by go_simp),(by go_simp),hb,cd0,cd1,rf,cd3,cd4,cd5,rf,rf,cd8,cd9,cd10,cd11,cd12,cd13,cd14,cd15,cd16,cd17,cd18,cd19,cd20,cd21,cd22,cd23,cd24⟩
          · have hf' : b8 = false := hf
            subst hf'
            have d4 : b4 = true := hd ⟨4, .data⟩ (by simp) rfl
            subst d4
            have d7 : b7 = true := hd ⟨7, .data⟩ (by simp) rfl
            subst d7
            have d2 : b2 = true := hd ⟨2, .guard⟩ (by simp) rfl
            subst d2
            obtain rfl := cd4.out rfl
            obtain rfl := cd7.out rfl
            obtain rfl := cd2.out rfl
            clear hf hd
            try simp only [setIfInBounds_toArray, set_cons_zero, set_cons_succ]
            intro K hK
            rw [if_pos (by rfl)]
            go_simp
            exact hK.out _ _ ⟨b0,b1,true,b3,true,b5,b6,true,true,b9,b10,b11,b12,b13,b14,b15,b16,b17,b18,b19,b20,b21,b22,b23,b24,x54,x55,.bool true,x57,.int .i64 (bn : Nat),x59,x60,.int .i64 (bn : Nat),(.bool true),x63,x64,x65,x66,x67,x68,x69,x70,x71,x72,x73,x74,x75,x76,x77,x2,(by go_simp),(by go_simp),hb,cd0,cd1,rf,cd3,rf,cd5,cd6,rf,rf,cd9,cd10,cd11,cd12,cd13,cd14,cd15,cd16,cd17,cd18,cd19,cd20,cd21,cd22,cd23,cd24⟩
          · have hf' : b9 = false := hf
            subst hf'
            have d2 : b2 = true := hd ⟨2, .data⟩ (by simp) rfl
            subst d2
            have d8 : b8 = true := hd ⟨8, .data⟩ (by simp) rfl
            subst d8
            obtain rfl := cd2.out rfl
            obtain rfl := cd8.out rfl
            clear hf hd
            try simp only [setIfInBounds_toArray, set_cons_zero, set_cons_succ]
            intro K hK
            rw [if_pos (by rfl)]
            go_simp
            exact hK.out _ _ ⟨b0,b1,true,b3,b4,b5,b6,b7,true,true,b10,b11,b12,b13,b14,b15,b16,b17,b18,b19,b20,b21,b22,b23,b24,x54,x55,.bool true,x57,x58,x59,x60,x61,.bool true,(.bool true),x64,x65,x66,x67,x68,x69,x70,x71,x72,x73,x74,x75,x76,x77,x2,(by go_simp),(by go_simp),hb,cd0,cd1,rf,cd3,cd4,cd5,cd6,cd7,rf,rf,cd10,cd11,cd12,cd13,cd14,cd15,cd16,cd17,cd18,cd19,cd20,cd21,cd22,cd23,cd24⟩
          · have hf' : b10 = false := hf
            subst hf'
            have d9 : b9 = true := hd ⟨9, .data⟩ (by simp) rfl
            subst d9
            have d2 : b2 = true := hd ⟨2, .chain⟩ (by simp) rfl
            subst d2
            obtain rfl := cd9.out rfl
            obtain rfl := cd2.out rfl
            clear hf hd
            try simp only [setIfInBounds_toArray, set_cons_zero, set_cons_succ]
            intro K hK
            rw [if_pos (by rfl)]
            go_simp
            exact hK.out _ _ ⟨b0,b1,true,b3,b4,b5,b6,b7,b8,true,true,b11,b12,b13,b14,b15,b16,b17,b18,b19,b20,b21,b22,b23,b24,x54,x55,.bool true,x57,x58,x59,x60,x61,x62,.bool true,(.bool true),x65,x66,x67,x68,x69,x70,x71,x72,x73,x74,x75,x76,x77,x2,(by go_simp),(by go_simp),hb,cd0,cd1,rf,cd3,cd4,cd5,cd6,cd7,cd8,rf,rf,cd11,cd12,cd13,cd14,cd15,cd16,cd17,cd18,cd19,cd20,cd21,cd22,cd23,cd24⟩
          · have hf' : b11 = false := hf
            subst hf'
            have d10 : b10 = true := hd ⟨10, .guard⟩ (by simp) rfl
            subst d10
            obtain rfl := cd10.out rfl
            clear hf hd
            try simp only [setIfInBounds_toArray, set_cons_zero, set_cons_succ]
            intro K hK
            rw [if_pos (by rfl)]
            go_simp
            exact hK.out _ _ ⟨b0,b1,b2,b3,b4,b5,b6,b7,b8,b9,true,true,b12,b13,b14,b15,b16,b17,b18,b19,b20,b21,b22,b23,b24,x54,x55,x56,x57,x58,x59,x60,x61,x62,x63,.bool true,(.pointer (some ⟨pg,1,none⟩)),x66,x67,x68,x69,x70,x71,x72,x73,x74,x75,x76,x77,x2,(by go_simp),(by go_simp),hb,cd0,cd1,cd2,cd3,cd4,cd5,cd6,cd7,cd8,cd9,rf,rf,cd12,cd13,cd14,cd15,cd16,cd17,cd18,cd19,cd20,cd21,cd22,cd23,cd24⟩
          · have hf' : b12 = false := hf
            subst hf'
            have d11 : b11 = true := hd ⟨11, .data⟩ (by simp) rfl
            subst d11
            have d10 : b10 = true := hd ⟨10, .guard⟩ (by simp) rfl
            subst d10
            obtain rfl := cd11.out rfl
            obtain rfl := cd10.out rfl
            clear hf hd
            try simp only [setIfInBounds_toArray, set_cons_zero, set_cons_succ]
            intro K hK
            rw [if_pos (by rfl)]
            refine wp_load_cells 53 _ rfl ⟨pg, 1, none⟩ rfl HA.toList (fun q v hv => HG1.out w hb q v hv) hash_agg (by rw [sizeHash, HAS.out]) ?_
            simp only [Array.toArray_toList]
            exact hK.out _ _ ⟨b0,b1,b2,b3,b4,b5,b6,b7,b8,b9,true,true,true,b13,b14,b15,b16,b17,b18,b19,b20,b21,b22,b23,b24,x54,x55,x56,x57,x58,x59,x60,x61,x62,x63,.bool true,.pointer (some ⟨pg,1,none⟩),(.agg HA),x67,x68,x69,x70,x71,x72,x73,x74,x75,x76,x77,x2,(by go_simp),(by go_simp),hb,cd0,cd1,cd2,cd3,cd4,cd5,cd6,cd7,cd8,cd9,rf,rf,rf,cd13,cd14,cd15,cd16,cd17,cd18,cd19,cd20,cd21,cd22,cd23,cd24⟩
          · have hf' : b13 = false := hf
            subst hf'
            have d10 : b10 = true := hd ⟨10, .guard⟩ (by simp) rfl
            subst d10
            obtain rfl := cd10.out rfl
            clear hf hd
            try simp only [setIfInBounds_toArray, set_cons_zero, set_cons_succ]
            intro K hK
            rw [if_pos (by rfl)]
            go_simp
            exact hK.out _ _ ⟨b0,b1,b2,b3,b4,b5,b6,b7,b8,b9,true,b11,b12,true,b14,b15,b16,b17,b18,b19,b20,b21,b22,b23,b24,x54,x55,x56,x57,x58,x59,x60,x61,x62,x63,.bool true,x65,x66,(.pointer (some ⟨pa,2,none⟩)),x68,x69,x70,x71,x72,x73,x74,x75,x76,x77,x2,(by go_simp),(by go_simp),hb,cd0,cd1,cd2,cd3,cd4,cd5,cd6,cd7,cd8,cd9,rf,cd11,cd12,rf,cd14,cd15,cd16,cd17,cd18,cd19,cd20,cd21,cd22,cd23,cd24⟩
          · have hf' : b14 = false := hf
            subst hf'
            have d13 : b13 = true := hd ⟨13, .data⟩ (by simp) rfl
            subst d13
            have d10 : b10 = true := hd ⟨10, .guard⟩ (by simp) rfl
            subst d10
            obtain rfl := cd13.out rfl
            obtain rfl := cd10.out rfl
            clear hf hd
            try simp only [setIfInBounds_toArray, set_cons_zero, set_cons_succ]
            have z0 := (hb.cell hpa).trans ca2
            intro K hK
            rw [if_pos (by rfl)]
            go_simp
            exact hK.out _ _ ⟨b0,b1,b2,b3,b4,b5,b6,b7,b8,b9,true,b11,b12,true,true,b15,b16,b17,b18,b19,b20,b21,b22,b23,b24,x54,x55,x56,x57,x58,x59,x60,x61,x62,x63,.bool true,x65,x66,.pointer (some ⟨pa,2,none⟩),(.slice (some ⟨gv,gvo,none⟩) bn bc2),x69,x70,x71,x72,x73,x74,x75,x76,x77,x2,(by go_simp),(by go_simp),hb,cd0,cd1,cd2,cd3,cd4,cd5,cd6,cd7,cd8,cd9,rf,cd11,cd12,rf,rf,cd15,cd16,cd17,cd18,cd19,cd20,cd21,cd22,cd23,cd24⟩
          · have hf' : b15 = false := hf
            subst hf'
            have d10 : b10 = true := hd ⟨10, .guard⟩ (by simp) rfl
            subst d10
            obtain rfl := cd10.out rfl
            clear hf hd
            try simp only [setIfInBounds_toArray, set_cons_zero, set_cons_succ]
            intro K hK
            rw [if_pos (by rfl)]
            go_simp
            exact hK.out _ _ ⟨b0,b1,b2,b3,b4,b5,b6,b7,b8,b9,true,b11,b12,b13,b14,true,b16,b17,b18,b19,b20,b21,b22,b23,b24,x54,x55,x56,x57,x58,x59,x60,x61,x62,x63,.bool true,x65,x66,x67,x68,(.pointer (some ⟨pa,2,none⟩)),x70,x71,x72,x73,x74,x75,x76,x77,x2,(by go_simp),(by go_simp),hb,cd0,cd1,cd2,cd3,cd4,cd5,cd6,cd7,cd8,cd9,rf,cd11,cd12,cd13,cd14,rf,cd16,cd17,cd18,cd19,cd20,cd21,cd22,cd23,cd24⟩
          · have hf' : b16 = false := hf
            subst hf'
            have d15 : b15 = true := hd ⟨15, .data⟩ (by simp) rfl
            subst d15
            have d10 : b10 = true := hd ⟨10, .guard⟩ (by simp) rfl
            subst d10
            obtain rfl := cd15.out rfl
            obtain rfl := cd10.out rfl
            clear hf hd
            try simp only [setIfInBounds_toArray, set_cons_zero, set_cons_succ]
            have z0 := (hb.cell hpa).trans ca2
            intro K hK
            rw [if_pos (by rfl)]
            go_simp
            exact hK.out _ _ ⟨b0,b1,b2,b3,b4,b5,b6,b7,b8,b9,true,b11,b12,b13,b14,true,true,b17,b18,b19,b20,b21,b22,b23,b24,x54,x55,x56,x57,x58,x59,x60,x61,x62,x63,.bool true,x65,x66,x67,x68,.pointer (some ⟨pa,2,none⟩),(.slice (some ⟨gv,gvo,none⟩) bn bc2),x71,x72,x73,x74,x75,x76,x77,x2,(by go_simp),(by go_simp),hb,cd0,cd1,cd2,cd3,cd4,cd5,cd6,cd7,cd8,cd9,rf,cd11,cd12,cd13,cd14,rf,rf,cd17,cd18,cd19,cd20,cd21,cd22,cd23,cd24⟩
          · have hf' : b17 = false := hf
            subst hf'
            have d16 : b16 = true := hd ⟨16, .data⟩ (by simp) rfl
            subst d16
            have d10 : b10 = true := hd ⟨10, .guard⟩ (by simp) rfl
            subst d10
            obtain rfl := cd16.out rfl
            obtain rfl := cd10.out rfl
            clear hf hd
            try simp only [setIfInBounds_toArray, set_cons_zero, set_cons_succ]
            intro K hK
            rw [if_pos (by rfl)]
            go_simp
            exact hK.out _ _ ⟨b0,b1,b2,b3,b4,b5,b6,b7,b8,b9,true,b11,b12,b13,b14,b15,true,true,b18,b19,b20,b21,b22,b23,b24,x54,x55,x56,x57,x58,x59,x60,x61,x62,x63,.bool true,x65,x66,x67,x68,x69,.slice (some ⟨gv,gvo,none⟩) bn bc2,(.int .i64 (bn : Nat)),x72,x73,x74,x75,x76,x77,x2,(by go_simp),(by go_simp),hb,cd0,cd1,cd2,cd3,cd4,cd5,cd6,cd7,cd8,cd9,rf,cd11,cd12,cd13,cd14,cd15,rf,rf,cd18,cd19,cd20,cd21,cd22,cd23,cd24⟩
          · have hf' : b18 = false := hf
            subst hf'
            have d17 : b17 = true := hd ⟨17, .data⟩ (by simp) rfl
            subst d17
            have d10 : b10 = true := hd ⟨10, .guard⟩ (by simp) rfl
            subst d10
            obtain rfl := cd17.out rfl
            obtain rfl := cd10.out rfl
            clear hf hd
            try simp only [setIfInBounds_toArray, set_cons_zero, set_cons_succ]
            intro K hK
            rw [if_pos (by rfl)]
            go_simp
            rw [HSB.out]
            exact hK.out _ _ ⟨b0,b1,b2,b3,b4,b5,b6,b7,b8,b9,true,b11,b12,b13,b14,b15,b16,true,true,b19,b20,b21,b22,b23,b24,x54,x55,x56,x57,x58,x59,x60,x61,x62,x63,.bool true,x65,x66,x67,x68,x69,x70,.int .i64 (bn : Nat),(.int .i64 (bm : Nat)),x73,x74,x75,x76,x77,x2,(by go_simp),(by go_simp),hb,cd0,cd1,cd2,cd3,cd4,cd5,cd6,cd7,cd8,cd9,rf,cd11,cd12,cd13,cd14,cd15,cd16,rf,rf,cd19,cd20,cd21,cd22,cd23,cd24⟩
          · have hf' : b19 = false := hf
            subst hf'
            have d14 : b14 = true := hd ⟨14, .data⟩ (by simp) rfl
            subst d14
            have d18 : b18 = true := hd ⟨18, .data⟩ (by simp) rfl
            subst d18
            have d10 : b10 = true := hd ⟨10, .guard⟩ (by simp) rfl
            subst d10
            obtain rfl := cd14.out rfl
            obtain rfl := cd18.out rfl
            obtain rfl := cd10.out rfl
            clear hf hd
            try simp only [setIfInBounds_toArray, set_cons_zero, set_cons_succ]
            intro K hK
            rw [if_pos (by rfl)]
            go_simp
            exact hK.out _ _ ⟨b0,b1,b2,b3,b4,b5,b6,b7,b8,b9,true,b11,b12,b13,true,b15,b16,b17,true,true,b20,b21,b22,b23,b24,x54,x55,x56,x57,x58,x59,x60,x61,x62,x63,.bool true,x65,x66,x67,.slice (some ⟨gv,gvo,none⟩) bn bc2,x69,x70,x71,.int .i64 (bm : Nat),(.pointer (some ⟨gv,gvo + bm * 66,none⟩)),x74,x75,x76,x77,x2,(by go_simp),(by go_simp),hb,cd0,cd1,cd2,cd3,cd4,cd5,cd6,cd7,cd8,cd9,rf,cd11,cd12,cd13,rf,cd15,cd16,cd17,rf,rf,cd20,cd21,cd22,cd23,cd24⟩
          · have hf' : b20 = false := hf
            subst hf'
            have d19 : b19 = true := hd ⟨19, .data⟩ (by simp) rfl
            subst d19
            have d10 : b10 = true := hd ⟨10, .guard⟩ (by simp) rfl
            subst d10
            obtain rfl := cd19.out rfl
            obtain rfl := cd10.out rfl
            clear hf hd
            try simp only [setIfInBounds_toArray, set_cons_zero, set_cons_succ]
            intro K hK
            rw [if_pos (by rfl)]
            refine wp_load_cells 64 _ rfl ⟨gv, gvo + bm * 66, none⟩ rfl BA.toList (fun q v hv => HV.out w hb q v hv) dig_agg (by rw [blk_size, HBS.out]) ?_
            simp only [Array.toArray_toList]
            exact hK.out _ _ ⟨b0,b1,b2,b3,b4,b5,b6,b7,b8,b9,true,b11,b12,b13,b14,b15,b16,b17,b18,true,true,b21,b22,b23,b24,x54,x55,x56,x57,x58,x59,x60,x61,x62,x63,.bool true,x65,x66,x67,x68,x69,x70,x71,x72,.pointer (some ⟨gv,gvo + bm * 66,none⟩),(.agg BA),x75,x76,x77,x2,(by go_simp),(by go_simp),hb,cd0,cd1,cd2,cd3,cd4,cd5,cd6,cd7,cd8,cd9,rf,cd11,cd12,cd13,cd14,cd15,cd16,cd17,cd18,rf,rf,cd21,cd22,cd23,cd24⟩
          · have hf' : b21 = false := hf
            subst hf'
            have d20 : b20 = true := hd ⟨20, .data⟩ (by simp) rfl
            subst d20
            have d10 : b10 = true := hd ⟨10, .chain⟩ (by simp) rfl
            subst d10
            obtain rfl := cd20.out rfl
            obtain rfl := cd10.out rfl
            clear hf hd
            try simp only [setIfInBounds_toArray, set_cons_zero, set_cons_succ]
            intro K hK
            rw [if_pos (by rfl)]
            go_simp
            go_at_call 36
            refine (HHw _ hb).mono ?_
            rintro e w' ⟨rfl, bx⟩
            exact hK.out _ _ ⟨b0,b1,b2,b3,b4,b5,b6,b7,b8,b9,true,b11,b12,b13,b14,b15,b16,b17,b18,b19,true,true,b22,b23,b24,x54,x55,x56,x57,x58,x59,x60,x61,x62,x63,.bool true,x65,x66,x67,x68,x69,x70,x71,x72,x73,.agg BA,(.agg HA),x76,x77,x2,(by go_simp),(by go_simp),hb.trans (bx.mono (Nat.le_trans hB0 hb.size)),cd0,cd1,cd2,cd3,cd4,cd5,cd6,cd7,cd8,cd9,rf,cd11,cd12,cd13,cd14,cd15,cd16,cd17,cd18,cd19,rf,rf,cd22,cd23,cd24⟩
          · have hf' : b22 = false := hf
            subst hf'
            have d12 : b12 = true := hd ⟨12, .data⟩ (by simp) rfl
            subst d12
            have d21 : b21 = true := hd ⟨21, .data⟩ (by simp) rfl
            subst d21
            have d10 : b10 = true := hd ⟨10, .guard⟩ (by simp) rfl
            subst d10
            obtain rfl := cd12.out rfl
            obtain rfl := cd21.out rfl
            obtain rfl := cd10.out rfl
            clear hf hd
            try simp only [setIfInBounds_toArray, set_cons_zero, set_cons_succ]
            intro K hK
            rw [if_pos (by rfl)]
            go_simp
            exact hK.out _ _ ⟨b0,b1,b2,b3,b4,b5,b6,b7,b8,b9,true,b11,true,b13,b14,b15,b16,b17,b18,b19,b20,true,true,b23,b24,x54,x55,x56,x57,x58,x59,x60,x61,x62,x63,.bool true,x65,.agg HA,x67,x68,x69,x70,x71,x72,x73,x74,.agg HA,(.bool true),x77,x2,(by go_simp),(by go_simp),hb,cd0,cd1,cd2,cd3,cd4,cd5,cd6,cd7,cd8,cd9,rf,cd11,rf,cd13,cd14,cd15,cd16,cd17,cd18,cd19,cd20,rf,rf,cd23,cd24⟩
          · have hf' : b23 = false := hf
            subst hf'
            have d10 : b10 = true := hd ⟨10, .data⟩ (by simp) rfl
            subst d10
            have d22 : b22 = true := hd ⟨22, .data⟩ (by simp) rfl
            subst d22
            obtain rfl := cd10.out rfl
            obtain rfl := cd22.out rfl
            clear hf hd
            try simp only [setIfInBounds_toArray, set_cons_zero, set_cons_succ]
            intro K hK
            rw [if_pos (by rfl)]
            go_simp
            exact hK.out _ _ ⟨b0,b1,b2,b3,b4,b5,b6,b7,b8,b9,true,b11,b12,b13,b14,b15,b16,b17,b18,b19,b20,b21,true,true,b24,x54,x55,x56,x57,x58,x59,x60,x61,x62,x63,.bool true,x65,x66,x67,x68,x69,x70,x71,x72,x73,x74,x75,.bool true,(.bool true),x2,(by go_simp),(by go_simp),hb,cd0,cd1,cd2,cd3,cd4,cd5,cd6,cd7,cd8,cd9,rf,cd11,cd12,cd13,cd14,cd15,cd16,cd17,cd18,cd19,cd20,cd21,rf,rf,cd24⟩
          · have hf' : b24 = false := hf
            subst hf'
            have d23 : b23 = true := hd ⟨23, .data⟩ (by simp) rfl
            subst d23
            have d21 : b21 = true := hd ⟨21, .chain⟩ (by simp) rfl
            subst d21
            have d0 : b0 = true := hd ⟨0, .phase⟩ (by simp) rfl
            subst d0
            have d1 : b1 = true := hd ⟨1, .phase⟩ (by simp) rfl
            subst d1
            have d2 : b2 = true := hd ⟨2, .phase⟩ (by simp) rfl
            subst d2
            have d3 : b3 = true := hd ⟨3, .phase⟩ (by simp) rfl
            subst d3
            have d4 : b4 = true := hd ⟨4, .phase⟩ (by simp) rfl
            subst d4
            have d5 : b5 = true := hd ⟨5, .phase⟩ (by simp) rfl
            subst d5
            have d6 : b6 = true := hd ⟨6, .phase⟩ (by simp) rfl
            subst d6
            have d7 : b7 = true := hd ⟨7, .phase⟩ (by simp) rfl
            subst d7
            have d8 : b8 = true := hd ⟨8, .phase⟩ (by simp) rfl
            subst d8
            have d9 : b9 = true := hd ⟨9, .phase⟩ (by simp) rfl
            subst d9
            have d10 : b10 = true := hd ⟨10, .phase⟩ (by simp) rfl
            subst d10
            have d11 : b11 = true := hd ⟨11, .phase⟩ (by simp) rfl
            subst d11
            have d12 : b12 = true := hd ⟨12, .phase⟩ (by simp) rfl
            subst d12
            have d13 : b13 = true := hd ⟨13, .phase⟩ (by simp) rfl
            subst d13
            have d14 : b14 = true := hd ⟨14, .phase⟩ (by simp) rfl
            subst d14
            have d15 : b15 = true := hd ⟨15, .phase⟩ (by simp) rfl
            subst d15
            have d16 : b16 = true := hd ⟨16, .phase⟩ (by simp) rfl
            subst d16
            have d17 : b17 = true := hd ⟨17, .phase⟩ (by simp) rfl
            subst d17
            have d18 : b18 = true := hd ⟨18, .phase⟩ (by simp) rfl
            subst d18
            have d19 : b19 = true := hd ⟨19, .phase⟩ (by simp) rfl
            subst d19
            have d20 : b20 = true := hd ⟨20, .phase⟩ (by simp) rfl
            subst d20
            have d22 : b22 = true := hd ⟨22, .phase⟩ (by simp) rfl
            subst d22
            obtain rfl := cd23.out rfl
            obtain rfl := cd21.out rfl
            obtain rfl := cd0.out rfl
            obtain rfl := cd1.out rfl
            obtain rfl := cd2.out rfl
            obtain rfl := cd3.out rfl
            obtain rfl := cd4.out rfl
            obtain rfl := cd5.out rfl
            obtain rfl := cd6.out rfl
            obtain rfl := cd7.out rfl
            obtain rfl := cd8.out rfl
            obtain rfl := cd9.out rfl
            obtain rfl := cd10.out rfl
            obtain rfl := cd11.out rfl
            obtain rfl := cd12.out rfl
            obtain rfl := cd13.out rfl
            obtain rfl := cd14.out rfl
            obtain rfl := cd15.out rfl
            obtain rfl := cd16.out rfl
            obtain rfl := cd17.out rfl
            obtain rfl := cd18.out rfl
            obtain rfl := cd19.out rfl
            obtain rfl := cd20.out rfl
            obtain rfl := cd22.out rfl
            clear hf hd
            try simp only [setIfInBounds_toArray, set_cons_zero, set_cons_succ]
            intro K hK
            rw [if_pos (by rfl)]
            go_simp
            exact hK.out _ _ ⟨true,true,true,true,true,true,true,true,true,true,true,true,true,true,true,true,true,true,true,true,true,true,true,true,true,.int .i64 0,.bool true,.bool true,.pointer (some ⟨pg,0,none⟩),.int .i64 (bn : Nat),.pointer (some ⟨pa,2,none⟩),.slice (some ⟨gv,gvo,none⟩) bn bc2,.int .i64 (bn : Nat),.bool true,.bool true,.bool true,.pointer (some ⟨pg,1,none⟩),.agg HA,.pointer (some ⟨pa,2,none⟩),.slice (some ⟨gv,gvo,none⟩) bn bc2,.pointer (some ⟨pa,2,none⟩),.slice (some ⟨gv,gvo,none⟩) bn bc2,.int .i64 (bn : Nat),.int .i64 (bm : Nat),.pointer (some ⟨gv,gvo + bm * 66,none⟩),.agg BA,.agg HA,.bool true,.bool true,(.bool true),(by go_simp),(by go_simp),hb,rf,rf,rf,rf,rf,rf,rf,rf,rf,rf,rf,rf,rf,rf,rf,rf,rf,rf,rf,rf,rf,rf,rf,rf,rf⟩
        · rintro act V ⟨b0,b1,b2,b3,b4,b5,b6,b7,b8,b9,b10,b11,b12,b13,b14,b15,b16,b17,b18,b19,b20,b21,b22,b23,b24,x54,x55,x56,x57,x58,x59,x60,x61,x62,x63,x64,x65,x66,x67,x68,x69,x70,x71,x72,x73,x74,x75,x76,x77,x2,hL,rfl,hb,cd0,cd1,cd2,cd3,cd4,cd5,cd6,cd7,cd8,cd9,cd10,cd11,cd12,cd13,cd14,cd15,cd16,cd17,cd18,cd19,cd20,cd21,cd22,cd23,cd24⟩
          have hL' : [true,true,true,true,true,true,true,true,true,true,true,true,true,true,true,true,true,true,true,true,true,true,true,true,true] = [b0,b1,b2,b3,b4,b5,b6,b7,b8,b9,b10,b11,b12,b13,b14,b15,b16,b17,b18,b19,b20,b21,b22,b23,b24] := congrArg Array.toList hL
          simp only [List.cons.injEq, and_true] at hL'
          obtain ⟨rfl, rfl, rfl, rfl, rfl, rfl, rfl, rfl, rfl, rfl, rfl, rfl, rfl, rfl, rfl, rfl, rfl, rfl, rfl, rfl, rfl, rfl, rfl, rfl, rfl⟩ := hL'
          obtain rfl := cd0.out rfl
          obtain rfl := cd1.out rfl
          obtain rfl := cd2.out rfl
          obtain rfl := cd3.out rfl
          obtain rfl := cd4.out rfl
          obtain rfl := cd5.out rfl
          obtain rfl := cd6.out rfl
          obtain rfl := cd7.out rfl
          obtain rfl := cd8.out rfl
          obtain rfl := cd9.out rfl
          obtain rfl := cd10.out rfl
          obtain rfl := cd11.out rfl
          obtain rfl := cd12.out rfl
          obtain rfl := cd13.out rfl
          obtain rfl := cd14.out rfl
          obtain rfl := cd15.out rfl
          obtain rfl := cd16.out rfl
          obtain rfl := cd17.out rfl
          obtain rfl := cd18.out rfl
          obtain rfl := cd19.out rfl
          obtain rfl := cd20.out rfl
          obtain rfl := cd21.out rfl
          obtain rfl := cd22.out rfl
          obtain rfl := cd23.out rfl
          obtain rfl := cd24.out rfl
          clear hL cd0 cd1 cd2 cd3 cd4 cd5 cd6 cd7 cd8 cd9 cd10 cd11 cd12 cd13 cd14 cd15 cd16 cd17 cd18 cd19 cd20 cd21 cd22 cd23 cd24
          simp only [setIfInBounds_toArray, set_cons_zero, set_cons_succ]
          have BV : Below w8.heap.size w8 V := by rw [HR.out]; exact (Below.refl _ _).drew.trans hb
          clear hb
          go_wp2_with fail
          go_ret
          exact ⟨rfl, B8.trans (BV.mono B8.size)⟩
end Go.Proofs.YtdmnjjknkcnkgaaGreatDoor
