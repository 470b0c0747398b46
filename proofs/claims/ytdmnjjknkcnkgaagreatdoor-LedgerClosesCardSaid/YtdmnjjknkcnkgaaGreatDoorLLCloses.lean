/-
 LedgerCloses (by gen_lcloses.py).
-/
import Derived.Test.YtdmnjjknkcnkgaaGreatDoorMzH
import Derived.Test.YtdmnjjknkcnkgaaGreatDoorMzK
namespace Go.Proofs.YtdmnjjknkcnkgaaGreatDoor
open List (setIfInBounds_toArray set_cons_zero set_cons_succ)
open Go.RowKit
set_option linter.unusedSimpArgs false
inductive LCl10 (B : Nat) (pa : Nat) (pb : Nat) (pc : Nat) (nx : Int) (oa : Option Addr) (on : Nat) (oc : Nat) (ba : Option Addr) (bn : Nat) (bc : Nat) (ta : Option Addr) (tn : Nat) (tc : Nat) (ob : Option Addr) (obc : Nat) (bb : Option Addr) (n1 : Nat) (bbc : Nat) (gt : Nat) (gto : Nat) (t1 : Nat) (tbc : Nat) (od : Option Addr) (odc : Nat) (bd : Option Addr) (bdc : Nat) (td : Option Addr) (tdc : Nat) (ua : Option Addr) (uc : Nat) (a0 : Act) (w0 : World) (L : Array Bool) (a : Act) (w : World) : Prop
 | mk (b0 b1 b2 b3 b4 b5 b6 b7 b8 b9 b10 b11 b12 b13 b14 b15 b16 b17 b18 b19 b20 b21 b22 b23 b24 b25 b26 b27 b28 b29 b30 b31 b32 b33 b34 b35 b36 b37 b38 b39 b40 b41 b42 b43 b44 b45 b46 b47 : Bool) (x37 x38 x39 x40 x41 x42 x43 x44 x45 x46 x47 x48 x49 x50 x51 x52 x53 x54 x55 x56 x57 x58 x59 x60 x61 x62 x63 x64 x65 x66 x67 x68 x69 x70 x71 x72 x73 x74 x75 x76 x77 x78 x79 x80 x81 x82 x83 x2 : Value) (hL : L = #[b0,b1,b2,b3,b4,b5,b6,b7,b8,b9,b10,b11,b12,b13,b14,b15,b16,b17,b18,b19,b20,b21,b22,b23,b24,b25,b26,b27,b28,b29,b30,b31,b32,b33,b34,b35,b36,b37,b38,b39,b40,b41,b42,b43,b44,b45,b46,b47]) (ha : a = ⟨((((((((((((((((((((((((((((((((((((((((((((((((a0.tmps.setIfInBounds 37 x37).setIfInBounds 38 x38).setIfInBounds 39 x39).setIfInBounds 40 x40).setIfInBounds 41 x41).setIfInBounds 42 x42).setIfInBounds 43 x43).setIfInBounds 44 x44).setIfInBounds 45 x45).setIfInBounds 46 x46).setIfInBounds 47 x47).setIfInBounds 48 x48).setIfInBounds 49 x49).setIfInBounds 50 x50).setIfInBounds 51 x51).setIfInBounds 52 x52).setIfInBounds 53 x53).setIfInBounds 54 x54).setIfInBounds 55 x55).setIfInBounds 56 x56).setIfInBounds 57 x57).setIfInBounds 58 x58).setIfInBounds 59 x59).setIfInBounds 60 x60).setIfInBounds 61 x61).setIfInBounds 62 x62).setIfInBounds 63 x63).setIfInBounds 64 x64).setIfInBounds 65 x65).setIfInBounds 66 x66).setIfInBounds 67 x67).setIfInBounds 68 x68).setIfInBounds 69 x69).setIfInBounds 70 x70).setIfInBounds 71 x71).setIfInBounds 72 x72).setIfInBounds 73 x73).setIfInBounds 74 x74).setIfInBounds 75 x75).setIfInBounds 76 x76).setIfInBounds 77 x77).setIfInBounds 78 x78).setIfInBounds 79 x79).setIfInBounds 80 x80).setIfInBounds 81 x81).setIfInBounds 82 x82).setIfInBounds 83 x83).setIfInBounds 2 x2),a0.defers⟩) (hb : Below B w0 w) (cd0 : Hid (b0 = true → x37 = .int .i64 0)) (cd1 : Hid (b1 = true → x38 = .bool true)) (cd2 : Hid (b2 = true → x39 = .bool true)) (cd3 : Hid (b3 = true → x40 = .int .i64 2)) (cd4 : Hid (b4 = true → x41 = .bool true)) (cd5 : Hid (b5 = true → x42 = .bool true)) (cd6 : Hid (b6 = true → x43 = .bool true)) (cd7 : Hid (b7 = true → x44 = .agg #[.int .i64 nx,.slice ob 0 obc,.slice bb n1 bbc,.slice (some ⟨gt,gto,none⟩) t1 tbc])) (cd8 : Hid (b8 = true → x45 = .agg #[.int .i64 nx,.slice od 0 odc,.slice bd n1 bdc,.slice td t1 tdc])) (cd9 : Hid (b9 = true → x46 = .bool true)) (cd10 : Hid (b10 = true → x47 = .bool true)) (cd11 : Hid (b11 = true → x48 = .bool true)) (cd12 : Hid (b12 = true → x49 = .pointer (some ⟨pb,1,none⟩))) (cd13 : Hid (b13 = true → x50 = .slice ob 0 obc)) (cd14 : Hid (b14 = true → x51 = .int .i64 0)) (cd15 : Hid (b15 = true → x52 = .bool true)) (cd16 : Hid (b16 = true → x53 = .bool true)) (cd17 : Hid (b17 = true → x54 = .bool true)) (cd18 : Hid (b18 = true → x55 = .pointer (some ⟨pb,2,none⟩))) (cd19 : Hid (b19 = true → x56 = .slice bb n1 bbc)) (cd20 : Hid (b20 = true → x57 = .int .i64 (n1 : Nat))) (cd21 : Hid (b21 = true → x58 = .pointer (some ⟨pa,2,none⟩))) (cd22 : Hid (b22 = true → x59 = .slice ba bn bc)) (cd23 : Hid (b23 = true → x60 = .int .i64 (bn : Nat))) (cd24 : Hid (b24 = true → x61 = .int .i64 (n1 : Nat))) (cd25 : Hid (b25 = true → x62 = .bool true)) (cd26 : Hid (b26 = true → x63 = .bool true)) (cd27 : Hid (b27 = true → x64 = .bool true)) (cd28 : Hid (b28 = true → x65 = .pointer (some ⟨pb,3,none⟩))) (cd29 : Hid (b29 = true → x66 = .slice (some ⟨gt,gto,none⟩) t1 tbc)) (cd30 : Hid (b30 = true → x67 = .pointer (some ⟨pb,3,none⟩))) (cd31 : Hid (b31 = true → x68 = .slice (some ⟨gt,gto,none⟩) t1 tbc)) (cd32 : Hid (b32 = true → x69 = .int .i64 (t1 : Nat))) (cd33 : Hid (b33 = true → x70 = .int .i64 (tn : Nat))) (cd34 : Hid (b34 = true → x71 = .pointer (some ⟨gt,gto + tn,none⟩))) (cd35 : Hid (b35 = true → x72 = .slice ua on uc)) (cd36 : Hid (b36 = true → x73 = .pointer (some ⟨pa,1,none⟩))) (cd37 : Hid (b37 = true → x74 = .slice oa on oc)) (cd38 : Hid (b38 = true → x75 = .bool true)) (cd39 : Hid (b39 = true → x76 = .bool true)) (cd40 : Hid (b40 = true → x77 = .bool true)) (cd41 : Hid (b41 = true → x78 = .pointer (some ⟨pb,0,none⟩))) (cd42 : Hid (b42 = true → x79 = .int .i64 nx)) (cd43 : Hid (b43 = true → x80 = .pointer (some ⟨pa,0,none⟩))) (cd44 : Hid (b44 = true → x81 = .int .i64 nx)) (cd45 : Hid (b45 = true → x82 = .bool true)) (cd46 : Hid (b46 = true → x83 = .bool true)) (cd47 : Hid (b47 = true → x2 = .bool true)) : LCl10 B pa pb pc nx oa on oc ba bn bc ta tn tc ob obc bb n1 bbc gt gto t1 tbc od odc bd bdc td tdc ua uc a0 w0 L a w
theorem cls_nil {M : Lgr} (h : M.op = []) : cls M = M ∧ clsE M = 2 := ⟨if_pos h, if_pos h⟩
theorem cls_more {M : Lgr} (h : M.op ≠ []) : cls M = ⟨M.next, [], M.bl ++ [newB M], M.ts ++ [M.op]⟩ ∧ clsE M = 0 := ⟨if_neg h, if_neg h⟩
set_option maxRecDepth 100000 in
set_option maxHeartbeats 4000000 in
theorem ledgerCloses_walk (a0 : Option Addr) (n0 c0 : Nat) (l : List Stp) (w : World) (hC : RC w) (h : IsD DSt w (fun _ => True) a0 n0 c0 l) :
 Calls Tryz.prog 7 #[.slice a0 n0 c0] w fun e w' => e = .returned (.bool true) ∧ Below w.heap.size w w' := by
 have hln := h.len
 go_enter Tryz.func7, Tryz.ntmps7
 go_upto_region 3 with (go_at_call 13; refine (known14 w hC).mono ?_; rintro e w1 ⟨rfl, b1⟩)
 have HF := Lib.hid (few14_any w1 _ a0 n0 c0 l (h.past b1))
 go_upto_region 5 with (go_at_call 14; refine HF.out.mono ?_; rintro e w2 ⟨b, rfl, hb, b2⟩)
 · have B2 := b1.trans (b2.mono b1.size)
   go_ret
   exact ⟨rfl, B2⟩
 · have B2 := b1.trans (b2.mono b1.size)
   obtain ⟨hn, hok⟩ := hb (by simpa using ‹(!b) = false›)
   have HB0 := build_any w2 _ a0 n0 c0 l (h.past B2) hn hok
   obtain ⟨k, hk, hI⟩ := buildL_inv l hok
   unfold BuiltIs at HB0
   obtain ⟨M, hM⟩ : ∃ M, buildL l = M := ⟨_, rfl⟩
   rw [hM] at HB0 hI
   have HB := Lib.hid HB0
   have hnk := hI.next
   have hcn : (cls M).next = (k : Int) := hI.cls.next
   have hcn2 : (cls (cls M)).next = (k : Int) := hI.cls.cls.next
   clear HB0 hM
   have hk200 : k ≤ 200 := by omega
   have HBL : Hid (M.bl.length ≤ 40) := Lib.hid (by have := hI.bl; omega)
   go_upto_region 6 with (first
    | (go_at_call 38; refine HB.out.mono ?_; rintro e w3 ⟨v,rfl,xa,xn,xc,ya,yn,yc,za,zn,zc,rfl,L3,b3⟩; rw [hnk]; have L4 := L3.imp (Q' := fun _ => True) (fun _ _ _ => trivial); have HO := Lib.hid (of14_any w3 (fun _ => True) (fun _ _ => trivial) (k : Int) xa xn xc ya yn yc za zn zc M hnk L4 (by have := L3.bl.len; have := HBL.out; omega)))
    | (go_at_call 27; refine HO.out.mono ?_; rintro e w5 ⟨v, rfl, oa, on, oc, ba, bn, bc, ta, tn, tc, rfl, L5, b5⟩; rw [hnk]))
   have B5 := (B2.trans (b3.mono B2.size)).trans (b5.mono (Nat.le_trans B2.size b3.size))
   clear HO HB b3 b5 L3 L4
   have BX : Below w5.heap.size w5 (w5.alloc (.cells #[.int .i64 (k : Int), .slice oa on oc, .slice ba bn bc, .slice ta tn tc] 29)) := (Below.refl _ _).alloc (Nat.le_refl _) _
   have PA : Bk (w5.alloc (.cells #[.int .i64 (k : Int),.slice oa on oc,.slice ba bn bc,.slice ta tn tc] 29)) w5.heap.size #[.int .i64 (k : Int),.slice oa on oc,.slice ba bn bc,.slice ta tn tc] 29 := Bk.new w5 _ _
   have LA := (L5).past BX
   have BW := B5.trans (BX.mono B5.size)
   obtain ⟨pa, hpa⟩ : ∃ x, w5.heap.size = x := ⟨_, rfl⟩
   rw [hpa] at PA
   simp only [hpa]
   clear BX hpa
   generalize w5.alloc (.cells #[.int .i64 (k : Int), .slice oa on oc, .slice ba bn bc, .slice ta tn tc] 29) = W at PA LA BW ⊢
   clear L5 B5
   obtain ⟨x0,x1,x2,x3⟩ : W.cell? ⟨pa,0,none⟩ = some (.int .i64 (k : Int)) ∧ W.cell? ⟨pa,1,none⟩ = some (.slice oa on oc) ∧ W.cell? ⟨pa,2,none⟩ = some (.slice ba bn bc) ∧ W.cell? ⟨pa,3,none⟩ = some (.slice ta tn tc) := ⟨PA.c rfl,PA.c rfl,PA.c rfl,PA.c rfl⟩
   have HCl := Lib.hid (close_any W (hC.past BW) (fun _ => True) (k : Int) oa on oc ba bn bc ta tn tc M hnk LA (hI.ok hk200))
   obtain ⟨E1, hE1⟩ : ∃ e, clsE M = e := ⟨_, rfl⟩
   unfold CloseIs at HCl
   rw [hE1] at HCl
   have hpa0 := PA.lt
   go_upto_region 7 with (go_at_call 17; refine HCl.out.mono ?_; rintro e w6 ⟨v, rfl, ob, onb, obc, bb, bnb, bbc, tb, tnb, tbc, rfl, L6, b6⟩; rw [hcn])
   clear x0 x1 x2 x3 HCl
   have B6 := BW.trans (b6.mono BW.size)
   have PA6 := PA.past b6
   have LA6 := LA.past b6
   have L6' := L6.imp (Q' := fun _ => True) (fun _ _ _ => trivial)
   clear b6 L6 PA LA BW hpa0
   have BX : Below w6.heap.size w6 (w6.alloc (.cells #[.int .i64 (k : Int), .slice ob onb obc, .slice bb bnb bbc, .slice tb tnb tbc] 29)) := (Below.refl _ _).alloc (Nat.le_refl _) _
   have PB : Bk (w6.alloc (.cells #[.int .i64 (k : Int),.slice ob onb obc,.slice bb bnb bbc,.slice tb tnb tbc] 29)) w6.heap.size #[.int .i64 (k : Int),.slice ob onb obc,.slice bb bnb bbc,.slice tb tnb tbc] 29 := Bk.new w6 _ _
   have PA2 := (PA6).past BX
   have LA2 := (LA6).past BX
   have LB := (L6').past BX
   have BW2 := B6.trans (BX.mono B6.size)
   obtain ⟨pb, hpb⟩ : ∃ x, w6.heap.size = x := ⟨_, rfl⟩
   rw [hpb] at PB
   simp only [hpb]
   clear BX hpb
   generalize w6.alloc (.cells #[.int .i64 (k : Int), .slice ob onb obc, .slice bb bnb bbc, .slice tb tnb tbc] 29) = W2 at PB PA2 LA2 LB BW2 ⊢
   clear PA6 LA6 L6' B6
   obtain ⟨x0,x1,x2,x3⟩ : W2.cell? ⟨pb,0,none⟩ = some (.int .i64 (k : Int)) ∧ W2.cell? ⟨pb,1,none⟩ = some (.slice ob onb obc) ∧ W2.cell? ⟨pb,2,none⟩ = some (.slice bb bnb bbc) ∧ W2.cell? ⟨pb,3,none⟩ = some (.slice tb tnb tbc) := ⟨PB.c rfl,PB.c rfl,PB.c rfl,PB.c rfl⟩
   have HCl := Lib.hid (close_any W2 (hC.past BW2) (fun _ => True) (k : Int) ob onb obc bb bnb bbc tb tnb tbc (cls M) hcn LB (hI.cls.ok hk200))
   obtain ⟨E2, hE2⟩ : ∃ e, clsE (cls M) = e := ⟨_, rfl⟩
   unfold CloseIs at HCl
   rw [hE2] at HCl
   have hpa0 := PA2.lt
   have hpb0 := PB.lt
   go_upto_region 8 with (go_at_call 17; refine HCl.out.mono ?_; rintro e w7 ⟨v, rfl, od, ond, odc, bd, bnd, bdc, td, tnd, tdc, rfl, L7, b7⟩; rw [hcn2])
   clear x0 x1 x2 x3 HCl
   have B7 := BW2.trans (b7.mono BW2.size)
   have PA7 := PA2.past b7
   have PB7 := PB.past b7
   have LA7 := LA2.past b7
   have LB7 := LB.past b7
   have L7' := L7.imp (Q' := fun _ => True) (fun _ _ _ => trivial)
   clear b7 L7 PA2 PB LA2 LB BW2 hpa0 hpb0
   have BX : Below w7.heap.size w7 (w7.alloc (.cells #[.int .i64 (k : Int), .slice od ond odc, .slice bd bnd bdc, .slice td tnd tdc] 29)) := (Below.refl _ _).alloc (Nat.le_refl _) _
   have PC : Bk (w7.alloc (.cells #[.int .i64 (k : Int),.slice od ond odc,.slice bd bnd bdc,.slice td tnd tdc] 29)) w7.heap.size #[.int .i64 (k : Int),.slice od ond odc,.slice bd bnd bdc,.slice td tnd tdc] 29 := Bk.new w7 _ _
   have PA3 := (PA7).past BX
   have PB3 := (PB7).past BX
   have LA3 := (LA7).past BX
   have LB3 := (LB7).past BX
   have LC3 := (L7').past BX
   have BW3 := B7.trans (BX.mono B7.size)
   obtain ⟨pc, hpc⟩ : ∃ x, w7.heap.size = x := ⟨_, rfl⟩
   rw [hpc] at PC
   simp only [hpc]
   clear BX hpc
   generalize w7.alloc (.cells #[.int .i64 (k : Int), .slice od ond odc, .slice bd bnd bdc, .slice td tnd tdc] 29) = W3 at PC PA3 PB3 LA3 LB3 LC3 BW3 ⊢
   clear PA7 PB7 LA7 LB7 L7' B7
   have hpa := PA3.lt
   have hpb := PB3.lt
   have hpc := PC.lt
   obtain ⟨r, hr⟩ : ∃ r, W3.heap.size = r := ⟨_, rfl⟩
   have HR := Lib.hid hr
   have hB0 : r ≤ W3.heap.size := Nat.le_of_eq hr.symm
   have HW := fun (w' : World) (hb : Below r W3.drew w') => (show Below W3.heap.size W3 w' by rw [HR.out]; exact (Below.refl _ _).drew.trans hb)
   rw [hr] at hpa hpb hpc
   have hAo := LA3.op.len
   have hAb := LA3.bl.len
   have hAt := LA3.ts.len
   have hBo := LB3.op.len
   have hBb := LB3.bl.len
   have hBt := LB3.ts.len
   have hCo := LC3.op.len
   have hCb := LC3.bl.len
   have hCt := LC3.ts.len
   have y1 : W3.cell? ⟨pa, 1, none⟩ = some (.slice oa on oc) := PA3.c rfl
   by_cases hop : M.op = []
   · obtain ⟨hc1, hc2⟩ := cls_nil hop
     rw [hop] at hAo
     obtain rfl : (0 : Nat) = on := hAo
     rw [hc1] at hE2 LB3 hBo hBb hBt
     rw [hc2] at hE1 hE2
     subst hE1 hE2
     rw [hop] at hBo
     obtain rfl : (0 : Nat) = onb := hBo
     obtain rfl : bnb = bn := by omega
     obtain rfl : tnb = tn := by omega
     obtain ⟨bn, rfl⟩ : ∃ z, z = bnb := ⟨_, rfl⟩
     obtain ⟨tn, rfl⟩ : ∃ z, z = tnb := ⟨_, rfl⟩
     obtain ⟨ea0,ea1,ea2,ea3⟩ : W3.cell? ⟨pa,0,none⟩ = some (.int .i64 (k : Int)) ∧ W3.cell? ⟨pa,1,none⟩ = some (.slice oa 0 oc) ∧ W3.cell? ⟨pa,2,none⟩ = some (.slice ba bn bc) ∧ W3.cell? ⟨pa,3,none⟩ = some (.slice ta tn tc) := ⟨PA3.c rfl,PA3.c rfl,PA3.c rfl,PA3.c rfl⟩
     obtain ⟨eb0,eb1,eb2,eb3⟩ : W3.cell? ⟨pb,0,none⟩ = some (.int .i64 (k : Int)) ∧ W3.cell? ⟨pb,1,none⟩ = some (.slice ob 0 obc) ∧ W3.cell? ⟨pb,2,none⟩ = some (.slice bb bn bbc) ∧ W3.cell? ⟨pb,3,none⟩ = some (.slice tb tn tbc) := ⟨PB3.c rfl,PB3.c rfl,PB3.c rfl,PB3.c rfl⟩
     have HSm := Lib.hid (ledgerSame_rfl W3 (fun _ => True) (fun _ => True) (k : Int) oa 0 oc ba bn bc ta tn tc ob obc bb bbc tb tbc M LA3 LB3)
     clear hr HW LA3 LB3 LC3 hCo hCb hCt hc1 hc2 hAb hAt hBb hBt PA3 PB3 PC hI hnk hcn hcn2 hop
     go_wp2_with (go_at_call 26; refine HSm.out.mono ?_; rintro e w8 ⟨rfl, b8⟩)
     go_ret
     exact ⟨rfl, BW3.trans (b8.mono BW3.size)⟩
   · obtain ⟨hc1, hc2⟩ := cls_more hop
     have hop0 : 0 < on := by rw [← hAo]; exact List.length_pos_iff.2 hop
     obtain ⟨hc3, hc4⟩ := cls_nil (M := cls M) (by rw [hc1])
     rw [hc3] at LC3 hCo hCb hCt
     rw [hc4] at hE2
     rw [hc2] at hE1
     subst hE1 hE2
     have hLast : (cls M).ts[tn]? = some M.op := by rw [hc1]; show (M.ts ++ [M.op])[tn]? = _; rw [List.getElem?_append_right (by omega), hAt, Nat.sub_self]; rfl
     have h0 : (cls M).op.length = 0 := by rw [hc1]; rfl
     have h1 : (cls M).bl.length = bn + 1 := by rw [hc1]; show (M.bl ++ [newB M]).length = _; rw [List.length_append, hAb]; rfl
     have h2 : (cls M).ts.length = tn + 1 := by rw [hc1]; show (M.ts ++ [M.op]).length = _; rw [List.length_append, hAt]; rfl
     obtain rfl : onb = 0 := by omega
     obtain rfl : ond = 0 := by omega
     obtain rfl : bnb = bnd := by omega
     obtain rfl : tnb = tnd := by omega
     obtain ⟨gt, gto, ⟨ua, un, uc⟩, rfl, hgt, -, hct, hru⟩ := LB3.ts.at hLast
     have hru2 : IsD DT W3 (fun _ => True) ua un uc M.op := hru
     obtain rfl : un = on := by have := hru2.len; omega
     obtain ⟨on, rfl⟩ : ∃ z, z = un := ⟨_, rfl⟩
     obtain ⟨n1, rfl⟩ : ∃ z, z = bnb := ⟨_, rfl⟩
     obtain ⟨t1, rfl⟩ : ∃ z, z = tnb := ⟨_, rfl⟩
     have hbl40 := HBL.out
     have HSB : Hid (IntKind.i64.wrap ((bn : Int) + 1) = (n1 : Nat)) := Lib.hid (by rw [IntWalk.i64_in _ (by omega)]; omega)
     have htl := hI.ts
     have HSC : Hid (IntKind.i64.wrap ((t1 : Int) - 1) = (tn : Nat)) := Lib.hid (by rw [IntWalk.i64_in _ (by omega)]; omega)
     have htn1 : (tn : Int) < (t1 : Int) := by omega
     have u0 : W3.drew.cell? ⟨gt,gto + tn,none⟩ = some (.slice ua on uc) := (show W3.cell? ⟨gt,gto + tn,none⟩ = some (.slice ua on uc) by have := hct 0 (.slice ua on uc) rfl; simpa only [show DTs.E.sz = 1 from rfl,Nat.mul_one,Nat.add_zero] using this)
     rw [hr] at hgt
     obtain ⟨ea0,ea1,ea2,ea3⟩ : W3.drew.cell? ⟨pa,0,none⟩ = some (.int .i64 (k : Int)) ∧ W3.drew.cell? ⟨pa,1,none⟩ = some (.slice oa on oc) ∧ W3.drew.cell? ⟨pa,2,none⟩ = some (.slice ba bn bc) ∧ W3.drew.cell? ⟨pa,3,none⟩ = some (.slice ta tn tc) := ⟨PA3.c rfl,PA3.c rfl,PA3.c rfl,PA3.c rfl⟩
     obtain ⟨eb0,eb1,eb2,eb3⟩ : W3.drew.cell? ⟨pb,0,none⟩ = some (.int .i64 (k : Int)) ∧ W3.drew.cell? ⟨pb,1,none⟩ = some (.slice ob 0 obc) ∧ W3.drew.cell? ⟨pb,2,none⟩ = some (.slice bb n1 bbc) ∧ W3.drew.cell? ⟨pb,3,none⟩ = some (.slice (some ⟨gt,gto,none⟩) t1 tbc) := ⟨PB3.c rfl,PB3.c rfl,PB3.c rfl,PB3.c rfl⟩
     obtain ⟨ec0,ec1,ec2,ec3⟩ : W3.drew.cell? ⟨pc,0,none⟩ = some (.int .i64 (k : Int)) ∧ W3.drew.cell? ⟨pc,1,none⟩ = some (.slice od 0 odc) ∧ W3.drew.cell? ⟨pc,2,none⟩ = some (.slice bd n1 bdc) ∧ W3.drew.cell? ⟨pc,3,none⟩ = some (.slice td t1 tdc) := ⟨PC.c rfl,PC.c rfl,PC.c rfl,PC.c rfl⟩
     have HSm := fun (w' : World) (hb : Below r W3.drew w') => ledgerSame_rfl w' (fun _ => True) (fun _ => True) (k : Int) ob 0 obc bb n1 bbc (some ⟨gt,gto,none⟩) t1 tbc od odc bd bdc td tdc (cls M) (LB3.past (HW w' hb)) (LC3.past (HW w' hb))
     have HSt := fun (w' : World) (hb : Below r W3.drew w') => rsameTxs_rfl w' (fun _ => True) (fun _ => True) ua on uc oa oc M.op (hru2.past (HW w' hb)) (LA3.op.past (HW w' hb))
     obtain ⟨nx, hnx⟩ : ∃ x, (k : Int) = x := ⟨_, rfl⟩
     simp only [hnx] at HSm ea0 eb0 ec0
     have hon9 : ((on : Int) == 0) = false := by simp; omega
     go_upto_region 10 with fail
     clear hnx hr HW LA3 LB3 LC3 hCo hCb hCt hc1 hc2 hc3 hc4 hAb hAt hAo hBo hBb hBt PA3 PB3 PC hI hnk hcn hcn2 hop hop0 hLast h0 h1 h2 hct hru hru2 hbl40 htl y1 hon9
     refine region_inv (LCl10 r pa pb pc nx oa on oc ba bn bc ta tn tc ob obc bb n1 bbc gt gto t1 tbc od odc bd bdc td tdc ua uc) (by kernel_rfl) (by kernel_rfl) ?_ ?_ ?_
     · exact ⟨false,false,false,false,false,false,false,false,false,false,false,false,false,false,false,false,false,false,false,false,false,false,false,false,false,false,false,false,false,false,false,false,false,false,false,false,false,false,false,false,false,false,false,false,false,false,false,false,undef,undef,undef,undef,undef,undef,undef,undef,undef,undef,undef,undef,undef,undef,undef,undef,undef,undef,undef,undef,undef,undef,undef,undef,undef,undef,undef,undef,undef,undef,undef,undef,undef,undef,undef,undef,undef,undef,undef,undef,undef,undef,undef,undef,undef,undef,undef,.bool false,rfl,(by go_simp),Below.refl _ _,nf2,nf2,nf2,nf2,nf2,nf2,nf2,nf2,nf2,nf2,nf2,nf2,nf2,nf2,nf2,nf2,nf2,nf2,nf2,nf2,nf2,nf2,nf2,nf2,nf2,nf2,nf2,nf2,nf2,nf2,nf2,nf2,nf2,nf2,nf2,nf2,nf2,nf2,nf2,nf2,nf2,nf2,nf2,nf2,nf2,nf2,nf2,nf2⟩
     · refine ⟨?_,?_,?_,?_,?_,?_,?_,?_,?_,?_,?_,?_,?_,?_,?_,?_,?_,?_,?_,?_,?_,?_,?_,?_,?_,?_,?_,?_,?_,?_,?_,?_,?_,?_,?_,?_,?_,?_,?_,?_,?_,?_,?_,?_,?_,?_,?_,?_,trivial⟩
       all_goals rintro L a w ⟨b0,b1,b2,b3,b4,b5,b6,b7,b8,b9,b10,b11,b12,b13,b14,b15,b16,b17,b18,b19,b20,b21,b22,b23,b24,b25,b26,b27,b28,b29,b30,b31,b32,b33,b34,b35,b36,b37,b38,b39,b40,b41,b42,b43,b44,b45,b46,b47,x37,x38,x39,x40,x41,x42,x43,x44,x45,x46,x47,x48,x49,x50,x51,x52,x53,x54,x55,x56,x57,x58,x59,x60,x61,x62,x63,x64,x65,x66,x67,x68,x69,x70,x71,x72,x73,x74,x75,x76,x77,x78,x79,x80,x81,x82,x83,x2,rfl,rfl,hb,cd0,cd1,cd2,cd3,cd4,cd5,cd6,cd7,cd8,cd9,cd10,cd11,cd12,cd13,cd14,cd15,cd16,cd17,cd18,cd19,cd20,cd21,cd22,cd23,cd24,cd25,cd26,cd27,cd28,cd29,cd30,cd31,cd32,cd33,cd34,cd35,cd36,cd37,cd38,cd39,cd40,cd41,cd42,cd43,cd44,cd45,cd46,cd47⟩ hf hd
       · have hf' : b0 = false := hf
         subst hf'
         clear hf hd
         try simp only [setIfInBounds_toArray, set_cons_zero, set_cons_succ]
         intro K hK
         rw [if_pos (by rfl)]
         go_simp
         exact hK.out _ _ ⟨true,b1,b2,b3,b4,b5,b6,b7,b8,b9,b10,b11,b12,b13,b14,b15,b16,b17,b18,b19,b20,b21,b22,b23,b24,b25,b26,b27,b28,b29,b30,b31,b32,b33,b34,b35,b36,b37,b38,b39,b40,b41,b42,b43,b44,b45,b46,b47,(.int .i64 0),x38,x39,x40,x41,x42,x43,x44,x45,x46,x47,x48,x49,x50,x51,x52,x53,x54,x55,x56,x57,x58,x59,x60,x61,x62,x63,x64,x65,x66,x67,x68,x69,x70,x71,x72,x73,x74,x75,x76,x77,x78,x79,x80,x81,x82,x83,x2,(by go_simp),(by go_simp),hb,rf,cd1,cd2,cd3,cd4,cd5,cd6,cd7,cd8,cd9,cd10,cd11,cd12,cd13,cd14,cd15,cd16,cd17,cd18,cd19,cd20,cd21,cd22,cd23,cd24,cd25,cd26,cd27,cd28,cd29,cd30,cd31,cd32,cd33,cd34,cd35,cd36,cd37,cd38,cd39,cd40,cd41,cd42,cd43,cd44,cd45,cd46,cd47⟩
       · have hf' : b1 = false := hf
         subst hf'
         have d0 : b0 = true := hd ⟨0, .data⟩ (by simp) rfl
         subst d0
         obtain rfl := cd0.out rfl
         clear hf hd
         try simp only [setIfInBounds_toArray, set_cons_zero, set_cons_succ]
         intro K hK
         rw [if_pos (by rfl)]
         go_simp
         exact hK.out _ _ ⟨true,true,b2,b3,b4,b5,b6,b7,b8,b9,b10,b11,b12,b13,b14,b15,b16,b17,b18,b19,b20,b21,b22,b23,b24,b25,b26,b27,b28,b29,b30,b31,b32,b33,b34,b35,b36,b37,b38,b39,b40,b41,b42,b43,b44,b45,b46,b47,.int .i64 0,(.bool true),x39,x40,x41,x42,x43,x44,x45,x46,x47,x48,x49,x50,x51,x52,x53,x54,x55,x56,x57,x58,x59,x60,x61,x62,x63,x64,x65,x66,x67,x68,x69,x70,x71,x72,x73,x74,x75,x76,x77,x78,x79,x80,x81,x82,x83,x2,(by go_simp),(by go_simp),hb,rf,rf,cd2,cd3,cd4,cd5,cd6,cd7,cd8,cd9,cd10,cd11,cd12,cd13,cd14,cd15,cd16,cd17,cd18,cd19,cd20,cd21,cd22,cd23,cd24,cd25,cd26,cd27,cd28,cd29,cd30,cd31,cd32,cd33,cd34,cd35,cd36,cd37,cd38,cd39,cd40,cd41,cd42,cd43,cd44,cd45,cd46,cd47⟩
       · have hf' : b2 = false := hf
         subst hf'
         have d1 : b1 = true := hd ⟨1, .data⟩ (by simp) rfl
         subst d1
         obtain rfl := cd1.out rfl
         clear hf hd
         try simp only [setIfInBounds_toArray, set_cons_zero, set_cons_succ]
         intro K hK
         rw [if_pos (by rfl)]
         go_simp
         exact hK.out _ _ ⟨b0,true,true,b3,b4,b5,b6,b7,b8,b9,b10,b11,b12,b13,b14,b15,b16,b17,b18,b19,b20,b21,b22,b23,b24,b25,b26,b27,b28,b29,b30,b31,b32,b33,b34,b35,b36,b37,b38,b39,b40,b41,b42,b43,b44,b45,b46,b47,x37,.bool true,(.bool true),x40,x41,x42,x43,x44,x45,x46,x47,x48,x49,x50,x51,x52,x53,x54,x55,x56,x57,x58,x59,x60,x61,x62,x63,x64,x65,x66,x67,x68,x69,x70,x71,x72,x73,x74,x75,x76,x77,x78,x79,x80,x81,x82,x83,x2,(by go_simp),(by go_simp),hb,cd0,rf,rf,cd3,cd4,cd5,cd6,cd7,cd8,cd9,cd10,cd11,cd12,cd13,cd14,cd15,cd16,cd17,cd18,cd19,cd20,cd21,cd22,cd23,cd24,cd25,cd26,cd27,cd28,cd29,cd30,cd31,cd32,cd33,cd34,cd35,cd36,cd37,cd38,cd39,cd40,cd41,cd42,cd43,cd44,cd45,cd46,cd47⟩
       · have hf' : b3 = false := hf
         subst hf'
         have d2 : b2 = true := hd ⟨2, .guard⟩ (by simp) rfl
         subst d2
         obtain rfl := cd2.out rfl
         clear hf hd
         try simp only [setIfInBounds_toArray, set_cons_zero, set_cons_succ]
         intro K hK
         rw [if_pos (by rfl)]
         go_simp
         exact hK.out _ _ ⟨b0,b1,true,true,b4,b5,b6,b7,b8,b9,b10,b11,b12,b13,b14,b15,b16,b17,b18,b19,b20,b21,b22,b23,b24,b25,b26,b27,b28,b29,b30,b31,b32,b33,b34,b35,b36,b37,b38,b39,b40,b41,b42,b43,b44,b45,b46,b47,x37,x38,.bool true,(.int .i64 2),x41,x42,x43,x44,x45,x46,x47,x48,x49,x50,x51,x52,x53,x54,x55,x56,x57,x58,x59,x60,x61,x62,x63,x64,x65,x66,x67,x68,x69,x70,x71,x72,x73,x74,x75,x76,x77,x78,x79,x80,x81,x82,x83,x2,(by go_simp),(by go_simp),hb,cd0,cd1,rf,rf,cd4,cd5,cd6,cd7,cd8,cd9,cd10,cd11,cd12,cd13,cd14,cd15,cd16,cd17,cd18,cd19,cd20,cd21,cd22,cd23,cd24,cd25,cd26,cd27,cd28,cd29,cd30,cd31,cd32,cd33,cd34,cd35,cd36,cd37,cd38,cd39,cd40,cd41,cd42,cd43,cd44,cd45,cd46,cd47⟩
       · have hf' : b4 = false := hf
         subst hf'
         have d3 : b3 = true := hd ⟨3, .data⟩ (by simp) rfl
         subst d3
         have d2 : b2 = true := hd ⟨2, .guard⟩ (by simp) rfl
         subst d2
         obtain rfl := cd3.out rfl
         obtain rfl := cd2.out rfl
         clear hf hd
         try simp only [setIfInBounds_toArray, set_cons_zero, set_cons_succ]
         intro K hK
         rw [if_pos (by rfl)]
         go_simp
         exact hK.out _ _ ⟨b0,b1,true,true,true,b5,b6,b7,b8,b9,b10,b11,b12,b13,b14,b15,b16,b17,b18,b19,b20,b21,b22,b23,b24,b25,b26,b27,b28,b29,b30,b31,b32,b33,b34,b35,b36,b37,b38,b39,b40,b41,b42,b43,b44,b45,b46,b47,x37,x38,.bool true,.int .i64 2,(.bool true),x42,x43,x44,x45,x46,x47,x48,x49,x50,x51,x52,x53,x54,x55,x56,x57,x58,x59,x60,x61,x62,x63,x64,x65,x66,x67,x68,x69,x70,x71,x72,x73,x74,x75,x76,x77,x78,x79,x80,x81,x82,x83,x2,(by go_simp),(by go_simp),hb,cd0,cd1,rf,rf,rf,cd5,cd6,cd7,cd8,cd9,cd10,cd11,cd12,cd13,cd14,cd15,cd16,cd17,cd18,cd19,cd20,cd21,cd22,cd23,cd24,cd25,cd26,cd27,cd28,cd29,cd30,cd31,cd32,cd33,cd34,cd35,cd36,cd37,cd38,cd39,cd40,cd41,cd42,cd43,cd44,cd45,cd46,cd47⟩
       · have hf' : b5 = false := hf
         subst hf'
         have d2 : b2 = true := hd ⟨2, .data⟩ (by simp) rfl
         subst d2
         have d4 : b4 = true := hd ⟨4, .data⟩ (by simp) rfl
         subst d4
         obtain rfl := cd2.out rfl
         obtain rfl := cd4.out rfl
         clear hf hd
         try simp only [setIfInBounds_toArray, set_cons_zero, set_cons_succ]
         intro K hK
         rw [if_pos (by rfl)]
         go_simp
         exact hK.out _ _ ⟨b0,b1,true,b3,true,true,b6,b7,b8,b9,b10,b11,b12,b13,b14,b15,b16,b17,b18,b19,b20,b21,b22,b23,b24,b25,b26,b27,b28,b29,b30,b31,b32,b33,b34,b35,b36,b37,b38,b39,b40,b41,b42,b43,b44,b45,b46,b47,x37,x38,.bool true,x40,.bool true,(.bool true),x43,x44,x45,x46,x47,x48,x49,x50,x51,x52,x53,x54,x55,x56,x57,x58,x59,x60,x61,x62,x63,x64,x65,x66,x67,x68,x69,x70,x71,x72,x73,x74,x75,x76,x77,x78,x79,x80,x81,x82,x83,x2,(by go_simp),(by go_simp),hb,cd0,cd1,rf,cd3,rf,rf,cd6,cd7,cd8,cd9,cd10,cd11,cd12,cd13,cd14,cd15,cd16,cd17,cd18,cd19,cd20,cd21,cd22,cd23,cd24,cd25,cd26,cd27,cd28,cd29,cd30,cd31,cd32,cd33,cd34,cd35,cd36,cd37,cd38,cd39,cd40,cd41,cd42,cd43,cd44,cd45,cd46,cd47⟩
       · have hf' : b6 = false := hf
         subst hf'
         have d5 : b5 = true := hd ⟨5, .data⟩ (by simp) rfl
         subst d5
         have d2 : b2 = true := hd ⟨2, .chain⟩ (by simp) rfl
         subst d2
         obtain rfl := cd5.out rfl
         obtain rfl := cd2.out rfl
         clear hf hd
         try simp only [setIfInBounds_toArray, set_cons_zero, set_cons_succ]
         intro K hK
         rw [if_pos (by rfl)]
         go_simp
         exact hK.out _ _ ⟨b0,b1,true,b3,b4,true,true,b7,b8,b9,b10,b11,b12,b13,b14,b15,b16,b17,b18,b19,b20,b21,b22,b23,b24,b25,b26,b27,b28,b29,b30,b31,b32,b33,b34,b35,b36,b37,b38,b39,b40,b41,b42,b43,b44,b45,b46,b47,x37,x38,.bool true,x40,x41,.bool true,(.bool true),x44,x45,x46,x47,x48,x49,x50,x51,x52,x53,x54,x55,x56,x57,x58,x59,x60,x61,x62,x63,x64,x65,x66,x67,x68,x69,x70,x71,x72,x73,x74,x75,x76,x77,x78,x79,x80,x81,x82,x83,x2,(by go_simp),(by go_simp),hb,cd0,cd1,rf,cd3,cd4,rf,rf,cd7,cd8,cd9,cd10,cd11,cd12,cd13,cd14,cd15,cd16,cd17,cd18,cd19,cd20,cd21,cd22,cd23,cd24,cd25,cd26,cd27,cd28,cd29,cd30,cd31,cd32,cd33,cd34,cd35,cd36,cd37,cd38,cd39,cd40,cd41,cd42,cd43,cd44,cd45,cd46,cd47⟩
       · have hf' : b7 = false := hf
         subst hf'
         have d6 : b6 = true := hd ⟨6, .guard⟩ (by simp) rfl
         subst d6
         obtain rfl := cd6.out rfl
         clear hf hd
         try simp only [setIfInBounds_toArray, set_cons_zero, set_cons_succ]
         have z0 := (hb.cell hpb).trans eb0
         have z1 := (hb.cell hpb).trans eb1
         have z2 := (hb.cell hpb).trans eb2
         have z3 := (hb.cell hpb).trans eb3
         intro K hK
         rw [if_pos (by rfl)]
         go_simp
         exact hK.out _ _ ⟨b0,b1,b2,b3,b4,b5,true,true,b8,b9,b10,b11,b12,b13,b14,b15,b16,b17,b18,b19,b20,b21,b22,b23,b24,b25,b26,b27,b28,b29,b30,b31,b32,b33,b34,b35,b36,b37,b38,b39,b40,b41,b42,b43,b44,b45,b46,b47,x37,x38,x39,x40,x41,x42,.bool true,(.agg #[.int .i64 nx,.slice ob 0 obc,.slice bb n1 bbc,.slice (some ⟨gt,gto,none⟩) t1 tbc]),x45,x46,x47,x48,x49,x50,x51,x52,x53,x54,x55,x56,x57,x58,x59,x60,x61,x62,x63,x64,x65,x66,x67,x68,x69,x70,x71,x72,x73,x74,x75,x76,x77,x78,x79,x80,x81,x82,x83,x2,(by go_simp),(by go_simp),hb,cd0,cd1,cd2,cd3,cd4,cd5,rf,rf,cd8,cd9,cd10,cd11,cd12,cd13,cd14,cd15,cd16,cd17,cd18,cd19,cd20,cd21,cd22,cd23,cd24,cd25,cd26,cd27,cd28,cd29,cd30,cd31,cd32,cd33,cd34,cd35,cd36,cd37,cd38,cd39,cd40,cd41,cd42,cd43,cd44,cd45,cd46,cd47⟩
       · have hf' : b8 = false := hf
         subst hf'
         have d6 : b6 = true := hd ⟨6, .guard⟩ (by simp) rfl
         subst d6
         obtain rfl := cd6.out rfl
         clear hf hd
         try simp only [setIfInBounds_toArray, set_cons_zero, set_cons_succ]
         have z0 := (hb.cell hpc).trans ec0
         have z1 := (hb.cell hpc).trans ec1
         have z2 := (hb.cell hpc).trans ec2
         have z3 := (hb.cell hpc).trans ec3
         intro K hK
         rw [if_pos (by rfl)]
         go_simp
         exact hK.out _ _ ⟨b0,b1,b2,b3,b4,b5,true,b7,true,b9,b10,b11,b12,b13,b14,b15,b16,b17,b18,b19,b20,b21,b22,b23,b24,b25,b26,b27,b28,b29,b30,b31,b32,b33,b34,b35,b36,b37,b38,b39,b40,b41,b42,b43,b44,b45,b46,b47,x37,x38,x39,x40,x41,x42,.bool true,x44,(.agg #[.int .i64 nx,.slice od 0 odc,.slice bd n1 bdc,.slice td t1 tdc]),x46,x47,x48,x49,x50,x51,x52,x53,x54,x55,x56,x57,x58,x59,x60,x61,x62,x63,x64,x65,x66,x67,x68,x69,x70,x71,x72,x73,x74,x75,x76,x77,x78,x79,x80,x81,x82,x83,x2,(by go_simp),(by go_simp),hb,cd0,cd1,cd2,cd3,cd4,cd5,rf,cd7,rf,cd9,cd10,cd11,cd12,cd13,cd14,cd15,cd16,cd17,cd18,cd19,cd20,cd21,cd22,cd23,cd24,cd25,cd26,cd27,cd28,cd29,cd30,cd31,cd32,cd33,cd34,cd35,cd36,cd37,cd38,cd39,cd40,cd41,cd42,cd43,cd44,cd45,cd46,cd47⟩
       · have hf' : b9 = false := hf
         subst hf'
         have d7 : b7 = true := hd ⟨7, .data⟩ (by simp) rfl
         subst d7
         have d8 : b8 = true := hd ⟨8, .data⟩ (by simp) rfl
         subst d8
         have d6 : b6 = true := hd ⟨6, .chain⟩ (by simp) rfl
         subst d6
         obtain rfl := cd7.out rfl
         obtain rfl := cd8.out rfl
         obtain rfl := cd6.out rfl
         clear hf hd
         try simp only [setIfInBounds_toArray, set_cons_zero, set_cons_succ]
         intro K hK
         rw [if_pos (by rfl)]
         go_simp
         go_at_call 26
         refine (HSm _ hb).mono ?_
         rintro e w' ⟨rfl, bx⟩
         exact hK.out _ _ ⟨b0,b1,b2,b3,b4,b5,true,true,true,true,b10,b11,b12,b13,b14,b15,b16,b17,b18,b19,b20,b21,b22,b23,b24,b25,b26,b27,b28,b29,b30,b31,b32,b33,b34,b35,b36,b37,b38,b39,b40,b41,b42,b43,b44,b45,b46,b47,x37,x38,x39,x40,x41,x42,.bool true,.agg #[.int .i64 nx,.slice ob 0 obc,.slice bb n1 bbc,.slice (some ⟨gt,gto,none⟩) t1 tbc],.agg #[.int .i64 nx,.slice od 0 odc,.slice bd n1 bdc,.slice td t1 tdc],(.bool true),x47,x48,x49,x50,x51,x52,x53,x54,x55,x56,x57,x58,x59,x60,x61,x62,x63,x64,x65,x66,x67,x68,x69,x70,x71,x72,x73,x74,x75,x76,x77,x78,x79,x80,x81,x82,x83,x2,(by go_simp),(by go_simp),hb.trans (bx.mono (Nat.le_trans hB0 hb.size)),cd0,cd1,cd2,cd3,cd4,cd5,rf,rf,rf,rf,cd10,cd11,cd12,cd13,cd14,cd15,cd16,cd17,cd18,cd19,cd20,cd21,cd22,cd23,cd24,cd25,cd26,cd27,cd28,cd29,cd30,cd31,cd32,cd33,cd34,cd35,cd36,cd37,cd38,cd39,cd40,cd41,cd42,cd43,cd44,cd45,cd46,cd47⟩
       · have hf' : b10 = false := hf
         subst hf'
         have d6 : b6 = true := hd ⟨6, .data⟩ (by simp) rfl
         subst d6
         have d9 : b9 = true := hd ⟨9, .data⟩ (by simp) rfl
         subst d9
         obtain rfl := cd6.out rfl
         obtain rfl := cd9.out rfl
         clear hf hd
         try simp only [setIfInBounds_toArray, set_cons_zero, set_cons_succ]
         intro K hK
         rw [if_pos (by rfl)]
         go_simp
         exact hK.out _ _ ⟨b0,b1,b2,b3,b4,b5,true,b7,b8,true,true,b11,b12,b13,b14,b15,b16,b17,b18,b19,b20,b21,b22,b23,b24,b25,b26,b27,b28,b29,b30,b31,b32,b33,b34,b35,b36,b37,b38,b39,b40,b41,b42,b43,b44,b45,b46,b47,x37,x38,x39,x40,x41,x42,.bool true,x44,x45,.bool true,(.bool true),x48,x49,x50,x51,x52,x53,x54,x55,x56,x57,x58,x59,x60,x61,x62,x63,x64,x65,x66,x67,x68,x69,x70,x71,x72,x73,x74,x75,x76,x77,x78,x79,x80,x81,x82,x83,x2,(by go_simp),(by go_simp),hb,cd0,cd1,cd2,cd3,cd4,cd5,rf,cd7,cd8,rf,rf,cd11,cd12,cd13,cd14,cd15,cd16,cd17,cd18,cd19,cd20,cd21,cd22,cd23,cd24,cd25,cd26,cd27,cd28,cd29,cd30,cd31,cd32,cd33,cd34,cd35,cd36,cd37,cd38,cd39,cd40,cd41,cd42,cd43,cd44,cd45,cd46,cd47⟩
       · have hf' : b11 = false := hf
         subst hf'
         have d10 : b10 = true := hd ⟨10, .data⟩ (by simp) rfl
         subst d10
         have d9 : b9 = true := hd ⟨9, .chain⟩ (by simp) rfl
         subst d9
         obtain rfl := cd10.out rfl
         obtain rfl := cd9.out rfl
         clear hf hd
         try simp only [setIfInBounds_toArray, set_cons_zero, set_cons_succ]
         intro K hK
         rw [if_pos (by rfl)]
         go_simp
         exact hK.out _ _ ⟨b0,b1,b2,b3,b4,b5,b6,b7,b8,true,true,true,b12,b13,b14,b15,b16,b17,b18,b19,b20,b21,b22,b23,b24,b25,b26,b27,b28,b29,b30,b31,b32,b33,b34,b35,b36,b37,b38,b39,b40,b41,b42,b43,b44,b45,b46,b47,x37,x38,x39,x40,x41,x42,x43,x44,x45,.bool true,.bool true,(.bool true),x49,x50,x51,x52,x53,x54,x55,x56,x57,x58,x59,x60,x61,x62,x63,x64,x65,x66,x67,x68,x69,x70,x71,x72,x73,x74,x75,x76,x77,x78,x79,x80,x81,x82,x83,x2,(by go_simp),(by go_simp),hb,cd0,cd1,cd2,cd3,cd4,cd5,cd6,cd7,cd8,rf,rf,rf,cd12,cd13,cd14,cd15,cd16,cd17,cd18,cd19,cd20,cd21,cd22,cd23,cd24,cd25,cd26,cd27,cd28,cd29,cd30,cd31,cd32,cd33,cd34,cd35,cd36,cd37,cd38,cd39,cd40,cd41,cd42,cd43,cd44,cd45,cd46,cd47⟩
       · have hf' : b12 = false := hf
         subst hf'
         have d11 : b11 = true := hd ⟨11, .guard⟩ (by simp) rfl
         subst d11
         obtain rfl := cd11.out rfl
         clear hf hd
         try simp only [setIfInBounds_toArray, set_cons_zero, set_cons_succ]
         intro K hK
         rw [if_pos (by rfl)]
         go_simp
         exact hK.out _ _ ⟨b0,b1,b2,b3,b4,b5,b6,b7,b8,b9,b10,true,true,b13,b14,b15,b16,b17,b18,b19,b20,b21,b22,b23,b24,b25,b26,b27,b28,b29,b30,b31,b32,b33,b34,b35,b36,b37,b38,b39,b40,b41,b42,b43,b44,b45,b46,b47,x37,x38,x39,x40,x41,x42,x43,x44,x45,x46,x47,.bool true,(.pointer (some ⟨pb,1,none⟩)),x50,x51,x52,x53,x54,x55,x56,x57,x58,x59,x60,x61,x62,x63,x64,x65,x66,x67,x68,x69,x70,x71,x72,x73,x74,x75,x76,x77,x78,x79,x80,x81,x82,x83,x2,(by go_simp),(by go_simp),hb,cd0,cd1,cd2,cd3,cd4,cd5,cd6,cd7,cd8,cd9,cd10,rf,rf,cd13,cd14,cd15,cd16,cd17,cd18,cd19,cd20,cd21,cd22,cd23,cd24,cd25,cd26,cd27,cd28,cd29,cd30,cd31,cd32,cd33,cd34,cd35,cd36,cd37,cd38,cd39,cd40,cd41,cd42,cd43,cd44,cd45,cd46,cd47⟩
       · have hf' : b13 = false := hf
         subst hf'
         have d12 : b12 = true := hd ⟨12, .data⟩ (by simp) rfl
         subst d12
         have d11 : b11 = true := hd ⟨11, .guard⟩ (by simp) rfl
         subst d11
         obtain rfl := cd12.out rfl
         obtain rfl := cd11.out rfl
         clear hf hd
         try simp only [setIfInBounds_toArray, set_cons_zero, set_cons_succ]
         have z0 := (hb.cell hpb).trans eb1
         intro K hK
         rw [if_pos (by rfl)]
         go_simp
         exact hK.out _ _ ⟨b0,b1,b2,b3,b4,b5,b6,b7,b8,b9,b10,true,true,true,b14,b15,b16,b17,b18,b19,b20,b21,b22,b23,b24,b25,b26,b27,b28,b29,b30,b31,b32,b33,b34,b35,b36,b37,b38,b39,b40,b41,b42,b43,b44,b45,b46,b47,x37,x38,x39,x40,x41,x42,x43,x44,x45,x46,x47,.bool true,.pointer (some ⟨pb,1,none⟩),(.slice ob 0 obc),x51,x52,x53,x54,x55,x56,x57,x58,x59,x60,x61,x62,x63,x64,x65,x66,x67,x68,x69,x70,x71,x72,x73,x74,x75,x76,x77,x78,x79,x80,x81,x82,x83,x2,(by go_simp),(by go_simp),hb,cd0,cd1,cd2,cd3,cd4,cd5,cd6,cd7,cd8,cd9,cd10,rf,rf,rf,cd14,cd15,cd16,cd17,cd18,cd19,cd20,cd21,cd22,cd23,cd24,cd25,cd26,cd27,cd28,cd29,cd30,cd31,cd32,cd33,cd34,cd35,cd36,cd37,cd38,cd39,cd40,cd41,cd42,cd43,cd44,cd45,cd46,cd47⟩
       · have hf' : b14 = false := hf
         subst hf'
         have d13 : b13 = true := hd ⟨13, .data⟩ (by simp) rfl
         subst d13
         have d11 : b11 = true := hd ⟨11, .guard⟩ (by simp) rfl
         subst d11
         obtain rfl := cd13.out rfl
         obtain rfl := cd11.out rfl
         clear hf hd
         try simp only [setIfInBounds_toArray, set_cons_zero, set_cons_succ]
         intro K hK
         rw [if_pos (by rfl)]
         go_simp
         exact hK.out _ _ ⟨b0,b1,b2,b3,b4,b5,b6,b7,b8,b9,b10,true,b12,true,true,b15,b16,b17,b18,b19,b20,b21,b22,b23,b24,b25,b26,b27,b28,b29,b30,b31,b32,b33,b34,b35,b36,b37,b38,b39,b40,b41,b42,b43,b44,b45,b46,b47,x37,x38,x39,x40,x41,x42,x43,x44,x45,x46,x47,.bool true,x49,.slice ob 0 obc,(.int .i64 0),x52,x53,x54,x55,x56,x57,x58,x59,x60,x61,x62,x63,x64,x65,x66,x67,x68,x69,x70,x71,x72,x73,x74,x75,x76,x77,x78,x79,x80,x81,x82,x83,x2,(by go_simp),(by go_simp),hb,cd0,cd1,cd2,cd3,cd4,cd5,cd6,cd7,cd8,cd9,cd10,rf,cd12,rf,rf,cd15,cd16,cd17,cd18,cd19,cd20,cd21,cd22,cd23,cd24,cd25,cd26,cd27,cd28,cd29,cd30,cd31,cd32,cd33,cd34,cd35,cd36,cd37,cd38,cd39,cd40,cd41,cd42,cd43,cd44,cd45,cd46,cd47⟩
       · have hf' : b15 = false := hf
         subst hf'
         have d14 : b14 = true := hd ⟨14, .data⟩ (by simp) rfl
         subst d14
         have d11 : b11 = true := hd ⟨11, .guard⟩ (by simp) rfl
         subst d11
         obtain rfl := cd14.out rfl
         obtain rfl := cd11.out rfl
         clear hf hd
         try simp only [setIfInBounds_toArray, set_cons_zero, set_cons_succ]
         intro K hK
         rw [if_pos (by rfl)]
         go_simp
         exact hK.out _ _ ⟨b0,b1,b2,b3,b4,b5,b6,b7,b8,b9,b10,true,b12,b13,true,true,b16,b17,b18,b19,b20,b21,b22,b23,b24,b25,b26,b27,b28,b29,b30,b31,b32,b33,b34,b35,b36,b37,b38,b39,b40,b41,b42,b43,b44,b45,b46,b47,x37,x38,x39,x40,x41,x42,x43,x44,x45,x46,x47,.bool true,x49,x50,.int .i64 0,(.bool true),x53,x54,x55,x56,x57,x58,x59,x60,x61,x62,x63,x64,x65,x66,x67,x68,x69,x70,x71,x72,x73,x74,x75,x76,x77,x78,x79,x80,x81,x82,x83,x2,(by go_simp),(by go_simp),hb,cd0,cd1,cd2,cd3,cd4,cd5,cd6,cd7,cd8,cd9,cd10,rf,cd12,cd13,rf,rf,cd16,cd17,cd18,cd19,cd20,cd21,cd22,cd23,cd24,cd25,cd26,cd27,cd28,cd29,cd30,cd31,cd32,cd33,cd34,cd35,cd36,cd37,cd38,cd39,cd40,cd41,cd42,cd43,cd44,cd45,cd46,cd47⟩
       · have hf' : b16 = false := hf
         subst hf'
         have d11 : b11 = true := hd ⟨11, .data⟩ (by simp) rfl
         subst d11
         have d15 : b15 = true := hd ⟨15, .data⟩ (by simp) rfl
         subst d15
         obtain rfl := cd11.out rfl
         obtain rfl := cd15.out rfl
         clear hf hd
         try simp only [setIfInBounds_toArray, set_cons_zero, set_cons_succ]
         intro K hK
         rw [if_pos (by rfl)]
         go_simp
         exact hK.out _ _ ⟨b0,b1,b2,b3,b4,b5,b6,b7,b8,b9,b10,true,b12,b13,b14,true,true,b17,b18,b19,b20,b21,b22,b23,b24,b25,b26,b27,b28,b29,b30,b31,b32,b33,b34,b35,b36,b37,b38,b39,b40,b41,b42,b43,b44,b45,b46,b47,x37,x38,x39,x40,x41,x42,x43,x44,x45,x46,x47,.bool true,x49,x50,x51,.bool true,(.bool true),x54,x55,x56,x57,x58,x59,x60,x61,x62,x63,x64,x65,x66,x67,x68,x69,x70,x71,x72,x73,x74,x75,x76,x77,x78,x79,x80,x81,x82,x83,x2,(by go_simp),(by go_simp),hb,cd0,cd1,cd2,cd3,cd4,cd5,cd6,cd7,cd8,cd9,cd10,rf,cd12,cd13,cd14,rf,rf,cd17,cd18,cd19,cd20,cd21,cd22,cd23,cd24,cd25,cd26,cd27,cd28,cd29,cd30,cd31,cd32,cd33,cd34,cd35,cd36,cd37,cd38,cd39,cd40,cd41,cd42,cd43,cd44,cd45,cd46,cd47⟩
       · have hf' : b17 = false := hf
         subst hf'
         have d16 : b16 = true := hd ⟨16, .data⟩ (by simp) rfl
         subst d16
         have d11 : b11 = true := hd ⟨11, .chain⟩ (by simp) rfl
         subst d11
         obtain rfl := cd16.out rfl
         obtain rfl := cd11.out rfl
         clear hf hd
         try simp only [setIfInBounds_toArray, set_cons_zero, set_cons_succ]
         intro K hK
         rw [if_pos (by rfl)]
         go_simp
         exact hK.out _ _ ⟨b0,b1,b2,b3,b4,b5,b6,b7,b8,b9,b10,true,b12,b13,b14,b15,true,true,b18,b19,b20,b21,b22,b23,b24,b25,b26,b27,b28,b29,b30,b31,b32,b33,b34,b35,b36,b37,b38,b39,b40,b41,b42,b43,b44,b45,b46,b47,x37,x38,x39,x40,x41,x42,x43,x44,x45,x46,x47,.bool true,x49,x50,x51,x52,.bool true,(.bool true),x55,x56,x57,x58,x59,x60,x61,x62,x63,x64,x65,x66,x67,x68,x69,x70,x71,x72,x73,x74,x75,x76,x77,x78,x79,x80,x81,x82,x83,x2,(by go_simp),(by go_simp),hb,cd0,cd1,cd2,cd3,cd4,cd5,cd6,cd7,cd8,cd9,cd10,rf,cd12,cd13,cd14,cd15,rf,rf,cd18,cd19,cd20,cd21,cd22,cd23,cd24,cd25,cd26,cd27,cd28,cd29,cd30,cd31,cd32,cd33,cd34,cd35,cd36,cd37,cd38,cd39,cd40,cd41,cd42,cd43,cd44,cd45,cd46,cd47⟩
       · have hf' : b18 = false := hf
         subst hf'
         have d17 : b17 = true := hd ⟨17, .guard⟩ (by simp) rfl
         subst d17
         obtain rfl := cd17.out rfl
         clear hf hd
         try simp only [setIfInBounds_toArray, set_cons_zero, set_cons_succ]
         intro K hK
         rw [if_pos (by rfl)]
         go_simp
         exact hK.out _ _ ⟨b0,b1,b2,b3,b4,b5,b6,b7,b8,b9,b10,b11,b12,b13,b14,b15,b16,true,true,b19,b20,b21,b22,b23,b24,b25,b26,b27,b28,b29,b30,b31,b32,b33,b34,b35,b36,b37,b38,b39,b40,b41,b42,b43,b44,b45,b46,b47,x37,x38,x39,x40,x41,x42,x43,x44,x45,x46,x47,x48,x49,x50,x51,x52,x53,.bool true,(.pointer (some ⟨pb,2,none⟩)),x56,x57,x58,x59,x60,x61,x62,x63,x64,x65,x66,x67,x68,x69,x70,x71,x72,x73,x74,x75,x76,x77,x78,x79,x80,x81,x82,x83,x2,(by go_simp),(by go_simp),hb,cd0,cd1,cd2,cd3,cd4,cd5,cd6,cd7,cd8,cd9,cd10,cd11,cd12,cd13,cd14,cd15,cd16,rf,rf,cd19,cd20,cd21,cd22,cd23,cd24,cd25,cd26,cd27,cd28,cd29,cd30,cd31,cd32,cd33,cd34,cd35,cd36,cd37,cd38,cd39,cd40,cd41,cd42,cd43,cd44,cd45,cd46,cd47⟩
       · have hf' : b19 = false := hf
         subst hf'
         have d18 : b18 = true := hd ⟨18, .data⟩ (by simp) rfl
         subst d18
         have d17 : b17 = true := hd ⟨17, .guard⟩ (by simp) rfl
         subst d17
         obtain rfl := cd18.out rfl
         obtain rfl := cd17.out rfl
         clear hf hd
         try simp only [setIfInBounds_toArray, set_cons_zero, set_cons_succ]
         have z0 := (hb.cell hpb).trans eb2
         intro K hK
         rw [if_pos (by rfl)]
         go_simp
         exact hK.out _ _ ⟨b0,b1,b2,b3,b4,b5,b6,b7,b8,b9,b10,b11,b12,b13,b14,b15,b16,true,true,true,b20,b21,b22,b23,b24,b25,b26,b27,b28,b29,b30,b31,b32,b33,b34,b35,b36,b37,b38,b39,b40,b41,b42,b43,b44,b45,b46,b47,x37,x38,x39,x40,x41,x42,x43,x44,x45,x46,x47,x48,x49,x50,x51,x52,x53,.bool true,.pointer (some ⟨pb,2,none⟩),(.slice bb n1 bbc),x57,x58,x59,x60,x61,x62,x63,x64,x65,x66,x67,x68,x69,x70,x71,x72,x73,x74,x75,x76,x77,x78,x79,x80,x81,x82,x83,x2,(by go_simp),(by go_simp),hb,cd0,cd1,cd2,cd3,cd4,cd5,cd6,cd7,cd8,cd9,cd10,cd11,cd12,cd13,cd14,cd15,cd16,rf,rf,rf,cd20,cd21,cd22,cd23,cd24,cd25,cd26,cd27,cd28,cd29,cd30,cd31,cd32,cd33,cd34,cd35,cd36,cd37,cd38,cd39,cd40,cd41,cd42,cd43,cd44,cd45,cd46,cd47⟩
       · have hf' : b20 = false := hf
         subst hf'
         have d19 : b19 = true := hd ⟨19, .data⟩ (by simp) rfl
         subst d19
         have d17 : b17 = true := hd ⟨17, .guard⟩ (by simp) rfl
         subst d17
         obtain rfl := cd19.out rfl
         obtain rfl := cd17.out rfl
         clear hf hd
         try simp only [setIfInBounds_toArray, set_cons_zero, set_cons_succ]
         intro K hK
         rw [if_pos (by rfl)]
         go_simp
         exact hK.out _ _ ⟨b0,b1,b2,b3,b4,b5,b6,b7,b8,b9,b10,b11,b12,b13,b14,b15,b16,true,b18,true,true,b21,b22,b23,b24,b25,b26,b27,b28,b29,b30,b31,b32,b33,b34,b35,b36,b37,b38,b39,b40,b41,b42,b43,b44,b45,b46,b47,x37,x38,x39,x40,x41,x42,x43,x44,x45,x46,x47,x48,x49,x50,x51,x52,x53,.bool true,x55,.slice bb n1 bbc,(.int .i64 (n1 : Nat)),x58,x59,x60,x61,x62,x63,x64,x65,x66,x67,x68,x69,x70,x71,x72,x73,x74,x75,x76,x77,x78,x79,x80,x81,x82,x83,x2,(by go_simp),(by go_simp),hb,cd0,cd1,cd2,cd3,cd4,cd5,cd6,cd7,cd8,cd9,cd10,cd11,cd12,cd13,cd14,cd15,cd16,rf,cd18,rf,rf,cd21,cd22,cd23,cd24,cd25,cd26,cd27,cd28,cd29,cd30,cd31,cd32,cd33,cd34,cd35,cd36,cd37,cd38,cd39,cd40,cd41,cd42,cd43,cd44,cd45,cd46,cd47⟩
       · have hf' : b21 = false := hf
         subst hf'
         have d17 : b17 = true := hd ⟨17, .guard⟩ (by simp) rfl
         subst d17
         obtain rfl := cd17.out rfl
         clear hf hd
         try simp only [setIfInBounds_toArray, set_cons_zero, set_cons_succ]
         intro K hK
         rw [if_pos (by rfl)]
         go_simp
         exact hK.out _ _ ⟨b0,b1,b2,b3,b4,b5,b6,b7,b8,b9,b10,b11,b12,b13,b14,b15,b16,true,b18,b19,b20,true,b22,b23,b24,b25,b26,b27,b28,b29,b30,b31,b32,b33,b34,b35,b36,b37,b38,b39,b40,b41,b42,b43,b44,b45,b46,b47,x37,x38,x39,x40,x41,x42,x43,x44,x45,x46,x47,x48,x49,x50,x51,x52,x53,.bool true,x55,x56,x57,(.pointer (some ⟨pa,2,none⟩)),x59,x60,x61,x62,x63,x64,x65,x66,x67,x68,x69,x70,x71,x72,x73,x74,x75,x76,x77,x78,x79,x80,x81,x82,x83,x2,(by go_simp),(by go_simp),hb,cd0,cd1,cd2,cd3,cd4,cd5,cd6,cd7,cd8,cd9,cd10,cd11,cd12,cd13,cd14,cd15,cd16,rf,cd18,cd19,cd20,rf,cd22,cd23,cd24,cd25,cd26,cd27,cd28,cd29,cd30,cd31,cd32,cd33,cd34,cd35,cd36,cd37,cd38,cd39,cd40,cd41,cd42,cd43,cd44,cd45,cd46,cd47⟩
       · have hf' : b22 = false := hf
         subst hf'
         have d21 : b21 = true := hd ⟨21, .data⟩ (by simp) rfl
         subst d21
         have d17 : b17 = true := hd ⟨17, .guard⟩ (by simp) rfl
         subst d17
         obtain rfl := cd21.out rfl
         obtain rfl := cd17.out rfl
         clear hf hd
         try simp only [setIfInBounds_toArray, set_cons_zero, set_cons_succ]
         have z0 := (hb.cell hpa).trans ea2
         intro K hK
         rw [if_pos (by rfl)]
         go_simp
         exact hK.out _ _ ⟨b0,b1,b2,b3,b4,b5,b6,b7,b8,b9,b10,b11,b12,b13,b14,b15,b16,true,b18,b19,b20,true,true,b23,b24,b25,b26,b27,b28,b29,b30,b31,b32,b33,b34,b35,b36,b37,b38,b39,b40,b41,b42,b43,b44,b45,b46,b47,x37,x38,x39,x40,x41,x42,x43,x44,x45,x46,x47,x48,x49,x50,x51,x52,x53,.bool true,x55,x56,x57,.pointer (some ⟨pa,2,none⟩),(.slice ba bn bc),x60,x61,x62,x63,x64,x65,x66,x67,x68,x69,x70,x71,x72,x73,x74,x75,x76,x77,x78,x79,x80,x81,x82,x83,x2,(by go_simp),(by go_simp),hb,cd0,cd1,cd2,cd3,cd4,cd5,cd6,cd7,cd8,cd9,cd10,cd11,cd12,cd13,cd14,cd15,cd16,rf,cd18,cd19,cd20,rf,rf,cd23,cd24,cd25,cd26,cd27,cd28,cd29,cd30,cd31,cd32,cd33,cd34,cd35,cd36,cd37,cd38,cd39,cd40,cd41,cd42,cd43,cd44,cd45,cd46,cd47⟩
       · have hf' : b23 = false := hf
         subst hf'
         have d22 : b22 = true := hd ⟨22, .data⟩ (by simp) rfl
         subst d22
         have d17 : b17 = true := hd ⟨17, .guard⟩ (by simp) rfl
         subst d17
         obtain rfl := cd22.out rfl
         obtain rfl := cd17.out rfl
         clear hf hd
         try simp only [setIfInBounds_toArray, set_cons_zero, set_cons_succ]
         intro K hK
         rw [if_pos (by rfl)]
         go_simp
         exact hK.out _ _ ⟨b0,b1,b2,b3,b4,b5,b6,b7,b8,b9,b10,b11,b12,b13,b14,b15,b16,true,b18,b19,b20,b21,true,true,b24,b25,b26,b27,b28,b29,b30,b31,b32,b33,b34,b35,b36,b37,b38,b39,b40,b41,b42,b43,b44,b45,b46,b47,x37,x38,x39,x40,x41,x42,x43,x44,x45,x46,x47,x48,x49,x50,x51,x52,x53,.bool true,x55,x56,x57,x58,.slice ba bn bc,(.int .i64 (bn : Nat)),x61,x62,x63,x64,x65,x66,x67,x68,x69,x70,x71,x72,x73,x74,x75,x76,x77,x78,x79,x80,x81,x82,x83,x2,(by go_simp),(by go_simp),hb,cd0,cd1,cd2,cd3,cd4,cd5,cd6,cd7,cd8,cd9,cd10,cd11,cd12,cd13,cd14,cd15,cd16,rf,cd18,cd19,cd20,cd21,rf,rf,cd24,cd25,cd26,cd27,cd28,cd29,cd30,cd31,cd32,cd33,cd34,cd35,cd36,cd37,cd38,cd39,cd40,cd41,cd42,cd43,cd44,cd45,cd46,cd47⟩
       · have hf' : b24 = false := hf
         subst hf'
         have d23 : b23 = true := hd ⟨23, .data⟩ (by simp) rfl
         subst d23
         have d17 : b17 = true := hd ⟨17, .guard⟩ (by simp) rfl
         subst d17
         obtain rfl := cd23.out rfl
         obtain rfl := cd17.out rfl
         clear hf hd
         try simp only [setIfInBounds_toArray, set_cons_zero, set_cons_succ]
         intro K hK
         rw [if_pos (by rfl)]
         go_simp
         rw [HSB.out]
         exact hK.out _ _ ⟨b0,b1,b2,b3,b4,b5,b6,b7,b8,b9,b10,b11,b12,b13,b14,b15,b16,true,b18,b19,b20,b21,b22,true,true,b25,b26,b27,b28,b29,b30,b31,b32,b33,b34,b35,b36,b37,b38,b39,b40,b41,b42,b43,b44,b45,b46,b47,x37,x38,x39,x40,x41,x42,x43,x44,x45,x46,x47,x48,x49,x50,x51,x52,x53,.bool true,x55,x56,x57,x58,x59,.int .i64 (bn : Nat),(.int .i64 (n1 : Nat)),x62,x63,x64,x65,x66,x67,x68,x69,x70,x71,x72,x73,x74,x75,x76,x77,x78,x79,x80,x81,x82,x83,x2,(by go_simp),(by go_simp),hb,cd0,cd1,cd2,cd3,cd4,cd5,cd6,cd7,cd8,cd9,cd10,cd11,cd12,cd13,cd14,cd15,cd16,rf,cd18,cd19,cd20,cd21,cd22,rf,rf,cd25,cd26,cd27,cd28,cd29,cd30,cd31,cd32,cd33,cd34,cd35,cd36,cd37,cd38,cd39,cd40,cd41,cd42,cd43,cd44,cd45,cd46,cd47⟩
       · have hf' : b25 = false := hf
         subst hf'
         have d20 : b20 = true := hd ⟨20, .data⟩ (by simp) rfl
         subst d20
         have d24 : b24 = true := hd ⟨24, .data⟩ (by simp) rfl
         subst d24
         have d17 : b17 = true := hd ⟨17, .guard⟩ (by simp) rfl
         subst d17
         obtain rfl := cd20.out rfl
         obtain rfl := cd24.out rfl
         obtain rfl := cd17.out rfl
         clear hf hd
         try simp only [setIfInBounds_toArray, set_cons_zero, set_cons_succ]
         intro K hK
         rw [if_pos (by rfl)]
         go_simp
         exact hK.out _ _ ⟨b0,b1,b2,b3,b4,b5,b6,b7,b8,b9,b10,b11,b12,b13,b14,b15,b16,true,b18,b19,true,b21,b22,b23,true,true,b26,b27,b28,b29,b30,b31,b32,b33,b34,b35,b36,b37,b38,b39,b40,b41,b42,b43,b44,b45,b46,b47,x37,x38,x39,x40,x41,x42,x43,x44,x45,x46,x47,x48,x49,x50,x51,x52,x53,.bool true,x55,x56,.int .i64 (n1 : Nat),x58,x59,x60,.int .i64 (n1 : Nat),(.bool true),x63,x64,x65,x66,x67,x68,x69,x70,x71,x72,x73,x74,x75,x76,x77,x78,x79,x80,x81,x82,x83,x2,(by go_simp),(by go_simp),hb,cd0,cd1,cd2,cd3,cd4,cd5,cd6,cd7,cd8,cd9,cd10,cd11,cd12,cd13,cd14,cd15,cd16,rf,cd18,cd19,rf,cd21,cd22,cd23,rf,rf,cd26,cd27,cd28,cd29,cd30,cd31,cd32,cd33,cd34,cd35,cd36,cd37,cd38,cd39,cd40,cd41,cd42,cd43,cd44,cd45,cd46,cd47⟩
       · have hf' : b26 = false := hf
         subst hf'
         have d17 : b17 = true := hd ⟨17, .data⟩ (by simp) rfl
         subst d17
         have d25 : b25 = true := hd ⟨25, .data⟩ (by simp) rfl
         subst d25
         obtain rfl := cd17.out rfl
         obtain rfl := cd25.out rfl
         clear hf hd
         try simp only [setIfInBounds_toArray, set_cons_zero, set_cons_succ]
         intro K hK
         rw [if_pos (by rfl)]
         go_simp
         exact hK.out _ _ ⟨b0,b1,b2,b3,b4,b5,b6,b7,b8,b9,b10,b11,b12,b13,b14,b15,b16,true,b18,b19,b20,b21,b22,b23,b24,true,true,b27,b28,b29,b30,b31,b32,b33,b34,b35,b36,b37,b38,b39,b40,b41,b42,b43,b44,b45,b46,b47,x37,x38,x39,x40,x41,x42,x43,x44,x45,x46,x47,x48,x49,x50,x51,x52,x53,.bool true,x55,x56,x57,x58,x59,x60,x61,.bool true,(.bool true),x64,x65,x66,x67,x68,x69,x70,x71,x72,x73,x74,x75,x76,x77,x78,x79,x80,x81,x82,x83,x2,(by go_simp),(by go_simp),hb,cd0,cd1,cd2,cd3,cd4,cd5,cd6,cd7,cd8,cd9,cd10,cd11,cd12,cd13,cd14,cd15,cd16,rf,cd18,cd19,cd20,cd21,cd22,cd23,cd24,rf,rf,cd27,cd28,cd29,cd30,cd31,cd32,cd33,cd34,cd35,cd36,cd37,cd38,cd39,cd40,cd41,cd42,cd43,cd44,cd45,cd46,cd47⟩
       · have hf' : b27 = false := hf
         subst hf'
         have d26 : b26 = true := hd ⟨26, .data⟩ (by simp) rfl
         subst d26
         have d17 : b17 = true := hd ⟨17, .chain⟩ (by simp) rfl
         subst d17
         obtain rfl := cd26.out rfl
         obtain rfl := cd17.out rfl
         clear hf hd
         try simp only [setIfInBounds_toArray, set_cons_zero, set_cons_succ]
         intro K hK
         rw [if_pos (by rfl)]
         go_simp
         exact hK.out _ _ ⟨b0,b1,b2,b3,b4,b5,b6,b7,b8,b9,b10,b11,b12,b13,b14,b15,b16,true,b18,b19,b20,b21,b22,b23,b24,b25,true,true,b28,b29,b30,b31,b32,b33,b34,b35,b36,b37,b38,b39,b40,b41,b42,b43,b44,b45,b46,b47,x37,x38,x39,x40,x41,x42,x43,x44,x45,x46,x47,x48,x49,x50,x51,x52,x53,.bool true,x55,x56,x57,x58,x59,x60,x61,x62,.bool true,(.bool true),x65,x66,x67,x68,x69,x70,x71,x72,x73,x74,x75,x76,x77,x78,x79,x80,x81,x82,x83,x2,(by go_simp),(by go_simp),hb,cd0,cd1,cd2,cd3,cd4,cd5,cd6,cd7,cd8,cd9,cd10,cd11,cd12,cd13,cd14,cd15,cd16,rf,cd18,cd19,cd20,cd21,cd22,cd23,cd24,cd25,rf,rf,cd28,cd29,cd30,cd31,cd32,cd33,cd34,cd35,cd36,cd37,cd38,cd39,cd40,cd41,cd42,cd43,cd44,cd45,cd46,cd47⟩
       · have hf' : b28 = false := hf
         subst hf'
         have d27 : b27 = true := hd ⟨27, .guard⟩ (by simp) rfl
         subst d27
         obtain rfl := cd27.out rfl
         clear hf hd
         try simp only [setIfInBounds_toArray, set_cons_zero, set_cons_succ]
         intro K hK
         rw [if_pos (by rfl)]
         go_simp
         exact hK.out _ _ ⟨b0,b1,b2,b3,b4,b5,b6,b7,b8,b9,b10,b11,b12,b13,b14,b15,b16,b17,b18,b19,b20,b21,b22,b23,b24,b25,b26,true,true,b29,b30,b31,b32,b33,b34,b35,b36,b37,b38,b39,b40,b41,b42,b43,b44,b45,b46,b47,x37,x38,x39,x40,x41,x42,x43,x44,x45,x46,x47,x48,x49,x50,x51,x52,x53,x54,x55,x56,x57,x58,x59,x60,x61,x62,x63,.bool true,(.pointer (some ⟨pb,3,none⟩)),x66,x67,x68,x69,x70,x71,x72,x73,x74,x75,x76,x77,x78,x79,x80,x81,x82,x83,x2,(by go_simp),(by go_simp),hb,cd0,cd1,cd2,cd3,cd4,cd5,cd6,cd7,cd8,cd9,cd10,cd11,cd12,cd13,cd14,cd15,cd16,cd17,cd18,cd19,cd20,cd21,cd22,cd23,cd24,cd25,cd26,rf,rf,cd29,cd30,cd31,cd32,cd33,cd34,cd35,cd36,cd37,cd38,cd39,cd40,cd41,cd42,cd43,cd44,cd45,cd46,cd47⟩
       · have hf' : b29 = false := hf
         subst hf'
         have d28 : b28 = true := hd ⟨28, .data⟩ (by simp) rfl
         subst d28
         have d27 : b27 = true := hd ⟨27, .guard⟩ (by simp) rfl
         subst d27
         obtain rfl := cd28.out rfl
         obtain rfl := cd27.out rfl
         clear hf hd
         try simp only [setIfInBounds_toArray, set_cons_zero, set_cons_succ]
         have z0 := (hb.cell hpb).trans eb3
         intro K hK
         rw [if_pos (by rfl)]
         go_simp
         exact hK.out _ _ ⟨b0,b1,b2,b3,b4,b5,b6,b7,b8,b9,b10,b11,b12,b13,b14,b15,b16,b17,b18,b19,b20,b21,b22,b23,b24,b25,b26,true,true,true,b30,b31,b32,b33,b34,b35,b36,b37,b38,b39,b40,b41,b42,b43,b44,b45,b46,b47,x37,x38,x39,x40,x41,x42,x43,x44,x45,x46,x47,x48,x49,x50,x51,x52,x53,x54,x55,x56,x57,x58,x59,x60,x61,x62,x63,.bool true,.pointer (some ⟨pb,3,none⟩),(.slice (some ⟨gt,gto,none⟩) t1 tbc),x67,x68,x69,x70,x71,x72,x73,x74,x75,x76,x77,x78,x79,x80,x81,x82,x83,x2,(by go_simp),(by go_simp),hb,cd0,cd1,cd2,cd3,cd4,cd5,cd6,cd7,cd8,cd9,cd10,cd11,cd12,cd13,cd14,cd15,cd16,cd17,cd18,cd19,cd20,cd21,cd22,cd23,cd24,cd25,cd26,rf,rf,rf,cd30,cd31,cd32,cd33,cd34,cd35,cd36,cd37,cd38,cd39,cd40,cd41,cd42,cd43,cd44,cd45,cd46,cd47⟩
       · have hf' : b30 = false := hf
         subst hf'
         have d27 : b27 = true := hd ⟨27, .guard⟩ (by simp) rfl
         subst d27
         obtain rfl := cd27.out rfl
         clear hf hd
         try simp only [setIfInBounds_toArray, set_cons_zero, set_cons_succ]
         intro K hK
         rw [if_pos (by rfl)]
         go_simp
         exact hK.out _ _ ⟨b0,b1,b2,b3,b4,b5,b6,b7,b8,b9,b10,b11,b12,b13,b14,b15,b16,b17,b18,b19,b20,b21,b22,b23,b24,b25,b26,true,b28,b29,true,b31,b32,b33,b34,b35,b36,b37,b38,b39,b40,b41,b42,b43,b44,b45,b46,b47,x37,x38,x39,x40,x41,x42,x43,x44,x45,x46,x47,x48,x49,x50,x51,x52,x53,x54,x55,x56,x57,x58,x59,x60,x61,x62,x63,.bool true,x65,x66,(.pointer (some ⟨pb,3,none⟩)),x68,x69,x70,x71,x72,x73,x74,x75,x76,x77,x78,x79,x80,x81,x82,x83,x2,(by go_simp),(by go_simp),hb,cd0,cd1,cd2,cd3,cd4,cd5,cd6,cd7,cd8,cd9,cd10,cd11,cd12,cd13,cd14,cd15,cd16,cd17,cd18,cd19,cd20,cd21,cd22,cd23,cd24,cd25,cd26,rf,cd28,cd29,rf,cd31,cd32,cd33,cd34,cd35,cd36,cd37,cd38,cd39,cd40,cd41,cd42,cd43,cd44,cd45,cd46,cd47⟩
       · have hf' : b31 = false := hf
         subst hf'
         have d30 : b30 = true := hd ⟨30, .data⟩ (by simp) rfl
         subst d30
         have d27 : b27 = true := hd ⟨27, .guard⟩ (by simp) rfl
         subst d27
         obtain rfl := cd30.out rfl
         obtain rfl := cd27.out rfl
         clear hf hd
         try simp only [setIfInBounds_toArray, set_cons_zero, set_cons_succ]
         have z0 := (hb.cell hpb).trans eb3
         intro K hK
         rw [if_pos (by rfl)]
         go_simp
         exact hK.out _ _ ⟨b0,b1,b2,b3,b4,b5,b6,b7,b8,b9,b10,b11,b12,b13,b14,b15,b16,b17,b18,b19,b20,b21,b22,b23,b24,b25,b26,true,b28,b29,true,true,b32,b33,b34,b35,b36,b37,b38,b39,b40,b41,b42,b43,b44,b45,b46,b47,x37,x38,x39,x40,x41,x42,x43,x44,x45,x46,x47,x48,x49,x50,x51,x52,x53,x54,x55,x56,x57,x58,x59,x60,x61,x62,x63,.bool true,x65,x66,.pointer (some ⟨pb,3,none⟩),(.slice (some ⟨gt,gto,none⟩) t1 tbc),x69,x70,x71,x72,x73,x74,x75,x76,x77,x78,x79,x80,x81,x82,x83,x2,(by go_simp),(by go_simp),hb,cd0,cd1,cd2,cd3,cd4,cd5,cd6,cd7,cd8,cd9,cd10,cd11,cd12,cd13,cd14,cd15,cd16,cd17,cd18,cd19,cd20,cd21,cd22,cd23,cd24,cd25,cd26,rf,cd28,cd29,rf,rf,cd32,cd33,cd34,cd35,cd36,cd37,cd38,cd39,cd40,cd41,cd42,cd43,cd44,cd45,cd46,cd47⟩
       · have hf' : b32 = false := hf
         subst hf'
         have d31 : b31 = true := hd ⟨31, .data⟩ (by simp) rfl
         subst d31
         have d27 : b27 = true := hd ⟨27, .guard⟩ (by simp) rfl
         subst d27
         obtain rfl := cd31.out rfl
         obtain rfl := cd27.out rfl
         clear hf hd
         try simp only [setIfInBounds_toArray, set_cons_zero, set_cons_succ]
         intro K hK
         rw [if_pos (by rfl)]
         go_simp
         exact hK.out _ _ ⟨b0,b1,b2,b3,b4,b5,b6,b7,b8,b9,b10,b11,b12,b13,b14,b15,b16,b17,b18,b19,b20,b21,b22,b23,b24,b25,b26,true,b28,b29,b30,true,true,b33,b34,b35,b36,b37,b38,b39,b40,b41,b42,b43,b44,b45,b46,b47,x37,x38,x39,x40,x41,x42,x43,x44,x45,x46,x47,x48,x49,x50,x51,x52,x53,x54,x55,x56,x57,x58,x59,x60,x61,x62,x63,.bool true,x65,x66,x67,.slice (some ⟨gt,gto,none⟩) t1 tbc,(.int .i64 (t1 : Nat)),x70,x71,x72,x73,x74,x75,x76,x77,x78,x79,x80,x81,x82,x83,x2,(by go_simp),(by go_simp),hb,cd0,cd1,cd2,cd3,cd4,cd5,cd6,cd7,cd8,cd9,cd10,cd11,cd12,cd13,cd14,cd15,cd16,cd17,cd18,cd19,cd20,cd21,cd22,cd23,cd24,cd25,cd26,rf,cd28,cd29,cd30,rf,rf,cd33,cd34,cd35,cd36,cd37,cd38,cd39,cd40,cd41,cd42,cd43,cd44,cd45,cd46,cd47⟩
       · have hf' : b33 = false := hf
         subst hf'
         have d32 : b32 = true := hd ⟨32, .data⟩ (by simp) rfl
         subst d32
         have d27 : b27 = true := hd ⟨27, .guard⟩ (by simp) rfl
         subst d27
         obtain rfl := cd32.out rfl
         obtain rfl := cd27.out rfl
         clear hf hd
         try simp only [setIfInBounds_toArray, set_cons_zero, set_cons_succ]
         intro K hK
         rw [if_pos (by rfl)]
         go_simp
         rw [HSC.out]
         exact hK.out _ _ ⟨b0,b1,b2,b3,b4,b5,b6,b7,b8,b9,b10,b11,b12,b13,b14,b15,b16,b17,b18,b19,b20,b21,b22,b23,b24,b25,b26,true,b28,b29,b30,b31,true,true,b34,b35,b36,b37,b38,b39,b40,b41,b42,b43,b44,b45,b46,b47,x37,x38,x39,x40,x41,x42,x43,x44,x45,x46,x47,x48,x49,x50,x51,x52,x53,x54,x55,x56,x57,x58,x59,x60,x61,x62,x63,.bool true,x65,x66,x67,x68,.int .i64 (t1 : Nat),(.int .i64 (tn : Nat)),x71,x72,x73,x74,x75,x76,x77,x78,x79,x80,x81,x82,x83,x2,(by go_simp),(by go_simp),hb,cd0,cd1,cd2,cd3,cd4,cd5,cd6,cd7,cd8,cd9,cd10,cd11,cd12,cd13,cd14,cd15,cd16,cd17,cd18,cd19,cd20,cd21,cd22,cd23,cd24,cd25,cd26,rf,cd28,cd29,cd30,cd31,rf,rf,cd34,cd35,cd36,cd37,cd38,cd39,cd40,cd41,cd42,cd43,cd44,cd45,cd46,cd47⟩
       · have hf' : b34 = false := hf
         subst hf'
         have d29 : b29 = true := hd ⟨29, .data⟩ (by simp) rfl
         subst d29
         have d33 : b33 = true := hd ⟨33, .data⟩ (by simp) rfl
         subst d33
         have d27 : b27 = true := hd ⟨27, .guard⟩ (by simp) rfl
         subst d27
         obtain rfl := cd29.out rfl
         obtain rfl := cd33.out rfl
         obtain rfl := cd27.out rfl
         clear hf hd
         try simp only [setIfInBounds_toArray, set_cons_zero, set_cons_succ]
         intro K hK
         rw [if_pos (by rfl)]
         go_simp
         exact hK.out _ _ ⟨b0,b1,b2,b3,b4,b5,b6,b7,b8,b9,b10,b11,b12,b13,b14,b15,b16,b17,b18,b19,b20,b21,b22,b23,b24,b25,b26,true,b28,true,b30,b31,b32,true,true,b35,b36,b37,b38,b39,b40,b41,b42,b43,b44,b45,b46,b47,x37,x38,x39,x40,x41,x42,x43,x44,x45,x46,x47,x48,x49,x50,x51,x52,x53,x54,x55,x56,x57,x58,x59,x60,x61,x62,x63,.bool true,x65,.slice (some ⟨gt,gto,none⟩) t1 tbc,x67,x68,x69,.int .i64 (tn : Nat),(.pointer (some ⟨gt,gto + tn,none⟩)),x72,x73,x74,x75,x76,x77,x78,x79,x80,x81,x82,x83,x2,(by go_simp),(by go_simp),hb,cd0,cd1,cd2,cd3,cd4,cd5,cd6,cd7,cd8,cd9,cd10,cd11,cd12,cd13,cd14,cd15,cd16,cd17,cd18,cd19,cd20,cd21,cd22,cd23,cd24,cd25,cd26,rf,cd28,rf,cd30,cd31,cd32,rf,rf,cd35,cd36,cd37,cd38,cd39,cd40,cd41,cd42,cd43,cd44,cd45,cd46,cd47⟩
       · have hf' : b35 = false := hf
         subst hf'
         have d34 : b34 = true := hd ⟨34, .data⟩ (by simp) rfl
         subst d34
         have d27 : b27 = true := hd ⟨27, .guard⟩ (by simp) rfl
         subst d27
         obtain rfl := cd34.out rfl
         obtain rfl := cd27.out rfl
         clear hf hd
         try simp only [setIfInBounds_toArray, set_cons_zero, set_cons_succ]
         have z0 := (hb.cell hgt).trans u0
         intro K hK
         rw [if_pos (by rfl)]
         go_simp
         exact hK.out _ _ ⟨b0,b1,b2,b3,b4,b5,b6,b7,b8,b9,b10,b11,b12,b13,b14,b15,b16,b17,b18,b19,b20,b21,b22,b23,b24,b25,b26,true,b28,b29,b30,b31,b32,b33,true,true,b36,b37,b38,b39,b40,b41,b42,b43,b44,b45,b46,b47,x37,x38,x39,x40,x41,x42,x43,x44,x45,x46,x47,x48,x49,x50,x51,x52,x53,x54,x55,x56,x57,x58,x59,x60,x61,x62,x63,.bool true,x65,x66,x67,x68,x69,x70,.pointer (some ⟨gt,gto + tn,none⟩),(.slice ua on uc),x73,x74,x75,x76,x77,x78,x79,x80,x81,x82,x83,x2,(by go_simp),(by go_simp),hb,cd0,cd1,cd2,cd3,cd4,cd5,cd6,cd7,cd8,cd9,cd10,cd11,cd12,cd13,cd14,cd15,cd16,cd17,cd18,cd19,cd20,cd21,cd22,cd23,cd24,cd25,cd26,rf,cd28,cd29,cd30,cd31,cd32,cd33,rf,rf,cd36,cd37,cd38,cd39,cd40,cd41,cd42,cd43,cd44,cd45,cd46,cd47⟩
       · have hf' : b36 = false := hf
         subst hf'
         have d27 : b27 = true := hd ⟨27, .guard⟩ (by simp) rfl
         subst d27
         obtain rfl := cd27.out rfl
         clear hf hd
         try simp only [setIfInBounds_toArray, set_cons_zero, set_cons_succ]
         intro K hK
         rw [if_pos (by rfl)]
         go_simp
         exact hK.out _ _ ⟨b0,b1,b2,b3,b4,b5,b6,b7,b8,b9,b10,b11,b12,b13,b14,b15,b16,b17,b18,b19,b20,b21,b22,b23,b24,b25,b26,true,b28,b29,b30,b31,b32,b33,b34,b35,true,b37,b38,b39,b40,b41,b42,b43,b44,b45,b46,b47,x37,x38,x39,x40,x41,x42,x43,x44,x45,x46,x47,x48,x49,x50,x51,x52,x53,x54,x55,x56,x57,x58,x59,x60,x61,x62,x63,.bool true,x65,x66,x67,x68,x69,x70,x71,x72,(.pointer (some ⟨pa,1,none⟩)),x74,x75,x76,x77,x78,x79,x80,x81,x82,x83,x2,(by go_simp),(by go_simp),hb,cd0,cd1,cd2,cd3,cd4,cd5,cd6,cd7,cd8,cd9,cd10,cd11,cd12,cd13,cd14,cd15,cd16,cd17,cd18,cd19,cd20,cd21,cd22,cd23,cd24,cd25,cd26,rf,cd28,cd29,cd30,cd31,cd32,cd33,cd34,cd35,rf,cd37,cd38,cd39,cd40,cd41,cd42,cd43,cd44,cd45,cd46,cd47⟩
       · have hf' : b37 = false := hf
         subst hf'
         have d36 : b36 = true := hd ⟨36, .data⟩ (by simp) rfl
         subst d36
         have d27 : b27 = true := hd ⟨27, .guard⟩ (by simp) rfl
         subst d27
         obtain rfl := cd36.out rfl
         obtain rfl := cd27.out rfl
         clear hf hd
         try simp only [setIfInBounds_toArray, set_cons_zero, set_cons_succ]
         have z0 := (hb.cell hpa).trans ea1
         intro K hK
         rw [if_pos (by rfl)]
         go_simp
         exact hK.out _ _ ⟨b0,b1,b2,b3,b4,b5,b6,b7,b8,b9,b10,b11,b12,b13,b14,b15,b16,b17,b18,b19,b20,b21,b22,b23,b24,b25,b26,true,b28,b29,b30,b31,b32,b33,b34,b35,true,true,b38,b39,b40,b41,b42,b43,b44,b45,b46,b47,x37,x38,x39,x40,x41,x42,x43,x44,x45,x46,x47,x48,x49,x50,x51,x52,x53,x54,x55,x56,x57,x58,x59,x60,x61,x62,x63,.bool true,x65,x66,x67,x68,x69,x70,x71,x72,.pointer (some ⟨pa,1,none⟩),(.slice oa on oc),x75,x76,x77,x78,x79,x80,x81,x82,x83,x2,(by go_simp),(by go_simp),hb,cd0,cd1,cd2,cd3,cd4,cd5,cd6,cd7,cd8,cd9,cd10,cd11,cd12,cd13,cd14,cd15,cd16,cd17,cd18,cd19,cd20,cd21,cd22,cd23,cd24,cd25,cd26,rf,cd28,cd29,cd30,cd31,cd32,cd33,cd34,cd35,rf,rf,cd38,cd39,cd40,cd41,cd42,cd43,cd44,cd45,cd46,cd47⟩
       · have hf' : b38 = false := hf
         subst hf'
         have d35 : b35 = true := hd ⟨35, .data⟩ (by simp) rfl
         subst d35
         have d37 : b37 = true := hd ⟨37, .data⟩ (by simp) rfl
         subst d37
         have d27 : b27 = true := hd ⟨27, .chain⟩ (by simp) rfl
         subst d27
         obtain rfl := cd35.out rfl
         obtain rfl := cd37.out rfl
         obtain rfl := cd27.out rfl
         clear hf hd
         try simp only [setIfInBounds_toArray, set_cons_zero, set_cons_succ]
         intro K hK
         rw [if_pos (by rfl)]
         go_simp
         go_at_call 22
         refine (HSt _ hb).mono ?_
         rintro e w' ⟨rfl, bx⟩
         exact hK.out _ _ ⟨b0,b1,b2,b3,b4,b5,b6,b7,b8,b9,b10,b11,b12,b13,b14,b15,b16,b17,b18,b19,b20,b21,b22,b23,b24,b25,b26,true,b28,b29,b30,b31,b32,b33,b34,true,b36,true,true,b39,b40,b41,b42,b43,b44,b45,b46,b47,x37,x38,x39,x40,x41,x42,x43,x44,x45,x46,x47,x48,x49,x50,x51,x52,x53,x54,x55,x56,x57,x58,x59,x60,x61,x62,x63,.bool true,x65,x66,x67,x68,x69,x70,x71,.slice ua on uc,x73,.slice oa on oc,(.bool true),x76,x77,x78,x79,x80,x81,x82,x83,x2,(by go_simp),(by go_simp),hb.trans (bx.mono (Nat.le_trans hB0 hb.size)),cd0,cd1,cd2,cd3,cd4,cd5,cd6,cd7,cd8,cd9,cd10,cd11,cd12,cd13,cd14,cd15,cd16,cd17,cd18,cd19,cd20,cd21,cd22,cd23,cd24,cd25,cd26,rf,cd28,cd29,cd30,cd31,cd32,cd33,cd34,rf,cd36,rf,rf,cd39,cd40,cd41,cd42,cd43,cd44,cd45,cd46,cd47⟩
       · have hf' : b39 = false := hf
         subst hf'
         have d27 : b27 = true := hd ⟨27, .data⟩ (by simp) rfl
         subst d27
         have d38 : b38 = true := hd ⟨38, .data⟩ (by simp) rfl
         subst d38
         obtain rfl := cd27.out rfl
         obtain rfl := cd38.out rfl
         clear hf hd
         try simp only [setIfInBounds_toArray, set_cons_zero, set_cons_succ]
         intro K hK
         rw [if_pos (by rfl)]
         go_simp
         exact hK.out _ _ ⟨b0,b1,b2,b3,b4,b5,b6,b7,b8,b9,b10,b11,b12,b13,b14,b15,b16,b17,b18,b19,b20,b21,b22,b23,b24,b25,b26,true,b28,b29,b30,b31,b32,b33,b34,b35,b36,b37,true,true,b40,b41,b42,b43,b44,b45,b46,b47,x37,x38,x39,x40,x41,x42,x43,x44,x45,x46,x47,x48,x49,x50,x51,x52,x53,x54,x55,x56,x57,x58,x59,x60,x61,x62,x63,.bool true,x65,x66,x67,x68,x69,x70,x71,x72,x73,x74,.bool true,(.bool true),x77,x78,x79,x80,x81,x82,x83,x2,(by go_simp),(by go_simp),hb,cd0,cd1,cd2,cd3,cd4,cd5,cd6,cd7,cd8,cd9,cd10,cd11,cd12,cd13,cd14,cd15,cd16,cd17,cd18,cd19,cd20,cd21,cd22,cd23,cd24,cd25,cd26,rf,cd28,cd29,cd30,cd31,cd32,cd33,cd34,cd35,cd36,cd37,rf,rf,cd40,cd41,cd42,cd43,cd44,cd45,cd46,cd47⟩
       · have hf' : b40 = false := hf
         subst hf'
         have d39 : b39 = true := hd ⟨39, .data⟩ (by simp) rfl
         subst d39
         have d38 : b38 = true := hd ⟨38, .chain⟩ (by simp) rfl
         subst d38
         obtain rfl := cd39.out rfl
         obtain rfl := cd38.out rfl
         clear hf hd
         try simp only [setIfInBounds_toArray, set_cons_zero, set_cons_succ]
         intro K hK
         rw [if_pos (by rfl)]
         go_simp
         exact hK.out _ _ ⟨b0,b1,b2,b3,b4,b5,b6,b7,b8,b9,b10,b11,b12,b13,b14,b15,b16,b17,b18,b19,b20,b21,b22,b23,b24,b25,b26,b27,b28,b29,b30,b31,b32,b33,b34,b35,b36,b37,true,true,true,b41,b42,b43,b44,b45,b46,b47,x37,x38,x39,x40,x41,x42,x43,x44,x45,x46,x47,x48,x49,x50,x51,x52,x53,x54,x55,x56,x57,x58,x59,x60,x61,x62,x63,x64,x65,x66,x67,x68,x69,x70,x71,x72,x73,x74,.bool true,.bool true,(.bool true),x78,x79,x80,x81,x82,x83,x2,(by go_simp),(by go_simp),hb,cd0,cd1,cd2,cd3,cd4,cd5,cd6,cd7,cd8,cd9,cd10,cd11,cd12,cd13,cd14,cd15,cd16,cd17,cd18,cd19,cd20,cd21,cd22,cd23,cd24,cd25,cd26,cd27,cd28,cd29,cd30,cd31,cd32,cd33,cd34,cd35,cd36,cd37,rf,rf,rf,cd41,cd42,cd43,cd44,cd45,cd46,cd47⟩
       · have hf' : b41 = false := hf
         subst hf'
         have d40 : b40 = true := hd ⟨40, .guard⟩ (by simp) rfl
         subst d40
         obtain rfl := cd40.out rfl
         clear hf hd
         try simp only [setIfInBounds_toArray, set_cons_zero, set_cons_succ]
         intro K hK
         rw [if_pos (by rfl)]
         go_simp
         exact hK.out _ _ ⟨b0,b1,b2,b3,b4,b5,b6,b7,b8,b9,b10,b11,b12,b13,b14,b15,b16,b17,b18,b19,b20,b21,b22,b23,b24,b25,b26,b27,b28,b29,b30,b31,b32,b33,b34,b35,b36,b37,b38,b39,true,true,b42,b43,b44,b45,b46,b47,x37,x38,x39,x40,x41,x42,x43,x44,x45,x46,x47,x48,x49,x50,x51,x52,x53,x54,x55,x56,x57,x58,x59,x60,x61,x62,x63,x64,x65,x66,x67,x68,x69,x70,x71,x72,x73,x74,x75,x76,.bool true,(.pointer (some ⟨pb,0,none⟩)),x79,x80,x81,x82,x83,x2,(by go_simp),(by go_simp),hb,cd0,cd1,cd2,cd3,cd4,cd5,cd6,cd7,cd8,cd9,cd10,cd11,cd12,cd13,cd14,cd15,cd16,cd17,cd18,cd19,cd20,cd21,cd22,cd23,cd24,cd25,cd26,cd27,cd28,cd29,cd30,cd31,cd32,cd33,cd34,cd35,cd36,cd37,cd38,cd39,rf,rf,cd42,cd43,cd44,cd45,cd46,cd47⟩
       · have hf' : b42 = false := hf
         subst hf'
         have d41 : b41 = true := hd ⟨41, .data⟩ (by simp) rfl
         subst d41
         have d40 : b40 = true := hd ⟨40, .guard⟩ (by simp) rfl
         subst d40
         obtain rfl := cd41.out rfl
         obtain rfl := cd40.out rfl
         clear hf hd
         try simp only [setIfInBounds_toArray, set_cons_zero, set_cons_succ]
         have z0 := (hb.cell hpb).trans eb0
         intro K hK
         rw [if_pos (by rfl)]
         go_simp
         exact hK.out _ _ ⟨b0,b1,b2,b3,b4,b5,b6,b7,b8,b9,b10,b11,b12,b13,b14,b15,b16,b17,b18,b19,b20,b21,b22,b23,b24,b25,b26,b27,b28,b29,b30,b31,b32,b33,b34,b35,b36,b37,b38,b39,true,true,true,b43,b44,b45,b46,b47,x37,x38,x39,x40,x41,x42,x43,x44,x45,x46,x47,x48,x49,x50,x51,x52,x53,x54,x55,x56,x57,x58,x59,x60,x61,x62,x63,x64,x65,x66,x67,x68,x69,x70,x71,x72,x73,x74,x75,x76,.bool true,.pointer (some ⟨pb,0,none⟩),(.int .i64 nx),x80,x81,x82,x83,x2,(by go_simp),(by go_simp),hb,cd0,cd1,cd2,cd3,cd4,cd5,cd6,cd7,cd8,cd9,cd10,cd11,cd12,cd13,cd14,cd15,cd16,cd17,cd18,cd19,cd20,cd21,cd22,cd23,cd24,cd25,cd26,cd27,cd28,cd29,cd30,cd31,cd32,cd33,cd34,cd35,cd36,cd37,cd38,cd39,rf,rf,rf,cd43,cd44,cd45,cd46,cd47⟩
       · have hf' : b43 = false := hf
         subst hf'
         have d40 : b40 = true := hd ⟨40, .guard⟩ (by simp) rfl
         subst d40
         obtain rfl := cd40.out rfl
         clear hf hd
         try simp only [setIfInBounds_toArray, set_cons_zero, set_cons_succ]
         intro K hK
         rw [if_pos (by rfl)]
         go_simp
         exact hK.out _ _ ⟨b0,b1,b2,b3,b4,b5,b6,b7,b8,b9,b10,b11,b12,b13,b14,b15,b16,b17,b18,b19,b20,b21,b22,b23,b24,b25,b26,b27,b28,b29,b30,b31,b32,b33,b34,b35,b36,b37,b38,b39,true,b41,b42,true,b44,b45,b46,b47,x37,x38,x39,x40,x41,x42,x43,x44,x45,x46,x47,x48,x49,x50,x51,x52,x53,x54,x55,x56,x57,x58,x59,x60,x61,x62,x63,x64,x65,x66,x67,x68,x69,x70,x71,x72,x73,x74,x75,x76,.bool true,x78,x79,(.pointer (some ⟨pa,0,none⟩)),x81,x82,x83,x2,(by go_simp),(by go_simp),hb,cd0,cd1,cd2,cd3,cd4,cd5,cd6,cd7,cd8,cd9,cd10,cd11,cd12,cd13,cd14,cd15,cd16,cd17,cd18,cd19,cd20,cd21,cd22,cd23,cd24,cd25,cd26,cd27,cd28,cd29,cd30,cd31,cd32,cd33,cd34,cd35,cd36,cd37,cd38,cd39,rf,cd41,cd42,rf,cd44,cd45,cd46,cd47⟩
       · have hf' : b44 = false := hf
         subst hf'
         have d43 : b43 = true := hd ⟨43, .data⟩ (by simp) rfl
         subst d43
         have d40 : b40 = true := hd ⟨40, .guard⟩ (by simp) rfl
         subst d40
         obtain rfl := cd43.out rfl
         obtain rfl := cd40.out rfl
         clear hf hd
         try simp only [setIfInBounds_toArray, set_cons_zero, set_cons_succ]
         have z0 := (hb.cell hpa).trans ea0
         intro K hK
         rw [if_pos (by rfl)]
         go_simp
         exact hK.out _ _ ⟨b0,b1,b2,b3,b4,b5,b6,b7,b8,b9,b10,b11,b12,b13,b14,b15,b16,b17,b18,b19,b20,b21,b22,b23,b24,b25,b26,b27,b28,b29,b30,b31,b32,b33,b34,b35,b36,b37,b38,b39,true,b41,b42,true,true,b45,b46,b47,x37,x38,x39,x40,x41,x42,x43,x44,x45,x46,x47,x48,x49,x50,x51,x52,x53,x54,x55,x56,x57,x58,x59,x60,x61,x62,x63,x64,x65,x66,x67,x68,x69,x70,x71,x72,x73,x74,x75,x76,.bool true,x78,x79,.pointer (some ⟨pa,0,none⟩),(.int .i64 nx),x82,x83,x2,(by go_simp),(by go_simp),hb,cd0,cd1,cd2,cd3,cd4,cd5,cd6,cd7,cd8,cd9,cd10,cd11,cd12,cd13,cd14,cd15,cd16,cd17,cd18,cd19,cd20,cd21,cd22,cd23,cd24,cd25,cd26,cd27,cd28,cd29,cd30,cd31,cd32,cd33,cd34,cd35,cd36,cd37,cd38,cd39,rf,cd41,cd42,rf,rf,cd45,cd46,cd47⟩
       · have hf' : b45 = false := hf
         subst hf'
         have d42 : b42 = true := hd ⟨42, .data⟩ (by simp) rfl
         subst d42
         have d44 : b44 = true := hd ⟨44, .data⟩ (by simp) rfl
         subst d44
         have d40 : b40 = true := hd ⟨40, .guard⟩ (by simp) rfl
         subst d40
         obtain rfl := cd42.out rfl
         obtain rfl := cd44.out rfl
         obtain rfl := cd40.out rfl
         clear hf hd
         try simp only [setIfInBounds_toArray, set_cons_zero, set_cons_succ]
         intro K hK
         rw [if_pos (by rfl)]
         go_simp
         exact hK.out _ _ ⟨b0,b1,b2,b3,b4,b5,b6,b7,b8,b9,b10,b11,b12,b13,b14,b15,b16,b17,b18,b19,b20,b21,b22,b23,b24,b25,b26,b27,b28,b29,b30,b31,b32,b33,b34,b35,b36,b37,b38,b39,true,b41,true,b43,true,true,b46,b47,x37,x38,x39,x40,x41,x42,x43,x44,x45,x46,x47,x48,x49,x50,x51,x52,x53,x54,x55,x56,x57,x58,x59,x60,x61,x62,x63,x64,x65,x66,x67,x68,x69,x70,x71,x72,x73,x74,x75,x76,.bool true,x78,.int .i64 nx,x80,.int .i64 nx,(.bool true),x83,x2,(by go_simp),(by go_simp),hb,cd0,cd1,cd2,cd3,cd4,cd5,cd6,cd7,cd8,cd9,cd10,cd11,cd12,cd13,cd14,cd15,cd16,cd17,cd18,cd19,cd20,cd21,cd22,cd23,cd24,cd25,cd26,cd27,cd28,cd29,cd30,cd31,cd32,cd33,cd34,cd35,cd36,cd37,cd38,cd39,rf,cd41,rf,cd43,rf,rf,cd46,cd47⟩
       · have hf' : b46 = false := hf
         subst hf'
         have d40 : b40 = true := hd ⟨40, .data⟩ (by simp) rfl
         subst d40
         have d45 : b45 = true := hd ⟨45, .data⟩ (by simp) rfl
         subst d45
         obtain rfl := cd40.out rfl
         obtain rfl := cd45.out rfl
         clear hf hd
         try simp only [setIfInBounds_toArray, set_cons_zero, set_cons_succ]
         intro K hK
         rw [if_pos (by rfl)]
         go_simp
         exact hK.out _ _ ⟨b0,b1,b2,b3,b4,b5,b6,b7,b8,b9,b10,b11,b12,b13,b14,b15,b16,b17,b18,b19,b20,b21,b22,b23,b24,b25,b26,b27,b28,b29,b30,b31,b32,b33,b34,b35,b36,b37,b38,b39,true,b41,b42,b43,b44,true,true,b47,x37,x38,x39,x40,x41,x42,x43,x44,x45,x46,x47,x48,x49,x50,x51,x52,x53,x54,x55,x56,x57,x58,x59,x60,x61,x62,x63,x64,x65,x66,x67,x68,x69,x70,x71,x72,x73,x74,x75,x76,.bool true,x78,x79,x80,x81,.bool true,(.bool true),x2,(by go_simp),(by go_simp),hb,cd0,cd1,cd2,cd3,cd4,cd5,cd6,cd7,cd8,cd9,cd10,cd11,cd12,cd13,cd14,cd15,cd16,cd17,cd18,cd19,cd20,cd21,cd22,cd23,cd24,cd25,cd26,cd27,cd28,cd29,cd30,cd31,cd32,cd33,cd34,cd35,cd36,cd37,cd38,cd39,rf,cd41,cd42,cd43,cd44,rf,rf,cd47⟩
       · have hf' : b47 = false := hf
         subst hf'
         have d46 : b46 = true := hd ⟨46, .data⟩ (by simp) rfl
         subst d46
         have d40 : b40 = true := hd ⟨40, .chain⟩ (by simp) rfl
         subst d40
         have d0 : b0 = true := hd ⟨0, .phase⟩ (by simp) rfl
         subst d0
         have d1 : b1 = true := hd ⟨1, .phase⟩ (by simp) rfl
         subst d1
         have d2 : b2 = true := hd ⟨2, .phase⟩ (by simp) rfl
         subst d2
         have d3 : b3 = true := hd ⟨3, .phase⟩ (by simp) rfl
         subst d3
         have d4 : b4 = true := hd ⟨4, .phase⟩ (by simp) rfl
         subst d4
         have d5 : b5 = true := hd ⟨5, .phase⟩ (by simp) rfl
         subst d5
         have d6 : b6 = true := hd ⟨6, .phase⟩ (by simp) rfl
         subst d6
         have d7 : b7 = true := hd ⟨7, .phase⟩ (by simp) rfl
         subst d7
         have d8 : b8 = true := hd ⟨8, .phase⟩ (by simp) rfl
         subst d8
         have d9 : b9 = true := hd ⟨9, .phase⟩ (by simp) rfl
         subst d9
         have d10 : b10 = true := hd ⟨10, .phase⟩ (by simp) rfl
         subst d10
         have d11 : b11 = true := hd ⟨11, .phase⟩ (by simp) rfl
         subst d11
         have d12 : b12 = true := hd ⟨12, .phase⟩ (by simp) rfl
         subst d12
         have d13 : b13 = true := hd ⟨13, .phase⟩ (by simp) rfl
         subst d13
         have d14 : b14 = true := hd ⟨14, .phase⟩ (by simp) rfl
         subst d14
         have d15 : b15 = true := hd ⟨15, .phase⟩ (by simp) rfl
         subst d15
         have d16 : b16 = true := hd ⟨16, .phase⟩ (by simp) rfl
         subst d16
         have d17 : b17 = true := hd ⟨17, .phase⟩ (by simp) rfl
         subst d17
         have d18 : b18 = true := hd ⟨18, .phase⟩ (by simp) rfl
         subst d18
         have d19 : b19 = true := hd ⟨19, .phase⟩ (by simp) rfl
         subst d19
         have d20 : b20 = true := hd ⟨20, .phase⟩ (by simp) rfl
         subst d20
         have d21 : b21 = true := hd ⟨21, .phase⟩ (by simp) rfl
         subst d21
         have d22 : b22 = true := hd ⟨22, .phase⟩ (by simp) rfl
         subst d22
         have d23 : b23 = true := hd ⟨23, .phase⟩ (by simp) rfl
         subst d23
         have d24 : b24 = true := hd ⟨24, .phase⟩ (by simp) rfl
         subst d24
         have d25 : b25 = true := hd ⟨25, .phase⟩ (by simp) rfl
         subst d25
         have d26 : b26 = true := hd ⟨26, .phase⟩ (by simp) rfl
         subst d26
         have d27 : b27 = true := hd ⟨27, .phase⟩ (by simp) rfl
         subst d27
         have d28 : b28 = true := hd ⟨28, .phase⟩ (by simp) rfl
         subst d28
         have d29 : b29 = true := hd ⟨29, .phase⟩ (by simp) rfl
         subst d29
         have d30 : b30 = true := hd ⟨30, .phase⟩ (by simp) rfl
         subst d30
         have d31 : b31 = true := hd ⟨31, .phase⟩ (by simp) rfl
         subst d31
         have d32 : b32 = true := hd ⟨32, .phase⟩ (by simp) rfl
         subst d32
         have d33 : b33 = true := hd ⟨33, .phase⟩ (by simp) rfl
         subst d33
         have d34 : b34 = true := hd ⟨34, .phase⟩ (by simp) rfl
         subst d34
         have d35 : b35 = true := hd ⟨35, .phase⟩ (by simp) rfl
         subst d35
         have d36 : b36 = true := hd ⟨36, .phase⟩ (by simp) rfl
         subst d36
         have d37 : b37 = true := hd ⟨37, .phase⟩ (by simp) rfl
         subst d37
         have d38 : b38 = true := hd ⟨38, .phase⟩ (by simp) rfl
         subst d38
         have d39 : b39 = true := hd ⟨39, .phase⟩ (by simp) rfl
         subst d39
         have d41 : b41 = true := hd ⟨41, .phase⟩ (by simp) rfl
         subst d41
         have d42 : b42 = true := hd ⟨42, .phase⟩ (by simp) rfl
         subst d42
         have d43 : b43 = true := hd ⟨43, .phase⟩ (by simp) rfl
         subst d43
         have d44 : b44 = true := hd ⟨44, .phase⟩ (by simp) rfl
         subst d44
         have d45 : b45 = true := hd ⟨45, .phase⟩ (by simp) rfl
         subst d45
         obtain rfl := cd46.out rfl
         obtain rfl := cd40.out rfl
         obtain rfl := cd0.out rfl
         obtain rfl := cd1.out rfl
         obtain rfl := cd2.out rfl
         obtain rfl := cd3.out rfl
         obtain rfl := cd4.out rfl
         obtain rfl := cd5.out rfl
         obtain rfl := cd6.out rfl
         obtain rfl := cd7.out rfl
         obtain rfl := cd8.out rfl
         obtain rfl := cd9.out rfl
         obtain rfl := cd10.out rfl
         obtain rfl := cd11.out rfl
         obtain rfl := cd12.out rfl
         obtain rfl := cd13.out rfl
         obtain rfl := cd14.out rfl
         obtain rfl := cd15.out rfl
         obtain rfl := cd16.out rfl
         obtain rfl := cd17.out rfl
         obtain rfl := cd18.out rfl
         obtain rfl := cd19.out rfl
         obtain rfl := cd20.out rfl
         obtain rfl := cd21.out rfl
         obtain rfl := cd22.out rfl
         obtain rfl := cd23.out rfl
         obtain rfl := cd24.out rfl
         obtain rfl := cd25.out rfl
         obtain rfl := cd26.out rfl
         obtain rfl := cd27.out rfl
         obtain rfl := cd28.out rfl
         obtain rfl := cd29.out rfl
         obtain rfl := cd30.out rfl
         obtain rfl := cd31.out rfl
         obtain rfl := cd32.out rfl
         obtain rfl := cd33.out rfl
         obtain rfl := cd34.out rfl
         obtain rfl := cd35.out rfl
         obtain rfl := cd36.out rfl
         obtain rfl := cd37.out rfl
         obtain rfl := cd38.out rfl
         obtain rfl := cd39.out rfl
         obtain rfl := cd41.out rfl
         obtain rfl := cd42.out rfl
         obtain rfl := cd43.out rfl
         obtain rfl := cd44.out rfl
         obtain rfl := cd45.out rfl
         clear hf hd
         try simp only [setIfInBounds_toArray, set_cons_zero, set_cons_succ]
         intro K hK
         rw [if_pos (by rfl)]
         go_simp
         exact hK.out _ _ ⟨true,true,true,true,true,true,true,true,true,true,true,true,true,true,true,true,true,true,true,true,true,true,true,true,true,true,true,true,true,true,true,true,true,true,true,true,true,true,true,true,true,true,true,true,true,true,true,true,.int .i64 0,.bool true,.bool true,.int .i64 2,.bool true,.bool true,.bool true,.agg #[.int .i64 nx,.slice ob 0 obc,.slice bb n1 bbc,.slice (some ⟨gt,gto,none⟩) t1 tbc],.agg #[.int .i64 nx,.slice od 0 odc,.slice bd n1 bdc,.slice td t1 tdc],.bool true,.bool true,.bool true,.pointer (some ⟨pb,1,none⟩),.slice ob 0 obc,.int .i64 0,.bool true,.bool true,.bool true,.pointer (some ⟨pb,2,none⟩),.slice bb n1 bbc,.int .i64 (n1 : Nat),.pointer (some ⟨pa,2,none⟩),.slice ba bn bc,.int .i64 (bn : Nat),.int .i64 (n1 : Nat),.bool true,.bool true,.bool true,.pointer (some ⟨pb,3,none⟩),.slice (some ⟨gt,gto,none⟩) t1 tbc,.pointer (some ⟨pb,3,none⟩),.slice (some ⟨gt,gto,none⟩) t1 tbc,.int .i64 (t1 : Nat),.int .i64 (tn : Nat),.pointer (some ⟨gt,gto + tn,none⟩),.slice ua on uc,.pointer (some ⟨pa,1,none⟩),.slice oa on oc,.bool true,.bool true,.bool true,.pointer (some ⟨pb,0,none⟩),.int .i64 nx,.pointer (some ⟨pa,0,none⟩),.int .i64 nx,.bool true,.bool true,(.bool true),(by go_simp),(by go_simp),hb,rf,rf,rf,rf,rf,rf,rf,rf,rf,rf,rf,rf,rf,rf,rf,rf,rf,rf,rf,rf,rf,rf,rf,rf,rf,rf,rf,rf,rf,rf,rf,rf,rf,rf,rf,rf,rf,rf,rf,rf,rf,rf,rf,rf,rf,rf,rf,rf⟩
     · rintro act V ⟨b0,b1,b2,b3,b4,b5,b6,b7,b8,b9,b10,b11,b12,b13,b14,b15,b16,b17,b18,b19,b20,b21,b22,b23,b24,b25,b26,b27,b28,b29,b30,b31,b32,b33,b34,b35,b36,b37,b38,b39,b40,b41,b42,b43,b44,b45,b46,b47,x37,x38,x39,x40,x41,x42,x43,x44,x45,x46,x47,x48,x49,x50,x51,x52,x53,x54,x55,x56,x57,x58,x59,x60,x61,x62,x63,x64,x65,x66,x67,x68,x69,x70,x71,x72,x73,x74,x75,x76,x77,x78,x79,x80,x81,x82,x83,x2,hL,rfl,hb,cd0,cd1,cd2,cd3,cd4,cd5,cd6,cd7,cd8,cd9,cd10,cd11,cd12,cd13,cd14,cd15,cd16,cd17,cd18,cd19,cd20,cd21,cd22,cd23,cd24,cd25,cd26,cd27,cd28,cd29,cd30,cd31,cd32,cd33,cd34,cd35,cd36,cd37,cd38,cd39,cd40,cd41,cd42,cd43,cd44,cd45,cd46,cd47⟩
       have hL' : [true,true,true,true,true,true,true,true,true,true,true,true,true,true,true,true,true,true,true,true,true,true,true,true,true,true,true,true,true,true,true,true,true,true,true,true,true,true,true,true,true,true,true,true,true,true,true,true] = [b0,b1,b2,b3,b4,b5,b6,b7,b8,b9,b10,b11,b12,b13,b14,b15,b16,b17,b18,b19,b20,b21,b22,b23,b24,b25,b26,b27,b28,b29,b30,b31,b32,b33,b34,b35,b36,b37,b38,b39,b40,b41,b42,b43,b44,b45,b46,b47] := congrArg Array.toList hL
       simp only [List.cons.injEq, and_true] at hL'
       obtain ⟨rfl,rfl,rfl,rfl,rfl,rfl,rfl,rfl,rfl,rfl,rfl,rfl,rfl,rfl,rfl,rfl,rfl,rfl,rfl,rfl,rfl,rfl,rfl,rfl,rfl,rfl,rfl,rfl,rfl,rfl,rfl,rfl,rfl,rfl,rfl,rfl,rfl,rfl,rfl,rfl,rfl,rfl,rfl,rfl,rfl,rfl,rfl,rfl⟩ := hL'
       obtain rfl := cd0.out rfl
       obtain rfl := cd1.out rfl
       obtain rfl := cd2.out rfl
       obtain rfl := cd3.out rfl
       obtain rfl := cd4.out rfl
       obtain rfl := cd5.out rfl
       obtain rfl := cd6.out rfl
       obtain rfl := cd7.out rfl
       obtain rfl := cd8.out rfl
       obtain rfl := cd9.out rfl
       obtain rfl := cd10.out rfl
       obtain rfl := cd11.out rfl
       obtain rfl := cd12.out rfl
       obtain rfl := cd13.out rfl
       obtain rfl := cd14.out rfl
       obtain rfl := cd15.out rfl
       obtain rfl := cd16.out rfl
       obtain rfl := cd17.out rfl
       obtain rfl := cd18.out rfl
       obtain rfl := cd19.out rfl
       obtain rfl := cd20.out rfl
       obtain rfl := cd21.out rfl
       obtain rfl := cd22.out rfl
       obtain rfl := cd23.out rfl
       obtain rfl := cd24.out rfl
       obtain rfl := cd25.out rfl
       obtain rfl := cd26.out rfl
       obtain rfl := cd27.out rfl
       obtain rfl := cd28.out rfl
       obtain rfl := cd29.out rfl
       obtain rfl := cd30.out rfl
       obtain rfl := cd31.out rfl
       obtain rfl := cd32.out rfl
       obtain rfl := cd33.out rfl
       obtain rfl := cd34.out rfl
       obtain rfl := cd35.out rfl
       obtain rfl := cd36.out rfl
       obtain rfl := cd37.out rfl
       obtain rfl := cd38.out rfl
       obtain rfl := cd39.out rfl
       obtain rfl := cd40.out rfl
       obtain rfl := cd41.out rfl
       obtain rfl := cd42.out rfl
       obtain rfl := cd43.out rfl
       obtain rfl := cd44.out rfl
       obtain rfl := cd45.out rfl
       obtain rfl := cd46.out rfl
       obtain rfl := cd47.out rfl
       clear hL cd0 cd1 cd2 cd3 cd4 cd5 cd6 cd7 cd8 cd9 cd10 cd11 cd12 cd13 cd14 cd15 cd16 cd17 cd18 cd19 cd20 cd21 cd22 cd23 cd24 cd25 cd26 cd27 cd28 cd29 cd30 cd31 cd32 cd33 cd34 cd35 cd36 cd37 cd38 cd39 cd40 cd41 cd42 cd43 cd44 cd45 cd46 cd47
       simp only [setIfInBounds_toArray, set_cons_zero, set_cons_succ]
       have BV : Below W3.heap.size W3 V := by rw [HR.out]; exact (Below.refl _ _).drew.trans hb
       clear hb
       go_wp2_with fail
       go_ret
       exact ⟨rfl, BW3.trans (BV.mono BW3.size)⟩
end Go.Proofs.YtdmnjjknkcnkgaaGreatDoor
