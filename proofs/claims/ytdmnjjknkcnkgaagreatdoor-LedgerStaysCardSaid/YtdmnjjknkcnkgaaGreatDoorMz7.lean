/-
 The document's RowText (by gen_rg.py).
 The document's EntryText, BlockText (by gen_rg.py).
 The sum over two: merkle's pair, the reference's Two and Leaf.
 The reference's Leaf.
 The document's Row, Hash (by gen_rg3.py).
 merkle's Root and Proof.
 Rows of sums, plain, and their roots (out of XLaw3).
 The reference's part.
 The reference's part and Root.
-/
import Derived.Test.YtdmnjjknkcnkgaaGreatDoorMz4
import Derived.Test.YtdmnjjknkcnkgaaGreatDoorMz6
import Derived.Test.YtdmnjjknkcnkgaaGreatDoorMz3
import Derived.Outline
import Derived.Deep.RegionHeld3
namespace Go.Proofs.YtdmnjjknkcnkgaaGreatDoor
open List (setIfInBounds_toArray set_cons_zero set_cons_succ)
open Go.RowKit
set_option linter.unusedSimpArgs false
theorem rowT_eq (t s : Int) (tb : ByteArray) (op : Int) (l : List V) (h1 : tb.size ≤ 60000) (h2 : (encR l).length ≤ 60000) :
 ((((le 8 (XU t) ++ le 8 (XU s)) ++ le 1 (XU op)) ++ (le 2 tb.size ++ tb.data.toList)) ++ (le 2 (⟨(encR l).toArray⟩ : ByteArray).size ++ (⟨(encR l).toArray⟩ : ByteArray).data.toList)) = rowT t s ((tb,op),l) := by
 have e1 := tx_eq5 tb h1
 have e2 := tx_eq5 (⟨(encR l).toArray⟩ : ByteArray) (by simpa [ByteArray.size] using h2)
 rw [← e1, ← e2]
 simp only [rowT, List.append_assoc]
inductive RgT1 (B : Nat) (p : Nat) (t : Int) (s : Int) (tb : ByteArray) (op : Int) (ra : Option Addr) (rn : Nat) (rc : Nat) (l1 : List UInt8) (l2 : List UInt8) (l3 : List UInt8) (l4 : List UInt8) (n1 : Nat) (n2 : Nat) (n3 : Nat) (n4 : Nat) (a0 : Act) (w0 : World) (L : Array Bool) (a : Act) (w : World) : Prop
 | mk (b0 b1 b2 b3 b4 b5 b6 b7 b8 b9 b10 : Bool) (x8 x9 x10 x11 x12 x13 x14 x15 x16 x17 x7 : Value) (g1 : Nat) (c1 : Nat) (g2 : Nat) (c2 : Nat) (g3 : Nat) (c3 : Nat) (g4 : Nat) (c4 : Nat) (hL : L = #[b0,b1,b2,b3,b4,b5,b6,b7,b8,b9,b10]) (ha : a = ⟨(((((((((((a0.tmps.setIfInBounds 8 x8).setIfInBounds 9 x9).setIfInBounds 10 x10).setIfInBounds 11 x11).setIfInBounds 12 x12).setIfInBounds 13 x13).setIfInBounds 14 x14).setIfInBounds 15 x15).setIfInBounds 16 x16).setIfInBounds 17 x17).setIfInBounds 7 x7),a0.defers⟩) (hb : Below B w0 w) (cd0 : Hid (b0 = true → x8 = .int .i64 t)) (cd1 : Hid (b1 = true → x9 = .slice (some ⟨g1,0,none⟩) n1 c1)) (cd2 : Hid (b2 = true → x10 = .int .i64 s)) (cd3 : Hid (b3 = true → x11 = .slice (some ⟨g2,0,none⟩) n2 c2)) (cd4 : Hid (b4 = true → x12 = .pointer (some ⟨p,1,none⟩))) (cd5 : Hid (b5 = true → x13 = .int .i64 op)) (cd6 : Hid (b6 = true → x14 = .slice (some ⟨g3,0,none⟩) n3 c3)) (cd7 : Hid (b7 = true → x15 = .pointer (some ⟨p,0,none⟩))) (cd8 : Hid (b8 = true → x16 = .string tb)) (cd9 : Hid (b9 = true → x17 = .slice (some ⟨g4,0,none⟩) n4 c4)) (cd10 : Hid (b10 = true → x7 = .slice (some ⟨g4,0,none⟩) n4 c4)) (f_p : Hid (Bk w p #[.string tb,.int .i64 op,.slice ra rn rc] 67)) (f_o3_1 : Hid ((b3 = true → b1 = true))) (f_o6_1 : Hid ((b6 = true → b1 = true))) (f_o6_3 : Hid ((b6 = true → b3 = true))) (f_o9_1 : Hid ((b9 = true → b1 = true))) (f_o9_3 : Hid ((b9 = true → b3 = true))) (f_o9_6 : Hid ((b9 = true → b6 = true))) (f_a : Hid (b1 = true → b3 = false → TxtR EU8 w 5 B (some ⟨g1,0,none⟩) n1 c1 l1)) (f_b : Hid (b3 = true → b6 = false → TxtR EU8 w 5 B (some ⟨g2,0,none⟩) n2 c2 l2)) (f_c : Hid (b6 = true → b9 = false → TxtR EU8 w 5 B (some ⟨g3,0,none⟩) n3 c3 l3)) (f_d : Hid (b9 = true → TxtR EU8 w 5 B (some ⟨g4,0,none⟩) n4 c4 l4)) (w_10_9 : Hid (b10 = true → b9 = true)) : RgT1 B p t s tb op ra rn rc l1 l2 l3 l4 n1 n2 n3 n4 a0 w0 L a w
set_option maxRecDepth 100000 in
set_option maxHeartbeats 1600000 in
theorem rowText_any (w : World) (t s : Int) (c : Chg) (ra : Option Addr) (rn rc : Nat) (h : IsR EV w ra rn rc c.2) (hok : ChOk c) :
 Calls Tryz.prog 66 #[.int .i64 t, .int .i64 s, .agg #[.string c.1.1, .int .i64 c.1.2, .slice ra rn rc]] w (Fresh w (rowT t s c).length (rowT t s c)) := by
 obtain ⟨⟨tb, op⟩, l⟩ := c
 obtain ⟨k1, k2, k3⟩ := hok
 simp only at k1 k2 k3 h ⊢
 have hln := h.len
 have e6 : (encR l).length ≤ 1 + 70 * 15 := by
  have := encVs_60 k3
  unfold encR
  rw [List.length_append, le_length]
  omega
 have hE := rowT_eq t s tb op l (by omega) (by omega)
 have HRB0 := fun (w' : World) (hw : IsR EV w' ra rn rc l) => rbytes_any ra rn rc l w' hw (by omega) (fun v hv => by have := k3 v hv; omega)
 have hlen : (rowT t s ((tb, op), l)).length = 17 + (2 + tb.size) + (2 + (encR l).length) := by
  rw [← hE]
  simp only [List.length_append, le_length, Array.length_toList, ByteArray.size, List.size_toArray]
 have hz6 : (⟨(encR l).toArray⟩ : ByteArray).size = (encR l).length := List.size_toArray
 obtain ⟨l6, hl6⟩ : ∃ x, encR l = x := ⟨_, rfl⟩
 simp only [hl6] at HRB0 hE hlen e6 hz6
 obtain ⟨l1, hl1⟩ : ∃ x, le 8 (XU t) = x := ⟨_, rfl⟩
 obtain ⟨l2, hl2⟩ : ∃ x, l1 ++ le 8 (XU s) = x := ⟨_, rfl⟩
 obtain ⟨l3, hl3⟩ : ∃ x, l2 ++ le 1 (XU op) = x := ⟨_, rfl⟩
 obtain ⟨l4, hl4⟩ : ∃ x, l3 ++ (le 2 tb.size ++ tb.data.toList) = x := ⟨_, rfl⟩
 rw [hl1, hl2, hl3, hl4] at hE
 obtain ⟨l5, hl5⟩ : ∃ x, rowT t s ((tb, op), l) = x := ⟨_, rfl⟩
 rw [hl5] at hE hlen ⊢
 obtain ⟨n6, hn6⟩ : ∃ n, l6.length = n := ⟨_, rfl⟩
 obtain ⟨n1, hn1⟩ : ∃ n, 8 = n := ⟨_, rfl⟩
 obtain ⟨n2, hn2⟩ : ∃ n, n1 + 8 = n := ⟨_, rfl⟩
 obtain ⟨n3, hn3⟩ : ∃ n, n2 + 1 = n := ⟨_, rfl⟩
 obtain ⟨n4, hn4⟩ : ∃ n, n3 + (2 + tb.size) = n := ⟨_, rfl⟩
 obtain ⟨n5, hn5⟩ : ∃ n, n4 + (2 + (⟨l6.toArray⟩ : ByteArray).size) = n := ⟨_, rfl⟩
 rw [show l5.length = n5 by omega]
 simp only [hn6] at HRB0
 have HI1 : ∀ (w : World) {B : Nat}, B ≤ w.heap.size → Calls Tryz.prog 75 #[.slice none 0 0,.int .i64 t] w (WentB w B n1 l1) := fun w B hB => by subst hn1; rw [← hl1]; exact rint0B t w hB
 have HI2 : ∀ (w : World) {B : Nat} (g c : Nat),TxtR EU8 w 5 B (some ⟨g,0,none⟩) n1 c l1 → B ≤ w.heap.size → Calls Tryz.prog 75 #[.slice (some ⟨g,0,none⟩) n1 c,.int .i64 s] w (WentB w B n2 l2) := fun w B g c h hB => rintB s h hB (by omega) hn2 hl2
 have HBy : ∀ (w : World) {B : Nat} (g c : Nat),TxtR EU8 w 5 B (some ⟨g,0,none⟩) n2 c l2 → B ≤ w.heap.size → Calls Tryz.prog 98 #[.slice (some ⟨g,0,none⟩) n2 c,.int .i64 op] w (WentB w B n3 l3) := fun w B g c h hB => rbyteB op h hB (by omega) hn3 hl3
 have HT1 : ∀ (w : World) {B : Nat} (g c : Nat),TxtR EU8 w 5 B (some ⟨g,0,none⟩) n3 c l3 → B ≤ w.heap.size → Calls Tryz.prog 97 #[.slice (some ⟨g,0,none⟩) n3 c,.string tb] w (WentB w B n4 l4) := fun w B g c h hB => rtextB tb h hB (by omega) (by omega) hn4 hl4
 have HT2 : ∀ (w : World) {B : Nat} (g c : Nat),TxtR EU8 w 5 B (some ⟨g,0,none⟩) n4 c l4 → B ≤ w.heap.size → Calls Tryz.prog 97 #[.slice (some ⟨g,0,none⟩) n4 c,.string (⟨l6.toArray⟩ : ByteArray)] w (WentB w B n5 l5) := fun w B g c h hB => rtextB (⟨l6.toArray⟩ : ByteArray) h hB (by omega) (by omega) hn5 hE
 clear hl1 hl2 hl3 hl4 hl5 hE hlen hn1 hn2 hn3 hn4 hn5 hn6 hz6 e6 k1 k2 k3 hl6
 have B0 : Below w.heap.size w (w.alloc (.cells #[.string tb, .int .i64 op, .slice ra rn rc] 67)) := (Below.refl _ _).alloc (Nat.le_refl _) _
 have hP0 : Bk (w.alloc (.cells #[.string tb, .int .i64 op, .slice ra rn rc] 67)) w.heap.size #[.string tb, .int .i64 op, .slice ra rn rc] 67 := Bk.new w _ _
 have h0 := h.past B0
 have hs0 := World.size_alloc w (.cells #[.string tb, .int .i64 op, .slice ra rn rc] 67)
 go_enter Tryz.func66, Tryz.ntmps66
 go_upto_region 1 with fail
 obtain ⟨p, hp⟩ : ∃ p, w.heap.size = p := ⟨_, rfl⟩
 obtain ⟨q, hq⟩ : ∃ q, p + 1 = q := ⟨_, rfl⟩
 have HG := Lib.hid hp
 rw [hp] at hP0 hs0
 rw [hq] at hs0
 simp only [hp]
 have B1 : Below q (w.alloc (.cells #[.string tb, .int .i64 op, .slice ra rn rc] 67)) (w.alloc (.cells #[.string tb, .int .i64 op, .slice ra rn rc] 67)) := Below.refl _ _
 have BW : Below p w (w.alloc (.cells #[.string tb, .int .i64 op, .slice ra rn rc] 67)) := by rw [← hp]; exact B0
 generalize w.alloc (.cells #[.string tb, .int .i64 op, .slice ra rn rc] 67) = W at hP0 h0 hs0 B1 BW ⊢
 have hP := hP0
 have hsq0 : Hid (W.heap.size = q) := Lib.hid (by omega)
 have hpq : p < q := by omega
 have hB0 : q ≤ W.heap.size := Nat.le_of_eq hs0.symm
 clear hp hq B0 h hs0 hP0
 have hsq := hsq0
 refine region_inv (RgT1 q p t s tb op ra rn rc l1 l2 l3 l4 n1 n2 n3 n4) (by kernel_rfl) (by kernel_rfl) ?_ ?_ ?_
 · exact ⟨false,false,false,false,false,false,false,false,false,false,false,undef,undef,undef,undef,undef,undef,undef,undef,undef,undef,undef,0,0,0,0,0,0,0,0,rfl,(by go_simp),Below.refl _ _,nf2,nf2,nf2,nf2,nf2,nf2,nf2,nf2,nf2,nf2,nf2,(hP.past (Below.refl _ _).drew),(nf2),(nf2),(nf2),(nf2),(nf2),(nf2),nf2,nf2,nf2,nf2,nf2⟩
 · refine ⟨?_, ?_, ?_, ?_, ?_, ?_, ?_, ?_, ?_, ?_, ?_, trivial⟩
   all_goals rintro L a w ⟨b0,b1,b2,b3,b4,b5,b6,b7,b8,b9,b10,x8,x9,x10,x11,x12,x13,x14,x15,x16,x17,x7,g1,c1,g2,c2,g3,c3,g4,c4,rfl,rfl,hb,cd0,cd1,cd2,cd3,cd4,cd5,cd6,cd7,cd8,cd9,cd10,f_p,f_o3_1,f_o6_1,f_o6_3,f_o9_1,f_o9_3,f_o9_6,f_a,f_b,f_c,f_d,w_10_9⟩ hf hd
   · have hf' : b0 = false := hf
     subst hf'
     clear hf hd
     have W_p := f_p.out
     have W_o3_1 := f_o3_1.out
     have W_o6_1 := f_o6_1.out
     have W_o6_3 := f_o6_3.out
     have W_o9_1 := f_o9_1.out
     have W_o9_3 := f_o9_3.out
     have W_o9_6 := f_o9_6.out
     intro K hK
     rw [if_pos (by rfl)]
     go_simp
     exact hK.out _ _ ⟨true,b1,b2,b3,b4,b5,b6,b7,b8,b9,b10,(.int .i64 t),x9,x10,x11,x12,x13,x14,x15,x16,x17,x7,g1,c1,g2,c2,g3,c3,g4,c4,(by go_simp),(by go_simp),hb,(fun _ => rfl),cd1,cd2,cd3,cd4,cd5,cd6,cd7,cd8,cd9,cd10,f_p,f_o3_1,f_o6_1,f_o6_3,f_o9_1,f_o9_3,f_o9_6,f_a,f_b,f_c,f_d,w_10_9⟩
   · have hf' : b1 = false := hf
     subst hf'
     have d0 : b0 = true := hd ⟨0, .data⟩ (by simp) rfl
     subst d0
     obtain rfl := cd0.out rfl
     clear hf hd
     have W_p := f_p.out
     have W_o3_1 := f_o3_1.out
     have W_o6_1 := f_o6_1.out
     have W_o6_3 := f_o6_3.out
     have W_o9_1 := f_o9_1.out
     have W_o9_3 := f_o9_3.out
     have W_o9_6 := f_o9_6.out
     intro K hK
     rw [if_pos (by rfl)]
     go_simp
     go_at_call 75
     refine (HI1 _ (Nat.le_trans hB0 hb.size)).mono ?_
     rintro e w2 ⟨g, c, rfl, o9, bz9⟩
     have hb2 := hb.trans bz9
     exact hK.out _ _ ⟨true,true,b2,b3,b4,b5,b6,b7,b8,b9,b10,.int .i64 t,(.slice (some ⟨g,0,none⟩) n1 c),x10,x11,x12,x13,x14,x15,x16,x17,x7,g,c,g2,c2,g3,c3,g4,c4,(by go_simp),(by go_simp),hb2,rf,rf,cd2,cd3,cd4,cd5,cd6,cd7,cd8,cd9,cd10,(Bk.past9 f_p.out bz9 hpq),rf,rf,f_o6_3,rf,f_o9_3,f_o9_6,(fun _ _ => o9),(fun h0 _ => absurd (f_o3_1.out h0) (by simp)),(fun h0 _ => absurd (f_o6_1.out h0) (by simp)),(fun h0 => absurd (f_o9_1.out h0) (by simp)),w_10_9⟩
   · have hf' : b2 = false := hf
     subst hf'
     clear hf hd
     have W_p := f_p.out
     have W_o3_1 := f_o3_1.out
     have W_o6_1 := f_o6_1.out
     have W_o6_3 := f_o6_3.out
     have W_o9_1 := f_o9_1.out
     have W_o9_3 := f_o9_3.out
     have W_o9_6 := f_o9_6.out
     intro K hK
     rw [if_pos (by rfl)]
     go_simp
     exact hK.out _ _ ⟨b0,b1,true,b3,b4,b5,b6,b7,b8,b9,b10,x8,x9,(.int .i64 s),x11,x12,x13,x14,x15,x16,x17,x7,g1,c1,g2,c2,g3,c3,g4,c4,(by go_simp),(by go_simp),hb,cd0,cd1,(fun _ => rfl),cd3,cd4,cd5,cd6,cd7,cd8,cd9,cd10,f_p,f_o3_1,f_o6_1,f_o6_3,f_o9_1,f_o9_3,f_o9_6,f_a,f_b,f_c,f_d,w_10_9⟩
   · have hf' : b3 = false := hf
     subst hf'
     have d1 : b1 = true := hd ⟨1, .data⟩ (by simp) rfl
     subst d1
     have d2 : b2 = true := hd ⟨2, .data⟩ (by simp) rfl
     subst d2
     obtain rfl := cd1.out rfl
     obtain rfl := cd2.out rfl
     clear hf hd
     have W_p := f_p.out
     have W_o3_1 := f_o3_1.out
     have W_o6_1 := f_o6_1.out
     have W_o6_3 := f_o6_3.out
     have W_o9_1 := f_o9_1.out
     have W_o9_3 := f_o9_3.out
     have W_o9_6 := f_o9_6.out
     have W_a := f_a.out rfl rfl
     intro K hK
     rw [if_pos (by rfl)]
     go_simp
     go_at_call 75
     refine (HI2 _ _ _ W_a (Nat.le_trans hB0 hb.size)).mono ?_
     rintro e w2 ⟨g, c, rfl, o9, bz9⟩
     have hb2 := hb.trans bz9
     exact hK.out _ _ ⟨b0,true,true,true,b4,b5,b6,b7,b8,b9,b10,x8,.slice (some ⟨g1,0,none⟩) n1 c1,.int .i64 s,(.slice (some ⟨g,0,none⟩) n2 c),x12,x13,x14,x15,x16,x17,x7,g1,c1,g,c,g3,c3,g4,c4,(by go_simp),(by go_simp),hb2,cd0,rf,rf,rf,cd4,cd5,cd6,cd7,cd8,cd9,cd10,(Bk.past9 f_p.out bz9 hpq),rf,f_o6_1,rf,f_o9_1,rf,f_o9_6,(fun _ h => by cases h),(fun _ _ => o9),(fun h0 _ => absurd (f_o6_3.out h0) (by simp)),(fun h0 => absurd (f_o9_3.out h0) (by simp)),w_10_9⟩
   · have hf' : b4 = false := hf
     subst hf'
     clear hf hd
     have W_p := f_p.out
     have W_o3_1 := f_o3_1.out
     have W_o6_1 := f_o6_1.out
     have W_o6_3 := f_o6_3.out
     have W_o9_1 := f_o9_1.out
     have W_o9_3 := f_o9_3.out
     have W_o9_6 := f_o9_6.out
     intro K hK
     rw [if_pos (by rfl)]
     go_simp
     exact hK.out _ _ ⟨b0,b1,b2,b3,true,b5,b6,b7,b8,b9,b10,x8,x9,x10,x11,(.pointer (some ⟨p,1,none⟩)),x13,x14,x15,x16,x17,x7,g1,c1,g2,c2,g3,c3,g4,c4,(by go_simp),(by go_simp),hb,cd0,cd1,cd2,cd3,rf,cd5,cd6,cd7,cd8,cd9,cd10,f_p,f_o3_1,f_o6_1,f_o6_3,f_o9_1,f_o9_3,f_o9_6,f_a,f_b,f_c,f_d,w_10_9⟩
   · have hf' : b5 = false := hf
     subst hf'
     have d4 : b4 = true := hd ⟨4, .data⟩ (by simp) rfl
     subst d4
     obtain rfl := cd4.out rfl
     clear hf hd
     have W_p := f_p.out
     have W_o3_1 := f_o3_1.out
     have W_o6_1 := f_o6_1.out
     have W_o6_3 := f_o6_3.out
     have W_o9_1 := f_o9_1.out
     have W_o9_3 := f_o9_3.out
     have W_o9_6 := f_o9_6.out
     try simp only [setIfInBounds_toArray, set_cons_zero, set_cons_succ]
     obtain ⟨z0, z1, z2⟩ := chg_cells W_p
     intro K hK
     rw [if_pos (by rfl)]
     go_simp
     exact hK.out _ _ ⟨b0,b1,b2,b3,true,true,b6,b7,b8,b9,b10,x8,x9,x10,x11,.pointer (some ⟨p,1,none⟩),(.int .i64 op),x14,x15,x16,x17,x7,g1,c1,g2,c2,g3,c3,g4,c4,(by go_simp),(by go_simp),hb,cd0,cd1,cd2,cd3,rf,rf,cd6,cd7,cd8,cd9,cd10,f_p,f_o3_1,f_o6_1,f_o6_3,f_o9_1,f_o9_3,f_o9_6,f_a,f_b,f_c,f_d,w_10_9⟩
   · have hf' : b6 = false := hf
     subst hf'
     have d3 : b3 = true := hd ⟨3, .data⟩ (by simp) rfl
     subst d3
     have d5 : b5 = true := hd ⟨5, .data⟩ (by simp) rfl
     subst d5
     obtain rfl := cd3.out rfl
     obtain rfl := cd5.out rfl
     clear hf hd
     have W_p := f_p.out
     have W_o3_1 := f_o3_1.out
     have W_o6_1 := f_o6_1.out
     have W_o6_3 := f_o6_3.out
     have W_o9_1 := f_o9_1.out
     have W_o9_3 := f_o9_3.out
     have W_o9_6 := f_o9_6.out
     have W_b := f_b.out rfl rfl
     intro K hK
     rw [if_pos (by rfl)]
     go_simp
     go_at_call 98
     refine (HBy _ _ _ W_b (Nat.le_trans hB0 hb.size)).mono ?_
     rintro e w2 ⟨g, c, rfl, o9, bz9⟩
     have hb2 := hb.trans bz9
     exact hK.out _ _ ⟨b0,b1,b2,true,b4,true,true,b7,b8,b9,b10,x8,x9,x10,.slice (some ⟨g2,0,none⟩) n2 c2,x12,.int .i64 op,(.slice (some ⟨g,0,none⟩) n3 c),x15,x16,x17,x7,g1,c1,g2,c2,g,c,g4,c4,(by go_simp),(by go_simp),hb2,cd0,cd1,cd2,rf,cd4,rf,rf,cd7,cd8,cd9,cd10,(Bk.past9 f_p.out bz9 hpq),f_o3_1,(fun _ => f_o3_1.out rfl),rf,f_o9_1,f_o9_3,rf,(fun _ h => by cases h),(fun _ h => by cases h),(fun _ _ => o9),(fun h0 => absurd (f_o9_6.out h0) (by simp)),w_10_9⟩
   · have hf' : b7 = false := hf
     subst hf'
     clear hf hd
     have W_p := f_p.out
     have W_o3_1 := f_o3_1.out
     have W_o6_1 := f_o6_1.out
     have W_o6_3 := f_o6_3.out
     have W_o9_1 := f_o9_1.out
     have W_o9_3 := f_o9_3.out
     have W_o9_6 := f_o9_6.out
     intro K hK
     rw [if_pos (by rfl)]
     go_simp
     exact hK.out _ _ ⟨b0,b1,b2,b3,b4,b5,b6,true,b8,b9,b10,x8,x9,x10,x11,x12,x13,x14,(.pointer (some ⟨p,0,none⟩)),x16,x17,x7,g1,c1,g2,c2,g3,c3,g4,c4,(by go_simp),(by go_simp),hb,cd0,cd1,cd2,cd3,cd4,cd5,cd6,rf,cd8,cd9,cd10,f_p,f_o3_1,f_o6_1,f_o6_3,f_o9_1,f_o9_3,f_o9_6,f_a,f_b,f_c,f_d,w_10_9⟩
   · have hf' : b8 = false := hf
     subst hf'
     have d7 : b7 = true := hd ⟨7, .data⟩ (by simp) rfl
     subst d7
     obtain rfl := cd7.out rfl
     clear hf hd
     have W_p := f_p.out
     have W_o3_1 := f_o3_1.out
     have W_o6_1 := f_o6_1.out
     have W_o6_3 := f_o6_3.out
     have W_o9_1 := f_o9_1.out
     have W_o9_3 := f_o9_3.out
     have W_o9_6 := f_o9_6.out
     try simp only [setIfInBounds_toArray, set_cons_zero, set_cons_succ]
     obtain ⟨z0, z1, z2⟩ := chg_cells W_p
     intro K hK
     rw [if_pos (by rfl)]
     go_simp
     exact hK.out _ _ ⟨b0,b1,b2,b3,b4,b5,b6,true,true,b9,b10,x8,x9,x10,x11,x12,x13,x14,.pointer (some ⟨p,0,none⟩),(.string tb),x17,x7,g1,c1,g2,c2,g3,c3,g4,c4,(by go_simp),(by go_simp),hb,cd0,cd1,cd2,cd3,cd4,cd5,cd6,rf,rf,cd9,cd10,f_p,f_o3_1,f_o6_1,f_o6_3,f_o9_1,f_o9_3,f_o9_6,f_a,f_b,f_c,f_d,w_10_9⟩
   · have hf' : b9 = false := hf
     subst hf'
     have d6 : b6 = true := hd ⟨6, .data⟩ (by simp) rfl
     subst d6
     have d8 : b8 = true := hd ⟨8, .data⟩ (by simp) rfl
     subst d8
     obtain rfl := cd6.out rfl
     obtain rfl := cd8.out rfl
     clear hf hd
     have W_p := f_p.out
     have W_o3_1 := f_o3_1.out
     have W_o6_1 := f_o6_1.out
     have W_o6_3 := f_o6_3.out
     have W_o9_1 := f_o9_1.out
     have W_o9_3 := f_o9_3.out
     have W_o9_6 := f_o9_6.out
     have W_c := f_c.out rfl rfl
     intro K hK
     rw [if_pos (by rfl)]
     go_simp
     go_at_call 97
     refine (HT1 _ _ _ W_c (Nat.le_trans hB0 hb.size)).mono ?_
     rintro e w2 ⟨g, c, rfl, o9, bz9⟩
     have hb2 := hb.trans bz9
     have e_10 : b10 = false := by cases hq : b10 with | false => rfl | true => exact absurd (w_10_9.out hq) (by simp)
     subst e_10
     exact hK.out _ _ ⟨b0,b1,b2,b3,b4,b5,true,b7,true,true,false,x8,x9,x10,x11,x12,x13,.slice (some ⟨g3,0,none⟩) n3 c3,x15,.string tb,(.slice (some ⟨g,0,none⟩) n4 c),x7,g1,c1,g2,c2,g3,c3,g,c,(by go_simp),(by go_simp),hb2,cd0,cd1,cd2,cd3,cd4,cd5,rf,cd7,rf,rf,nf2,(Bk.past9 f_p.out bz9 hpq),f_o3_1,f_o6_1,f_o6_3,(fun _ => f_o6_1.out rfl),(fun _ => f_o6_3.out rfl),rf,(fun _ h1 => by rw [f_o6_3.out rfl] at h1; cases h1),(fun _ h => by cases h),(fun _ h => by cases h),(fun _ => o9),rf⟩
   · have hf' : b10 = false := hf
     subst hf'
     have d9 : b9 = true := hd ⟨9, .data⟩ (by simp) rfl
     subst d9
     have d0 : b0 = true := hd ⟨0, .phase⟩ (by simp) rfl
     subst d0
     have d1 : b1 = true := hd ⟨1, .phase⟩ (by simp) rfl
     subst d1
     have d2 : b2 = true := hd ⟨2, .phase⟩ (by simp) rfl
     subst d2
     have d3 : b3 = true := hd ⟨3, .phase⟩ (by simp) rfl
     subst d3
     have d4 : b4 = true := hd ⟨4, .phase⟩ (by simp) rfl
     subst d4
     have d5 : b5 = true := hd ⟨5, .phase⟩ (by simp) rfl
     subst d5
     have d6 : b6 = true := hd ⟨6, .phase⟩ (by simp) rfl
     subst d6
     have d7 : b7 = true := hd ⟨7, .phase⟩ (by simp) rfl
     subst d7
     have d8 : b8 = true := hd ⟨8, .phase⟩ (by simp) rfl
     subst d8
     obtain rfl := cd9.out rfl
     obtain rfl := cd0.out rfl
     obtain rfl := cd1.out rfl
     obtain rfl := cd2.out rfl
     obtain rfl := cd3.out rfl
     obtain rfl := cd4.out rfl
     obtain rfl := cd5.out rfl
     obtain rfl := cd6.out rfl
     obtain rfl := cd7.out rfl
     obtain rfl := cd8.out rfl
     clear hf hd
     have W_p := f_p.out
     have W_o3_1 := f_o3_1.out
     have W_o6_1 := f_o6_1.out
     have W_o6_3 := f_o6_3.out
     have W_o9_1 := f_o9_1.out
     have W_o9_3 := f_o9_3.out
     have W_o9_6 := f_o9_6.out
     have W_d := f_d.out rfl
     intro K hK
     rw [if_pos (by rfl)]
     go_simp
     exact hK.out _ _ ⟨true,true,true,true,true,true,true,true,true,true,true,.int .i64 t,.slice (some ⟨g1,0,none⟩) n1 c1,.int .i64 s,.slice (some ⟨g2,0,none⟩) n2 c2,.pointer (some ⟨p,1,none⟩),.int .i64 op,.slice (some ⟨g3,0,none⟩) n3 c3,.pointer (some ⟨p,0,none⟩),.string tb,.slice (some ⟨g4,0,none⟩) n4 c4,(.slice (some ⟨g4,0,none⟩) n4 c4),g1,c1,g2,c2,g3,c3,g4,c4,(by go_simp),(by go_simp),hb,rf,rf,rf,rf,rf,rf,rf,rf,rf,rf,rf,f_p,f_o3_1,f_o6_1,f_o6_3,f_o9_1,f_o9_3,f_o9_6,(fun _ h => by cases h),(fun _ h => by cases h),(fun _ h => by cases h),f_d,rf⟩
 · rintro act1 V1 ⟨b0,b1,b2,b3,b4,b5,b6,b7,b8,b9,b10,x8,x9,x10,x11,x12,x13,x14,x15,x16,x17,x7,g1,c1,g2,c2,g3,c3,g4,c4,hL,rfl,hb,cd0,cd1,cd2,cd3,cd4,cd5,cd6,cd7,cd8,cd9,cd10,f_p,f_o3_1,f_o6_1,f_o6_3,f_o9_1,f_o9_3,f_o9_6,f_a,f_b,f_c,f_d,w_10_9⟩
   have hL' : [true, true, true, true, true, true, true, true, true, true, true] = [b0, b1, b2, b3, b4, b5, b6, b7, b8, b9, b10] := congrArg Array.toList hL
   simp only [List.cons.injEq, and_true] at hL'
   obtain ⟨rfl, rfl, rfl, rfl, rfl, rfl, rfl, rfl, rfl, rfl, rfl⟩ := hL'
   obtain rfl := cd0.out rfl
   obtain rfl := cd1.out rfl
   obtain rfl := cd2.out rfl
   obtain rfl := cd3.out rfl
   obtain rfl := cd4.out rfl
   obtain rfl := cd5.out rfl
   obtain rfl := cd6.out rfl
   obtain rfl := cd7.out rfl
   obtain rfl := cd8.out rfl
   obtain rfl := cd9.out rfl
   obtain rfl := cd10.out rfl
   have W_p := f_p.out
   have W_o3_1 := f_o3_1.out
   have W_o6_1 := f_o6_1.out
   have W_o6_3 := f_o6_3.out
   have W_o9_1 := f_o9_1.out
   have W_o9_3 := f_o9_3.out
   have W_o9_6 := f_o9_6.out
   have W_d := f_d.out rfl
   clear hL f_p f_o3_1 f_o6_1 f_o6_3 f_o9_1 f_o9_3 f_o9_6 f_a f_b f_c f_d cd0 cd1 cd2 cd3 cd4 cd5 cd6 cd7 cd8 cd9 cd10 w_10_9
   simp only [setIfInBounds_toArray, set_cons_zero, set_cons_succ]
   have B2 : Below q W V1 := (Below.refl _ _).drew.trans hb
   have hP2 := W_p
   have hD2 := W_d
   have hB02 : q ≤ V1.heap.size := Nat.le_trans hB0 hb.size
   clear W_p W_d hb hP hB0 HI1 HI2 HBy HT1
   have hB0 := hB02
   have HRB := fun (w' : World) (hb' : Below V1.heap.size V1 w') => HRB0 w' (h0.past (by rw [hsq.out]; exact B2.trans (hb'.mono hB02)))
   clear HRB0
   obtain ⟨gd, rfl⟩ : ∃ x, x = g4 := ⟨_, rfl⟩
   obtain ⟨cd, rfl⟩ : ∃ x, x = c4 := ⟨_, rfl⟩
   obtain ⟨z0, z1, z2⟩ := chg_cells hP2
   go_wp2_with (first
    | (go_at_call 99; refine (HRB V1 (Below.refl _ _)).mono ?_; rintro e w3 ⟨g6,c6,rfl,o6,b6, -⟩; have cv : (convert 81 9 (.slice (some ⟨g6,0,none⟩) n6 c6)).run Tryz.prog w3 = .ok (.string (⟨l6.toArray⟩ : ByteArray)) w3 := o6.isB.conv byteTy Tryz.underlying9; have hD3 := hD2.past b6)
    | (go_at_call 97; refine (HT2 _ _ _ hD3 (Nat.le_trans hB0 b6.size)).mono ?_; rintro e w4 ⟨g5, c5, rfl, o5, b5⟩))
   go_ret
   refine ⟨_, _, rfl, ?_, ?_, ?_⟩
   · exact o5.own8.1
   · rw [HG.out]; exact (BW.trans (B2.mono (Nat.le_of_lt hpq))).trans (((b6.mono hB0).trans b5).mono (Nat.le_of_lt hpq))
   · have := o5.own8.2; rw [HG.out]; omega
inductive RgE1 (B : Nat) (p : Nat) (id : Int) (ct : Int) (RA : Array Value) (lr : List UInt8) (l1 : List UInt8) (l2 : List UInt8) (l3 : List UInt8) (n1 : Nat) (n2 : Nat) (n3 : Nat) (a0 : Act) (w0 : World) (L : Array Bool) (a : Act) (w : World) : Prop
 | mk (b0 b1 b2 b3 b4 b5 b6 : Bool) (x7 x8 x9 x10 x11 x12 x6 : Value) (g1 : Nat) (c1 : Nat) (g2 : Nat) (c2 : Nat) (g3 : Nat) (c3 : Nat) (hL : L = #[b0,b1,b2,b3,b4,b5,b6]) (ha : a = ⟨(((((((a0.tmps.setIfInBounds 7 x7).setIfInBounds 8 x8).setIfInBounds 9 x9).setIfInBounds 10 x10).setIfInBounds 11 x11).setIfInBounds 12 x12).setIfInBounds 6 x6),a0.defers⟩) (hb : Below B w0 w) (cd0 : Hid (b0 = true → x7 = .int .i64 id)) (cd1 : Hid (b1 = true → x8 = .slice (some ⟨g1,0,none⟩) n1 c1)) (cd2 : Hid (b2 = true → x9 = .int .i64 ct)) (cd3 : Hid (b3 = true → x10 = .slice (some ⟨g2,0,none⟩) n2 c2)) (cd4 : Hid (b4 = true → x11 = .slice (some ⟨p,0,none⟩) 32 32)) (cd5 : Hid (b5 = true → x12 = .slice (some ⟨g3,0,none⟩) n3 c3)) (cd6 : Hid (b6 = true → x6 = .slice (some ⟨g3,0,none⟩) n3 c3)) (f_p : Hid (Bk w p RA 53)) (f_o3_1 : Hid ((b3 = true → b1 = true))) (f_o5_1 : Hid ((b5 = true → b1 = true))) (f_o5_3 : Hid ((b5 = true → b3 = true))) (f_a : Hid (b1 = true → b3 = false → TxtR EU8 w 5 B (some ⟨g1,0,none⟩) n1 c1 l1)) (f_b : Hid (b3 = true → b5 = false → TxtR EU8 w 5 B (some ⟨g2,0,none⟩) n2 c2 l2)) (f_c : Hid (b5 = true → TxtR EU8 w 5 B (some ⟨g3,0,none⟩) n3 c3 l3)) (w_6_5 : Hid (b6 = true → b5 = true)) : RgE1 B p id ct RA lr l1 l2 l3 n1 n2 n3 a0 w0 L a w
set_option maxRecDepth 100000 in
set_option maxHeartbeats 1600000 in
theorem entText_any (w : World) (id ct : Int) (lr : List UInt8) (hr : lr.length = 32) :
 Calls Tryz.prog 69 #[.int .i64 id, .int .i64 ct, .agg (bcs lr).toArray] w (Fresh w 48 (le 8 (XU id) ++ (le 8 (XU ct) ++ lr))) := by
 obtain ⟨l1, hl1⟩ : ∃ x, le 8 (XU id) = x := ⟨_, rfl⟩
 obtain ⟨l2, hl2⟩ : ∃ x, l1 ++ le 8 (XU ct) = x := ⟨_, rfl⟩
 obtain ⟨l3, hl3⟩ : ∃ x, le 8 (XU id) ++ (le 8 (XU ct) ++ lr) = x := ⟨_, rfl⟩
 have hL3 : l2 ++ lr = l3 := by rw [← hl2, ← hl1, List.append_assoc]; exact hl3
 rw [hl3]
 obtain ⟨n1, hn1⟩ : ∃ n, 8 = n := ⟨_, rfl⟩
 obtain ⟨n2, hn2⟩ : ∃ n, n1 + 8 = n := ⟨_, rfl⟩
 obtain ⟨n3, hn3⟩ : ∃ n, n2 + 32 = n := ⟨_, rfl⟩
 rw [show 48 = n3 by omega]
 have HN3 := Lib.hid hn3
 have HL3 := Lib.hid hL3
 have HX3 := Lib.hid hr
 have HI1 : ∀ (w : World) {B : Nat}, B ≤ w.heap.size → Calls Tryz.prog 75 #[.slice none 0 0,.int .i64 id] w (WentB w B n1 l1) := fun w B hB => by subst hn1; rw [← hl1]; exact rint0B id w hB
 have HI2 : ∀ (w : World) {B : Nat} (g c : Nat),TxtR EU8 w 5 B (some ⟨g,0,none⟩) n1 c l1 → B ≤ w.heap.size → Calls Tryz.prog 75 #[.slice (some ⟨g,0,none⟩) n1 c,.int .i64 ct] w (WentB w B n2 l2) := fun w B g c h hB => rintB ct h hB (by omega) hn2 hl2
 have hn3s : n2 ≤ 100 ∧ n3 ≤ 100 := ⟨by omega, by omega⟩
 obtain ⟨RA, hRA⟩ : ∃ z, (bcs lr).toArray = z := ⟨_, rfl⟩
 have HBr1 : Hid (∀ w g, Bk w g RA 53 → IsB w (some ⟨g, 0, none⟩) 32 32 lr) := Lib.hid fun w g hb => by rw [← hRA] at hb; exact hash_at hb hr
 rw [hRA]
 clear hRA hl1 hl2 hl3 hL3 hn1 hn2 hn3 hr
 have B0 : Below w.heap.size w (w.alloc (.cells RA 53)) := (Below.refl _ _).alloc (Nat.le_refl _) _
 have hP0 : Bk (w.alloc (.cells RA 53)) w.heap.size RA 53 := Bk.new w _ _
 have hs0 := World.size_alloc w (.cells RA 53)
 go_enter Tryz.func69, Tryz.ntmps69
 go_upto_region 1 with fail
 obtain ⟨p, hp⟩ : ∃ p, w.heap.size = p := ⟨_, rfl⟩
 obtain ⟨q, hq⟩ : ∃ q, p + 1 = q := ⟨_, rfl⟩
 have HG := Lib.hid hp
 rw [hp] at hP0 hs0
 rw [hq] at hs0
 simp only [hp]
 have BW : Below p w (w.alloc (.cells RA 53)) := by rw [← hp]; exact B0
 generalize w.alloc (.cells RA 53) = W at hP0 hs0 BW ⊢
 have hP := hP0
 have hpq : p < q := by omega
 have hB0 : q ≤ W.heap.size := Nat.le_of_eq hs0.symm
 clear hp hq B0 hs0 hP0
 have HBr : Hid (∀ w, Bk w p RA 53 → IsB w (some ⟨p, 0, none⟩) 32 32 lr) := Lib.hid fun w hb => HBr1.out w p hb
 clear HBr1
 have hsl := slice_at
 refine region_inv (RgE1 q p id ct RA lr l1 l2 l3 n1 n2 n3) (by kernel_rfl) (by kernel_rfl) ?_ ?_ ?_
 · exact ⟨false,false,false,false,false,false,false,undef,undef,undef,undef,undef,undef,.slice none 0 0,0,0,0,0,0,0,rfl,(by go_simp),Below.refl _ _,nf2,nf2,nf2,nf2,nf2,nf2,nf2,(hP.past (Below.refl _ _).drew),(nf2),(nf2),(nf2),nf2,nf2,nf2,nf2⟩
 · refine ⟨?_, ?_, ?_, ?_, ?_, ?_, ?_, trivial⟩
   all_goals rintro L a w ⟨b0,b1,b2,b3,b4,b5,b6,x7,x8,x9,x10,x11,x12,x6,g1,c1,g2,c2,g3,c3,rfl,rfl,hb,cd0,cd1,cd2,cd3,cd4,cd5,cd6,f_p,f_o3_1,f_o5_1,f_o5_3,f_a,f_b,f_c,w_6_5⟩ hf hd
   · have hf' : b0 = false := hf
     subst hf'
     clear hf hd
     have W_p := f_p.out
     have W_o3_1 := f_o3_1.out
     have W_o5_1 := f_o5_1.out
     have W_o5_3 := f_o5_3.out
     intro K hK
     rw [if_pos (by rfl)]
     go_simp
     exact hK.out _ _ ⟨true,b1,b2,b3,b4,b5,b6,(.int .i64 id),x8,x9,x10,x11,x12,x6,g1,c1,g2,c2,g3,c3,(by go_simp),(by go_simp),hb,(fun _ => rfl),cd1,cd2,cd3,cd4,cd5,cd6,f_p,f_o3_1,f_o5_1,f_o5_3,f_a,f_b,f_c,w_6_5⟩
   · have hf' : b1 = false := hf
     subst hf'
     have d0 : b0 = true := hd ⟨0, .data⟩ (by simp) rfl
     subst d0
     obtain rfl := cd0.out rfl
     clear hf hd
     have W_p := f_p.out
     have W_o3_1 := f_o3_1.out
     have W_o5_1 := f_o5_1.out
     have W_o5_3 := f_o5_3.out
     intro K hK
     rw [if_pos (by rfl)]
     go_simp
     go_at_call 75
     refine (HI1 _ (Nat.le_trans hB0 hb.size)).mono ?_
     rintro e w2 ⟨g, c, rfl, o9, bz9⟩
     have hb2 := hb.trans bz9
     exact hK.out _ _ ⟨true,true,b2,b3,b4,b5,b6,.int .i64 id,(.slice (some ⟨g,0,none⟩) n1 c),x9,x10,x11,x12,x6,g,c,g2,c2,g3,c3,(by go_simp),(by go_simp),hb2,rf,rf,cd2,cd3,cd4,cd5,cd6,(Bk.past9 f_p.out bz9 hpq),rf,rf,f_o5_3,(fun _ _ => o9),(fun h0 _ => absurd (f_o3_1.out h0) (by simp)),(fun h0 => absurd (f_o5_1.out h0) (by simp)),w_6_5⟩
   · have hf' : b2 = false := hf
     subst hf'
     clear hf hd
     have W_p := f_p.out
     have W_o3_1 := f_o3_1.out
     have W_o5_1 := f_o5_1.out
     have W_o5_3 := f_o5_3.out
     intro K hK
     rw [if_pos (by rfl)]
     go_simp
     exact hK.out _ _ ⟨b0,b1,true,b3,b4,b5,b6,x7,x8,(.int .i64 ct),x10,x11,x12,x6,g1,c1,g2,c2,g3,c3,(by go_simp),(by go_simp),hb,cd0,cd1,(fun _ => rfl),cd3,cd4,cd5,cd6,f_p,f_o3_1,f_o5_1,f_o5_3,f_a,f_b,f_c,w_6_5⟩
   · have hf' : b3 = false := hf
     subst hf'
     have d1 : b1 = true := hd ⟨1, .data⟩ (by simp) rfl
     subst d1
     have d2 : b2 = true := hd ⟨2, .data⟩ (by simp) rfl
     subst d2
     obtain rfl := cd1.out rfl
     obtain rfl := cd2.out rfl
     clear hf hd
     have W_p := f_p.out
     have W_o3_1 := f_o3_1.out
     have W_o5_1 := f_o5_1.out
     have W_o5_3 := f_o5_3.out
     have W_a := f_a.out rfl rfl
     intro K hK
     rw [if_pos (by rfl)]
     go_simp
     go_at_call 75
     refine (HI2 _ _ _ W_a (Nat.le_trans hB0 hb.size)).mono ?_
     rintro e w2 ⟨g, c, rfl, o9, bz9⟩
     have hb2 := hb.trans bz9
     exact hK.out _ _ ⟨b0,true,true,true,b4,b5,b6,x7,.slice (some ⟨g1,0,none⟩) n1 c1,.int .i64 ct,(.slice (some ⟨g,0,none⟩) n2 c),x11,x12,x6,g1,c1,g,c,g3,c3,(by go_simp),(by go_simp),hb2,cd0,rf,rf,rf,cd4,cd5,cd6,(Bk.past9 f_p.out bz9 hpq),rf,f_o5_1,rf,(fun _ h => by cases h),(fun _ _ => o9),(fun h0 => absurd (f_o5_3.out h0) (by simp)),w_6_5⟩
   · have hf' : b4 = false := hf
     subst hf'
     clear hf hd
     have W_p := f_p.out
     have W_o3_1 := f_o3_1.out
     have W_o5_1 := f_o5_1.out
     have W_o5_3 := f_o5_3.out
     intro K hK
     rw [if_pos (by rfl)]
     go_simp
     exact hK.out _ _ ⟨b0,b1,b2,b3,true,b5,b6,x7,x8,x9,x10,(.slice (some ⟨p,0,none⟩) 32 32),x12,x6,g1,c1,g2,c2,g3,c3,(by go_simp),(by go_simp),hb,cd0,cd1,cd2,cd3,(fun _ => rfl),cd5,cd6,f_p,f_o3_1,f_o5_1,f_o5_3,f_a,f_b,f_c,w_6_5⟩
   · have hf' : b5 = false := hf
     subst hf'
     have d3 : b3 = true := hd ⟨3, .data⟩ (by simp) rfl
     subst d3
     have d4 : b4 = true := hd ⟨4, .data⟩ (by simp) rfl
     subst d4
     obtain rfl := cd3.out rfl
     obtain rfl := cd4.out rfl
     clear hf hd
     have W_p := f_p.out
     have W_o3_1 := f_o3_1.out
     have W_o5_1 := f_o5_1.out
     have W_o5_3 := f_o5_3.out
     have W_b := f_b.out rfl rfl
     try simp only [setIfInBounds_toArray, set_cons_zero, set_cons_succ]
     intro K hK
     rw [if_pos (by rfl)]
     refine wp_append_r (E := EU8) _ _ 81 81 rfl rowTyU8 rfl W_b (Nat.le_trans hB0 hb.size) _ rfl 32 lr ((HBr.out _ W_p).u8.src byteTy.ht) HX3.out (by omega) n3 HN3.out l3 HL3.out (by omega) ?_
     intro g c w2 o9 _ _ bz9
     have hb2 := hb.trans bz9
     have e_6 : b6 = false := by cases hq : b6 with | false => rfl | true => exact absurd (w_6_5.out hq) (by simp)
     subst e_6
     exact hK.out _ _ ⟨b0,b1,b2,true,true,true,false,x7,x8,x9,.slice (some ⟨g2,0,none⟩) n2 c2,.slice (some ⟨p,0,none⟩) 32 32,(.slice (some ⟨g,0,none⟩) n3 c),x6,g1,c1,g2,c2,g,c,(by go_simp),(by go_simp),hb2,cd0,cd1,cd2,rf,rf,rf,nf2,(Bk.past9 f_p.out bz9 hpq),f_o3_1,(fun _ => f_o3_1.out rfl),rf,(fun _ h => by cases h),(fun _ h => by cases h),(fun _ => o9),rf⟩
   · have hf' : b6 = false := hf
     subst hf'
     have d5 : b5 = true := hd ⟨5, .data⟩ (by simp) rfl
     subst d5
     have d0 : b0 = true := hd ⟨0, .phase⟩ (by simp) rfl
     subst d0
     have d1 : b1 = true := hd ⟨1, .phase⟩ (by simp) rfl
     subst d1
     have d2 : b2 = true := hd ⟨2, .phase⟩ (by simp) rfl
     subst d2
     have d3 : b3 = true := hd ⟨3, .phase⟩ (by simp) rfl
     subst d3
     have d4 : b4 = true := hd ⟨4, .phase⟩ (by simp) rfl
     subst d4
     obtain rfl := cd5.out rfl
     obtain rfl := cd0.out rfl
     obtain rfl := cd1.out rfl
     obtain rfl := cd2.out rfl
     obtain rfl := cd3.out rfl
     obtain rfl := cd4.out rfl
     clear hf hd
     have W_p := f_p.out
     have W_o3_1 := f_o3_1.out
     have W_o5_1 := f_o5_1.out
     have W_o5_3 := f_o5_3.out
     have W_c := f_c.out rfl
     intro K hK
     rw [if_pos (by rfl)]
     go_simp
     exact hK.out _ _ ⟨true,true,true,true,true,true,true,.int .i64 id,.slice (some ⟨g1,0,none⟩) n1 c1,.int .i64 ct,.slice (some ⟨g2,0,none⟩) n2 c2,.slice (some ⟨p,0,none⟩) 32 32,.slice (some ⟨g3,0,none⟩) n3 c3,(.slice (some ⟨g3,0,none⟩) n3 c3),g1,c1,g2,c2,g3,c3,(by go_simp),(by go_simp),hb,rf,rf,rf,rf,rf,rf,rf,f_p,f_o3_1,f_o5_1,f_o5_3,(fun _ h => by cases h),(fun _ h => by cases h),f_c,rf⟩
 · rintro act V ⟨b0, b1, b2, b3, b4, b5, b6, x7, x8, x9, x10, x11, x12, x6, g1, c1, g2, c2, g3, c3, hL, rfl, hb, cd0, cd1, cd2, cd3, cd4, cd5, cd6, f_p, f_o3_1, f_o5_1, f_o5_3, f_a, f_b, f_c, w_6_5⟩
   have hL' : [true, true, true, true, true, true, true] = [b0, b1, b2, b3, b4, b5, b6] := congrArg Array.toList hL
   simp only [List.cons.injEq, and_true] at hL'
   obtain ⟨rfl, rfl, rfl, rfl, rfl, rfl, rfl⟩ := hL'
   obtain rfl := cd0.out rfl
   obtain rfl := cd1.out rfl
   obtain rfl := cd2.out rfl
   obtain rfl := cd3.out rfl
   obtain rfl := cd4.out rfl
   obtain rfl := cd5.out rfl
   obtain rfl := cd6.out rfl
   have W_p := f_p.out
   have W_o3_1 := f_o3_1.out
   have W_o5_1 := f_o5_1.out
   have W_o5_3 := f_o5_3.out
   have W_c := f_c.out rfl
   clear hL f_p f_o3_1 f_o5_1 f_o5_3 f_a f_b f_c cd0 cd1 cd2 cd3 cd4 cd5 cd6 w_6_5
   simp only [setIfInBounds_toArray, set_cons_zero, set_cons_succ]
   have BV : Below p w V := BW.trans (((Below.refl _ _).drew.trans hb).mono (Nat.le_of_lt hpq))
   go_wp2_with fail
   go_ret
   refine ⟨_, _, rfl, ?_, ?_, ?_⟩
   · exact W_c.own8.1
   · rw [HG.out]; exact BV
   · have := W_c.own8.2; rw [HG.out]; omega
inductive RgB1 (B : Nat) (p : Nat) (n : Int) (ct : Int) (CS : Array Value) (lp : List UInt8) (lr : List UInt8) (l1 : List UInt8) (l2 : List UInt8) (l3 : List UInt8) (l4 : List UInt8) (n1 : Nat) (n2 : Nat) (n3 : Nat) (n4 : Nat) (a0 : Act) (w0 : World) (L : Array Bool) (a : Act) (w : World) : Prop
 | mk (b0 b1 b2 b3 b4 b5 b6 : Bool) (x4 x5 x6 x7 x8 x9 x3 : Value) (g1 : Nat) (c1 : Nat) (g2 : Nat) (c2 : Nat) (hL : L = #[b0,b1,b2,b3,b4,b5,b6]) (ha : a = ⟨(((((((a0.tmps.setIfInBounds 4 x4).setIfInBounds 5 x5).setIfInBounds 6 x6).setIfInBounds 7 x7).setIfInBounds 8 x8).setIfInBounds 9 x9).setIfInBounds 3 x3),a0.defers⟩) (hb : Below B w0 w) (cd0 : Hid (b0 = true → x4 = .pointer (some ⟨p,0,none⟩))) (cd1 : Hid (b1 = true → x5 = .int .i64 n)) (cd2 : Hid (b2 = true → x6 = .slice (some ⟨g1,0,none⟩) n1 c1)) (cd3 : Hid (b3 = true → x7 = .pointer (some ⟨p,1,none⟩))) (cd4 : Hid (b4 = true → x8 = .slice (some ⟨p,1,none⟩) 32 32)) (cd5 : Hid (b5 = true → x9 = .slice (some ⟨g2,0,none⟩) n2 c2)) (cd6 : Hid (b6 = true → x3 = .slice (some ⟨g2,0,none⟩) n2 c2)) (f_p : Hid (Bk w p CS 73)) (f_o5_2 : Hid ((b5 = true → b2 = true))) (f_a : Hid (b2 = true → b5 = false → TxtR EU8 w 5 B (some ⟨g1,0,none⟩) n1 c1 l1)) (f_b : Hid (b5 = true → TxtR EU8 w 5 B (some ⟨g2,0,none⟩) n2 c2 l2)) (w_6_5 : Hid (b6 = true → b5 = true)) : RgB1 B p n ct CS lp lr l1 l2 l3 l4 n1 n2 n3 n4 a0 w0 L a w
inductive RgB2 (B : Nat) (p : Nat) (gd : Nat) (cd : Nat) (n : Int) (ct : Int) (CS : Array Value) (lp : List UInt8) (lr : List UInt8) (l1 : List UInt8) (l2 : List UInt8) (l3 : List UInt8) (l4 : List UInt8) (n1 : Nat) (n2 : Nat) (n3 : Nat) (n4 : Nat) (a0 : Act) (w0 : World) (L : Array Bool) (a : Act) (w : World) : Prop
 | mk (b0 b1 b2 b3 b4 b5 b6 b7 : Bool) (x10 x11 x12 x13 x14 x15 x16 x2 : Value) (g3 : Nat) (c3 : Nat) (g4 : Nat) (c4 : Nat) (hL : L = #[b0,b1,b2,b3,b4,b5,b6,b7]) (ha : a = ⟨((((((((a0.tmps.setIfInBounds 10 x10).setIfInBounds 11 x11).setIfInBounds 12 x12).setIfInBounds 13 x13).setIfInBounds 14 x14).setIfInBounds 15 x15).setIfInBounds 16 x16).setIfInBounds 2 x2),a0.defers⟩) (hb : Below B w0 w) (cd0 : Hid (b0 = true → x10 = .slice (some ⟨gd,0,none⟩) n2 cd)) (cd1 : Hid (b1 = true → x11 = .pointer (some ⟨p,33,none⟩))) (cd2 : Hid (b2 = true → x12 = .slice (some ⟨p,33,none⟩) 32 32)) (cd3 : Hid (b3 = true → x13 = .slice (some ⟨g3,0,none⟩) n3 c3)) (cd4 : Hid (b4 = true → x14 = .pointer (some ⟨p,65,none⟩))) (cd5 : Hid (b5 = true → x15 = .int .i64 ct)) (cd6 : Hid (b6 = true → x16 = .slice (some ⟨g4,0,none⟩) n4 c4)) (cd7 : Hid (b7 = true → x2 = .slice (some ⟨g4,0,none⟩) n4 c4)) (f_p : Hid (Bk w p CS 73)) (f_d : Hid (b3 = false → TxtR EU8 w 5 B (some ⟨gd,0,none⟩) n2 cd l2)) (f_o6_3 : Hid ((b6 = true → b3 = true))) (f_e : Hid (b3 = true → b6 = false → TxtR EU8 w 5 B (some ⟨g3,0,none⟩) n3 c3 l3)) (f_f : Hid (b6 = true → TxtR EU8 w 5 B (some ⟨g4,0,none⟩) n4 c4 l4)) (w_7_6 : Hid (b7 = true → b6 = true)) : RgB2 B p gd cd n ct CS lp lr l1 l2 l3 l4 n1 n2 n3 n4 a0 w0 L a w
set_option maxRecDepth 100000 in
set_option maxHeartbeats 1600000 in
theorem blkText_any (w : World) (b : Blk) : Calls Tryz.prog 42 #[.agg b.cs.toArray] w (Fresh w 80 (blkT b)) := by
 have hlp := b.prev.len
 have hlr := b.root.len
 have HBp0 : ∀ w p, Bk w p b.cs.toArray 73 → IsB w (some ⟨p, 1, none⟩) 32 32 b.prev.l := fun w p h => blk_prev h
 have HBr0 : ∀ w p, Bk w p b.cs.toArray 73 → IsB w (some ⟨p, 33, none⟩) 32 32 b.root.l := fun w p h => blk_root h
 have hc0 := blk_cs0 b
 have hc65 := blk_cs65 b
 have hcs : b.cs.toArray.size = 66 := by simp [Blk.cs_len]
 have hS : blkT b = le 8 (XU b.n) ++ (b.prev.l ++ (b.root.l ++ le 8 (XU b.count))) := rfl
 obtain ⟨CS, hCS⟩ : ∃ x, b.cs.toArray = x := ⟨_, rfl⟩
 obtain ⟨l4, hl4⟩ : ∃ x, blkT b = x := ⟨_, rfl⟩
 obtain ⟨n, ⟨lp, hlp'⟩, ⟨lr, hlr'⟩, ct⟩ := b
 simp only at hlp hlr HBp0 HBr0 hc0 hc65 hS
 rw [hCS] at hc0 hc65 hcs ⊢
 rw [hl4] at hS ⊢
 simp only [hCS] at HBp0 HBr0
 obtain ⟨l1, hl1⟩ : ∃ x, le 8 (XU n) = x := ⟨_, rfl⟩
 obtain ⟨l2, hl2⟩ : ∃ x, l1 ++ lp = x := ⟨_, rfl⟩
 obtain ⟨l3, hl3⟩ : ∃ x, l2 ++ lr = x := ⟨_, rfl⟩
 have hL4 : l3 ++ le 8 (XU ct) = l4 := by rw [hS, ← hl3, ← hl2, hl1]; simp only [List.append_assoc]
 obtain ⟨n1, hn1⟩ : ∃ n, 8 = n := ⟨_, rfl⟩
 obtain ⟨n2, hn2⟩ : ∃ n, n1 + 32 = n := ⟨_, rfl⟩
 obtain ⟨n3, hn3⟩ : ∃ n, n2 + 32 = n := ⟨_, rfl⟩
 obtain ⟨n4, hn4⟩ : ∃ n, n3 + 8 = n := ⟨_, rfl⟩
 rw [show 80 = n4 by omega]
 have HN2 := Lib.hid hn2
 have HN3 := Lib.hid hn3
 have HL2 := Lib.hid hl2
 have HL3 := Lib.hid hl3
 have HX2 := Lib.hid hlp
 have HX3 := Lib.hid hlr
 have HC0 := Lib.hid hc0
 have HC65 := Lib.hid hc65
 have HI1 : ∀ (w : World) {B : Nat}, B ≤ w.heap.size → Calls Tryz.prog 75 #[.slice none 0 0,.int .i64 n] w (WentB w B n1 l1) := fun w B hB => by subst hn1; rw [← hl1]; exact rint0B n w hB
 have HI2 : ∀ (w : World) {B : Nat} (g c : Nat),TxtR EU8 w 5 B (some ⟨g,0,none⟩) n3 c l3 → B ≤ w.heap.size → Calls Tryz.prog 75 #[.slice (some ⟨g,0,none⟩) n3 c,.int .i64 ct] w (WentB w B n4 l4) := fun w B g c h hB => rintB ct h hB (by omega) hn4 hL4
 have hn1s : n1 ≤ 100 := by omega
 have hn2s : n2 ≤ 100 ∧ n3 ≤ 100 := ⟨by omega, by omega⟩
 have HBp1 := Lib.hid HBp0
 have HBr1 := Lib.hid HBr0
 clear hCS hl1 hl2 hl3 hl4 hL4 hS hn1 hn2 hn3 hn4 hlp hlr hc0 hc65 hcs HBp0 HBr0 hlp' hlr'
 have B0 : Below w.heap.size w (w.alloc (.cells CS 73)) := (Below.refl _ _).alloc (Nat.le_refl _) _
 have hP0 : Bk (w.alloc (.cells CS 73)) w.heap.size CS 73 := Bk.new w _ _
 have hs0 := World.size_alloc w (.cells CS 73)
 go_enter Tryz.func42, Tryz.ntmps42
 go_upto_region 1 with fail
 obtain ⟨p, hp⟩ : ∃ p, w.heap.size = p := ⟨_, rfl⟩
 obtain ⟨q, hq⟩ : ∃ q, p + 1 = q := ⟨_, rfl⟩
 have HG := Lib.hid hp
 rw [hp] at hP0 hs0
 rw [hq] at hs0
 simp only [hp]
 have BW : Below p w (w.alloc (.cells CS 73)) := by rw [← hp]; exact B0
 generalize w.alloc (.cells CS 73) = W at hP0 hs0 BW ⊢
 have hP := hP0
 have hpq : p < q := by omega
 have hB0 : q ≤ W.heap.size := Nat.le_of_eq hs0.symm
 clear hp hq B0 hs0 hP0
 have HBp : Hid (∀ w, Bk w p CS 73 → IsB w (some ⟨p, 1, none⟩) 32 32 lp) := Lib.hid fun w hb => HBp1.out w p hb
 have HBr : Hid (∀ w, Bk w p CS 73 → IsB w (some ⟨p, 33, none⟩) 32 32 lr) := Lib.hid fun w hb => HBr1.out w p hb
 clear HBp1 HBr1
 have hsl := slice_at
 refine region_inv (RgB1 q p n ct CS lp lr l1 l2 l3 l4 n1 n2 n3 n4) (by kernel_rfl) (by kernel_rfl) ?_ ?_ ?_
 · exact ⟨false,false,false,false,false,false,false,undef,undef,undef,undef,undef,undef,undef,0,0,0,0,rfl,(by go_simp),Below.refl _ _,nf2,nf2,nf2,nf2,nf2,nf2,nf2,(hP.past (Below.refl _ _).drew),(nf2),nf2,nf2,nf2⟩
 · refine ⟨?_, ?_, ?_, ?_, ?_, ?_, ?_, trivial⟩
   all_goals rintro L a w ⟨b0, b1, b2, b3, b4, b5, b6, x4, x5, x6, x7, x8, x9, x3, g1, c1, g2, c2, rfl, rfl, hb, cd0, cd1, cd2, cd3, cd4, cd5, cd6, f_p, f_o5_2, f_a, f_b, w_6_5⟩ hf hd
   · have hf' : b0 = false := hf
     subst hf'
     clear hf hd
     have W_p := f_p.out
     have W_o5_2 := f_o5_2.out
     intro K hK
     rw [if_pos (by rfl)]
     go_simp
     exact hK.out _ _ ⟨true,b1,b2,b3,b4,b5,b6,(.pointer (some ⟨p,0,none⟩)),x5,x6,x7,x8,x9,x3,g1,c1,g2,c2,(by go_simp),(by go_simp),hb,(fun _ => rfl),cd1,cd2,cd3,cd4,cd5,cd6,f_p,f_o5_2,f_a,f_b,w_6_5⟩
   · have hf' : b1 = false := hf
     subst hf'
     have d0 : b0 = true := hd ⟨0, .data⟩ (by simp) rfl
     subst d0
     obtain rfl := cd0.out rfl
     clear hf hd
     have W_p := f_p.out
     have W_o5_2 := f_o5_2.out
     try simp only [setIfInBounds_toArray, set_cons_zero, set_cons_succ]
     have z0 := W_p.c HC0.out
     intro K hK
     rw [if_pos (by rfl)]
     go_simp
     exact hK.out _ _ ⟨true,true,b2,b3,b4,b5,b6,.pointer (some ⟨p,0,none⟩),(.int .i64 n),x6,x7,x8,x9,x3,g1,c1,g2,c2,(by go_simp),(by go_simp),hb,(fun _ => rfl),(fun _ => rfl),cd2,cd3,cd4,cd5,cd6,f_p,f_o5_2,f_a,f_b,w_6_5⟩
   · have hf' : b2 = false := hf
     subst hf'
     have d1 : b1 = true := hd ⟨1, .data⟩ (by simp) rfl
     subst d1
     obtain rfl := cd1.out rfl
     clear hf hd
     have W_p := f_p.out
     have W_o5_2 := f_o5_2.out
     intro K hK
     rw [if_pos (by rfl)]
     go_simp
     go_at_call 75
     refine (HI1 _ (Nat.le_trans hB0 hb.size)).mono ?_
     rintro e w2 ⟨g, c, rfl, o9, bz9⟩
     have hb2 := hb.trans bz9
     exact hK.out _ _ ⟨b0,true,true,b3,b4,b5,b6,x4,.int .i64 n,(.slice (some ⟨g,0,none⟩) n1 c),x7,x8,x9,x3,g,c,g2,c2,(by go_simp),(by go_simp),hb2,cd0,rf,rf,cd3,cd4,cd5,cd6,(Bk.past9 f_p.out bz9 hpq),rf,(fun _ _ => o9),(fun h0 => absurd (f_o5_2.out h0) (by simp)),w_6_5⟩
   · have hf' : b3 = false := hf
     subst hf'
     clear hf hd
     have W_p := f_p.out
     have W_o5_2 := f_o5_2.out
     intro K hK
     rw [if_pos (by rfl)]
     go_simp
     exact hK.out _ _ ⟨b0,b1,b2,true,b4,b5,b6,x4,x5,x6,(.pointer (some ⟨p,1,none⟩)),x8,x9,x3,g1,c1,g2,c2,(by go_simp),(by go_simp),hb,cd0,cd1,cd2,(fun _ => rfl),cd4,cd5,cd6,f_p,f_o5_2,f_a,f_b,w_6_5⟩
   · have hf' : b4 = false := hf
     subst hf'
     have d3 : b3 = true := hd ⟨3, .data⟩ (by simp) rfl
     subst d3
     obtain rfl := cd3.out rfl
     clear hf hd
     have W_p := f_p.out
     have W_o5_2 := f_o5_2.out
     intro K hK
     rw [if_pos (by rfl)]
     go_simp
     exact hK.out _ _ ⟨b0,b1,b2,true,true,b5,b6,x4,x5,x6,.pointer (some ⟨p,1,none⟩),(.slice (some ⟨p,1,none⟩) 32 32),x9,x3,g1,c1,g2,c2,(by go_simp),(by go_simp),hb,cd0,cd1,cd2,(fun _ => rfl),(fun _ => rfl),cd5,cd6,f_p,f_o5_2,f_a,f_b,w_6_5⟩
   · have hf' : b5 = false := hf
     subst hf'
     have d2 : b2 = true := hd ⟨2, .data⟩ (by simp) rfl
     subst d2
     have d4 : b4 = true := hd ⟨4, .data⟩ (by simp) rfl
     subst d4
     obtain rfl := cd2.out rfl
     obtain rfl := cd4.out rfl
     clear hf hd
     have W_p := f_p.out
     have W_o5_2 := f_o5_2.out
     have W_a := f_a.out rfl rfl
     try simp only [setIfInBounds_toArray, set_cons_zero, set_cons_succ]
     intro K hK
     rw [if_pos (by rfl)]
     refine wp_append_r (E := EU8) _ _ 81 81 rfl rowTyU8 rfl W_a (Nat.le_trans hB0 hb.size) _ rfl 32 lp ((HBp.out _ W_p).u8.src byteTy.ht) HX2.out (by omega) n2 HN2.out l2 HL2.out (by omega) ?_
     intro g c w2 o9 _ _ bz9
     have hb2 := hb.trans bz9
     have e_6 : b6 = false := by cases hq : b6 with | false => rfl | true => exact absurd (w_6_5.out hq) (by simp)
     subst e_6
     exact hK.out _ _ ⟨b0,b1,true,b3,true,true,false,x4,x5,.slice (some ⟨g1,0,none⟩) n1 c1,x7,.slice (some ⟨p,1,none⟩) 32 32,(.slice (some ⟨g,0,none⟩) n2 c),x3,g1,c1,g,c,(by go_simp),(by go_simp),hb2,cd0,cd1,rf,cd3,rf,rf,nf2,(Bk.past9 f_p.out bz9 hpq),rf,(fun _ h => by cases h),(fun _ => o9),rf⟩
   · have hf' : b6 = false := hf
     subst hf'
     have d5 : b5 = true := hd ⟨5, .data⟩ (by simp) rfl
     subst d5
     have d0 : b0 = true := hd ⟨0, .phase⟩ (by simp) rfl
     subst d0
     have d1 : b1 = true := hd ⟨1, .phase⟩ (by simp) rfl
     subst d1
     have d2 : b2 = true := hd ⟨2, .phase⟩ (by simp) rfl
     subst d2
     have d3 : b3 = true := hd ⟨3, .phase⟩ (by simp) rfl
     subst d3
     have d4 : b4 = true := hd ⟨4, .phase⟩ (by simp) rfl
     subst d4
     obtain rfl := cd5.out rfl
     obtain rfl := cd0.out rfl
     obtain rfl := cd1.out rfl
     obtain rfl := cd2.out rfl
     obtain rfl := cd3.out rfl
     obtain rfl := cd4.out rfl
     clear hf hd
     have W_p := f_p.out
     have W_o5_2 := f_o5_2.out
     have W_b := f_b.out rfl
     intro K hK
     rw [if_pos (by rfl)]
     go_simp
     exact hK.out _ _ ⟨true,true,true,true,true,true,true,.pointer (some ⟨p,0,none⟩),.int .i64 n,.slice (some ⟨g1,0,none⟩) n1 c1,.pointer (some ⟨p,1,none⟩),.slice (some ⟨p,1,none⟩) 32 32,.slice (some ⟨g2,0,none⟩) n2 c2,(.slice (some ⟨g2,0,none⟩) n2 c2),g1,c1,g2,c2,(by go_simp),(by go_simp),hb,rf,rf,rf,rf,rf,rf,rf,f_p,f_o5_2,(fun _ h => by cases h),f_b,rf⟩
 · rintro act1 V1 ⟨b0, b1, b2, b3, b4, b5, b6, x4, x5, x6, x7, x8, x9, x3, g1, c1, g2, c2, hL, rfl, hb, cd0, cd1, cd2, cd3, cd4, cd5, cd6, f_p, f_o5_2, f_a, f_b, w_6_5⟩
   have hL' : [true, true, true, true, true, true, true] = [b0, b1, b2, b3, b4, b5, b6] := congrArg Array.toList hL
   simp only [List.cons.injEq, and_true] at hL'
   obtain ⟨rfl, rfl, rfl, rfl, rfl, rfl, rfl⟩ := hL'
   obtain rfl := cd0.out rfl
   obtain rfl := cd1.out rfl
   obtain rfl := cd2.out rfl
   obtain rfl := cd3.out rfl
   obtain rfl := cd4.out rfl
   obtain rfl := cd5.out rfl
   obtain rfl := cd6.out rfl
   have W_p := f_p.out
   have W_o5_2 := f_o5_2.out
   have W_b := f_b.out rfl
   clear hL f_p f_o5_2 f_a f_b cd0 cd1 cd2 cd3 cd4 cd5 cd6 w_6_5
   simp only [setIfInBounds_toArray, set_cons_zero, set_cons_succ]
   have B2 : Below q W V1 := (Below.refl _ _).drew.trans hb
   have hP2 := W_p
   have hD2 := W_b
   have hB02 : q ≤ V1.heap.size := Nat.le_trans hB0 hb.size
   clear W_p W_b hb hP hB0 HI1
   have hB0 := hB02
   obtain ⟨gd, rfl⟩ : ∃ x, x = g2 := ⟨_, rfl⟩
   obtain ⟨cd, rfl⟩ : ∃ x, x = c2 := ⟨_, rfl⟩
   go_upto_region 2 with fail
   refine region_inv (RgB2 q p gd cd n ct CS lp lr l1 l2 l3 l4 n1 n2 n3 n4) (by kernel_rfl) (by kernel_rfl) ?_ ?_ ?_
   · exact ⟨false,false,false,false,false,false,false,false,undef,undef,undef,undef,undef,undef,undef,.slice none 0 0,0,0,0,0,rfl,(by go_simp),Below.refl _ _,nf2,nf2,nf2,nf2,nf2,nf2,nf2,nf2,(hP2.past (Below.refl _ _).drew),(fun h1 => hD2.past (Below.refl _ _).drew),(nf2),nf2,nf2,nf2⟩
   · refine ⟨?_, ?_, ?_, ?_, ?_, ?_, ?_, ?_, trivial⟩
     all_goals rintro L a w ⟨b0,b1,b2,b3,b4,b5,b6,b7,x10,x11,x12,x13,x14,x15,x16,x2,g3,c3,g4,c4,rfl,rfl,hb,cd0,cd1,cd2,cd3,cd4,cd5,cd6,cd7,f_p,f_d,f_o6_3,f_e,f_f,w_7_6⟩ hf hd
     · have hf' : b0 = false := hf
       subst hf'
       clear hf hd
       have W_p := f_p.out
       have W_o6_3 := f_o6_3.out
       intro K hK
       rw [if_pos (by rfl)]
       go_simp
       exact hK.out _ _ ⟨true,b1,b2,b3,b4,b5,b6,b7,(.slice (some ⟨gd,0,none⟩) n2 cd),x11,x12,x13,x14,x15,x16,x2,g3,c3,g4,c4,(by go_simp),(by go_simp),hb,(fun _ => rfl),cd1,cd2,cd3,cd4,cd5,cd6,cd7,f_p,f_d,f_o6_3,f_e,f_f,w_7_6⟩
     · have hf' : b1 = false := hf
       subst hf'
       clear hf hd
       have W_p := f_p.out
       have W_o6_3 := f_o6_3.out
       intro K hK
       rw [if_pos (by rfl)]
       go_simp
       exact hK.out _ _ ⟨b0,true,b2,b3,b4,b5,b6,b7,x10,(.pointer (some ⟨p,33,none⟩)),x12,x13,x14,x15,x16,x2,g3,c3,g4,c4,(by go_simp),(by go_simp),hb,cd0,(fun _ => rfl),cd2,cd3,cd4,cd5,cd6,cd7,f_p,f_d,f_o6_3,f_e,f_f,w_7_6⟩
     · have hf' : b2 = false := hf
       subst hf'
       have d1 : b1 = true := hd ⟨1, .data⟩ (by simp) rfl
       subst d1
       obtain rfl := cd1.out rfl
       clear hf hd
       have W_p := f_p.out
       have W_o6_3 := f_o6_3.out
       intro K hK
       rw [if_pos (by rfl)]
       go_simp
       exact hK.out _ _ ⟨b0,true,true,b3,b4,b5,b6,b7,x10,.pointer (some ⟨p,33,none⟩),(.slice (some ⟨p,33,none⟩) 32 32),x13,x14,x15,x16,x2,g3,c3,g4,c4,(by go_simp),(by go_simp),hb,cd0,(fun _ => rfl),(fun _ => rfl),cd3,cd4,cd5,cd6,cd7,f_p,f_d,f_o6_3,f_e,f_f,w_7_6⟩
     · have hf' : b3 = false := hf
       subst hf'
       have d0 : b0 = true := hd ⟨0, .data⟩ (by simp) rfl
       subst d0
       have d2 : b2 = true := hd ⟨2, .data⟩ (by simp) rfl
       subst d2
       obtain rfl := cd0.out rfl
       obtain rfl := cd2.out rfl
       clear hf hd
       have W_p := f_p.out
       have W_d := f_d.out rfl
       have W_o6_3 := f_o6_3.out
       try simp only [setIfInBounds_toArray, set_cons_zero, set_cons_succ]
       intro K hK
       rw [if_pos (by rfl)]
       refine wp_append_r (E := EU8) _ _ 81 81 rfl rowTyU8 rfl W_d (Nat.le_trans hB0 hb.size) _ rfl 32 lr ((HBr.out _ W_p).u8.src byteTy.ht) HX3.out (by omega) n3 HN3.out l3 HL3.out (by omega) ?_
       intro g c w2 o9 _ _ bz9
       have hb2 := hb.trans bz9
       exact hK.out _ _ ⟨true,b1,true,true,b4,b5,b6,b7,.slice (some ⟨gd,0,none⟩) n2 cd,x11,.slice (some ⟨p,33,none⟩) 32 32,(.slice (some ⟨g,0,none⟩) n3 c),x14,x15,x16,x2,g,c,g4,c4,(by go_simp),(by go_simp),hb2,rf,cd1,rf,rf,cd4,cd5,cd6,cd7,(Bk.past9 f_p.out bz9 hpq),nf2,rf,(fun _ _ => o9),(fun h0 => absurd (f_o6_3.out h0) (by simp)),w_7_6⟩
     · have hf' : b4 = false := hf
       subst hf'
       clear hf hd
       have W_p := f_p.out
       have W_o6_3 := f_o6_3.out
       intro K hK
       rw [if_pos (by rfl)]
       go_simp
       exact hK.out _ _ ⟨b0,b1,b2,b3,true,b5,b6,b7,x10,x11,x12,x13,(.pointer (some ⟨p,65,none⟩)),x15,x16,x2,g3,c3,g4,c4,(by go_simp),(by go_simp),hb,cd0,cd1,cd2,cd3,(fun _ => rfl),cd5,cd6,cd7,f_p,f_d,f_o6_3,f_e,f_f,w_7_6⟩
     · have hf' : b5 = false := hf
       subst hf'
       have d4 : b4 = true := hd ⟨4, .data⟩ (by simp) rfl
       subst d4
       obtain rfl := cd4.out rfl
       clear hf hd
       have W_p := f_p.out
       have W_o6_3 := f_o6_3.out
       try simp only [setIfInBounds_toArray, set_cons_zero, set_cons_succ]
       have z0 := W_p.c HC65.out
       intro K hK
       rw [if_pos (by rfl)]
       go_simp
       exact hK.out _ _ ⟨b0,b1,b2,b3,true,true,b6,b7,x10,x11,x12,x13,.pointer (some ⟨p,65,none⟩),(.int .i64 ct),x16,x2,g3,c3,g4,c4,(by go_simp),(by go_simp),hb,cd0,cd1,cd2,cd3,(fun _ => rfl),(fun _ => rfl),cd6,cd7,f_p,f_d,f_o6_3,f_e,f_f,w_7_6⟩
     · have hf' : b6 = false := hf
       subst hf'
       have d3 : b3 = true := hd ⟨3, .data⟩ (by simp) rfl
       subst d3
       have d5 : b5 = true := hd ⟨5, .data⟩ (by simp) rfl
       subst d5
       obtain rfl := cd3.out rfl
       obtain rfl := cd5.out rfl
       clear hf hd
       have W_p := f_p.out
       have W_o6_3 := f_o6_3.out
       have W_e := f_e.out rfl rfl
       intro K hK
       rw [if_pos (by rfl)]
       go_simp
       go_at_call 75
       refine (HI2 _ _ _ W_e (Nat.le_trans hB0 hb.size)).mono ?_
       rintro e w2 ⟨g, c, rfl, o9, bz9⟩
       have hb2 := hb.trans bz9
       have e_7 : b7 = false := by cases hq : b7 with | false => rfl | true => exact absurd (w_7_6.out hq) (by simp)
       subst e_7
       exact hK.out _ _ ⟨b0,b1,b2,true,b4,true,true,false,x10,x11,x12,.slice (some ⟨g3,0,none⟩) n3 c3,x14,.int .i64 ct,(.slice (some ⟨g,0,none⟩) n4 c),x2,g3,c3,g,c,(by go_simp),(by go_simp),hb2,cd0,cd1,cd2,rf,cd4,rf,rf,nf2,(Bk.past9 f_p.out bz9 hpq),(fun h1 => by cases h1),rf,(fun _ h => by cases h),(fun _ => o9),rf⟩
     · have hf' : b7 = false := hf
       subst hf'
       have d6 : b6 = true := hd ⟨6, .data⟩ (by simp) rfl
       subst d6
       have d0 : b0 = true := hd ⟨0, .phase⟩ (by simp) rfl
       subst d0
       have d1 : b1 = true := hd ⟨1, .phase⟩ (by simp) rfl
       subst d1
       have d2 : b2 = true := hd ⟨2, .phase⟩ (by simp) rfl
       subst d2
       have d3 : b3 = true := hd ⟨3, .phase⟩ (by simp) rfl
       subst d3
       have d4 : b4 = true := hd ⟨4, .phase⟩ (by simp) rfl
       subst d4
       have d5 : b5 = true := hd ⟨5, .phase⟩ (by simp) rfl
       subst d5
       obtain rfl := cd6.out rfl
       obtain rfl := cd0.out rfl
       obtain rfl := cd1.out rfl
       obtain rfl := cd2.out rfl
       obtain rfl := cd3.out rfl
       obtain rfl := cd4.out rfl
       obtain rfl := cd5.out rfl
       clear hf hd
       have W_p := f_p.out
       have W_o6_3 := f_o6_3.out
       have W_f := f_f.out rfl
       intro K hK
       rw [if_pos (by rfl)]
       go_simp
       exact hK.out _ _ ⟨true,true,true,true,true,true,true,true,.slice (some ⟨gd,0,none⟩) n2 cd,.pointer (some ⟨p,33,none⟩),.slice (some ⟨p,33,none⟩) 32 32,.slice (some ⟨g3,0,none⟩) n3 c3,.pointer (some ⟨p,65,none⟩),.int .i64 ct,.slice (some ⟨g4,0,none⟩) n4 c4,(.slice (some ⟨g4,0,none⟩) n4 c4),g3,c3,g4,c4,(by go_simp),(by go_simp),hb,rf,rf,rf,rf,rf,rf,rf,rf,f_p,nf2,f_o6_3,(fun _ h => by cases h),f_f,rf⟩
   · rintro act V ⟨b0, b1, b2, b3, b4, b5, b6, b7, x10, x11, x12, x13, x14, x15, x16, x2, g3, c3, g4, c4, hL, rfl, hb, cd0, cd1, cd2, cd3, cd4, cd5, cd6, cd7, f_p, f_d, f_o6_3, f_e, f_f, w_7_6⟩
     have hL' : [true, true, true, true, true, true, true, true] = [b0, b1, b2, b3, b4, b5, b6, b7] := congrArg Array.toList hL
     simp only [List.cons.injEq, and_true] at hL'
     obtain ⟨rfl, rfl, rfl, rfl, rfl, rfl, rfl, rfl⟩ := hL'
     obtain rfl := cd0.out rfl
     obtain rfl := cd1.out rfl
     obtain rfl := cd2.out rfl
     obtain rfl := cd3.out rfl
     obtain rfl := cd4.out rfl
     obtain rfl := cd5.out rfl
     obtain rfl := cd6.out rfl
     obtain rfl := cd7.out rfl
     have W_p := f_p.out
     have W_o6_3 := f_o6_3.out
     have W_f := f_f.out rfl
     clear hL f_p f_d f_o6_3 f_e f_f cd0 cd1 cd2 cd3 cd4 cd5 cd6 cd7 w_7_6
     simp only [setIfInBounds_toArray, set_cons_zero, set_cons_succ]
     have BV : Below p w V := (BW.trans (B2.mono (Nat.le_of_lt hpq))).trans (((Below.refl _ _).drew.trans hb).mono (Nat.le_of_lt hpq))
     go_wp2_with fail
     go_ret
     refine ⟨_, _, rfl, ?_, ?_, ?_⟩
     · exact W_f.own8.1
     · rw [HG.out]; exact BV
     · have := W_f.own8.2; rw [HG.out]; omega
theorem own_lit (w : World) (v : Value) (b : UInt8) (hv : v = bc b) : OwnB (w.alloc (.cells #[v] 5)) 5 w.heap.size 1 1 [b] :=
 ⟨rfl, Nat.le_refl _, by unfold maxLen; omega, #[v], heap_alloc_new w _, rfl, by rw [hv]; rfl⟩
set_option maxRecDepth 100000 in
set_option maxHeartbeats 1000000 in
theorem rtwo_any (a b : List UInt8) (w : World) (ha : a.length = 32) (hb : b.length = 32) :
 Calls Tryz.prog 72 #[.agg (bcs a).toArray, .agg (bcs b).toArray] w fun e w' => e = .returned (.agg (bcs (two a b)).toArray) ∧ Below w.heap.size w w' := by
 have HA := Lib.hid ha
 have HB := Lib.hid hb
 clear ha hb
 have hsl := slice_all
 have b0 : Below w.heap.size w ((w.alloc (.cells (bcs a).toArray 53)).alloc (.cells (bcs b).toArray 53)) := ((Below.refl _ _).alloc (Nat.le_refl _) _).alloc (by simp) _
 have Ia : IsB ((w.alloc (.cells (bcs a).toArray 53)).alloc (.cells (bcs b).toArray 53)) (some ⟨w.heap.size,0,none⟩) 32 32 a := (isB_lit w _ 53 a 32 rfl HA.out (by omega)).alloc _
 have Ib : IsB ((w.alloc (.cells (bcs a).toArray 53)).alloc (.cells (bcs b).toArray 53)) (some ⟨w.heap.size + 1, 0, none⟩) 32 32 b := by
  have := isB_lit (w.alloc (.cells (bcs a).toArray 53)) _ 53 b 32 rfl HB.out (by omega)
  rw [World.size_alloc] at this
  exact this
 go_enter Tryz.func72, Tryz.ntmps72
 go_wp2_with (first
  | (with_reducible refine wpList_alloc_blk (o := ⟨some 4, _, _, _, _, _⟩) rfl 53 rfl _ zeroHash ?_; intro w1 gr h1 b1 q1)
  | (at_builtin; refine wpList_append_ob rfl (.tmp 6) (.tmp 7) 81 81 rfl 5 byteTy w1.heap.size 1 1 [1] rfl (own_lit w1 (.int .u8 1) 1 rfl) _ rfl 32 a (((Ia.past b1).alloc _).src byteTy.ht) 33 rfl (1 :: a) rfl (by omega) ?_; intro g2 c2 w2 o2 p2 q2; have b2 : Below w1.heap.size w1 w2 := ((Below.refl _ _).alloc (Nat.le_refl _) _).trans (p2.below (Nat.le_refl _) (by simp)))
  | (at_builtin; refine wpList_append_ob rfl (.tmp 9) (.tmp 10) 81 81 rfl 5 byteTy g2 33 c2 (1 :: a) rfl o2 _ rfl 32 b (((Ib.past b1).past b2).src byteTy.ht) 65 rfl (1 :: a ++ b) rfl (by omega) ?_; intro g3 c3 w3 o3 p3 q3))
 have hl1 : gr < w1.heap.size := (Array.getElem?_eq_some_iff.1 h1.out).1
 have hg2 : w1.heap.size ≤ g2 := by simp at q2; omega
 have b3 : Below w1.heap.size w1 w3 := b2.trans (p3.below hg2 b2.size)
 have R3 : Hid (w3.heap[gr]? = some (.cells (bcs (List.replicate 32 0)).toArray 53 (0, 0))) := (b3.block gr hl1).trans h1.out
 have hgr : w.heap.size ≤ gr := Nat.le_trans b0.size q1
 have B3 : Below w.heap.size w w3 := (b0.trans (b1.mono b0.size)).trans (b3.mono (Nat.le_trans b0.size b1.size))
 have I3 := o3.isB
 clear h1 b1 o2 p2 q2 b2 o3 p3 q3 b3 b0 Ia Ib q1 hg2 hsl
 refine (rsum_any _ 65 c3 (1 :: a ++ b) _ I3 (by omega)).mono ?_
 rintro e w4 ⟨rfl, b4⟩
 have R4 : Hid (w4.heap[gr]? = some (.cells (bcs (List.replicate 32 0)).toArray 53 (0, 0))) := (b4.block gr (Array.getElem?_eq_some_iff.1 R3.out).1).trans R3.out
 have B4 := B3.trans (b4.mono B3.size)
 clear R3 B3 I3 b4
 go_wp2_with ((with_reducible refine wpList_store_blk rfl 53 _ _ rfl gr _ (bcs (two a b)).toArray ?_ ?_ _ R4 32 sizeHash (by simp [bcs_length]) (by simp [bcs_length,two_length]) (bcs_all _) ?_); (rfl); (rfl); (intro w8 h8 b8))
 refine bodyPost_ret (v := .agg (bcs (two a b)).toArray) (results_cell_row rfl _ _ gr _ _ (0,0) _ rfl h8.out Tryz.underlying53 rfl (by rw [sizeHash]; simp [bcs_length,two_length])) rfl ⟨rfl,?_⟩
 exact B4.grown b8 B4.size (fun k hk => by cases hk; omega)
set_option maxRecDepth 100000 in
set_option maxHeartbeats 1000000 in
theorem rleaf_any (a0 : Option Addr) (n0 c0 : Nat) (l : List UInt8) (w : World) (h : IsB w a0 n0 c0 l) (hn : n0 ≤ 90000) :
 Calls Tryz.prog 65 #[.slice a0 n0 c0] w fun e w' => e = .returned (.agg (bcs (leafS l)).toArray) ∧ Below w.heap.size w w' := by
 go_enter Tryz.func65, Tryz.ntmps65
 go_wp2_with (first
  | (with_reducible refine wpList_alloc_blk (o := ⟨some 2, _, _, _, _, _⟩) rfl 53 rfl _ zeroHash ?_; intro w1 gr h1 b1 q1)
  | (at_builtin; refine wpList_append_ob rfl (.tmp 3) (.tmp 4) 81 81 rfl 5 byteTy w1.heap.size 1 1 [0] rfl (own_lit w1 (.int .u8 0) 0 rfl) _ rfl n0 l (((h.past b1).alloc _).src byteTy.ht) (1 + n0) rfl (0 :: l) rfl (by omega) ?_; intro g2 c2 w2 o2 p2 q2))
 have hl1 : gr < w1.heap.size := (Array.getElem?_eq_some_iff.1 h1.out).1
 have b2 : Below w1.heap.size w1 w2 := ((Below.refl _ _).alloc (Nat.le_refl _) _).trans (p2.below (Nat.le_refl _) (by simp))
 have R2 : Hid (w2.heap[gr]? = some (.cells (bcs (List.replicate 32 0)).toArray 53 (0, 0))) := (b2.block gr hl1).trans h1.out
 have B2 : Below w.heap.size w w2 := b1.trans (b2.mono b1.size)
 have I2 := o2.isB
 clear h1 b1 o2 p2 q2 b2
 refine (rsum_any _ (1 + n0) c2 (0 :: l) _ I2 (by omega)).mono ?_
 rintro e w4 ⟨rfl, b4⟩
 have R4 : Hid (w4.heap[gr]? = some (.cells (bcs (List.replicate 32 0)).toArray 53 (0, 0))) := (b4.block gr (Array.getElem?_eq_some_iff.1 R2.out).1).trans R2.out
 have B4 := B2.trans (b4.mono B2.size)
 clear R2 B2 I2 b4
 go_wp2_with ((with_reducible refine wpList_store_blk rfl 53 _ _ rfl gr _ (bcs (leafS l)).toArray ?_ ?_ _ R4 32 sizeHash (by simp [bcs_length]) (by simp [bcs_length,leafS_length]) (bcs_all _) ?_); (rfl); (rfl); (intro w8 h8 b8))
 refine bodyPost_ret (v := .agg (bcs (leafS l)).toArray) (results_cell_row rfl _ _ gr _ _ (0,0) _ rfl h8.out Tryz.underlying53 rfl (by rw [sizeHash]; simp [bcs_length,leafS_length])) rfl ⟨rfl,?_⟩
 exact B4.grown b8 B4.size (fun k hk => by cases hk; omega)
theorem rowT_short (t s : Int) (c : Chg) (hok : ChOk c) : (rowT t s c).length ≤ 90000 := by
 have k1 := hok.1
 have k2 := hok.2.1
 have e6 := encVs_60 hok.2.2
 have e4 := tx_len c.1.1.data.toList
 have e5 := tx_len (encR c.2)
 have e40 : c.1.1.data.toList.length = c.1.1.size := by simp
 have e7 : (encR c.2).length = 1 + (encVs c.2).length := by unfold encR; rw [List.length_append, le_length]
 simp only [rowT, List.length_append, le_length]
 omega
theorem rblk_size : (Tryz.prog.info? 73).map (·.size) = some 66 := by kernel_rfl
theorem rblk_agg (w : World) : (isAgg 73).run Tryz.prog w = .ok true w := by kernel_rfl
set_option maxRecDepth 100000 in
set_option maxHeartbeats 1600000 in
theorem rrow_any (w : World) (t s : Int) (c : Chg) (ra : Option Addr) (rn rc : Nat) (h : IsR EV w ra rn rc c.2) (hok : ChOk c) :
 Calls Tryz.prog 31 #[.int .i64 t,.int .i64 s,.agg #[.string c.1.1,.int .i64 c.1.2,.slice ra rn rc]] w fun e w' => e = .returned (.agg (bcs (rowS t s c)).toArray) ∧ Below w.heap.size w w' := by
 have HH0 := rowS_len t s c
 have HR0 := fun (w' : World) (b : Below w.heap.size w w') => rowText_any w' t s c ra rn rc (h.past b) hok
 have HL0 := fun (w' : World) (ao : Option Addr) (c0 : Nat) (hI : IsB w' ao (rowT t s c).length c0 (rowT t s c)) => rleaf_any ao _ c0 (rowT t s c) w' hI (rowT_short t s c hok)
 have hLe : leafS (rowT t s c) = rowS t s c := rfl
 obtain ⟨H, hH⟩ : ∃ x, rowS t s c = x := ⟨_, rfl⟩
 obtain ⟨L, hL⟩ : ∃ x, rowT t s c = x := ⟨_, rfl⟩
 obtain ⟨N, hN⟩ : ∃ x, L.length = x := ⟨_, rfl⟩
 simp only [hLe] at HL0
 simp only [hL, hN] at HR0 HL0
 simp only [hH] at HL0
 rw [hH] at HH0 ⊢
 obtain ⟨HA, hHA⟩ : ∃ z, (bcs H).toArray = z := ⟨_, rfl⟩
 have HA0 : Hid (HA.size = 32) := Lib.hid (by rw [← hHA]; simp [bcs_length, HH0])
 have HA1 : Hid (HA.all (·.oneCell') = true) := Lib.hid (by rw [← hHA]; exact bcs_all _)
 simp only [hHA] at HL0
 rw [hHA]
 obtain ⟨⟨tb, op⟩, l⟩ := c
 simp only at HR0 ⊢
 clear hHA hH hL hN hLe HH0 h hok
 have B0 : Below w.heap.size w (w.alloc (.cells #[.string tb, .int .i64 op, .slice ra rn rc] 67)) := (Below.refl _ _).alloc (Nat.le_refl _) _
 have hP0 : Bk (w.alloc (.cells #[.string tb, .int .i64 op, .slice ra rn rc] 67)) w.heap.size #[.string tb, .int .i64 op, .slice ra rn rc] 67 := Bk.new w _ _
 go_enter Tryz.func31, Tryz.ntmps31
 go_upto_region 1 with (with_reducible refine wpList_alloc_blk (o := ⟨some 6, _, _, _, _, _⟩) rfl 53 rfl _ zeroHash ?_; intro W q hq b1 q1)
 have hP1 := hP0.past b1
 have B1' := B0.trans (b1.mono B0.size)
 have hq1 : w.heap.size < q := by rw [World.size_alloc] at q1; omega
 obtain ⟨Z0, hZ0⟩ : ∃ z, (bcs (List.replicate 32 0)).toArray = z := ⟨_, rfl⟩
 have HZ0 : Hid (Z0.size = 32) := Lib.hid (by rw [← hZ0]; simp [bcs_length])
 have hQ : Bk W q Z0 53 := by rw [← hZ0]; exact hq.out
 clear hZ0
 obtain ⟨p, hp⟩ : ∃ p, w.heap.size = p := ⟨_, rfl⟩
 have HG := Lib.hid hp
 rw [hp] at hP1 hq1 B1'
 simp only [hp]
 have hP := hP1
 have B1 : Below p w W := B1'
 have hBq : p ≤ q := by omega
 have hpq : some p ≠ some q := fun e => by have := Option.some.inj e; omega
 have hB0 : p ≤ W.heap.size := Nat.le_of_lt hP.lt
 have hqW := hQ.lt
 clear hq b1 q1 hp hP0 hP1 B0 B1'
 have HR := HR0 W (by rw [HG.out]; exact B1)
 obtain ⟨c0, c1, c2⟩ := chg_cells hP
 simp only [Act.put, setIfInBounds_toArray, set_cons_zero, set_cons_succ]
 go_wp2_with (first
  | (go_at_call 66; refine HR.mono ?_; rintro e w2 ⟨g, cp, rfl, o2, b2, -⟩; have HLf := HL0 w2 _ cp o2.isB)
  | (go_at_call 65; refine HLf.mono ?_; rintro e w3 ⟨rfl,b3⟩; have B3 := b2.trans (b3.mono b2.size); have R3 : Hid (w3.heap[q]? = some (.cells Z0 53 (0,0))) := Lib.hid (hQ.past B3))
  | ((with_reducible refine wpList_store_blk rfl 53 _ _ rfl q Z0 HA ?_ ?_ _ R3 32 sizeHash HZ0.out HA0.out HA1.out ?_); (rfl); (rfl); (intro w8 h8 b8)))
 refine bodyPost_ret (v := .agg HA) (results_cell_row rfl _ _ q _ _ (0, 0) _ rfl h8.out Tryz.underlying53 rfl (by rw [sizeHash, HA0.out])) rfl ⟨rfl, ?_⟩
 rw [HG.out]
 exact (B1.trans (B3.mono hB0)).grown b8 (Nat.le_trans hB0 B3.size) (fun k hk => by cases hk; exact hBq)
set_option maxRecDepth 100000 in
set_option maxHeartbeats 1600000 in
theorem rhash_any (w : World) (b : Blk) : Calls Tryz.prog 37 #[.agg b.cs.toArray] w fun e w' => e = .returned (.agg (bcs (blkS b)).toArray) ∧ Below w.heap.size w w' := by
 have HH0 := blkS_len b
 have HR0 := fun (w' : World) => blkText_any w' b
 have HL0 := fun (w' : World) (ao : Option Addr) (c0 : Nat) (hI : IsB w' ao 80 c0 (blkT b)) => rsum_any ao 80 c0 (blkT b) w' hI (by omega)
 have hLe : sha (blkT b) = blkS b := rfl
 have hcs : b.cs.toArray.toList.length = 66 := by simp [Blk.cs_len]
 obtain ⟨H, hH⟩ : ∃ x, blkS b = x := ⟨_, rfl⟩
 obtain ⟨L, hL⟩ : ∃ x, blkT b = x := ⟨_, rfl⟩
 obtain ⟨N, hN⟩ : ∃ x : Nat, 80 = x := ⟨_, rfl⟩
 obtain ⟨CS, hCS⟩ : ∃ x, b.cs.toArray = x := ⟨_, rfl⟩
 simp only [hLe] at HL0
 simp only [hL, hN, hCS] at HR0 HL0
 simp only [hH] at HL0
 rw [hH] at HH0 ⊢
 rw [hCS] at hcs ⊢
 obtain ⟨HA, hHA⟩ : ∃ z, (bcs H).toArray = z := ⟨_, rfl⟩
 have HA0 : Hid (HA.size = 32) := Lib.hid (by rw [← hHA]; simp [bcs_length, HH0])
 have HA1 : Hid (HA.all (·.oneCell') = true) := Lib.hid (by rw [← hHA]; exact bcs_all _)
 simp only [hHA] at HL0
 rw [hHA]
 have HCS := Lib.hid hcs
 clear hHA hH hL hN hLe HH0 hCS hcs
 have B0 : Below w.heap.size w (w.alloc (.cells CS 73)) := (Below.refl _ _).alloc (Nat.le_refl _) _
 have hP0 : Bk (w.alloc (.cells CS 73)) w.heap.size CS 73 := Bk.new w _ _
 go_enter Tryz.func37, Tryz.ntmps37
 go_upto_region 1 with (with_reducible refine wpList_alloc_blk (o := ⟨some 2, _, _, _, _, _⟩) rfl 53 rfl _ zeroHash ?_; intro W q hq b1 q1)
 have hP1 := hP0.past b1
 have B1' := B0.trans (b1.mono B0.size)
 have hq1 : w.heap.size < q := by rw [World.size_alloc] at q1; omega
 obtain ⟨Z0, hZ0⟩ : ∃ z, (bcs (List.replicate 32 0)).toArray = z := ⟨_, rfl⟩
 have HZ0 : Hid (Z0.size = 32) := Lib.hid (by rw [← hZ0]; simp [bcs_length])
 have hQ : Bk W q Z0 53 := by rw [← hZ0]; exact hq.out
 clear hZ0
 obtain ⟨p, hp⟩ : ∃ p, w.heap.size = p := ⟨_, rfl⟩
 have HG := Lib.hid hp
 rw [hp] at hP1 hq1 B1'
 simp only [hp]
 have hP := hP1
 have B1 : Below p w W := B1'
 have hBq : p ≤ q := by omega
 have hpq : some p ≠ some q := fun e => by have := Option.some.inj e; omega
 have hB0 : p ≤ W.heap.size := Nat.le_of_lt hP.lt
 have hqW := hQ.lt
 clear hq b1 q1 hp hP0 hP1 B0 B1'
 have HR := HR0 W
 have hca := rblk_agg
 simp only [Act.put, setIfInBounds_toArray, set_cons_zero, set_cons_succ]
 go_wp2_with (first
  | ((with_reducible refine wpList_load_cells rfl 73 _ rfl ⟨p,0,none⟩ ?_ CS.toList ?_ rblk_agg ?_ ?_); (rfl); (intro j v hv; rw [Addr.add_lit,Nat.zero_add]; exact hP.c (by simpa using hv)); (rw [rblk_size,HCS.out]); (simp only [Array.toArray_toList]))
  | (go_at_call 42; refine HR.mono ?_; rintro e w2 ⟨g, cp, rfl, o2, b2, -⟩; have HLf := HL0 w2 _ cp o2.isB)
  | (go_at_call 41; refine HLf.mono ?_; rintro e w3 ⟨rfl,b3⟩; have B3 := b2.trans (b3.mono b2.size); have R3 : Hid (w3.heap[q]? = some (.cells Z0 53 (0,0))) := Lib.hid (hQ.past B3))
  | ((with_reducible refine wpList_store_blk rfl 53 _ _ rfl q Z0 HA ?_ ?_ _ R3 32 sizeHash HZ0.out HA0.out HA1.out ?_); (rfl); (rfl); (intro w8 h8 b8)))
 refine bodyPost_ret (v := .agg HA) (results_cell_row rfl _ _ q _ _ (0, 0) _ rfl h8.out Tryz.underlying53 rfl (by rw [sizeHash, HA0.out])) rfl ⟨rfl, ?_⟩
 rw [HG.out]
 exact (B1.trans (B3.mono hB0)).grown b8 (Nat.le_trans hB0 B3.size) (fun k hk => by cases hk; exact hBq)
theorem xor_mod2 (i : Nat) : (i ^^^ 1) % 2 = (i + 1) % 2 := by
 have h := Nat.xor_mod_two_pow (a := i) (b := 1) (n := 1)
 simp only [Nat.pow_one] at h
 rw [h]
 rcases Nat.mod_two_eq_zero_or_one i with h0 | h0
 · rw [h0]; show 0 ^^^ 1 = _; simp; omega
 · rw [h0]; show 1 ^^^ 1 = _; simp; omega
theorem xor_one (i : Nat) : i ^^^ 1 = Mk.sib i := by
 have h1 : (i ^^^ 1) / 2 = i / 2 := by rw [Nat.xor_div_two]; simp
 have h2 := xor_mod2 i
 unfold Mk.sib
 split <;> omega
theorem i64_xor_one (i : Nat) (h : i < 4294967296) : bits .xor .i64 (i : Int) 1 = (Mk.sib i : Int) := by
 rw [← xor_one]
 have hx : i ^^^ 1 < 2 ^ 32 := Nat.xor_lt_two_pow (by omega) (by omega)
 show IntKind.i64.wrap ((BitVec.ofInt 64 (i : Int) ^^^ BitVec.ofInt 64 ((1 : Nat) : Int)).toNat : Int) = _
 rw [BitVec.toNat_xor, ofInt_u64 i (by omega), ofInt_u64 1 (by omega)]
 exact IntWalk.i64_in _ (by omega)
set_option maxHeartbeats 400000 in
theorem beside_any (i : Nat) (w : World) (h : i < 4294967295) : Calls Tryz.prog 107 #[.int .i64 (i : Int)] w fun e w' => e = .returned (.int .i64 (Mk.sib i : Int)) ∧ w = w' := by
 have hx := i64_xor_one i (by omega)
 go_enter Tryz.func107, Tryz.ntmps107
 go_wp2_with fail
 go_ret
 exact ⟨rfl, rfl⟩
theorem OwnH.lt {w : World} {base : Nat} {v : Value} {k : Nat} {hs : List (List UInt8)} (h : OwnH w base v k hs) (g : Nat) (hg : v.ownBlock = some g) : g < w.heap.size := by
 obtain ⟨⟨_, ho⟩, _, _⟩ := h
 rcases ho with ⟨rfl, rfl⟩ | ⟨g', cap, cur, rfl, hg', hc, _⟩
 · cases hg
 · cases hg
   exact (Array.getElem?_eq_some_iff.1 hc).1
theorem IsH.grown {w w' : World} {row : Option Nat} {ao : Option Addr} {n cap : Nat} {hs : List (List UInt8)} (h : IsH w ao n cap hs) (hg : w.grownBy w' row) (hne : ∀ a,ao = some a → some a.block ≠ row) : IsH w' ao n cap hs :=
 ⟨h.len, h.le, h.max, h.nil, h.all, fun a ha i hi j u hu => hg.cell (h.at_ a ha i hi j u hu) (by
  have e : ((a.add (i * 32)).add j).block = a.block := by rw [block_add, block_add]
  rw [e]
  exact hne a ha)⟩
def PrOut (w : World) (c : Int) (n : Nat) (hs : List (List UInt8)) (e : Ending) (w' : World) : Prop := ∃ v,e = .returned (.tuple #[v,.int .i64 c]) ∧ OwnH w' w.heap.size v n hs ∧ Below w.heap.size w w'
theorem proofS_step (hs : List (List UInt8)) (i : Nat) (h2 : 2 ≤ hs.length) (hi : i < hs.length) : proofS hs i = (if Mk.sib i < hs.length then [hs.getD (Mk.sib i) (sha [])] else []) ++ proofS (Mk.above two hs) (i / 2) := Mk.proof_above two (sha []) hs i h2 hi
theorem getD_any {α : Type} (l : List α) (i : Nat) (d d' : α) (h : i < l.length) : l.getD i d = l.getD i d' := by simp [List.getD, h]
theorem sib_le (i : Nat) : Mk.sib i ≤ i + 1 := by unfold Mk.sib; split <;> omega
set_option maxRecDepth 100000 in
set_option maxHeartbeats 4000000 in
theorem proof_any (a0 : Option Addr) (n0 c0 : Nat) (hs : List (List UInt8)) (i : Nat) (w : World) (hC : RC w) (h : IsH w a0 n0 c0 hs) (hn : n0 ≤ 1000) (hi : i < n0) :
 Calls Tryz.prog 77 #[.slice a0 n0 c0, .int .i64 (i : Int)] w (PrOut w 0 (proofS hs i).length (proofS hs i)) := by
 have z2 : decide ((i : Int) < 0) = false := by simp
 have z3 : decide (n0 ≤ i) = false := by simp; omega
 go_enter Tryz.func77, Tryz.ntmps77
 go_wp2_with fail
 clear z2 z3
 go_loopw [0,1,6] (fun v vi vp wq => ∃ (ao : Option Addr) (n c : Nat) (hs' : List (List UInt8)) (i' k : Nat) (q : List (List UInt8)),v = .slice ao n c ∧ IsH wq ao n c hs' ∧ 1 ≤ n ∧ n ≤ 1000 ∧ vi = .int .i64 i' ∧ i' < n ∧ OwnH wq w.heap.size vp k q ∧ k + n ≤ 2000 ∧ Hid (q ++ proofS hs' i' = proofS hs i) ∧ Hid (∀ a g,ao = some a → vp.ownBlock = some g → a.block ≠ g) ∧ Below w.heap.size w wq) (fun v _ _ _ => match v with | .slice _ n _ => n | _ => 0)
 case atStart => exact ⟨a0, n0, c0, hs, i, 0, [], rfl, h, by omega, hn, rfl, hi, OwnH.nil _ _, by omega, rfl, fun a g _ hg => (by cases hg), Below.refl _ _⟩
 case round =>
  obtain ⟨ao, n, c, hs', i', k, q, rfl, hI, hn1, hn2, rfl, hin, hO, hkn, HQ, HNE, hB⟩ := hrel
  have hlen := hI.len
  have HLEN := Lib.hid hlen
  clear hlen
  have hs1 := hB.size
  have hsb := sib_le i'
  by_cases hn3 : 1 < n
  · obtain ⟨a, rfl⟩ := hI.has (by omega)
    obtain ⟨j, hj⟩ : ∃ j, j = i' / 2 := ⟨_, rfl⟩
    have ej : (i' : Int) / 2 = (j : Int) := by omega
    have hjn : j < (n + 1) / 2 := by omega
    have HST := proofS_step hs' i' (by rw [HLEN.out]; omega) (by rw [HLEN.out]; exact hin)
    rw [HLEN.out, ← hj] at HST
    have HJ := Lib.hid hj
    clear hj
    by_cases hsn : Mk.sib i' < n
    · have hAt := hI.at_ a rfl (Mk.sib i') hsn
      have h32 := hI.one (Mk.sib i') hsn
      rw [if_pos hsn, getD_any _ _ _ [] (by rw [HLEN.out]; exact hsn)] at HST
      have HS := Lib.hid HST
      have H32 := Lib.hid h32
      clear HST h32
      go_wp2_with fail
      refine (beside_any i' _ (by omega)).mono ?_
      rintro e w' ⟨rfl, rfl⟩
      generalize Mk.sib i' = sb at hsn hAt H32 HS hsb ⊢
      generalize hs'.getD sb [] = x at hAt H32 HS
      have hsn' : (sb : Int) < (n : Int) := by omega
      have u24 := Tryz.underlying53
      go_wp2_with (first
       | ((with_reducible refine wpList_load_at rfl 53 _ rfl (a.add (sb * 32)) ?_ x hAt _ _ u24 (hash_size x H32.out) ?_); (rfl))
       | ((with_reducible refine wpList_buildSlice_hs rfl 1 _ rfl [x] rfl ?_ (by omega) (by omega) ?_ ?_); (simp [H32.out]); (simp only [List.map_toArray,List.map_cons,List.map_nil]; rfl); (intro w5 _ I5 b5; have O5 := hO.past b5; have hs5 := b5.size))
       | (at_builtin; refine wpList_append_hs rfl (.tmp 25) (.tmp 30) rfl w.heap.size (by omega) _ k q rfl O5 ⟨wr.heap.size, 0, none⟩ 1 1 [x] rfl I5 (by omega) ?_; intro v2 w4 hO4 g4))
      have hB5 := hB.trans (b5.mono hs1)
      have B4 := O5.step hB5 hB5.size (Nat.le_refl _) g4
      have I4 : IsH w4 (some a) n c hs' := (hI.past b5).grown g4 (fun a' ha' e => by
       obtain rfl := Option.some.inj ha'
       exact HNE.out a a.block rfl e.symm rfl)
      have HQ2 : Hid (q ++ [x] ++ proofS (Mk.above two hs') j = proofS hs i) := by
       unfold Hid
       rw [← HQ.out, HS.out, List.append_assoc]
      clear g4 O5 hB5 b5 I5 hO hI HQ HS hAt H32 HNE hB
      go_wp2_with fail
      have R4 : RC w4 := hC.past B4
      refine (above_any a n c hs' _ R4 I4 hn2).mono ?_
      rintro e w6 ⟨v6, rfl, hO6, b6⟩
      obtain ⟨ao6, c6, rfl, hI6, hge6⟩ := hO6.isH
      have O6 := hO4.past b6
      have B6 := B4.trans (b6.mono B4.size)
      have NE6 : Hid (∀ a' g, ao6 = some a' → Value.ownBlock v2 = some g → a'.block ≠ g) := fun a' g h1 h2 e => by
       have h3 := hge6 a' h1
       have h4 := hO4.lt g h2
       omega
      clear hO6 b6 hge6 R4 I4
      go_wp2_with fail
      go_roundw
      case rel => exact ⟨ao6, (n + 1) / 2, c6, _, j, k + 1, _, rfl, hI6, by omega, by omega, rfl, hjn, O6, by omega, HQ2, NE6, B6⟩
      case measure => simp; omega
    · rw [if_neg hsn, List.nil_append] at HST
      have HQ2 : Hid (q ++ proofS (Mk.above two hs') j = proofS hs i) := by
       unfold Hid
       rw [← HQ.out, HST]
      clear HST HQ
      go_wp2_with fail
      refine (beside_any i' _ (by omega)).mono ?_
      rintro e w' ⟨rfl, rfl⟩
      generalize Mk.sib i' = sb at hsn hsb ⊢
      have hsn' : (n : Int) ≤ (sb : Int) := by omega
      have Br : Below w.heap.size w wr := hB
      have Ir := hI
      clear hB hI HNE
      go_wp2_with fail
      have Rr : RC wr := hC.past Br
      refine (above_any a n c hs' _ Rr Ir hn2).mono ?_
      rintro e w6 ⟨v6, rfl, hO6, b6⟩
      obtain ⟨ao6, c6, rfl, hI6, hge6⟩ := hO6.isH
      have O6 := hO.past b6
      have B6 := Br.trans (b6.mono Br.size)
      have NE6 : Hid (∀ a' g, ao6 = some a' → Value.ownBlock u6 = some g → a'.block ≠ g) := fun a' g h1 h2 e => by
       have h3 := hge6 a' h1
       have h4 := hO.lt g h2
       omega
      clear hO6 b6 hge6 Rr Ir
      go_wp2_with fail
      go_roundw
      case rel => exact ⟨ao6, (n + 1) / 2, c6, _, j, k, _, rfl, hI6, by omega, by omega, rfl, hjn, O6, by omega, HQ2, NE6, B6⟩
      case measure => simp; omega
  · obtain rfl : n = 1 := by omega
    have hfin : q = proofS hs i := by
     rw [← HQ.out]
     unfold proofS
     rw [Mk.proof_one _ _ hs' i' (by rw [HLEN.out]; omega), List.append_nil]
    rw [hfin] at hO
    have hk : k = (proofS hs i).length := hO.2.1.symm
    rw [hk] at hO
    have FIN : Hid (PrOut w 0 (proofS hs i).length (proofS hs i) (.returned (.tuple #[u6, .int .i64 0])) wr) := ⟨u6, rfl, hO, hB⟩
    clear hfin hk HQ hkn hI hO HNE hB
    go_wp2_with fail
    go_ret2
    exact FIN.out
theorem proof_none (a0 : Option Addr) (n0 c0 : Nat) (i : Int) (w : World) (hi : i < 0 ∨ (n0 : Int) ≤ i) :
 Calls Tryz.prog 77 #[.slice a0 n0 c0, .int .i64 i] w fun e w' => e = .returned (.tuple #[.slice none 0 0, .int .i64 1]) ∧ w = w' := by
 by_cases h0 : i < 0
 · clear hi
   go_enter Tryz.func77, Tryz.ntmps77
   go_wp2_with fail
   go_ret2
   exact ⟨rfl, rfl⟩
 · have z2 : decide (i < 0) = false := by simp; omega
   have z3 : decide ((n0 : Int) ≤ i) = true := by simp; omega
   have z4 : (n0 : Int) ≤ i := by omega
   clear hi
   go_enter Tryz.func77, Tryz.ntmps77
   go_wp2_with fail
   go_ret2
   exact ⟨rfl, rfl⟩
theorem rootS_nil : rootS [] = sha [] := Mk.root_one _ _ _ (by simp)
theorem wp_store_blk {P : Program} {w : World} {o : Oper} {a : Act} {K : Act → World → Prop} {Q : Exit → Act → World → Prop} (ty : TypeId) (x y : Operand) (ho : o.op = .store ty x y)
 (g : Nat) (old cs : Array Value) (hx : a.eval x = .pointer (some ⟨g,0,none⟩)) (hy : a.eval y = .agg cs) (t : TypeId) (hg : Hid (w.heap[g]? = some (.cells old t (0,0)))) (N : Nat) (hi : (P.info? ty).map (·.size) = some N) (hl : old.size = N) (hm : cs.size = N) (h1 : cs.all (·.oneCell') = true)
 (hK : ∀ w', Hid (w'.heap[g]? = some (.cells cs t (0, 0))) → w.grownBy w' (some g) → K (a.put o.dst undef) w') : o.wp P a w K Q := by
 refine wp_store_row ty x y ho g cs hx hy t old hg.out (by rw [hi,hm]) (by rw [hl,hm]) h1 (hK _ (setRow_heap w g _ _ _ _ hg.out) ⟨rfl,rfl,rfl,by simp,fun k _ hk => setRow_other w g k _ (fun e => hk (by rw [e]))⟩)
set_option maxHeartbeats 1000000 in
theorem part_any (n : Nat) (w : World) (h2 : 2 ≤ n) (hn : n ≤ 1048576) : Calls Tryz.prog 71 #[.int .i64 (n : Int)] w fun e w' => e = .returned (.int .i64 (Mk.part n : Int)) ∧ w = w' := by
 go_enter Tryz.func71, Tryz.ntmps71
 go_wp2_with fail
 go_loopw [3] (fun v wq => ∃ k : Nat, v = .int .i64 k ∧ 1 ≤ k ∧ k < n ∧ Hid (∃ j, k = 2 ^ j) ∧ w = wq) (fun v _ => n - (intOf v).toNat)
 case atStart => exact ⟨1, rfl, by omega, by omega, by first | exact ⟨0, rfl⟩ | trivial, by first | rfl | trivial⟩
 case round =>
  obtain ⟨k, rfl, hk1, hkn, HJ, rfl⟩ := hrel
  by_cases hk : 2 * k < n
  · have g1 : 2 * (k : Int) < (n : Int) := by omega
    go_wp2_with fail
    go_roundw
    case rel => exact ⟨2 * k, by go_num, by omega, by omega, by obtain ⟨j, hj⟩ := HJ.out; exact ⟨j + 1, by rw [hj, Nat.pow_succ]; omega⟩, by first | rfl | trivial⟩
    case measure => simp [intOf]; omega
  · have g1 : ¬ (2 * (k : Int) < (n : Int)) := by omega
    have hp : k = Mk.part n := by
     obtain ⟨j, hj⟩ := HJ.out
     subst hj
     exact (Mk.part_eq hkn (by omega)).symm
    have HP := Lib.hid hp
    clear hp
    go_wp2_with fail
    go_ret
    exact ⟨ret_int (by rw [← HP.out]), rfl⟩
set_option maxRecDepth 100000 in
set_option maxHeartbeats 4000000 in
theorem rroot_n : ∀ N, ∀ (a0 : Option Addr) (n0 c0 : Nat) (hs : List (List UInt8)) (w : World), n0 ≤ N → IsH w a0 n0 c0 hs → n0 ≤ 1000 →
 Calls Tryz.prog 39 #[.slice a0 n0 c0] w fun e w' => e = .returned (.agg (bcs (rootS hs)).toArray) ∧ Below w.heap.size w w' := by
 intro N
 induction N with
 | zero =>
  intro a0 n0 c0 hs w hN h hn
  obtain rfl : n0 = 0 := by omega
  have e0 : hs = [] := List.eq_nil_of_length_eq_zero h.len
  subst e0
  rw [rootS_nil]
  clear h hN hn
  go_enter Tryz.func39, Tryz.ntmps39
  go_wp2_with (first | (with_reducible refine wpList_alloc_blk (o := ⟨some 2, _, _, _, _, _⟩) rfl 53 rfl _ zeroHash ?_; intro w1 gr h1 b1 q1))
  refine (rsum_any none 0 0 [] _ (IsB.nilB _) (by omega)).mono ?_
  rintro e w4 ⟨rfl, b4⟩
  have R4 : Hid (w4.heap[gr]? = some (.cells (bcs (List.replicate 32 0)).toArray 53 (0, 0))) := (b4.block gr (Array.getElem?_eq_some_iff.1 h1.out).1).trans h1.out
  have B4 := b1.trans (b4.mono b1.size)
  clear b4 h1 b1
  go_wp2_with ((with_reducible refine wpList_store_blk rfl 53 _ _ rfl gr _ (bcs (sha [])).toArray ?_ ?_ _ R4 32 sizeHash (by simp [bcs_length]) (by simp [bcs_length,sha_length]) (bcs_all _) ?_); (rfl); (rfl); (intro w8 h8 b8))
  refine bodyPost_ret (v := .agg (bcs (sha [])).toArray) (results_cell_row rfl _ _ gr _ _ (0,0) _ rfl h8.out Tryz.underlying53 rfl (by rw [sizeHash]; simp [bcs_length,sha_length])) rfl ⟨rfl,?_⟩
  exact B4.grown b8 B4.size (fun k hk => by cases hk; omega)
 | succ N ih =>
  intro a0 n0 c0 hs w hN h hn
  rcases Nat.eq_zero_or_pos n0 with h0 | h0
  · subst h0
    have e0 : hs = [] := List.eq_nil_of_length_eq_zero h.len
    subst e0
    rw [rootS_nil]
    clear h hN hn ih
    go_enter Tryz.func39, Tryz.ntmps39
    go_wp2_with (first | (with_reducible refine wpList_alloc_blk (o := ⟨some 2, _, _, _, _, _⟩) rfl 53 rfl _ zeroHash ?_; intro w1 gr h1 b1 q1))
    refine (rsum_any none 0 0 [] _ (IsB.nilB _) (by omega)).mono ?_
    rintro e w4 ⟨rfl, b4⟩
    have R4 : Hid (w4.heap[gr]? = some (.cells (bcs (List.replicate 32 0)).toArray 53 (0, 0))) := (b4.block gr (Array.getElem?_eq_some_iff.1 h1.out).1).trans h1.out
    have B4 := b1.trans (b4.mono b1.size)
    clear b4 h1 b1
    go_wp2_with ((with_reducible refine wpList_store_blk rfl 53 _ _ rfl gr _ (bcs (sha [])).toArray ?_ ?_ _ R4 32 sizeHash (by simp [bcs_length]) (by simp [bcs_length,sha_length]) (bcs_all _) ?_); (rfl); (rfl); (intro w8 h8 b8))
    refine bodyPost_ret (v := .agg (bcs (sha [])).toArray) (results_cell_row rfl _ _ gr _ _ (0,0) _ rfl h8.out Tryz.underlying53 rfl (by rw [sizeHash]; simp [bcs_length,sha_length])) rfl ⟨rfl,?_⟩
    exact B4.grown b8 B4.size (fun k hk => by cases hk; omega)
  · have hl := h.len
    have H32 := Lib.hid (rootS_length hs h.all)
    have HL := Lib.hid hl
    have IH := Lib.hid ih
    clear hl ih
    by_cases hn1 : n0 = 1
    · subst hn1
      obtain ⟨a, rfl⟩ := h.has (by omega)
      have hat := h.at_ a rfl 0 (by omega)
      have hd : hs.getD 0 [] = rootS hs := by
       have hl' := h.len
       unfold rootS
       rw [Mk.root_one _ _ _ (by omega)]
       match hs, hl' with
       | [x], _ => rfl
      rw [hd] at hat
      have u24 := Tryz.underlying53
      have hat0 : AtA w a (rootS hs) := by
       have := hat
       rw [Nat.zero_mul] at this
       exact this
      clear hat hd h hN
      generalize rootS hs = r at hat0 H32
      go_enter Tryz.func39, Tryz.ntmps39
      go_wp2_with (first
       | (with_reducible refine wpList_alloc_blk (o := ⟨some 2, _, _, _, _, _⟩) rfl 53 rfl _ zeroHash ?_; intro w1 gr h1 b1 q1)
       | ((with_reducible refine wpList_load_at rfl 53 _ rfl a ?_ r (hat0.past b1) _ _ u24 (hash_size _ H32.out) ?_); (rfl))
       | ((with_reducible refine wpList_store_blk rfl 53 _ _ rfl gr _ (bcs r).toArray ?_ ?_ _ h1 32 sizeHash (by simp [bcs_length]) (by simp [bcs_length,H32.out]) (bcs_all _) ?_); (rfl); (rfl); (intro w8 h8 b8)))
      refine bodyPost_ret (v := .agg (bcs r).toArray) (results_cell_row rfl _ _ gr _ _ (0,0) _ rfl h8.out Tryz.underlying53 rfl (by rw [sizeHash]; simp [bcs_length,H32.out])) rfl ⟨rfl,?_⟩
      exact b1.grown b8 b1.size (fun k hk => by cases hk; omega)
    · obtain ⟨p, hp⟩ : ∃ p, p = Mk.part n0 := ⟨_, rfl⟩
      have hp1 : 1 ≤ p := by rw [hp]; exact Mk.part_pos n0
      have hp2 : p < n0 := by rw [hp]; exact Mk.part_lt (by omega)
      have hR : rootS hs = two (rootS (hs.take p)) (rootS (hs.drop p)) := by
       unfold rootS
       rw [Mk.root_more _ _ hs (by rw [HL.out]; omega), HL.out, ← hp]
      rw [hR]
      have HP := Lib.hid hp
      have LA := Lib.hid (rootS_length (hs.take p) (fun x hx => h.all x (List.mem_of_mem_take hx)))
      have LB := Lib.hid (rootS_length (hs.drop p) (fun x hx => h.all x (List.mem_of_mem_drop hx)))
      obtain ⟨aa, hcA, hIA⟩ := IsH_head h p (by omega)
      obtain ⟨ab, hcB, hIB, -⟩ := IsH_cut h p (by omega)
      have hnz : ((n0 : Int) == 0) = false := by simp; omega
      have hn1' : ((n0 : Int) == 1) = false := by simp; omega
      have CA := Lib.hid hcA
      have CB := Lib.hid hcB
      clear hp hR h
      clear hcA hcB
      go_enter Tryz.func39, Tryz.ntmps39
      go_wp2_with (first | (with_reducible refine wpList_alloc_blk (o := ⟨some 2, _, _, _, _, _⟩) rfl 53 rfl _ zeroHash ?_; intro w1 gr h1 b1 q1))
      refine (part_any n0 _ (by omega) (by omega)).mono ?_
      rintro e w' ⟨rfl, rfl⟩
      rw [← HP.out]
      go_wp2_with fail
      have hl1 : gr < w1.heap.size := (Array.getElem?_eq_some_iff.1 h1.out).1
      refine wp_region_held_drew (S := fun w' => Below w.heap.size w w') (by kernel_rfl) b1.drew (fun hHeld => ?_)
      have k0 : Below w1.heap.size w1 w1.drew := (Below.refl _ _).drew
      refine wpAnyH_take (i := 0) (v := ?_) rfl (by kernel_rfl) (by kernel_rfl) (by kernel_rfl) (fun _ _ _ h => h) (Or.inl ⟨by rfl, ?_⟩) hHeld ?_
      rotate_left 1
      focus (intro wq hSw; go_simp; try with_reducible rfl)
      try (simp only [Act.put, List.getElem_toArray, List.getElem_cons_succ, List.getElem_cons_zero, setIfInBounds_toArray, set_cons_zero, set_cons_succ])
      refine wpAnyH_take (i := 1) (v := ?_) rfl (by kernel_rfl) (by kernel_rfl) (by kernel_rfl) (fun _ _ _ h => h) (Or.inl ⟨by rfl, ?_⟩) hHeld ?_
      rotate_left 1
      focus (intro wq hSw; go_simp; try with_reducible rfl)
      try (simp only [Act.put, List.getElem_toArray, List.getElem_cons_succ, List.getElem_cons_zero, setIfInBounds_toArray, set_cons_zero, set_cons_succ])
      refine wpAnyH_take (i := 2) (v := ?_) rfl (by kernel_rfl) (by kernel_rfl) (by kernel_rfl) (fun _ _ _ h => h) (Or.inl ⟨by rfl, ?_⟩) hHeld ?_
      rotate_left 1
      focus (intro wq hSw; have hcv := CA.out wq; go_simp; try with_reducible rfl)
      try (simp only [Act.put, List.getElem_toArray, List.getElem_cons_succ, List.getElem_cons_zero, setIfInBounds_toArray, set_cons_zero, set_cons_succ])
      refine wpAnyH_take (i := 4) (v := ?_) rfl (by kernel_rfl) (by kernel_rfl) (by kernel_rfl) (fun _ _ _ h => h) (Or.inl ⟨by rfl, ?_⟩) hHeld ?_
      rotate_left 1
      focus (intro wq hSw; go_simp; try with_reducible rfl)
      try (simp only [Act.put, List.getElem_toArray, List.getElem_cons_succ, List.getElem_cons_zero, setIfInBounds_toArray, set_cons_zero, set_cons_succ])
      refine wpAnyH_take (i := 5) (v := ?_) rfl (by kernel_rfl) (by kernel_rfl) (by kernel_rfl) (fun _ _ _ h => h) (Or.inl ⟨by rfl, ?_⟩) hHeld ?_
      rotate_left 1
      focus (intro wq hSw; go_simp; try with_reducible rfl)
      try (simp only [Act.put, List.getElem_toArray, List.getElem_cons_succ, List.getElem_cons_zero, setIfInBounds_toArray, set_cons_zero, set_cons_succ])
      refine wpAnyH_take (i := 6) (v := ?_) rfl (by kernel_rfl) (by kernel_rfl) (by kernel_rfl) (fun _ _ _ h => h) (Or.inl ⟨by rfl, ?_⟩) hHeld ?_
      rotate_left 1
      focus (intro wq hSw; have hcv := CB.out wq; go_simp; try with_reducible rfl)
      try (simp only [Act.put, List.getElem_toArray, List.getElem_cons_succ, List.getElem_cons_zero, setIfInBounds_toArray, set_cons_zero, set_cons_succ])
      refine wpAnyH_ready (rs := [3]) (by kernel_rfl) (by simp) ?_
      refine AllReadyH.cons rfl (fun K hK => ?_) AllReadyH.nil
      go_simp
      go_at_call 39
      (with_reducible refine (IH.out aa p c0 (hs.take p) _ ?_ ?_ ?_).mono ?_)
      · omega
      · exact (hIA.past b1).past k0
      · omega
      rintro e wa ⟨rfl, ba⟩
      have ka := k0.trans (ba.mono k0.size)
      refine hK.out _ _ (b1.trans (ka.mono b1.size)) (fun hHeld => ?_)
      clear hK K
      try (simp only [Act.put, List.getElem_toArray, List.getElem_cons_succ, List.getElem_cons_zero, setIfInBounds_toArray, set_cons_zero, set_cons_succ])
      refine wpAnyH_ready (rs := [7]) (by kernel_rfl) (by simp) ?_
      refine AllReadyH.cons rfl (fun K hK => ?_) AllReadyH.nil
      go_simp
      go_at_call 39
      (with_reducible refine (IH.out ab (n0 - p) (c0 - p) (hs.drop p) _ ?_ ?_ ?_).mono ?_)
      · omega
      · exact (hIB.past b1).past ka
      · omega
      rintro e wb ⟨rfl, bb⟩
      have kb := ka.trans (bb.mono ka.size)
      refine hK.out _ _ (b1.trans (kb.mono b1.size)) (fun hHeld => ?_)
      clear hK K
      try (simp only [Act.put, List.getElem_toArray, List.getElem_cons_succ, List.getElem_cons_zero, setIfInBounds_toArray, set_cons_zero, set_cons_succ])
      refine wpAnyH_ready (rs := [8]) (by kernel_rfl) (by simp) ?_
      refine AllReadyH.cons rfl (fun K hK => ?_) AllReadyH.nil
      go_simp
      go_at_call 72
      (with_reducible refine (rtwo_any _ _ _ ?_ ?_).mono ?_)
      · exact LA.out
      · exact LB.out
      rintro e wc ⟨rfl, bc3⟩
      have kc := kb.trans (bc3.mono kb.size)
      refine hK.out _ _ (b1.trans (kc.mono b1.size)) (fun hHeld => ?_)
      clear hK K
      try (simp only [Act.put, List.getElem_toArray, List.getElem_cons_succ, List.getElem_cons_zero, setIfInBounds_toArray, set_cons_zero, set_cons_succ])
      have R4 : Hid (wc.heap[gr]? = some (.cells (bcs (List.replicate 32 0)).toArray 53 (0, 0))) := (kc.block gr hl1).trans h1.out
      have B4 := b1.trans (kc.mono b1.size)
      refine wpAnyH_ready (rs := [9]) (by kernel_rfl) (by simp) ?_
      refine AllReadyH.cons rfl (fun K hK => ?_) AllReadyH.nil
      rw [if_pos (by rfl)]
      refine wp_store_blk 53 _ _ rfl gr _ (bcs (two (rootS (hs.take p)) (rootS (hs.drop p)))).toArray rfl rfl _ R4 32 sizeHash (by simp [bcs_length]) (by simp [bcs_length,two_length]) (bcs_all _) fun w8 h8 b8 => ?_
      have B8 := B4.grown b8 B4.size (fun k hk => by cases hk; omega)
      refine hK.out _ _ B8 (fun hHeld => ?_)
      clear hK K
      try (simp only [Act.put, List.getElem_toArray, List.getElem_cons_succ, List.getElem_cons_zero, setIfInBounds_toArray, set_cons_zero, set_cons_succ])
      refine wpAnyH_done (by kernel_rfl) ?_ _
      go_wp2_with fail
      refine bodyPost_ret (v := .agg (bcs (two (rootS (hs.take p)) (rootS (hs.drop p)))).toArray) (results_cell_row rfl _ _ gr _ _ (0,0) _ rfl h8.out Tryz.underlying53 rfl (by rw [sizeHash]; simp [bcs_length,two_length])) rfl ⟨rfl,B8⟩
theorem rroot_any (a0 : Option Addr) (n0 c0 : Nat) (hs : List (List UInt8)) (w : World) (h : IsH w a0 n0 c0 hs) (hn : n0 ≤ 1000) :
 Calls Tryz.prog 39 #[.slice a0 n0 c0] w fun e w' => e = .returned (.agg (bcs (rootS hs)).toArray) ∧ Below w.heap.size w w' := rroot_n n0 a0 n0 c0 hs w (Nat.le_refl _) h hn
end Go.Proofs.YtdmnjjknkcnkgaaGreatDoor
