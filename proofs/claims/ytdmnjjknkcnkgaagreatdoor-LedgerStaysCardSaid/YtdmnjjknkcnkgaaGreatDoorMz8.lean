/-
 The document's Rows, Root, Entry, Entries (by gen_rg3.py).
 The document's Root, Entry, Entries (by gen_rg3.py).
-/
import Derived.Test.YtdmnjjknkcnkgaaGreatDoorMz7
import Derived.Test.YtdmnjjknkcnkgaaGreatDoorMz6
namespace Go.Proofs.YtdmnjjknkcnkgaaGreatDoor
open List (setIfInBounds_toArray set_cons_zero set_cons_succ)
open Go.RowKit
set_option linter.unusedSimpArgs false
theorem hash_i : ∃ i z, Tryz.prog.info? 53 = some i ∧ i.zero = some z ∧ i.size = 32 := by
 have hi := hash_info
 cases h1 : Tryz.prog.info? 53 with
 | none => rw [h1] at hi; cases hi
 | some it =>
  rw [h1] at hi
  simp only [Option.map_some, Option.some.injEq, Prod.mk.injEq] at hi
  exact ⟨it, _, rfl, hi.1, hi.2.1⟩
theorem hash_row {w : World} {g : Nat} {h : H32} (hg : w.heap[g]? = some (.cells (EHs.f h).toArray 53 (0, 0))) : IsR EHs w (some ⟨g, 0, none⟩) 1 1 [h] :=
 (OwnR.ofBlk (E := EHs) (l := [h]) (n := 1) hg (by simp [Enc.all]) rfl (by omega)).isR
theorem TxtR.next {α : Type} {E : Enc α} {w : World} {e : TypeId} {B : Nat} {ao : Option Addr} {j c : Nat} {RL : List α} {x : α} (h : TxtR E w e B ao (j + 1) c (RL.take j ++ [x])) (hx : RL[j]? = some x) : TxtR E w e B ao (j + 1) c (RL.take (j + 1)) := by
 obtain ⟨hj, rfl⟩ := List.getElem?_eq_some_iff.1 hx
 rw [List.take_succ_eq_append_getElem hj]
 exact h
inductive RgR5 (B : Nat) (p : Nat) (id : Int) (ca : Option Addr) (cn : Nat) (cc : Nat) (ao : Option Addr) (jn : Nat) (c : Nat) (n1 : Nat) (gb : Nat) (goff : Nat) (bt : ByteArray) (bo : Int) (ba : Option Addr) (bn : Nat) (bc : Nat) (RA : Array Value) (rh : H32) (l0 : List H32) (a0 : Act) (w0 : World) (L : Array Bool) (a : Act) (w : World) : Prop
 | mk (b0 b1 b2 b3 b4 b5 b6 b7 b8 b9 b10 b11 b12 : Bool) (x12 x13 x14 x15 x16 x17 x18 x19 x20 x21 x22 x23 x3 : Value) (gs : Nat) (gq : Nat) (cq : Nat) (hL : L = #[b0,b1,b2,b3,b4,b5,b6,b7,b8,b9,b10,b11,b12]) (ha : a = ⟨(((((((((((((a0.tmps.setIfInBounds 12 x12).setIfInBounds 13 x13).setIfInBounds 14 x14).setIfInBounds 15 x15).setIfInBounds 16 x16).setIfInBounds 17 x17).setIfInBounds 18 x18).setIfInBounds 19 x19).setIfInBounds 20 x20).setIfInBounds 21 x21).setIfInBounds 22 x22).setIfInBounds 23 x23).setIfInBounds 3 x3),a0.defers⟩) (hb : Below B w0 w) (cd0 : Hid (b0 = true → x12 = .slice ao jn c)) (cd1 : Hid (b1 = true → x13 = .pointer (some ⟨p,0,none⟩))) (cd2 : Hid (b2 = true → x14 = .int .i64 id)) (cd3 : Hid (b3 = true → x15 = .int .i64 (jn : Nat))) (cd4 : Hid (b4 = true → x16 = .pointer (some ⟨p,1,none⟩))) (cd5 : Hid (b5 = true → x17 = .slice ca cn cc)) (cd6 : Hid (b6 = true → x18 = .int .i64 (jn : Nat))) (cd7 : Hid (b7 = true → x19 = .pointer (some ⟨gb,goff + jn * 3,none⟩))) (cd8 : Hid (b8 = true → x20 = .agg #[.string bt,.int .i64 bo,.slice ba bn bc])) (cd9 : Hid (b9 = true → x21 = .agg RA)) (cd10 : Hid (b10 = true → x22 = .slice (some ⟨gs,0,none⟩) 1 1)) (cd11 : Hid (b11 = true → x23 = .slice (some ⟨gq,0,none⟩) n1 cq)) (cd12 : Hid (b12 = true → x3 = .slice (some ⟨gq,0,none⟩) n1 cq)) (f_p : Hid (Bk w p #[.int .i64 id,.slice ca cn cc] 45)) (f_t : Hid (b11 = false → TxtR EHs w 53 B ao jn c l0)) (f_ls : Hid (b10 = true → b11 = false → IsR EHs w (some ⟨gs,0,none⟩) 1 1 [rh])) (f_o : Hid (b11 = true → TxtR EHs w 53 B (some ⟨gq,0,none⟩) n1 cq (l0 ++ [rh]))) (f_om12 : Hid (b12 = true → b0 = true)) (f_sm12 : Hid (b12 = false → x3 = .slice ao jn c)) (w_12_11 : Hid (b12 = true → b11 = true)) : RgR5 B p id ca cn cc ao jn c n1 gb goff bt bo ba bn bc RA rh l0 a0 w0 L a w
set_option maxRecDepth 100000 in
set_option maxHeartbeats 1600000 in
theorem rrows_any (w : World) (Q : Nat → Prop) (id : Int) (cs : List Chg) (ca : Option Addr) (cn cc : Nat) (h : IsD DC w Q ca cn cc cs) (hok : TxOk (id, cs)) :
 Calls Tryz.prog 68 #[.agg #[.int .i64 id,.slice ca cn cc]] w fun e w' => ∃ ao c,e = .returned (.slice ao cn c) ∧ TxtR EHs w' 53 w.heap.size ao cn c (rowsH (id,cs)) ∧ Below w.heap.size w w' := by
 have hln := h.len
 have hcn : cn ≤ 100 := by have := hok.1; simp only at this; omega
 obtain ⟨RL, hRL⟩ : ∃ x, rowsH (id, cs) = x := ⟨_, rfl⟩
 have HRn : Hid (RL.length = cn) := Lib.hid (by rw [← hRL, rowsH_len]; exact hln)
 have HRg : Hid (∀ (i : Nat) (c : Chg), cs[i]? = some c → RL[i]? = some (⟨rowS id (i : Nat) c, rowS_len _ _ _⟩ : H32)) := Lib.hid (by rw [← hRL]; exact rowsH_get (id, cs))
 rw [hRL]
 clear hRL
 have B0 : Below w.heap.size w (w.alloc (.cells #[.int .i64 id, .slice ca cn cc] 45)) := (Below.refl _ _).alloc (Nat.le_refl _) _
 have hP0 : Bk (w.alloc (.cells #[.int .i64 id, .slice ca cn cc] 45)) w.heap.size #[.int .i64 id, .slice ca cn cc] 45 := Bk.new w _ _
 have h0 := h.past B0
 have hs0 := World.size_alloc w (.cells #[.int .i64 id, .slice ca cn cc] 45)
 go_enter Tryz.func68, Tryz.ntmps68
 go_upto_region 2 with fail
 obtain ⟨p, hp⟩ : ∃ p, w.heap.size = p := ⟨_, rfl⟩
 obtain ⟨q, hq⟩ : ∃ q, p + 1 = q := ⟨_, rfl⟩
 have HG := Lib.hid hp
 rw [hp] at hP0 hs0
 rw [hq] at hs0
 try simp only [hp]
 have BW : Below p w (w.alloc (.cells #[.int .i64 id, .slice ca cn cc] 45)) := by rw [← hp]; exact B0
 generalize w.alloc (.cells #[.int .i64 id, .slice ca cn cc] 45) = W at hP0 hs0 BW h0 ⊢
 have hP := hP0
 have hpq : p < q := by omega
 have hqW : Hid (W.heap.size = q) := Lib.hid (by omega)
 clear hp hq B0 hP0 hs0 h
 have hB0W : q ≤ W.heap.size := Nat.le_of_eq hqW.out.symm
 go_wp2_with fail
 go_loopw [3,4] (fun v i wr => ∃ (j : Nat) (ao : Option Addr) (c : Nat),j ≤ cn ∧ i = .int .i64 (j : Nat) ∧ v = .slice ao j c ∧ TxtR EHs wr 53 q ao j c (RL.take j) ∧ Below q W wr) (fun _ i _ => cn - (intOf i).toNat)
 case atStart => exact ⟨0, none, 0, Nat.zero_le _, rfl, rfl, TxtR.nil .., Below.refl _ _⟩
 case round =>
  obtain ⟨jn, ao, c, hj, rfl, rfl, hT, B2⟩ := hrel
  have hPr := hP.past9 B2 hpq
  have hB0 : q ≤ wr.heap.size := Nat.le_trans hB0W B2.size
  obtain ⟨c0, c1⟩ : wr.cell? ⟨p, 0, none⟩ = some (.int .i64 id) ∧ wr.cell? ⟨p, 1, none⟩ = some (.slice ca cn cc) := ⟨hPr.c rfl, hPr.c rfl⟩
  by_cases hlt : jn < cn
  · have hlti : (jn : Int) < (cn : Int) := by omega
    obtain ⟨x, hx⟩ : ∃ x, cs[jn]? = some x := ⟨cs[jn]'(by omega), List.getElem?_eq_getElem _⟩
    have hxm := List.mem_of_getElem? hx
    obtain ⟨gb, goff, b, rfl, hgl0, -, hcl, hr⟩ := h0.at hx
    obtain ⟨⟨bt, bo⟩, ⟨ba, bn, bc⟩⟩ := b
    obtain ⟨⟨xt, xo⟩, xl⟩ := x
    obtain ⟨hE, hr2⟩ := hr
    obtain ⟨rfl, rfl⟩ : bt = xt ∧ bo = xo := by simpa using hE
    have hcl : ∀ k u, (ECh.f ((bt, bo), ⟨ba, bn, bc⟩))[k]? = some u → W.cell? ⟨gb, goff + (jn * 3 + k), none⟩ = some u := hcl
    have y0' : W.cell? ⟨gb, goff + jn * 3, none⟩ = some (.string bt) := hcl 0 _ rfl
    have y1' : W.cell? ⟨gb, goff + jn * 3 + 1, none⟩ = some (.int .i64 bo) := by have := hcl 1 _ rfl; rwa [← Nat.add_assoc] at this
    have y2' : W.cell? ⟨gb, goff + jn * 3 + 2, none⟩ = some (.slice ba bn bc) := by have := hcl 2 _ rfl; rwa [← Nat.add_assoc] at this
    have hgl : gb < q := by rw [← hqW.out]; exact hgl0
    have y0 := (B2.cell hgl).trans y0'
    have y1 := (B2.cell hgl).trans y1'
    have y2 := (B2.cell hgl).trans y2'
    have HRw0 := fun (w' : World) (b : Below W.heap.size W w') => rrow_any w' id (jn : Nat) ((bt, bo), xl) ba bn bc (hr2.flat.past b) (hok.2 _ hxm)
    have HX := Lib.hid (HRg.out jn _ hx)
    obtain ⟨rh, hrh⟩ : ∃ r : H32, ⟨rowS id (jn : Nat) ((bt, bo), xl), rowS_len _ _ _⟩ = r := ⟨_, rfl⟩
    obtain ⟨RA, hRA⟩ : ∃ a, (EHs.f rh).toArray = a := ⟨_, rfl⟩
    have hAA : (bcs (rowS id (jn : Nat) ((bt, bo), xl))).toArray = RA := by rw [← hRA, ← hrh]; rfl
    simp only [hAA] at HRw0
    rw [hrh] at HX
    have HRA := Lib.hid hRA
    have HRw := fun (w' : World) (hb : Below q wr.drew w') => HRw0 w' (by rw [hqW.out]; exact B2.trans ((Below.refl _ _).drew.trans hb))
    clear HRw0
    obtain ⟨n1, hn1⟩ : ∃ n, jn + 1 = n := ⟨_, rfl⟩
    have HN1 := Lib.hid hn1
    obtain ⟨l0, hl0⟩ : ∃ l, RL.take jn = l := ⟨_, rfl⟩
    have HL0 := Lib.hid hl0
    rw [hl0] at hT
    have hn1s : n1 ≤ 101 := by omega
    clear hAA hrh hRA hcl y0' y1' y2' hr2 hE hx hxm hn1 hl0 hgl0
    go_upto_region 5 with fail
    refine region_inv (RgR5 q p id (some ⟨gb, goff, none⟩) cn cc ao jn c n1 gb goff bt bo ba bn bc RA rh l0) (by kernel_rfl) (by kernel_rfl) ?_ ?_ ?_
    · exact ⟨false,false,false,false,false,false,false,false,false,false,false,false,false,u12,u13,u14,u15,u16,u17,u18,u19,u20,u21,u22,u23,.slice ao jn c,0,0,0,rfl,(by go_simp),Below.refl _ _,nf2,nf2,nf2,nf2,nf2,nf2,nf2,nf2,nf2,nf2,nf2,nf2,nf2,(hPr.past (Below.refl _ _).drew),(fun h1 => hT.past (Below.refl _ _).drew),nf2,nf2,nf2,(fun h1 => rfl),nf2⟩
    · refine ⟨?_, ?_, ?_, ?_, ?_, ?_, ?_, ?_, ?_, ?_, ?_, ?_, ?_, trivial⟩
      all_goals rintro L a w ⟨b0,b1,b2,b3,b4,b5,b6,b7,b8,b9,b10,b11,b12,x12,x13,x14,x15,x16,x17,x18,x19,x20,x21,x22,x23,x3,gs,gq,cq,rfl,rfl,hb,cd0,cd1,cd2,cd3,cd4,cd5,cd6,cd7,cd8,cd9,cd10,cd11,cd12,f_p,f_t,f_ls,f_o,f_om12,f_sm12,w_12_11⟩ hf hd
      · have hf' : b0 = false := hf
        subst hf'
        clear hf hd
        have e12 : b12 = false := by cases hq : b12 with | false => rfl | true => exact absurd (f_om12.out hq) (by simp)
        subst e12
        obtain rfl := f_sm12.out rfl
        have W_p := f_p.out
        intro K hK
        rw [if_pos (by rfl)]
        go_simp
        exact hK.out _ _ ⟨true,b1,b2,b3,b4,b5,b6,b7,b8,b9,b10,b11,false,(.slice ao jn c),x13,x14,x15,x16,x17,x18,x19,x20,x21,x22,x23,(.slice ao jn c),gs,gq,cq,(by go_simp),(by go_simp),hb,rf,cd1,cd2,cd3,cd4,cd5,cd6,cd7,cd8,cd9,cd10,cd11,cd12,f_p,f_t,f_ls,f_o,rf,f_sm12,w_12_11⟩
      · have hf' : b1 = false := hf
        subst hf'
        clear hf hd
        have W_p := f_p.out
        intro K hK
        rw [if_pos (by rfl)]
        go_simp
        exact hK.out _ _ ⟨b0,true,b2,b3,b4,b5,b6,b7,b8,b9,b10,b11,b12,x12,(.pointer (some ⟨p,0,none⟩)),x14,x15,x16,x17,x18,x19,x20,x21,x22,x23,x3,gs,gq,cq,(by go_simp),(by go_simp),hb,cd0,(fun _ => rfl),cd2,cd3,cd4,cd5,cd6,cd7,cd8,cd9,cd10,cd11,cd12,f_p,f_t,f_ls,f_o,f_om12,f_sm12,w_12_11⟩
      · have hf' : b2 = false := hf
        subst hf'
        have d1 : b1 = true := hd ⟨1, .data⟩ (by simp) rfl
        subst d1
        obtain rfl := cd1.out rfl
        clear hf hd
        have W_p := f_p.out
        try simp only [setIfInBounds_toArray, set_cons_zero, set_cons_succ]
        have z0 : w.cell? ⟨p, 0, none⟩ = some (.int .i64 id) := W_p.c rfl
        intro K hK
        rw [if_pos (by rfl)]
        go_simp
        exact hK.out _ _ ⟨b0,true,true,b3,b4,b5,b6,b7,b8,b9,b10,b11,b12,x12,.pointer (some ⟨p,0,none⟩),(.int .i64 id),x15,x16,x17,x18,x19,x20,x21,x22,x23,x3,gs,gq,cq,(by go_simp),(by go_simp),hb,cd0,rf,rf,cd3,cd4,cd5,cd6,cd7,cd8,cd9,cd10,cd11,cd12,f_p,f_t,f_ls,f_o,f_om12,f_sm12,w_12_11⟩
      · have hf' : b3 = false := hf
        subst hf'
        clear hf hd
        have W_p := f_p.out
        intro K hK
        rw [if_pos (by rfl)]
        go_simp
        exact hK.out _ _ ⟨b0,b1,b2,true,b4,b5,b6,b7,b8,b9,b10,b11,b12,x12,x13,x14,(.int .i64 (jn : Nat)),x16,x17,x18,x19,x20,x21,x22,x23,x3,gs,gq,cq,(by go_simp),(by go_simp),hb,cd0,cd1,cd2,(fun _ => rfl),cd4,cd5,cd6,cd7,cd8,cd9,cd10,cd11,cd12,f_p,f_t,f_ls,f_o,f_om12,f_sm12,w_12_11⟩
      · have hf' : b4 = false := hf
        subst hf'
        clear hf hd
        have W_p := f_p.out
        intro K hK
        rw [if_pos (by rfl)]
        go_simp
        exact hK.out _ _ ⟨b0,b1,b2,b3,true,b5,b6,b7,b8,b9,b10,b11,b12,x12,x13,x14,x15,(.pointer (some ⟨p,1,none⟩)),x17,x18,x19,x20,x21,x22,x23,x3,gs,gq,cq,(by go_simp),(by go_simp),hb,cd0,cd1,cd2,cd3,(fun _ => rfl),cd5,cd6,cd7,cd8,cd9,cd10,cd11,cd12,f_p,f_t,f_ls,f_o,f_om12,f_sm12,w_12_11⟩
      · have hf' : b5 = false := hf
        subst hf'
        have d4 : b4 = true := hd ⟨4, .data⟩ (by simp) rfl
        subst d4
        obtain rfl := cd4.out rfl
        clear hf hd
        have W_p := f_p.out
        try simp only [setIfInBounds_toArray, set_cons_zero, set_cons_succ]
        have z1 : w.cell? ⟨p, 1, none⟩ = some (.slice (some ⟨gb, goff, none⟩) cn cc) := W_p.c rfl
        intro K hK
        rw [if_pos (by rfl)]
        go_simp
        exact hK.out _ _ ⟨b0,b1,b2,b3,true,true,b6,b7,b8,b9,b10,b11,b12,x12,x13,x14,x15,.pointer (some ⟨p,1,none⟩),(.slice (some ⟨gb,goff,none⟩) cn cc),x18,x19,x20,x21,x22,x23,x3,gs,gq,cq,(by go_simp),(by go_simp),hb,cd0,cd1,cd2,cd3,rf,rf,cd6,cd7,cd8,cd9,cd10,cd11,cd12,f_p,f_t,f_ls,f_o,f_om12,f_sm12,w_12_11⟩
      · have hf' : b6 = false := hf
        subst hf'
        clear hf hd
        have W_p := f_p.out
        intro K hK
        rw [if_pos (by rfl)]
        go_simp
        exact hK.out _ _ ⟨b0,b1,b2,b3,b4,b5,true,b7,b8,b9,b10,b11,b12,x12,x13,x14,x15,x16,x17,(.int .i64 (jn : Nat)),x19,x20,x21,x22,x23,x3,gs,gq,cq,(by go_simp),(by go_simp),hb,cd0,cd1,cd2,cd3,cd4,cd5,(fun _ => rfl),cd7,cd8,cd9,cd10,cd11,cd12,f_p,f_t,f_ls,f_o,f_om12,f_sm12,w_12_11⟩
      · have hf' : b7 = false := hf
        subst hf'
        have d5 : b5 = true := hd ⟨5, .data⟩ (by simp) rfl
        subst d5
        have d6 : b6 = true := hd ⟨6, .data⟩ (by simp) rfl
        subst d6
        obtain rfl := cd5.out rfl
        obtain rfl := cd6.out rfl
        clear hf hd
        have W_p := f_p.out
        intro K hK
        rw [if_pos (by rfl)]
        go_simp
        exact hK.out _ _ ⟨b0,b1,b2,b3,b4,true,true,true,b8,b9,b10,b11,b12,x12,x13,x14,x15,x16,.slice (some ⟨gb,goff,none⟩) cn cc,.int .i64 (jn : Nat),(.pointer (some ⟨gb,goff + jn * 3,none⟩)),x20,x21,x22,x23,x3,gs,gq,cq,(by go_simp),(by go_simp),hb,cd0,cd1,cd2,cd3,cd4,rf,rf,rf,cd8,cd9,cd10,cd11,cd12,f_p,f_t,f_ls,f_o,f_om12,f_sm12,w_12_11⟩
      · have hf' : b8 = false := hf
        subst hf'
        have d7 : b7 = true := hd ⟨7, .data⟩ (by simp) rfl
        subst d7
        obtain rfl := cd7.out rfl
        clear hf hd
        have W_p := f_p.out
        try simp only [setIfInBounds_toArray, set_cons_zero, set_cons_succ]
        have z0 := (hb.cell hgl).trans y0
        have z1 := (hb.cell hgl).trans y1
        have z2 := (hb.cell hgl).trans y2
        intro K hK
        rw [if_pos (by rfl)]
        go_simp
        exact hK.out _ _ ⟨b0,b1,b2,b3,b4,b5,b6,true,true,b9,b10,b11,b12,x12,x13,x14,x15,x16,x17,x18,.pointer (some ⟨gb,goff + jn * 3,none⟩),(.agg #[.string bt,.int .i64 bo,.slice ba bn bc]),x21,x22,x23,x3,gs,gq,cq,(by go_simp),(by go_simp),hb,cd0,cd1,cd2,cd3,cd4,cd5,cd6,rf,rf,cd9,cd10,cd11,cd12,f_p,f_t,f_ls,f_o,f_om12,f_sm12,w_12_11⟩
      · have hf' : b9 = false := hf
        subst hf'
        have d2 : b2 = true := hd ⟨2, .data⟩ (by simp) rfl
        subst d2
        have d3 : b3 = true := hd ⟨3, .data⟩ (by simp) rfl
        subst d3
        have d8 : b8 = true := hd ⟨8, .data⟩ (by simp) rfl
        subst d8
        obtain rfl := cd2.out rfl
        obtain rfl := cd3.out rfl
        obtain rfl := cd8.out rfl
        clear hf hd
        have W_p := f_p.out
        intro K hK
        rw [if_pos (by rfl)]
        go_simp
        go_at_call 31
        refine (HRw _ hb).mono ?_
        rintro e w' ⟨rfl, bx⟩
        exact hK.out _ _ ⟨b0,b1,true,true,b4,b5,b6,b7,true,true,b10,b11,b12,x12,x13,.int .i64 id,.int .i64 (jn : Nat),x16,x17,x18,x19,.agg #[.string bt,.int .i64 bo,.slice ba bn bc],(.agg RA),x22,x23,x3,gs,gq,cq,(by go_simp),(by go_simp),hb.trans (bx.mono (Nat.le_trans hB0 hb.size)),cd0,cd1,rf,rf,cd4,cd5,cd6,cd7,rf,rf,cd10,cd11,cd12,(f_p.out.past bx),(fun h1 => (f_t.out h1).past bx),(fun h0 h1 => (f_ls.out h0 h1).past bx),(fun h0 => (f_o.out h0).past bx),f_om12,f_sm12,w_12_11⟩
      · have hf' : b10 = false := hf
        subst hf'
        have d9 : b9 = true := hd ⟨9, .data⟩ (by simp) rfl
        subst d9
        obtain rfl := cd9.out rfl
        clear hf hd
        have W_p := f_p.out
        try simp only [setIfInBounds_toArray, set_cons_zero, set_cons_succ]
        intro K hK
        rw [if_pos (by rfl)]
        refine wp_buildSlice_one 77 53 _ rfl (EHs.f rh) 32 (congrArg Value.agg HRA.out.symm) (EHs.len rh) (by omega) (by omega) Tryz.underlying77 hash_i fun w' h7 bx _ => ?_
        exact hK.out _ _ ⟨b0,b1,b2,b3,b4,b5,b6,b7,b8,true,true,b11,b12,x12,x13,x14,x15,x16,x17,x18,x19,x20,.agg RA,(.slice (some ⟨(w.heap.size),0,none⟩) 1 1),x23,x3,w.heap.size,gq,cq,(by go_simp),(by go_simp),hb.trans (bx.mono (Nat.le_trans hB0 hb.size)),cd0,cd1,cd2,cd3,cd4,cd5,cd6,cd7,cd8,rf,rf,cd11,cd12,(f_p.out.past bx),(fun h1 => (f_t.out h1).past bx),(fun _ _ => hash_row h7),(fun h0 => (f_o.out h0).past bx),f_om12,f_sm12,w_12_11⟩
      · have hf' : b11 = false := hf
        subst hf'
        have d0 : b0 = true := hd ⟨0, .data⟩ (by simp) rfl
        subst d0
        have d10 : b10 = true := hd ⟨10, .data⟩ (by simp) rfl
        subst d10
        have d9 : b9 = true := hd ⟨9, .chain⟩ (by simp) rfl
        subst d9
        obtain rfl := cd0.out rfl
        obtain rfl := cd10.out rfl
        obtain rfl := cd9.out rfl
        clear hf hd
        have W_p := f_p.out
        have W_t := f_t.out rfl
        have W_ls := f_ls.out rfl rfl
        try simp only [setIfInBounds_toArray, set_cons_zero, set_cons_succ]
        intro K hK
        rw [if_pos (by rfl)]
        refine wp_append_r (E := EHs) _ _ 77 77 rfl rowTyHs rfl W_t (Nat.le_trans hB0 hb.size) _ rfl 1 [rh] (W_ls.src Tryz.underlying77) rfl (by omega) n1 HN1.out (l0 ++ [rh]) rfl (by omega) fun q9 r9 w2 o8 g8 f8 k8 => ?_
        have hb2 := hb.trans k8
        have e_12 : b12 = false := by cases hq : b12 with | false => rfl | true => exact absurd (w_12_11.out hq) (by simp)
        subst e_12
        exact hK.out _ _ ⟨true,b1,b2,b3,b4,b5,b6,b7,b8,true,true,true,false,.slice ao jn c,x13,x14,x15,x16,x17,x18,x19,x20,.agg RA,.slice (some ⟨gs,0,none⟩) 1 1,(.slice (some ⟨q9,0,none⟩) n1 r9),x3,gs,q9,r9,(by go_simp),(by go_simp),hb2,rf,cd1,cd2,cd3,cd4,cd5,cd6,cd7,cd8,rf,rf,rf,nf2,(Bk.past9 f_p.out k8 hpq),nf2,(fun _ h => by cases h),(fun _ => o8),f_om12,f_sm12,rf⟩
      · have hf' : b12 = false := hf
        subst hf'
        have d11 : b11 = true := hd ⟨11, .data⟩ (by simp) rfl
        subst d11
        have d0 : b0 = true := hd ⟨0, .phase⟩ (by simp) rfl
        subst d0
        have d1 : b1 = true := hd ⟨1, .phase⟩ (by simp) rfl
        subst d1
        have d2 : b2 = true := hd ⟨2, .phase⟩ (by simp) rfl
        subst d2
        have d3 : b3 = true := hd ⟨3, .phase⟩ (by simp) rfl
        subst d3
        have d4 : b4 = true := hd ⟨4, .phase⟩ (by simp) rfl
        subst d4
        have d5 : b5 = true := hd ⟨5, .phase⟩ (by simp) rfl
        subst d5
        have d6 : b6 = true := hd ⟨6, .phase⟩ (by simp) rfl
        subst d6
        have d7 : b7 = true := hd ⟨7, .phase⟩ (by simp) rfl
        subst d7
        have d8 : b8 = true := hd ⟨8, .phase⟩ (by simp) rfl
        subst d8
        have d9 : b9 = true := hd ⟨9, .phase⟩ (by simp) rfl
        subst d9
        have d10 : b10 = true := hd ⟨10, .phase⟩ (by simp) rfl
        subst d10
        obtain rfl := cd11.out rfl
        obtain rfl := cd0.out rfl
        obtain rfl := cd1.out rfl
        obtain rfl := cd2.out rfl
        obtain rfl := cd3.out rfl
        obtain rfl := cd4.out rfl
        obtain rfl := cd5.out rfl
        obtain rfl := cd6.out rfl
        obtain rfl := cd7.out rfl
        obtain rfl := cd8.out rfl
        obtain rfl := cd9.out rfl
        obtain rfl := cd10.out rfl
        clear hf hd
        have W_p := f_p.out
        have W_o := f_o.out rfl
        have W_sm12 := f_sm12.out rfl
        intro K hK
        rw [if_pos (by rfl)]
        go_simp
        exact hK.out _ _ ⟨true,true,true,true,true,true,true,true,true,true,true,true,true,.slice ao jn c,.pointer (some ⟨p,0,none⟩),.int .i64 id,.int .i64 (jn : Nat),.pointer (some ⟨p,1,none⟩),.slice (some ⟨gb,goff,none⟩) cn cc,.int .i64 (jn : Nat),.pointer (some ⟨gb,goff + jn * 3,none⟩),.agg #[.string bt,.int .i64 bo,.slice ba bn bc],.agg RA,.slice (some ⟨gs,0,none⟩) 1 1,.slice (some ⟨gq,0,none⟩) n1 cq,(.slice (some ⟨gq,0,none⟩) n1 cq),gs,gq,cq,(by go_simp),(by go_simp),hb,rf,rf,rf,rf,rf,rf,rf,rf,rf,rf,rf,rf,rf,f_p,nf2,(fun _ h => by cases h),f_o,rf,nf2,rf⟩
    · rintro act V ⟨b0,b1,b2,b3,b4,b5,b6,b7,b8,b9,b10,b11,b12,x12,x13,x14,x15,x16,x17,x18,x19,x20,x21,x22,x23,x3,gs,gq,cq,hL,rfl,hb,cd0,cd1,cd2,cd3,cd4,cd5,cd6,cd7,cd8,cd9,cd10,cd11,cd12,f_p,f_t,f_ls,f_o,f_om12,f_sm12,w_12_11⟩
      have hL' : [true, true, true, true, true, true, true, true, true, true, true, true, true] = [b0, b1, b2, b3, b4, b5, b6, b7, b8, b9, b10, b11, b12] := congrArg Array.toList hL
      simp only [List.cons.injEq, and_true] at hL'
      obtain ⟨rfl, rfl, rfl, rfl, rfl, rfl, rfl, rfl, rfl, rfl, rfl, rfl, rfl⟩ := hL'
      obtain rfl := cd0.out rfl
      obtain rfl := cd1.out rfl
      obtain rfl := cd2.out rfl
      obtain rfl := cd3.out rfl
      obtain rfl := cd4.out rfl
      obtain rfl := cd5.out rfl
      obtain rfl := cd6.out rfl
      obtain rfl := cd7.out rfl
      obtain rfl := cd8.out rfl
      obtain rfl := cd9.out rfl
      obtain rfl := cd10.out rfl
      obtain rfl := cd11.out rfl
      obtain rfl := cd12.out rfl
      have W_p := f_p.out
      have W_o := f_o.out rfl
      have W_om12 := f_om12.out rfl
      clear hL f_p f_t f_ls f_o f_om12 f_sm12 cd0 cd1 cd2 cd3 cd4 cd5 cd6 cd7 cd8 cd9 cd10 cd11 cd12 w_12_11
      simp only [setIfInBounds_toArray, set_cons_zero, set_cons_succ]
      have BV : Below q W V := B2.trans ((Below.refl _ _).drew.trans hb)
      have O9 := TxtR.next (RL := RL) (by rw [HN1.out, HL0.out]; exact W_o) HX.out
      rw [HN1.out] at O9
      clear W_o W_p hb
      go_wp2_with fail
      go_roundw
      case rel => exact ⟨jn + 1, _, _, by omega, by go_num, by rw [HN1.out], by rw [HN1.out]; exact O9, BV⟩
      case measure => simp [intOf]; omega
  · have hlti : ¬ (jn : Int) < (cn : Int) := by omega
    obtain rfl : jn = cn := by omega
    go_wp2_with fail
    go_ret
    rw [List.take_of_length_le (Nat.le_of_eq HRn.out)] at hT
    refine ⟨_, _, rfl, ?_, ?_⟩
    · rw [HG.out]; exact ⟨hT.either.imp (fun z => z) fun ⟨g, h1, h2, h3⟩ => ⟨g, h1, h2, by omega⟩⟩
    · rw [HG.out]; exact BW.trans (B2.mono (Nat.le_of_lt hpq))
theorem wpList_buildSlice_one {P : Program} {w : World} {ops : Array Oper} {rest : List Oper} {o : Oper} {a : Act} {Q : Exit → Act → World → Prop} (hgd : o.guard = none) (t e : TypeId) (x : Operand) (ho : o.op = .buildSlice t 1 #[(0,x)]) (C : List Value) (sz : Nat) (hx : a.eval x = .agg C.toArray) (hC : C.length = sz) (hsz : 0 < sz) (hs2 : sz ≤ 1000)
 (hu : P.underlying t = some (.slice e)) (hi : ∃ i z, P.info? e = some i ∧ i.zero = some z ∧ i.size = sz)
 (hK : ∀ w',w'.heap[w.heap.size]? = some (.cells C.toArray e (0,0)) → Below w.heap.size w w' → wpList P ops Q rest (a.put o.dst (.slice (some ⟨w.heap.size,0,none⟩) 1 1)) w') : wpList P ops Q (o :: rest) a w :=
 wpList_plain hgd fun _ hK' => wp_buildSlice_one t e x ho C sz hx hC hsz hs2 hu hi fun w' h1 h2 _ => hK' _ _ (hK w' h1 h2)
inductive RgN1 (B : Nat) (p : Nat) (q : Nat) (id : Int) (ca : Option Addr) (cn : Nat) (cc : Nat) (N : Nat) (LE : List UInt8) (RA : Array Value) (Z0 : Array Value) (HA : Array Value) (a0 : Act) (w0 : World) (L : Array Bool) (a : Act) (w : World) : Prop
 | mk (b0 b1 b2 b3 b4 b5 b6 b7 b8 b9 : Bool) (x3 x4 x5 x6 x7 x8 x9 x10 x11 : Value) (g1 : Nat) (c1 : Nat) (hL : L = #[b0,b1,b2,b3,b4,b5,b6,b7,b8,b9]) (ha : a = ⟨(((((((((a0.tmps.setIfInBounds 3 x3).setIfInBounds 4 x4).setIfInBounds 5 x5).setIfInBounds 6 x6).setIfInBounds 7 x7).setIfInBounds 8 x8).setIfInBounds 9 x9).setIfInBounds 10 x10).setIfInBounds 11 x11),a0.defers⟩) (hb : Below B w0 w) (cd0 : Hid (b0 = true → x3 = .pointer (some ⟨p,0,none⟩))) (cd1 : Hid (b1 = true → x4 = .int .i64 id)) (cd2 : Hid (b2 = true → x5 = .pointer (some ⟨p,1,none⟩))) (cd3 : Hid (b3 = true → x6 = .slice ca cn cc)) (cd4 : Hid (b4 = true → x7 = .int .i64 (cn : Nat))) (cd5 : Hid (b5 = true → x8 = .agg #[.int .i64 id,.slice ca cn cc])) (cd6 : Hid (b6 = true → x9 = .agg RA)) (cd7 : Hid (b7 = true → x10 = .slice (some ⟨g1,0,none⟩) N c1)) (cd8 : Hid (b8 = true → x11 = .agg HA)) (f_p : Hid (Bk w p #[.int .i64 id,.slice ca cn cc] 45)) (f_a : Hid (b7 = true → b8 = false → IsB w (some ⟨g1,0,none⟩) N c1 LE)) (f_z : Hid (b9 = false → Bk w q Z0 53)) (f_s : Hid (b9 = true → Bk w q HA 53)) : RgN1 B p q id ca cn cc N LE RA Z0 HA a0 w0 L a w
set_option maxRecDepth 100000 in
set_option maxHeartbeats 1600000 in
theorem rroot14_any (w : World) (Q : Nat → Prop) (id : Int) (cs : List Chg) (ca : Option Addr) (cn cc : Nat) (h : IsD DC w Q ca cn cc cs) (hok : TxOk (id, cs)) :
 Calls Tryz.prog 33 #[.agg #[.int .i64 id, .slice ca cn cc]] w fun e w' => e = .returned (.agg (bcs (rootX (id, cs))).toArray) ∧ Below w.heap.size w w' := by
 have hln := h.len
 have hcn : cn ≤ 100 := by have := hok.1; simp only at this; omega
 have HH0 := rootX_len (id, cs)
 have HR0 := fun (w' : World) (b : Below w.heap.size w w') => rrows_any w' Q id cs ca cn cc (h.past b) hok
 have HL0 := fun (w' : World) (ao : Option Addr) (c0 : Nat) (B : Nat) (hI : TxtR EHs w' 53 B ao cn c0 (rowsH (id,cs))) => rroot_any ao cn c0 _ w' (by have := hI.isR.hs; rw [rowsH_l] at this; exact this) (by omega)
 have hLe : rootS (rowsS (id, cs)) = rootX (id, cs) := rfl
 obtain ⟨H, hH⟩ : ∃ x, rootX (id, cs) = x := ⟨_, rfl⟩
 obtain ⟨L, hL⟩ : ∃ x, rowsH (id, cs) = x := ⟨_, rfl⟩
 simp only [hLe] at HL0
 simp only [hL] at HR0 HL0
 simp only [hH] at HL0
 rw [hH] at HH0 ⊢
 obtain ⟨HA, hHA⟩ : ∃ z, (bcs H).toArray = z := ⟨_, rfl⟩
 have HA0 : Hid (HA.size = 32) := Lib.hid (by rw [← hHA]; simp [bcs_length, HH0])
 have HA1 : Hid (HA.all (·.oneCell') = true) := Lib.hid (by rw [← hHA]; exact bcs_all _)
 simp only [hHA] at HL0
 rw [hHA]
 clear hHA hH hL hLe HH0 h hok hln
 have B0 : Below w.heap.size w (w.alloc (.cells #[.int .i64 id, .slice ca cn cc] 45)) := (Below.refl _ _).alloc (Nat.le_refl _) _
 have hP0 : Bk (w.alloc (.cells #[.int .i64 id, .slice ca cn cc] 45)) w.heap.size #[.int .i64 id, .slice ca cn cc] 45 := Bk.new w _ _
 go_enter Tryz.func33, Tryz.ntmps33
 go_upto_region 1 with (with_reducible refine wpList_alloc_blk (o := ⟨some 2, _, _, _, _, _⟩) rfl 53 rfl _ zeroHash ?_; intro W q hq b1 q1)
 have hP1 := hP0.past b1
 have B1' := B0.trans (b1.mono B0.size)
 have hq1 : w.heap.size < q := by rw [World.size_alloc] at q1; omega
 obtain ⟨Z0, hZ0⟩ : ∃ z, (bcs (List.replicate 32 0)).toArray = z := ⟨_, rfl⟩
 have HZ0 : Hid (Z0.size = 32) := Lib.hid (by rw [← hZ0]; simp [bcs_length])
 have hQ : Bk W q Z0 53 := by rw [← hZ0]; exact hq.out
 clear hZ0
 obtain ⟨p, hp⟩ : ∃ p, w.heap.size = p := ⟨_, rfl⟩
 have HG := Lib.hid hp
 rw [hp] at hP1 hq1 B1'
 simp only [hp]
 have hP := hP1
 have B1 : Below p w W := B1'
 have hBq : p ≤ q := by omega
 have hpq : some p ≠ some q := fun e => by have := Option.some.inj e; omega
 have hB0 : p ≤ W.heap.size := Nat.le_of_lt hP.lt
 have hqW := hQ.lt
 clear hq b1 q1 hp hP0 hP1 B0 B1'
 have HR := HR0 W (by rw [HG.out]; exact B1)
 obtain ⟨c0, c1⟩ : W.cell? ⟨p, 0, none⟩ = some (.int .i64 id) ∧ W.cell? ⟨p, 1, none⟩ = some (.slice ca cn cc) := ⟨hP.c rfl, hP.c rfl⟩
 simp only [Act.put, setIfInBounds_toArray, set_cons_zero, set_cons_succ]
 go_wp2_with (first
  | (go_at_call 68; refine HR.mono ?_; rintro e w2 ⟨g, cp, rfl, o2, b2⟩; have HLf := HL0 w2 g cp _ o2)
  | (go_at_call 39; refine HLf.mono ?_; rintro e w3 ⟨rfl,b3⟩; have B3 := b2.trans (b3.mono b2.size); have R3 : Hid (w3.heap[q]? = some (.cells Z0 53 (0,0))) := Lib.hid (hQ.past B3))
  | ((with_reducible refine wpList_store_blk rfl 53 _ _ rfl q Z0 HA ?_ ?_ _ R3 32 sizeHash HZ0.out HA0.out HA1.out ?_); (rfl); (rfl); (intro w8 h8 b8)))
 refine bodyPost_ret (v := .agg HA) (results_cell_row rfl _ _ q _ _ (0, 0) _ rfl h8.out Tryz.underlying53 rfl (by rw [sizeHash, HA0.out])) rfl ⟨rfl, ?_⟩
 rw [HG.out]
 exact (B1.trans (B3.mono hB0)).grown b8 (Nat.le_trans hB0 B3.size) (fun k hk => by cases hk; exact hBq)
set_option maxRecDepth 100000 in
set_option maxHeartbeats 1600000 in
theorem rentry_any (w : World) (Q : Nat → Prop) (id : Int) (cs : List Chg) (ca : Option Addr) (cn cc : Nat) (h : IsD DC w Q ca cn cc cs) (hok : TxOk (id, cs)) :
 Calls Tryz.prog 35 #[.agg #[.int .i64 id, .slice ca cn cc]] w fun e w' => e = .returned (.agg (bcs (entS (id, cs))).toArray) ∧ Below w.heap.size w w' := by
 have hln := h.len
 have hcn : cn ≤ 100 := by have := hok.1; simp only at this; omega
 have HH0 := entS_len (id, cs)
 have HX0 := rootX_len (id, cs)
 have HR0 := fun (w' : World) (b : Below w.heap.size w w') => rroot14_any w' Q id cs ca cn cc (h.past b) hok
 have HT0 := fun (w' : World) => entText_any w' id (cn : Nat) (rootX (id, cs)) HX0
 have hT : le 8 (XU id) ++ (le 8 (XU (cn : Nat)) ++ rootX (id, cs)) = entT (id, cs) := by rw [← hln]; rfl
 have hTl : (entT (id, cs)).length = 48 := by rw [← hT]; simp only [List.length_append, le_length, HX0]
 simp only [hT] at HT0
 have HL0 := fun (w' : World) (ao : Option Addr) (c0 : Nat) (hI : IsB w' ao 48 c0 (entT (id, cs))) => rleaf_any ao 48 c0 (entT (id, cs)) w' hI (by omega)
 have hLe : leafS (entT (id, cs)) = entS (id, cs) := rfl
 obtain ⟨H, hH⟩ : ∃ x, entS (id, cs) = x := ⟨_, rfl⟩
 obtain ⟨LE, hL⟩ : ∃ x, entT (id, cs) = x := ⟨_, rfl⟩
 obtain ⟨N, hN⟩ : ∃ x : Nat, 48 = x := ⟨_, rfl⟩
 obtain ⟨RA, hRA⟩ : ∃ x, (bcs (rootX (id, cs))).toArray = x := ⟨_, rfl⟩
 simp only [hLe] at HL0
 simp only [hL, hN] at HT0 HL0
 simp only [hRA] at HR0 HT0
 simp only [hH] at HL0
 rw [hH] at HH0 ⊢
 obtain ⟨HA, hHA⟩ : ∃ z, (bcs H).toArray = z := ⟨_, rfl⟩
 have HA0 : Hid (HA.size = 32) := Lib.hid (by rw [← hHA]; simp [bcs_length, HH0])
 have HA1 : Hid (HA.all (·.oneCell') = true) := Lib.hid (by rw [← hHA]; exact bcs_all _)
 simp only [hHA] at HL0
 rw [hHA]
 clear hHA hH hL hLe HH0 h hok hln hN hRA hT hTl HX0
 have B0 : Below w.heap.size w (w.alloc (.cells #[.int .i64 id, .slice ca cn cc] 45)) := (Below.refl _ _).alloc (Nat.le_refl _) _
 have hP0 : Bk (w.alloc (.cells #[.int .i64 id, .slice ca cn cc] 45)) w.heap.size #[.int .i64 id, .slice ca cn cc] 45 := Bk.new w _ _
 go_enter Tryz.func35, Tryz.ntmps35
 go_upto_region 1 with (with_reducible refine wpList_alloc_blk (o := ⟨some 2, _, _, _, _, _⟩) rfl 53 rfl _ zeroHash ?_; intro W q hq b1 q1)
 have hP1 := hP0.past b1
 have B1' := B0.trans (b1.mono B0.size)
 have hq1 : w.heap.size < q := by rw [World.size_alloc] at q1; omega
 obtain ⟨Z0, hZ0⟩ : ∃ z, (bcs (List.replicate 32 0)).toArray = z := ⟨_, rfl⟩
 have HZ0 : Hid (Z0.size = 32) := Lib.hid (by rw [← hZ0]; simp [bcs_length])
 have hQ : Bk W q Z0 53 := by rw [← hZ0]; exact hq.out
 clear hZ0
 obtain ⟨p, hp⟩ : ∃ p, w.heap.size = p := ⟨_, rfl⟩
 have HG := Lib.hid hp
 rw [hp] at hP1 hq1 B1'
 simp only [hp]
 have hP := hP1
 have B1 : Below p w W := B1'
 have hBq : p ≤ q := by omega
 have hpq : some p ≠ some q := fun e => by have := Option.some.inj e; omega
 have hB0 : p ≤ W.heap.size := Nat.le_of_lt hP.lt
 have hqW := hQ.lt
 clear hq b1 q1 hp hP0 hP1 B0 B1'
 obtain ⟨c0, c1⟩ : W.cell? ⟨p, 0, none⟩ = some (.int .i64 id) ∧ W.cell? ⟨p, 1, none⟩ = some (.slice ca cn cc) := ⟨hP.c rfl, hP.c rfl⟩
 simp only [Act.put, setIfInBounds_toArray, set_cons_zero, set_cons_succ]
 have HR := fun (w' : World) (hb : Below p W.drew w') => HR0 w' (by rw [HG.out]; exact B1.trans ((Below.refl _ _).drew.trans hb))
 clear HR0
 refine region_inv (RgN1 p p q id ca cn cc N LE RA Z0 HA) (by kernel_rfl) (by kernel_rfl) ?_ ?_ ?_
 · exact ⟨false,false,false,false,false,false,false,false,false,false,undef,undef,undef,undef,undef,undef,undef,undef,undef,0,0,rfl,(by go_simp),Below.refl _ _,nf2,nf2,nf2,nf2,nf2,nf2,nf2,nf2,nf2,(hP.past (Below.refl _ _).drew),nf2,(fun h1 => hQ.past (Below.refl _ _).drew),nf2⟩
 · refine ⟨?_, ?_, ?_, ?_, ?_, ?_, ?_, ?_, ?_, ?_, trivial⟩
   all_goals rintro L a w ⟨b0, b1, b2, b3, b4, b5, b6, b7, b8, b9, x3, x4, x5, x6, x7, x8, x9, x10, x11, g1, c1, rfl, rfl, hb, cd0, cd1, cd2, cd3, cd4, cd5, cd6, cd7, cd8, f_p, f_a, f_z, f_s⟩ hf hd
   · have hf' : b0 = false := hf
     subst hf'
     clear hf hd
     have W_p := f_p.out
     intro K hK
     rw [if_pos (by rfl)]
     go_simp
     exact hK.out _ _ ⟨true,b1,b2,b3,b4,b5,b6,b7,b8,b9,(.pointer (some ⟨p,0,none⟩)),x4,x5,x6,x7,x8,x9,x10,x11,g1,c1,(by go_simp),(by go_simp),hb,(fun _ => rfl),cd1,cd2,cd3,cd4,cd5,cd6,cd7,cd8,f_p,f_a,f_z,f_s⟩
   · have hf' : b1 = false := hf
     subst hf'
     have d0 : b0 = true := hd ⟨0, .data⟩ (by simp) rfl
     subst d0
     obtain rfl := cd0.out rfl
     clear hf hd
     have W_p := f_p.out
     try simp only [setIfInBounds_toArray, set_cons_zero, set_cons_succ]
     have z0 : w.cell? ⟨p, 0, none⟩ = some (.int .i64 id) := W_p.c rfl
     intro K hK
     rw [if_pos (by rfl)]
     go_simp
     exact hK.out _ _ ⟨true,true,b2,b3,b4,b5,b6,b7,b8,b9,.pointer (some ⟨p,0,none⟩),(.int .i64 id),x5,x6,x7,x8,x9,x10,x11,g1,c1,(by go_simp),(by go_simp),hb,(fun _ => rfl),(fun _ => rfl),cd2,cd3,cd4,cd5,cd6,cd7,cd8,f_p,f_a,f_z,f_s⟩
   · have hf' : b2 = false := hf
     subst hf'
     clear hf hd
     have W_p := f_p.out
     intro K hK
     rw [if_pos (by rfl)]
     go_simp
     exact hK.out _ _ ⟨b0,b1,true,b3,b4,b5,b6,b7,b8,b9,x3,x4,(.pointer (some ⟨p,1,none⟩)),x6,x7,x8,x9,x10,x11,g1,c1,(by go_simp),(by go_simp),hb,cd0,cd1,(fun _ => rfl),cd3,cd4,cd5,cd6,cd7,cd8,f_p,f_a,f_z,f_s⟩
   · have hf' : b3 = false := hf
     subst hf'
     have d2 : b2 = true := hd ⟨2, .data⟩ (by simp) rfl
     subst d2
     obtain rfl := cd2.out rfl
     clear hf hd
     have W_p := f_p.out
     try simp only [setIfInBounds_toArray, set_cons_zero, set_cons_succ]
     have z1 : w.cell? ⟨p, 1, none⟩ = some (.slice ca cn cc) := W_p.c rfl
     intro K hK
     rw [if_pos (by rfl)]
     go_simp
     exact hK.out _ _ ⟨b0,b1,true,true,b4,b5,b6,b7,b8,b9,x3,x4,.pointer (some ⟨p,1,none⟩),(.slice ca cn cc),x7,x8,x9,x10,x11,g1,c1,(by go_simp),(by go_simp),hb,cd0,cd1,(fun _ => rfl),(fun _ => rfl),cd4,cd5,cd6,cd7,cd8,f_p,f_a,f_z,f_s⟩
   · have hf' : b4 = false := hf
     subst hf'
     have d3 : b3 = true := hd ⟨3, .data⟩ (by simp) rfl
     subst d3
     obtain rfl := cd3.out rfl
     clear hf hd
     have W_p := f_p.out
     intro K hK
     rw [if_pos (by rfl)]
     go_simp
     exact hK.out _ _ ⟨b0,b1,b2,true,true,b5,b6,b7,b8,b9,x3,x4,x5,.slice ca cn cc,(.int .i64 (cn : Nat)),x8,x9,x10,x11,g1,c1,(by go_simp),(by go_simp),hb,cd0,cd1,cd2,(fun _ => rfl),(fun _ => rfl),cd5,cd6,cd7,cd8,f_p,f_a,f_z,f_s⟩
   · have hf' : b5 = false := hf
     subst hf'
     clear hf hd
     have W_p := f_p.out
     try simp only [setIfInBounds_toArray, set_cons_zero, set_cons_succ]
     have z0 : w.cell? ⟨p, 0, none⟩ = some (.int .i64 id) := W_p.c rfl
     have z1 : w.cell? ⟨p, 1, none⟩ = some (.slice ca cn cc) := W_p.c rfl
     intro K hK
     rw [if_pos (by rfl)]
     go_simp
     exact hK.out _ _ ⟨b0,b1,b2,b3,b4,true,b6,b7,b8,b9,x3,x4,x5,x6,x7,(.agg #[.int .i64 id,.slice ca cn cc]),x9,x10,x11,g1,c1,(by go_simp),(by go_simp),hb,cd0,cd1,cd2,cd3,cd4,(fun _ => rfl),cd6,cd7,cd8,f_p,f_a,f_z,f_s⟩
   · have hf' : b6 = false := hf
     subst hf'
     have d5 : b5 = true := hd ⟨5, .data⟩ (by simp) rfl
     subst d5
     obtain rfl := cd5.out rfl
     clear hf hd
     have W_p := f_p.out
     intro K hK
     rw [if_pos (by rfl)]
     go_simp
     go_at_call 33
     refine (HR _ hb).mono ?_
     rintro e w' ⟨rfl, bx⟩
     exact hK.out _ _ ⟨b0,b1,b2,b3,b4,true,true,b7,b8,b9,x3,x4,x5,x6,x7,.agg #[.int .i64 id,.slice ca cn cc],(.agg RA),x10,x11,g1,c1,(by go_simp),(by go_simp),hb.trans (bx.mono (Nat.le_trans hB0 hb.size)),cd0,cd1,cd2,cd3,cd4,rf,rf,cd7,cd8,(f_p.out.past bx),(fun h0 h1 => (f_a.out h0 h1).past bx),(fun h1 => (f_z.out h1).past bx),(fun h0 => (f_s.out h0).past bx)⟩
   · have hf' : b7 = false := hf
     subst hf'
     have d1 : b1 = true := hd ⟨1, .data⟩ (by simp) rfl
     subst d1
     have d4 : b4 = true := hd ⟨4, .data⟩ (by simp) rfl
     subst d4
     have d6 : b6 = true := hd ⟨6, .data⟩ (by simp) rfl
     subst d6
     obtain rfl := cd1.out rfl
     obtain rfl := cd4.out rfl
     obtain rfl := cd6.out rfl
     clear hf hd
     have W_p := f_p.out
     intro K hK
     rw [if_pos (by rfl)]
     go_simp
     go_at_call 69
     refine (HT0 _).mono ?_
     rintro e w' ⟨g, c, rfl, o9, bx, _⟩
     exact hK.out _ _ ⟨b0,true,b2,b3,true,b5,true,true,b8,b9,x3,.int .i64 id,x5,x6,.int .i64 (cn : Nat),x8,.agg RA,(.slice (some ⟨g,0,none⟩) N c),x11,g,c,(by go_simp),(by go_simp),hb.trans (bx.mono (Nat.le_trans hB0 hb.size)),cd0,rf,cd2,cd3,rf,cd5,rf,rf,cd8,(f_p.out.past bx),(fun _ _ => o9.isB),(fun h1 => (f_z.out h1).past bx),(fun h0 => (f_s.out h0).past bx)⟩
   · have hf' : b8 = false := hf
     subst hf'
     have d7 : b7 = true := hd ⟨7, .data⟩ (by simp) rfl
     subst d7
     obtain rfl := cd7.out rfl
     clear hf hd
     have W_p := f_p.out
     have W_a := f_a.out rfl rfl
     intro K hK
     rw [if_pos (by rfl)]
     go_simp
     go_at_call 65
     refine (HL0 _ _ _ W_a).mono ?_
     rintro e w' ⟨rfl, bx⟩
     exact hK.out _ _ ⟨b0,b1,b2,b3,b4,b5,b6,true,true,b9,x3,x4,x5,x6,x7,x8,x9,.slice (some ⟨g1,0,none⟩) N c1,(.agg HA),g1,c1,(by go_simp),(by go_simp),hb.trans (bx.mono (Nat.le_trans hB0 hb.size)),cd0,cd1,cd2,cd3,cd4,cd5,cd6,rf,rf,(f_p.out.past bx),(fun _ h => by cases h),(fun h1 => (f_z.out h1).past bx),(fun h0 => (f_s.out h0).past bx)⟩
   · have hf' : b9 = false := hf
     subst hf'
     have d8 : b8 = true := hd ⟨8, .data⟩ (by simp) rfl
     subst d8
     have d0 : b0 = true := hd ⟨0, .phase⟩ (by simp) rfl
     subst d0
     have d1 : b1 = true := hd ⟨1, .phase⟩ (by simp) rfl
     subst d1
     have d2 : b2 = true := hd ⟨2, .phase⟩ (by simp) rfl
     subst d2
     have d3 : b3 = true := hd ⟨3, .phase⟩ (by simp) rfl
     subst d3
     have d4 : b4 = true := hd ⟨4, .phase⟩ (by simp) rfl
     subst d4
     have d5 : b5 = true := hd ⟨5, .phase⟩ (by simp) rfl
     subst d5
     have d6 : b6 = true := hd ⟨6, .phase⟩ (by simp) rfl
     subst d6
     have d7 : b7 = true := hd ⟨7, .phase⟩ (by simp) rfl
     subst d7
     obtain rfl := cd8.out rfl
     obtain rfl := cd0.out rfl
     obtain rfl := cd1.out rfl
     obtain rfl := cd2.out rfl
     obtain rfl := cd3.out rfl
     obtain rfl := cd4.out rfl
     obtain rfl := cd5.out rfl
     obtain rfl := cd6.out rfl
     obtain rfl := cd7.out rfl
     clear hf hd
     have W_p := f_p.out
     have W_z := f_z.out rfl
     try simp only [setIfInBounds_toArray, set_cons_zero, set_cons_succ]
     have ZZ : Hid (w.heap[q]? = some (.cells Z0 53 (0, 0))) := Lib.hid W_z
     intro K hK
     rw [if_pos (by rfl)]
     refine wp_store_blkT 53 _ _ rfl q Z0 HA rfl rfl 53 ZZ 32 sizeHash HZ0.out HA0.out HA1.out fun w2 h8 b8 => ?_
     have hb2 := hb.grown b8 (Nat.le_trans hB0 hb.size) (fun z hz => by cases hz; exact hBq)
     exact hK.out _ _ ⟨true,true,true,true,true,true,true,true,true,true,.pointer (some ⟨p,0,none⟩),.int .i64 id,.pointer (some ⟨p,1,none⟩),.slice ca cn cc,.int .i64 (cn : Nat),.agg #[.int .i64 id,.slice ca cn cc],.agg RA,.slice (some ⟨g1,0,none⟩) N c1,.agg HA,g1,c1,(by go_simp),(by go_simp),hb2,rf,rf,rf,rf,rf,rf,rf,rf,rf,(Bk.grown f_p.out b8 hpq),(fun _ h => by cases h),nf2,(fun _ => h8.out)⟩
 · rintro act V ⟨b0, b1, b2, b3, b4, b5, b6, b7, b8, b9, x3, x4, x5, x6, x7, x8, x9, x10, x11, g1, c1, hL, rfl, hb, cd0, cd1, cd2, cd3, cd4, cd5, cd6, cd7, cd8, f_p, f_a, f_z, f_s⟩
   have hL' : [true, true, true, true, true, true, true, true, true, true] = [b0, b1, b2, b3, b4, b5, b6, b7, b8, b9] := congrArg Array.toList hL
   simp only [List.cons.injEq, and_true] at hL'
   obtain ⟨rfl, rfl, rfl, rfl, rfl, rfl, rfl, rfl, rfl, rfl⟩ := hL'
   obtain rfl := cd0.out rfl
   obtain rfl := cd1.out rfl
   obtain rfl := cd2.out rfl
   obtain rfl := cd3.out rfl
   obtain rfl := cd4.out rfl
   obtain rfl := cd5.out rfl
   obtain rfl := cd6.out rfl
   obtain rfl := cd7.out rfl
   obtain rfl := cd8.out rfl
   have W_p := f_p.out
   have W_s := f_s.out rfl
   clear hL f_p f_a f_z f_s cd0 cd1 cd2 cd3 cd4 cd5 cd6 cd7 cd8
   simp only [setIfInBounds_toArray, set_cons_zero, set_cons_succ]
   have BV : Below p w V := B1.trans ((Below.refl _ _).drew.trans hb)
   clear hb
   go_wp2_with fail
   refine bodyPost_ret (v := .agg HA) (results_cell_row rfl _ _ q _ _ (0, 0) _ rfl W_s Tryz.underlying53 rfl (by rw [sizeHash, HA0.out])) rfl ?_
   exact ⟨rfl, by rw [HG.out]; exact BV⟩
set_option maxRecDepth 100000 in
set_option maxHeartbeats 1600000 in
theorem rentries_any (w : World) (Q : Nat → Prop) (ts : List Txn) (ca : Option Addr) (cn cc : Nat) (h : IsD DT w Q ca cn cc ts) (hn : cn ≤ 100) (hok : ∀ x ∈ ts, TxOk x) :
 Calls Tryz.prog 40 #[.slice ca cn cc] w fun e w' => ∃ ao c,e = .returned (.slice ao cn c) ∧ TxtR EHs w' 53 w.heap.size ao cn c (entsH ts) ∧ Below w.heap.size w w' := by
 have hln := h.len
 obtain ⟨RL, hRL⟩ : ∃ x, entsH ts = x := ⟨_, rfl⟩
 have HRn : Hid (RL.length = cn) := Lib.hid (by rw [← hRL]; simpa [entsH] using hln)
 have HRg : Hid (∀ (i : Nat) (x : Txn), ts[i]? = some x → RL[i]? = some (⟨entS x, entS_len x⟩ : H32)) := Lib.hid (by rw [← hRL]; exact entsH_get ts)
 rw [hRL]
 clear hRL
 obtain ⟨q, hq⟩ : ∃ q, w.heap.size = q := ⟨_, rfl⟩
 have hqW := Lib.hid hq
 rw [hq]
 have hB0W : q ≤ w.heap.size := Nat.le_of_eq hq.symm
 clear hq
 go_enter Tryz.func40, Tryz.ntmps40
 go_wp2_with fail
 go_loopw [3,4] (fun v i wr => ∃ (j : Nat) (ao : Option Addr) (c : Nat),j ≤ cn ∧ i = .int .i64 (j : Nat) ∧ v = .slice ao j c ∧ TxtR EHs wr 53 q ao j c (RL.take j) ∧ Below q w wr) (fun _ i _ => cn - (intOf i).toNat)
 case atStart => exact ⟨0, none, 0, Nat.zero_le _, rfl, rfl, TxtR.nil .., Below.refl _ _⟩
 case round =>
  obtain ⟨jn, ao, c, hj, rfl, rfl, hT, B2⟩ := hrel
  have hB0 : q ≤ wr.heap.size := Nat.le_trans hB0W B2.size
  by_cases hlt : jn < cn
  · have hlti : (jn : Int) < (cn : Int) := by omega
    obtain ⟨x, hx⟩ : ∃ x, ts[jn]? = some x := ⟨ts[jn]'(by omega), List.getElem?_eq_getElem _⟩
    have hxm := List.mem_of_getElem? hx
    obtain ⟨gb, goff, b, rfl, hgl0, -, hcl, hr⟩ := h.at hx
    obtain ⟨id, ⟨xa, xn, xc⟩⟩ := b
    obtain ⟨xi, xl⟩ := x
    obtain ⟨hE, hr2⟩ := hr
    obtain rfl : id = xi := hE
    have hcl : ∀ k u, (ETx.f (id, ⟨xa, xn, xc⟩))[k]? = some u → w.cell? ⟨gb, goff + (jn * 2 + k), none⟩ = some u := hcl
    have y0' : w.cell? ⟨gb, goff + jn * 2, none⟩ = some (.int .i64 id) := hcl 0 _ rfl
    have y1' : w.cell? ⟨gb, goff + jn * 2 + 1, none⟩ = some (.slice xa xn xc) := by have := hcl 1 _ rfl; rwa [← Nat.add_assoc] at this
    have hgl : gb < q := by rw [← hqW.out]; exact hgl0
    have y0 := (B2.cell hgl).trans y0'
    have y1 := (B2.cell hgl).trans y1'
    have HRw0 := fun (w' : World) (b : Below w.heap.size w w') => rentry_any w' Q id xl xa xn xc (hr2.past b) (hok _ hxm)
    have HX := Lib.hid (HRg.out jn _ hx)
    obtain ⟨rh, hrh⟩ : ∃ r : H32, ⟨entS (id, xl), entS_len _⟩ = r := ⟨_, rfl⟩
    obtain ⟨RA, hRA⟩ : ∃ a, (EHs.f rh).toArray = a := ⟨_, rfl⟩
    have hAA : (bcs (entS (id, xl))).toArray = RA := by rw [← hRA, ← hrh]; rfl
    simp only [hAA] at HRw0
    rw [hrh] at HX
    have HRA := Lib.hid hRA
    rw [hqW.out] at HRw0
    obtain ⟨l0, hl0⟩ : ∃ l, RL.take jn = l := ⟨_, rfl⟩
    have HL0 := Lib.hid hl0
    rw [hl0] at hT
    clear hAA hrh hRA hcl y0' y1' hr2 hx hxm hl0 hgl0
    go_wp2_with (first
     | (go_at_call 35; refine (HRw0 _ B2).mono ?_; rintro e w4 ⟨rfl, b4⟩)
     | ((with_reducible refine wpList_buildSlice_one rfl 77 53 _ rfl (EHs.f rh) 32 ?_ ?_ (by omega) (by omega) Tryz.underlying77 hash_i ?_); (exact congrArg Value.agg HRA.out.symm); (exact EHs.len rh); (intro w5 h7 b5; have i5 := hash_row h7; have hT5 := (hT.past b4).past b5))
     | (at_builtin; refine wpList_append_txtR rfl _ _ 77 77 rfl 53 rowTyHs q ao jn c l0 rfl hT5 (Nat.le_trans hB0 (Nat.le_trans b4.size b5.size)) _ rfl 1 [rh] (i5.src Tryz.underlying77) rfl (by omega) ?_; intro g9 c9 w6 o9 b9))
    have O9 := TxtR.next (RL := RL) (by rw [HL0.out]; exact o9) HX.out
    have BV : Below q w w6 := ((B2.trans (b4.mono hB0)).trans (b5.mono (Nat.le_trans hB0 b4.size))).trans b9
    go_roundw
    case rel => exact ⟨jn + 1, _, _, by omega, by go_num, rfl, O9, BV⟩
    case measure => simp [intOf]; omega
  · have hlti : ¬ (jn : Int) < (cn : Int) := by omega
    obtain rfl : jn = cn := by omega
    go_wp2_with fail
    go_ret
    rw [List.take_of_length_le (Nat.le_of_eq HRn.out)] at hT
    exact ⟨_, _, rfl, hT, B2⟩
end Go.Proofs.YtdmnjjknkcnkgaaGreatDoor
