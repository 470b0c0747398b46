/-
 ledger: block (by gen_lgw.py).
 ledger: close (by gen_lgx.py).
-/
import Derived.Test.YtdmnjjknkcnkgaaGreatDoorMz5
namespace Go.Proofs.YtdmnjjknkcnkgaaGreatDoor
open List (setIfInBounds_toArray set_cons_zero set_cons_succ)
open Go.RowKit
set_option linter.unusedSimpArgs false
def entsH (l : List Txn) : List H32 := l.map fun x => ⟨entS x, entS_len x⟩
theorem entsH_l (l : List Txn) : (entsH l).map (·.l) = entsS l := by simp [entsH, entsS]
theorem entsH_get (l : List Txn) (i : Nat) (x : Txn) (h : l[i]? = some x) : (entsH l)[i]? = some ⟨entS x, entS_len x⟩ := by simp [entsH, h]
theorem alloc_then {w w' : World} {o : Obj} (g : (w.alloc o).grownBy w' (some w.heap.size)) : Below w.heap.size w w' :=
 ((Below.refl _ _).alloc (Nat.le_refl _) o).grown g (by rw [World.size_alloc]; omega) (fun z hz => by cases hz; exact Nat.le_refl _)
theorem hash_agg (w : World) : (isAgg 53).run Tryz.prog w = .ok true w := by kernel_rfl
theorem dg_cells {w : World} {d : Nat} {bl : List Blk} {t : TypeId} (h : Bk w d (dgC bl) t) : ∀ j v, (bcs (hLast bl))[j]? = some v → w.cell? ((⟨d, 1, none⟩ : Addr).add j) = some v := fun j v hv => by
 rw [Addr.add_lit]
 refine h.c ?_
 unfold dgC
 rw [List.getElem?_toArray, Nat.add_comm, List.getElem?_cons_succ]
 exact hv
inductive LBlk8 (B : Nat) (g : Nat) (q : Nat) (d : Nat) (gr : Nat) (dn : Int) (mu : Int) (next : Int) (oa : Option Addr) (on : Nat) (oc : Nat) (ba : Option Addr) (bn : Nat) (bc : Nat) (ta : Option Addr) (tn : Nat) (tc : Nat) (EL : List H32) (PA : Array Value) (RA : Array Value) (NB : Array Value) (ZB : Array Value) (DA : Array Value) (a0 : Act) (w0 : World) (L : Array Bool) (a : Act) (w : World) : Prop
 | mk (b0 b1 b2 b3 b4 b5 b6 b7 b8 b9 b10 b11 b12 b13 b14 b15 b16 : Bool) (x37 x38 x39 x40 x41 x42 x43 x44 x45 x46 x47 x48 x49 x50 x51 x52 : Value) (hL : L = #[b0,b1,b2,b3,b4,b5,b6,b7,b8,b9,b10,b11,b12,b13,b14,b15,b16]) (ha : a = ⟨((((((((((((((((a0.tmps.setIfInBounds 37 x37).setIfInBounds 38 x38).setIfInBounds 39 x39).setIfInBounds 40 x40).setIfInBounds 41 x41).setIfInBounds 42 x42).setIfInBounds 43 x43).setIfInBounds 44 x44).setIfInBounds 45 x45).setIfInBounds 46 x46).setIfInBounds 47 x47).setIfInBounds 48 x48).setIfInBounds 49 x49).setIfInBounds 50 x50).setIfInBounds 51 x51).setIfInBounds 52 x52),a0.defers⟩) (hb : Below B w0 w) (cd0 : Hid (b0 = true → x37 = .pointer (some ⟨g,3,none⟩))) (cd1 : Hid (b1 = true → x38 = .pointer (some ⟨g,3,none⟩))) (cd2 : Hid (b2 = true → x39 = .pointer (some ⟨g,5,none⟩))) (cd3 : Hid (b3 = true → x40 = .slice ba bn bc)) (cd4 : Hid (b4 = true → x41 = .int .i64 (bn : Nat))) (cd5 : Hid (b5 = true → x42 = .int .i64 ((bn : Nat) + 1))) (cd6 : Hid (b6 = true → x43 = .pointer (some ⟨d,1,none⟩))) (cd7 : Hid (b7 = true → x44 = .agg PA)) (cd8 : Hid (b8 = true → x45 = .slice (some ⟨gr,0,none⟩) on on)) (cd9 : Hid (b9 = true → x46 = .agg RA)) (cd10 : Hid (b10 = true → x47 = .pointer (some ⟨g,3,none⟩))) (cd11 : Hid (b11 = true → x48 = .pointer (some ⟨g,3,none⟩))) (cd12 : Hid (b12 = true → x49 = .pointer (some ⟨g,4,none⟩))) (cd13 : Hid (b13 = true → x50 = .slice oa on oc)) (cd14 : Hid (b14 = true → x51 = .int .i64 (on : Nat))) (cd15 : Hid (b15 = true → x52 = .agg NB)) (f_g : Hid (Bk w g (dfC dn mu next oa on oc ba bn bc ta tn tc) 115)) (f_d : Hid (Bk w d DA 55)) (f_e : Hid (IsR EHs w (some ⟨gr,0,none⟩) on on EL)) (f_z : Hid (b16 = false → Bk w q ZB 64)) (f_s : Hid (b16 = true → Bk w q NB 64)) : LBlk8 B g q d gr dn mu next oa on oc ba bn bc ta tn tc EL PA RA NB ZB DA a0 w0 L a w
set_option maxRecDepth 100000 in
set_option maxHeartbeats 2000000 in
theorem dblock_any (w : World) (hC : RC w) (Q : Nat → Prop) (g : Nat) (dn mu next : Int) (oa : Option Addr) (on oc : Nat) (ba : Option Addr) (bn bc : Nat) (ta : Option Addr) (tn tc : Nat) (L : Lgr) (X : Bk w g (dfC dn mu next oa on oc ba bn bc ta tn tc) 115) (h : LgR w Q oa on oc ba bn bc ta tn tc L) (hL : LgOk L) :
 Calls Tryz.prog 85 #[.pointer (some ⟨g, 3, none⟩)] w fun e w' => e = .returned (.agg (newB L).cs.toArray) ∧ Below w.heap.size w w' := by
 have hon := h.op.len
 have hbn := h.bl.len
 have l1 := hL.op
 have l2 := hL.bl
 obtain ⟨NB, hNB⟩ : ∃ z, (newB L).cs.toArray = z := ⟨_, rfl⟩
 have HN0 : Hid (NB.size = 66) := Lib.hid (by rw [← hNB]; simp [Blk.cs_len])
 have HN1 : Hid (NB.all (·.oneCell') = true) := Lib.hid (by rw [← hNB]; exact Array.all_eq_true_iff_forall_mem.2 fun v hv => EBk.one (newB L) v (show v ∈ (newB L).cs by simpa using hv))
 have hbb := built_blk (newB L)
 rw [hNB] at hbb ⊢
 have e1 : (newB L).n = ((bn : Nat) : Int) + 1 := by show ((L.bl.length : Nat) : Int) + 1 = _; rw [hbn]
 have e2 : (newB L).count = ((on : Nat) : Int) := by show ((L.op.length : Nat) : Int) = _; rw [hon]
 have e3 : (newB L).prev.l = hLast L.bl := rfl
 have e4 : (newB L).root.l = rootS ((entsH L.op).map (·.l)) := by rw [entsH_l]; rfl
 rw [e1, e2, e3, e4] at hbb
 obtain ⟨RA, hRA⟩ : ∃ z, (bcs (rootS ((entsH L.op).map (·.l)))).toArray = z := ⟨_, rfl⟩
 obtain ⟨PL, hPL⟩ : ∃ z, bcs (hLast L.bl) = z := ⟨_, rfl⟩
 obtain ⟨PA, hPA⟩ : ∃ z, PL.toArray = z := ⟨_, rfl⟩
 rw [hRA, hPL, hPA] at hbb
 have HBB := Lib.hid hbb
 have HRA := Lib.hid hRA
 have HPA := Lib.hid hPA
 have HPL : Hid ((Tryz.prog.info? 53).map (·.size) = some PL.length) := Lib.hid (by rw [← hPL, bcs_length, hLast_len]; exact sizeHash)
 have HPC0 : Hid (∀ (w : World) (d : Nat),Bk w d (dgC L.bl) 55 → ∀ j v,PL[j]? = some v → w.cell? ((⟨d,1,none⟩ : Addr).add j) = some v) := Lib.hid fun w d hb j v hv => dg_cells hb j v (by rw [hPL]; exact hv)
 obtain ⟨DA, hDA⟩ : ∃ z, dgC L.bl = z := ⟨_, rfl⟩
 have HD0 : Hid (DA.size = 33) := Lib.hid (by rw [← hDA]; exact dgC_len _)
 have HD1 : Hid (DA.all (·.oneCell') = true) := Lib.hid (by rw [← hDA]; exact dgC_one _)
 have HDG0 := fun (w' : World) (b : Below w.heap.size w w') => digest_any w' (hC.past b) next oa on oc ba bn bc ta tn tc L.bl (h.bl.past b).flat (by omega)
 obtain ⟨EE, hEE⟩ : ∃ e : Int, (if bn = 0 then 2 else 0) = e := ⟨_, rfl⟩
 rw [hDA] at HPC0
 simp only [hDA, hEE] at HDG0
 clear hEE
 obtain ⟨EL, hEL⟩ : ∃ z, entsH L.op = z := ⟨_, rfl⟩
 have hEg : Hid (∀ (j : Nat) (x : Txn), L.op[j]? = some x → EL[j]? = some ⟨entS x, entS_len x⟩) := Lib.hid fun j x hx => by rw [← hEL]; exact entsH_get _ j x hx
 have hEn : Hid (EL.length = on) := Lib.hid (by rw [← hEL]; simp [entsH, hon])
 rw [hEL] at HRA
 clear hNB hbb e1 e2 e3 e4 hRA hPL hPA hDA hEL
 go_enter Tryz.func85, Tryz.ntmps85
 go_upto_region 1 with (with_reducible refine wpList_alloc_blk (o := ⟨some 2, _, _, _, _, _⟩) rfl 64 rfl _ blk_zero ?_; intro W q hq b1 q1)
 obtain ⟨ZB, hZB⟩ : ∃ x, Blk0.cs.toArray = x := ⟨_, rfl⟩
 have HZB : Hid (ZB.size = 66) := Lib.hid (by rw [← hZB]; simp [Blk.cs_len])
 have hQ : Bk W q ZB 64 := by rw [← hZB]; exact hq.out
 clear hZB hq
 have X1 := X.past b1
 have h1 := h.past b1
 have hC1 := hC.past b1
 obtain ⟨S, hS⟩ : ∃ s, w.heap.size = s := ⟨_, rfl⟩
 have HG := Lib.hid hS
 have hgS := X.lt
 rw [hS] at b1 q1 hgS
 simp only [hS] at HDG0
 have hCW : Hid (∀ w', Below S w w' → RC w') := Lib.hid fun w' hb => hC.past (by rw [HG.out]; exact hb)
 clear hS X h hC
 try simp only [Act.put, setIfInBounds_toArray, set_cons_zero, set_cons_succ]
 obtain ⟨c3, c4, c5, c6⟩ := df_cells X1
 have hSW : S ≤ W.heap.size := by have := X1.lt; exact Nat.le_trans q1 (Nat.le_of_lt hQ.lt)
 go_upto_region 2 with (at_make; refine wpList_make_or (E := EHs) rfl _ _ 77 rfl 53 rowTyHs .i64 .i64 _ _ on rfl rfl rfl rfl (by omega) ?_; intro w2 o2 b2)
 have X2 := X1.past b2
 clear c3 c4 c5 c6
 obtain ⟨c3, c4, c5, c6⟩ := df_cells X2
 obtain ⟨gr, hgr⟩ : ∃ g, W.heap.size = g := ⟨_, rfl⟩
 have hgW : W.heap.size ≤ gr := Nat.le_of_eq hgr
 rw [hgr] at o2
 simp only [hgr]
 clear hgr
 have o3 : OwnR EHs w2 53 gr on on (EL.take 0 ++ (List.replicate on H0s).drop 0) := by simpa using o2
 clear o2
 have hqW := hQ.lt
 have hgW2 := X1.lt
 go_wp2_with fail
 go_loopw [19] (fun i wr => ∃ j : Nat,j ≤ on ∧ i = .int .i64 (j : Nat) ∧ OwnR EHs wr 53 gr on on (EL.take j ++ (List.replicate on H0s).drop j) ∧ Below W.heap.size W wr) (fun i _ => on - (intOf i).toNat)
 case atStart => exact ⟨0, Nat.zero_le _, rfl, o3, b2⟩
 case round =>
  clear o3 b2 c3 c4 c5 c6 X2
  obtain ⟨j, hj, rfl, o4, B2⟩ := hrel
  have X2 := X1.past B2
  have hpwr := X2.lt
  obtain ⟨c3, c4, c5, c6⟩ := df_cells X2
  by_cases hlt : j < on
  · have hlti : (j : Int) < (on : Int) := by omega
    obtain ⟨x, hx⟩ : ∃ x, L.op[j]? = some x := ⟨L.op[j]'(by omega), List.getElem?_eq_getElem _⟩
    have hxk := hL.tx x (List.mem_of_getElem? hx)
    obtain ⟨gb, goff, b, rfl, hgl, -, hcl, hr⟩ := (h1.op.past B2).at hx
    obtain ⟨xi, ⟨xa, xn, xc⟩⟩ := b
    obtain ⟨xj, xl⟩ := x
    obtain ⟨hE, hr2⟩ := hr
    obtain rfl : xi = xj := hE
    have hcl : ∀ k u, (ETx.f (xi, ⟨xa, xn, xc⟩))[k]? = some u → wr.cell? ⟨gb, goff + (j * 2 + k), none⟩ = some u := hcl
    have y0 : wr.cell? ⟨gb, goff + j * 2, none⟩ = some (.int .i64 xi) := hcl 0 _ rfl
    have y1 : wr.cell? ⟨gb, goff + j * 2 + 1, none⟩ = some (.slice xa xn xc) := by have := hcl 1 _ rfl; rwa [← Nat.add_assoc] at this
    have bA : Below wr.heap.size wr (wr.alloc (.cells #[.int .i64 xi, .slice xa xn xc] 45)) := (Below.refl _ _).alloc (Nat.le_refl _) _
    have HF := entry_any (wr.alloc (.cells #[.int .i64 xi, .slice xa xn xc] 45)) (hC1.past (B2.trans (bA.mono B2.size))) Q xi xl xa xn xc (hr2.past bA) hxk
    have HX := hEg.out j _ hx
    obtain ⟨rh, hrh⟩ : ∃ r : H32, ⟨entS (xi, xl), entS_len _⟩ = r := ⟨_, rfl⟩
    have HF2 : Calls Tryz.prog 34 #[.agg #[.int .i64 xi,.slice xa xn xc]] (wr.alloc (.cells #[.int .i64 xi,.slice xa xn xc] 45)) fun e w' => e = .returned (.agg (EHs.f rh).toArray) ∧ Below (wr.alloc (.cells #[.int .i64 xi,.slice xa xn xc] 45)).heap.size (wr.alloc (.cells #[.int .i64 xi,.slice xa xn xc] 45)) w' := by rw [← hrh]; exact HF
    rw [hrh] at HX
    have HXX := Lib.hid HX
    clear HF hx HX hrh hcl hr2 hxk
    go_wp2_with (first
     | (go_at_call 34; refine HF2.mono ?_; rintro e w3 ⟨rfl, b3⟩; have o5 := o4.past (bA.trans (b3.mono bA.size)))
     | ((with_reducible refine wpList_store_el rfl 53 _ _ rfl gr j on on 53 _ rh o5 hlt ?_ ?_ sizeEHs ?_); (rfl); (rfl); (intro w4 o6 g6)))
    go_roundw
    case rel => exact ⟨j + 1,by omega,by go_num,by rw [← mix_next HXX.out (by rw [List.length_replicate]; exact hEn.out.symm)]; exact o6,(B2.trans ((bA.trans (b3.mono bA.size)).mono B2.size)).grown g6 (Nat.le_trans B2.size (Nat.le_trans bA.size b3.size)) (fun z hz => by cases hz; exact hgW)⟩
    case measure => simp [intOf]; omega
  · have hlti : ¬ ((j : Int) < (on : Int)) := by omega
    obtain rfl : on = j := by omega
    have o5 : OwnR EHs wr 53 gr on on EL := by
     have := o4
     rwa [List.take_of_length_le (Nat.le_of_eq hEn.out), List.drop_of_length_le (by simp), List.append_nil] at this
    have BW : Below S w wr := b1.trans (B2.mono hSW)
    have HDG := HDG0 wr BW
    go_upto_region 8 with (first
     | (go_at_call 23; refine HDG.mono ?_; rintro e w3 ⟨rfl, b3⟩)
     | ((with_reducible refine wp_store_blkU rfl 55 _ _ rfl w3.heap.size _ DA ?_ ?_ _ (Bk.new w3 _ _) 33 dig_size ?_ HD0.out HD1.out ?_); (rfl); (rfl); (rfl); (intro w5 h5 g5)))
    have b5 := alloc_then g5
    have b35 := b3.trans (b5.mono b3.size)
    obtain ⟨d, hd⟩ : ∃ d, w3.heap.size = d := ⟨_, rfl⟩
    have hdr : wr.heap.size ≤ d := by rw [← hd]; exact b3.size
    have hqr : q < wr.heap.size := Nat.lt_of_lt_of_le hqW B2.size
    have hgr : gr < wr.heap.size := o5.lt
    rw [hd] at h5
    simp only [hd]
    have hD3 := h5
    have X3 := X2.past b35
    have e3 := (o5.past b35).isR
    have hQ3 := (hQ.past B2).past b35
    have B3 := BW.trans (b35.mono (Nat.le_trans hSW B2.size))
    have hB0 : S ≤ w5.heap.size := Nat.le_trans (Nat.le_trans hSW B2.size) b35.size
    have hBq : S ≤ q := q1
    have hgq : some g ≠ some q := fun e => by have := Option.some.inj e; omega
    have hdq : some d ≠ some q := fun e => by have := Option.some.inj e; omega
    have heq : ∀ a, some (⟨gr, 0, none⟩ : Addr) = some a → some a.block ≠ some q := fun a ha e => by cases ha; have := Option.some.inj e; simp only at this; omega
    have HPC : Hid (∀ w, Bk w d DA 55 → ∀ j v, PL[j]? = some v → w.cell? ((⟨d, 1, none⟩ : Addr).add j) = some v) := Lib.hid fun w hb => HPC0.out w d hb
    have HRt : ∀ (w' : World),Below S w5.drew w' → IsR EHs w' (some ⟨gr,0,none⟩) on on EL → Calls Tryz.prog 67 #[.slice (some ⟨gr,0,none⟩) on on] w' fun e w'' => e = .returned (.agg RA) ∧ Below w'.heap.size w' w'' := fun w' hb he => by
     have := root_any (some ⟨gr, 0, none⟩) on on _ w' (hCW.out w' (B3.trans ((Below.refl _ _).drew.trans hb))) he.hs (by omega)
     rwa [HRA.out] at this
    have HADD : Hid (IntKind.i64.wrap ((bn : Int) + 1) = (bn : Int) + 1) := Lib.hid (IntWalk.i64_in _ (by omega))
    clear HDG HDG0 h5 g5 b3 b5 b35 hd X2 o5 o4 hQ BW B2 HPC0 HRA hCW b1 X1 h1 hC1 c3 c4 c5 c6 hpwr hqr hdr
    refine region_inv (LBlk8 S g q d gr dn mu next oa on oc ba bn bc ta tn tc EL PA RA NB ZB DA) (by kernel_rfl) (by kernel_rfl) ?_ ?_ ?_
    · exact ⟨false,false,false,false,false,false,false,false,false,false,false,false,false,false,false,false,false,undef,undef,undef,undef,undef,undef,undef,undef,undef,undef,undef,undef,undef,undef,undef,undef,rfl,(by go_simp),Below.refl _ _,nf2,nf2,nf2,nf2,nf2,nf2,nf2,nf2,nf2,nf2,nf2,nf2,nf2,nf2,nf2,nf2,(X3.past (Below.refl _ _).drew),(hD3.past (Below.refl _ _).drew),(e3.past (Below.refl _ _).drew),(fun h1 => hQ3.past (Below.refl _ _).drew),nf2⟩
    · refine ⟨?_, ?_, ?_, ?_, ?_, ?_, ?_, ?_, ?_, ?_, ?_, ?_, ?_, ?_, ?_, ?_, ?_, trivial⟩
      all_goals rintro L a w ⟨b0,b1,b2,b3,b4,b5,b6,b7,b8,b9,b10,b11,b12,b13,b14,b15,b16,x37,x38,x39,x40,x41,x42,x43,x44,x45,x46,x47,x48,x49,x50,x51,x52,rfl,rfl,hb,cd0,cd1,cd2,cd3,cd4,cd5,cd6,cd7,cd8,cd9,cd10,cd11,cd12,cd13,cd14,cd15,f_g,f_d,f_e,f_z,f_s⟩ hf hd
      · have hf' : b0 = false := hf
        subst hf'
        clear hf hd
        have W_g := f_g.out
        have W_d := f_d.out
        have W_e := f_e.out
        intro K hK
        rw [if_pos (by rfl)]
        go_simp
        exact hK.out _ _ ⟨true,b1,b2,b3,b4,b5,b6,b7,b8,b9,b10,b11,b12,b13,b14,b15,b16,(.pointer (some ⟨g,3,none⟩)),x38,x39,x40,x41,x42,x43,x44,x45,x46,x47,x48,x49,x50,x51,x52,(by go_simp),(by go_simp),hb,rf,cd1,cd2,cd3,cd4,cd5,cd6,cd7,cd8,cd9,cd10,cd11,cd12,cd13,cd14,cd15,f_g,f_d,f_e,f_z,f_s⟩
      · have hf' : b1 = false := hf
        subst hf'
        have d0 : b0 = true := hd ⟨0, .data⟩ (by simp) rfl
        subst d0
        obtain rfl := cd0.out rfl
        clear hf hd
        have W_g := f_g.out
        have W_d := f_d.out
        have W_e := f_e.out
        intro K hK
        rw [if_pos (by rfl)]
        go_simp
        exact hK.out _ _ ⟨true,true,b2,b3,b4,b5,b6,b7,b8,b9,b10,b11,b12,b13,b14,b15,b16,.pointer (some ⟨g,3,none⟩),(.pointer (some ⟨g,3,none⟩)),x39,x40,x41,x42,x43,x44,x45,x46,x47,x48,x49,x50,x51,x52,(by go_simp),(by go_simp),hb,rf,rf,cd2,cd3,cd4,cd5,cd6,cd7,cd8,cd9,cd10,cd11,cd12,cd13,cd14,cd15,f_g,f_d,f_e,f_z,f_s⟩
      · have hf' : b2 = false := hf
        subst hf'
        have d1 : b1 = true := hd ⟨1, .data⟩ (by simp) rfl
        subst d1
        obtain rfl := cd1.out rfl
        clear hf hd
        have W_g := f_g.out
        have W_d := f_d.out
        have W_e := f_e.out
        intro K hK
        rw [if_pos (by rfl)]
        go_simp
        exact hK.out _ _ ⟨b0,true,true,b3,b4,b5,b6,b7,b8,b9,b10,b11,b12,b13,b14,b15,b16,x37,.pointer (some ⟨g,3,none⟩),(.pointer (some ⟨g,5,none⟩)),x40,x41,x42,x43,x44,x45,x46,x47,x48,x49,x50,x51,x52,(by go_simp),(by go_simp),hb,cd0,rf,rf,cd3,cd4,cd5,cd6,cd7,cd8,cd9,cd10,cd11,cd12,cd13,cd14,cd15,f_g,f_d,f_e,f_z,f_s⟩
      · have hf' : b3 = false := hf
        subst hf'
        have d2 : b2 = true := hd ⟨2, .data⟩ (by simp) rfl
        subst d2
        obtain rfl := cd2.out rfl
        clear hf hd
        have W_g := f_g.out
        have W_d := f_d.out
        have W_e := f_e.out
        try simp only [setIfInBounds_toArray, set_cons_zero, set_cons_succ]
        have z5 : w.cell? ⟨g, 5, none⟩ = some (.slice ba bn bc) := W_g.c rfl
        intro K hK
        rw [if_pos (by rfl)]
        go_simp
        exact hK.out _ _ ⟨b0,b1,true,true,b4,b5,b6,b7,b8,b9,b10,b11,b12,b13,b14,b15,b16,x37,x38,.pointer (some ⟨g,5,none⟩),(.slice ba bn bc),x41,x42,x43,x44,x45,x46,x47,x48,x49,x50,x51,x52,(by go_simp),(by go_simp),hb,cd0,cd1,rf,rf,cd4,cd5,cd6,cd7,cd8,cd9,cd10,cd11,cd12,cd13,cd14,cd15,f_g,f_d,f_e,f_z,f_s⟩
      · have hf' : b4 = false := hf
        subst hf'
        have d3 : b3 = true := hd ⟨3, .data⟩ (by simp) rfl
        subst d3
        obtain rfl := cd3.out rfl
        clear hf hd
        have W_g := f_g.out
        have W_d := f_d.out
        have W_e := f_e.out
        intro K hK
        rw [if_pos (by rfl)]
        go_simp
        exact hK.out _ _ ⟨b0,b1,b2,true,true,b5,b6,b7,b8,b9,b10,b11,b12,b13,b14,b15,b16,x37,x38,x39,.slice ba bn bc,(.int .i64 (bn : Nat)),x42,x43,x44,x45,x46,x47,x48,x49,x50,x51,x52,(by go_simp),(by go_simp),hb,cd0,cd1,cd2,rf,rf,cd5,cd6,cd7,cd8,cd9,cd10,cd11,cd12,cd13,cd14,cd15,f_g,f_d,f_e,f_z,f_s⟩
      · have hf' : b5 = false := hf
        subst hf'
        have d4 : b4 = true := hd ⟨4, .data⟩ (by simp) rfl
        subst d4
        obtain rfl := cd4.out rfl
        clear hf hd
        have W_g := f_g.out
        have W_d := f_d.out
        have W_e := f_e.out
        intro K hK
        rw [if_pos (by rfl)]
        go_simp
        rw [HADD.out]
        exact hK.out _ _ ⟨b0,b1,b2,b3,true,true,b6,b7,b8,b9,b10,b11,b12,b13,b14,b15,b16,x37,x38,x39,x40,.int .i64 (bn : Nat),(.int .i64 ((bn : Nat) + 1)),x43,x44,x45,x46,x47,x48,x49,x50,x51,x52,(by go_simp),(by go_simp),hb,cd0,cd1,cd2,cd3,rf,rf,cd6,cd7,cd8,cd9,cd10,cd11,cd12,cd13,cd14,cd15,f_g,f_d,f_e,f_z,f_s⟩
      · have hf' : b6 = false := hf
        subst hf'
        clear hf hd
        have W_g := f_g.out
        have W_d := f_d.out
        have W_e := f_e.out
        intro K hK
        rw [if_pos (by rfl)]
        go_simp
        exact hK.out _ _ ⟨b0,b1,b2,b3,b4,b5,true,b7,b8,b9,b10,b11,b12,b13,b14,b15,b16,x37,x38,x39,x40,x41,x42,(.pointer (some ⟨d,1,none⟩)),x44,x45,x46,x47,x48,x49,x50,x51,x52,(by go_simp),(by go_simp),hb,cd0,cd1,cd2,cd3,cd4,cd5,rf,cd7,cd8,cd9,cd10,cd11,cd12,cd13,cd14,cd15,f_g,f_d,f_e,f_z,f_s⟩
      · have hf' : b7 = false := hf
        subst hf'
        have d6 : b6 = true := hd ⟨6, .data⟩ (by simp) rfl
        subst d6
        obtain rfl := cd6.out rfl
        clear hf hd
        have W_g := f_g.out
        have W_d := f_d.out
        have W_e := f_e.out
        try simp only [setIfInBounds_toArray, set_cons_zero, set_cons_succ]
        intro K hK
        rw [if_pos (by rfl)]
        refine wp_load_cells 53 _ rfl ⟨d, 1, none⟩ rfl PL (HPC.out _ W_d) hash_agg HPL.out ?_
        rw [HPA.out]
        exact hK.out _ _ ⟨b0,b1,b2,b3,b4,b5,true,true,b8,b9,b10,b11,b12,b13,b14,b15,b16,x37,x38,x39,x40,x41,x42,.pointer (some ⟨d,1,none⟩),(.agg PA),x45,x46,x47,x48,x49,x50,x51,x52,(by go_simp),(by go_simp),hb,cd0,cd1,cd2,cd3,cd4,cd5,rf,rf,cd8,cd9,cd10,cd11,cd12,cd13,cd14,cd15,f_g,f_d,f_e,f_z,f_s⟩
      · have hf' : b8 = false := hf
        subst hf'
        clear hf hd
        have W_g := f_g.out
        have W_d := f_d.out
        have W_e := f_e.out
        intro K hK
        rw [if_pos (by rfl)]
        go_simp
        exact hK.out _ _ ⟨b0,b1,b2,b3,b4,b5,b6,b7,true,b9,b10,b11,b12,b13,b14,b15,b16,x37,x38,x39,x40,x41,x42,x43,x44,(.slice (some ⟨gr,0,none⟩) on on),x46,x47,x48,x49,x50,x51,x52,(by go_simp),(by go_simp),hb,cd0,cd1,cd2,cd3,cd4,cd5,cd6,cd7,rf,cd9,cd10,cd11,cd12,cd13,cd14,cd15,f_g,f_d,f_e,f_z,f_s⟩
      · have hf' : b9 = false := hf
        subst hf'
        have d8 : b8 = true := hd ⟨8, .data⟩ (by simp) rfl
        subst d8
        obtain rfl := cd8.out rfl
        clear hf hd
        have W_g := f_g.out
        have W_d := f_d.out
        have W_e := f_e.out
        intro K hK
        rw [if_pos (by rfl)]
        go_simp
        go_at_call 67
        refine (HRt _ hb W_e).mono ?_
        rintro e w' ⟨rfl, bx⟩
        exact hK.out _ _ ⟨b0,b1,b2,b3,b4,b5,b6,b7,true,true,b10,b11,b12,b13,b14,b15,b16,x37,x38,x39,x40,x41,x42,x43,x44,.slice (some ⟨gr,0,none⟩) on on,(.agg RA),x47,x48,x49,x50,x51,x52,(by go_simp),(by go_simp),hb.trans (bx.mono (Nat.le_trans hB0 hb.size)),cd0,cd1,cd2,cd3,cd4,cd5,cd6,cd7,rf,rf,cd10,cd11,cd12,cd13,cd14,cd15,(f_g.out.past bx),(f_d.out.past bx),(f_e.out.past bx),(fun h1 => (f_z.out h1).past bx),(fun h0 => (f_s.out h0).past bx)⟩
      · have hf' : b10 = false := hf
        subst hf'
        clear hf hd
        have W_g := f_g.out
        have W_d := f_d.out
        have W_e := f_e.out
        intro K hK
        rw [if_pos (by rfl)]
        go_simp
        exact hK.out _ _ ⟨b0,b1,b2,b3,b4,b5,b6,b7,b8,b9,true,b11,b12,b13,b14,b15,b16,x37,x38,x39,x40,x41,x42,x43,x44,x45,x46,(.pointer (some ⟨g,3,none⟩)),x48,x49,x50,x51,x52,(by go_simp),(by go_simp),hb,cd0,cd1,cd2,cd3,cd4,cd5,cd6,cd7,cd8,cd9,rf,cd11,cd12,cd13,cd14,cd15,f_g,f_d,f_e,f_z,f_s⟩
      · have hf' : b11 = false := hf
        subst hf'
        have d10 : b10 = true := hd ⟨10, .data⟩ (by simp) rfl
        subst d10
        obtain rfl := cd10.out rfl
        clear hf hd
        have W_g := f_g.out
        have W_d := f_d.out
        have W_e := f_e.out
        intro K hK
        rw [if_pos (by rfl)]
        go_simp
        exact hK.out _ _ ⟨b0,b1,b2,b3,b4,b5,b6,b7,b8,b9,true,true,b12,b13,b14,b15,b16,x37,x38,x39,x40,x41,x42,x43,x44,x45,x46,.pointer (some ⟨g,3,none⟩),(.pointer (some ⟨g,3,none⟩)),x49,x50,x51,x52,(by go_simp),(by go_simp),hb,cd0,cd1,cd2,cd3,cd4,cd5,cd6,cd7,cd8,cd9,rf,rf,cd12,cd13,cd14,cd15,f_g,f_d,f_e,f_z,f_s⟩
      · have hf' : b12 = false := hf
        subst hf'
        have d11 : b11 = true := hd ⟨11, .data⟩ (by simp) rfl
        subst d11
        obtain rfl := cd11.out rfl
        clear hf hd
        have W_g := f_g.out
        have W_d := f_d.out
        have W_e := f_e.out
        intro K hK
        rw [if_pos (by rfl)]
        go_simp
        exact hK.out _ _ ⟨b0,b1,b2,b3,b4,b5,b6,b7,b8,b9,b10,true,true,b13,b14,b15,b16,x37,x38,x39,x40,x41,x42,x43,x44,x45,x46,x47,.pointer (some ⟨g,3,none⟩),(.pointer (some ⟨g,4,none⟩)),x50,x51,x52,(by go_simp),(by go_simp),hb,cd0,cd1,cd2,cd3,cd4,cd5,cd6,cd7,cd8,cd9,cd10,rf,rf,cd13,cd14,cd15,f_g,f_d,f_e,f_z,f_s⟩
      · have hf' : b13 = false := hf
        subst hf'
        have d12 : b12 = true := hd ⟨12, .data⟩ (by simp) rfl
        subst d12
        obtain rfl := cd12.out rfl
        clear hf hd
        have W_g := f_g.out
        have W_d := f_d.out
        have W_e := f_e.out
        try simp only [setIfInBounds_toArray, set_cons_zero, set_cons_succ]
        have z4 : w.cell? ⟨g, 4, none⟩ = some (.slice oa on oc) := W_g.c rfl
        intro K hK
        rw [if_pos (by rfl)]
        go_simp
        exact hK.out _ _ ⟨b0,b1,b2,b3,b4,b5,b6,b7,b8,b9,b10,b11,true,true,b14,b15,b16,x37,x38,x39,x40,x41,x42,x43,x44,x45,x46,x47,x48,.pointer (some ⟨g,4,none⟩),(.slice oa on oc),x51,x52,(by go_simp),(by go_simp),hb,cd0,cd1,cd2,cd3,cd4,cd5,cd6,cd7,cd8,cd9,cd10,cd11,rf,rf,cd14,cd15,f_g,f_d,f_e,f_z,f_s⟩
      · have hf' : b14 = false := hf
        subst hf'
        have d13 : b13 = true := hd ⟨13, .data⟩ (by simp) rfl
        subst d13
        obtain rfl := cd13.out rfl
        clear hf hd
        have W_g := f_g.out
        have W_d := f_d.out
        have W_e := f_e.out
        intro K hK
        rw [if_pos (by rfl)]
        go_simp
        exact hK.out _ _ ⟨b0,b1,b2,b3,b4,b5,b6,b7,b8,b9,b10,b11,b12,true,true,b15,b16,x37,x38,x39,x40,x41,x42,x43,x44,x45,x46,x47,x48,x49,.slice oa on oc,(.int .i64 (on : Nat)),x52,(by go_simp),(by go_simp),hb,cd0,cd1,cd2,cd3,cd4,cd5,cd6,cd7,cd8,cd9,cd10,cd11,cd12,rf,rf,cd15,f_g,f_d,f_e,f_z,f_s⟩
      · have hf' : b15 = false := hf
        subst hf'
        have d5 : b5 = true := hd ⟨5, .data⟩ (by simp) rfl
        subst d5
        have d7 : b7 = true := hd ⟨7, .data⟩ (by simp) rfl
        subst d7
        have d9 : b9 = true := hd ⟨9, .data⟩ (by simp) rfl
        subst d9
        have d14 : b14 = true := hd ⟨14, .data⟩ (by simp) rfl
        subst d14
        obtain rfl := cd5.out rfl
        obtain rfl := cd7.out rfl
        obtain rfl := cd9.out rfl
        obtain rfl := cd14.out rfl
        clear hf hd
        have W_g := f_g.out
        have W_d := f_d.out
        have W_e := f_e.out
        try simp only [setIfInBounds_toArray, set_cons_zero, set_cons_succ]
        intro K hK
        rw [if_pos (by rfl)]
        refine wp_build_at 64 _ rfl NB (by simp only [List.map_toArray, List.map_cons, List.map_nil]; exact HBB.out) ?_
        exact hK.out _ _ ⟨b0,b1,b2,b3,b4,true,b6,true,b8,true,b10,b11,b12,b13,true,true,b16,x37,x38,x39,x40,x41,.int .i64 ((bn : Nat) + 1),x43,.agg PA,x45,.agg RA,x47,x48,x49,x50,.int .i64 (on : Nat),(.agg NB),(by go_simp),(by go_simp),hb,cd0,cd1,cd2,cd3,cd4,rf,cd6,rf,cd8,rf,cd10,cd11,cd12,cd13,rf,rf,f_g,f_d,f_e,f_z,f_s⟩
      · have hf' : b16 = false := hf
        subst hf'
        have d15 : b15 = true := hd ⟨15, .data⟩ (by simp) rfl
        subst d15
        have d9 : b9 = true := hd ⟨9, .chain⟩ (by simp) rfl
        subst d9
        have d0 : b0 = true := hd ⟨0, .phase⟩ (by simp) rfl
        subst d0
        have d1 : b1 = true := hd ⟨1, .phase⟩ (by simp) rfl
        subst d1
        have d2 : b2 = true := hd ⟨2, .phase⟩ (by simp) rfl
        subst d2
        have d3 : b3 = true := hd ⟨3, .phase⟩ (by simp) rfl
        subst d3
        have d4 : b4 = true := hd ⟨4, .phase⟩ (by simp) rfl
        subst d4
        have d5 : b5 = true := hd ⟨5, .phase⟩ (by simp) rfl
        subst d5
        have d6 : b6 = true := hd ⟨6, .phase⟩ (by simp) rfl
        subst d6
        have d7 : b7 = true := hd ⟨7, .phase⟩ (by simp) rfl
        subst d7
        have d8 : b8 = true := hd ⟨8, .phase⟩ (by simp) rfl
        subst d8
        have d10 : b10 = true := hd ⟨10, .phase⟩ (by simp) rfl
        subst d10
        have d11 : b11 = true := hd ⟨11, .phase⟩ (by simp) rfl
        subst d11
        have d12 : b12 = true := hd ⟨12, .phase⟩ (by simp) rfl
        subst d12
        have d13 : b13 = true := hd ⟨13, .phase⟩ (by simp) rfl
        subst d13
        have d14 : b14 = true := hd ⟨14, .phase⟩ (by simp) rfl
        subst d14
        obtain rfl := cd15.out rfl
        obtain rfl := cd9.out rfl
        obtain rfl := cd0.out rfl
        obtain rfl := cd1.out rfl
        obtain rfl := cd2.out rfl
        obtain rfl := cd3.out rfl
        obtain rfl := cd4.out rfl
        obtain rfl := cd5.out rfl
        obtain rfl := cd6.out rfl
        obtain rfl := cd7.out rfl
        obtain rfl := cd8.out rfl
        obtain rfl := cd10.out rfl
        obtain rfl := cd11.out rfl
        obtain rfl := cd12.out rfl
        obtain rfl := cd13.out rfl
        obtain rfl := cd14.out rfl
        clear hf hd
        have W_g := f_g.out
        have W_d := f_d.out
        have W_e := f_e.out
        have W_z := f_z.out rfl
        try simp only [setIfInBounds_toArray, set_cons_zero, set_cons_succ]
        have ZZ : Hid (w.heap[q]? = some (.cells ZB 64 (0, 0))) := Lib.hid W_z
        intro K hK
        rw [if_pos (by rfl)]
        refine wp_store_blkT 64 _ _ rfl q ZB NB rfl rfl 64 ZZ 66 blk_size HZB.out HN0.out HN1.out fun w2 h8 b8 => ?_
        have hb2 := hb.grown b8 (Nat.le_trans hB0 hb.size) (fun z hz => by cases hz; exact hBq)
        exact hK.out _ _ ⟨true,true,true,true,true,true,true,true,true,true,true,true,true,true,true,true,true,.pointer (some ⟨g,3,none⟩),.pointer (some ⟨g,3,none⟩),.pointer (some ⟨g,5,none⟩),.slice ba bn bc,.int .i64 (bn : Nat),.int .i64 ((bn : Nat) + 1),.pointer (some ⟨d,1,none⟩),.agg PA,.slice (some ⟨gr,0,none⟩) on on,.agg RA,.pointer (some ⟨g,3,none⟩),.pointer (some ⟨g,3,none⟩),.pointer (some ⟨g,4,none⟩),.slice oa on oc,.int .i64 (on : Nat),.agg NB,(by go_simp),(by go_simp),hb2,rf,rf,rf,rf,rf,rf,rf,rf,rf,rf,rf,rf,rf,rf,rf,rf,(Bk.grown f_g.out b8 hgq),(Bk.grown f_d.out b8 hdq),(IsR.grown f_e.out b8 heq),nf2,(fun _ => h8.out)⟩
    · rintro act V ⟨b0,b1,b2,b3,b4,b5,b6,b7,b8,b9,b10,b11,b12,b13,b14,b15,b16,x37,x38,x39,x40,x41,x42,x43,x44,x45,x46,x47,x48,x49,x50,x51,x52,hL,rfl,hb,cd0,cd1,cd2,cd3,cd4,cd5,cd6,cd7,cd8,cd9,cd10,cd11,cd12,cd13,cd14,cd15,f_g,f_d,f_e,f_z,f_s⟩
      have hL' : [true,true,true,true,true,true,true,true,true,true,true,true,true,true,true,true,true] = [b0,b1,b2,b3,b4,b5,b6,b7,b8,b9,b10,b11,b12,b13,b14,b15,b16] := congrArg Array.toList hL
      simp only [List.cons.injEq, and_true] at hL'
      obtain ⟨rfl, rfl, rfl, rfl, rfl, rfl, rfl, rfl, rfl, rfl, rfl, rfl, rfl, rfl, rfl, rfl, rfl⟩ := hL'
      obtain rfl := cd0.out rfl
      obtain rfl := cd1.out rfl
      obtain rfl := cd2.out rfl
      obtain rfl := cd3.out rfl
      obtain rfl := cd4.out rfl
      obtain rfl := cd5.out rfl
      obtain rfl := cd6.out rfl
      obtain rfl := cd7.out rfl
      obtain rfl := cd8.out rfl
      obtain rfl := cd9.out rfl
      obtain rfl := cd10.out rfl
      obtain rfl := cd11.out rfl
      obtain rfl := cd12.out rfl
      obtain rfl := cd13.out rfl
      obtain rfl := cd14.out rfl
      obtain rfl := cd15.out rfl
      have W_g := f_g.out
      have W_d := f_d.out
      have W_e := f_e.out
      have W_s := f_s.out rfl
      clear hL f_g f_d f_e f_z f_s cd0 cd1 cd2 cd3 cd4 cd5 cd6 cd7 cd8 cd9 cd10 cd11 cd12 cd13 cd14 cd15
      simp only [setIfInBounds_toArray, set_cons_zero, set_cons_succ]
      have BV : Below S w V := B3.trans ((Below.refl _ _).drew.trans hb)
      clear hb
      go_wp2_with fail
      refine bodyPost_ret (v := .agg NB) (results_cell_row rfl _ _ q _ _ (0, 0) _ rfl W_s Tryz.underlying64 rfl (by rw [blk_size, HN0.out])) rfl ?_
      exact ⟨rfl, by rw [HG.out]; exact BV⟩
structure SameB (B t g : Nat) (w w' : World) : Prop where
 le : w.heap.size ≤ w'.heap.size
 hB : B ≤ w'.heap.size
 ht : t < w'.heap.size
 same : ∀ k, k < B ∨ k = t → k ≠ g → w'.heap[k]? = w.heap[k]?
section
variable {B t g : Nat} {w w' w2 : World}
theorem SameB.refl (g : Nat) (h : B ≤ w.heap.size) (ht : t < w.heap.size) : SameB B t g w w := ⟨Nat.le_refl _, h, ht, fun _ _ _ => rfl⟩
theorem SameB.past (h : SameB B t g w w') (b : Below w'.heap.size w' w2) : SameB B t g w w2 := ⟨Nat.le_trans h.le b.size,Nat.le_trans h.hB b.size,Nat.lt_of_lt_of_le h.ht b.size,fun k hk hn => (b.block k (hk.elim (fun h1 => Nat.lt_of_lt_of_le h1 h.hB) (fun h1 => h1 ▸ h.ht))).trans (h.same k hk hn)⟩
theorem SameB.row {row : Option Nat} (h : SameB B t g w w') (b : w'.grownBy w2 row) (hr : ∀ r,row = some r → B ≤ r ∧ r ≠ t) : SameB B t g w w2 := ⟨Nat.le_trans h.le b.size,Nat.le_trans h.hB b.size,Nat.lt_of_lt_of_le h.ht b.size,fun k hk hn => (b.block k (hk.elim (fun h1 => Nat.lt_of_lt_of_le h1 h.hB) (fun h1 => h1 ▸ h.ht)) (fun e => by have := hr k e.symm; omega)).trans (h.same k hk hn)⟩
theorem SameB.grown (h : SameB B t g w w') (b : w'.grownBy w2 (some g)) : SameB B t g w w2 := ⟨Nat.le_trans h.le b.size,Nat.le_trans h.hB b.size,Nat.lt_of_lt_of_le h.ht b.size,fun k hk hn => (b.block k (hk.elim (fun h1 => Nat.lt_of_lt_of_le h1 h.hB) (fun h1 => h1 ▸ h.ht)) (fun e => hn (Option.some.inj e))).trans (h.same k hk hn)⟩
theorem SameB.trans (h : SameB B t g w w') (k : SameB B t g w' w2) : SameB B t g w w2 := ⟨Nat.le_trans h.le k.le, k.hB, k.ht, fun j hj hn => (k.same j hj hn).trans (h.same j hj hn)⟩
end
def LgX (w : World) (B t : Nat) (oa : Option Addr) (on oc : Nat) (ba : Option Addr) (bn bc : Nat) (ta : Option Addr) (tn tc : Nat) (L : Lgr) : Prop := ∃ Qo Qb Qt bo bb bt,LgO w B Qo Qb Qt oa on oc ba bn bc ta tn tc bo bb bt L ∧ t < w.heap.size ∧ ¬ Qo t ∧ ¬ Qb t ∧ ¬ Qt t
section
variable {w w' : World} {B t : Nat} {oa : Option Addr} {on oc : Nat} {ba : Option Addr} {bn bc : Nat} {ta : Option Addr} {tn tc : Nat} {L : Lgr}
theorem LgX.past (h : LgX w B t oa on oc ba bn bc ta tn tc L) (b : Below w.heap.size w w') : LgX w' B t oa on oc ba bn bc ta tn tc L := by
 obtain ⟨Qo, Qb, Qt, bo, bb, bt, h, ht, n1, n2, n3⟩ := h
 exact ⟨_, _, _, _, _, _, h.past b, Nat.lt_of_lt_of_le ht b.size, n1, n2, n3⟩
theorem LgX.grown {g : Nat} (h : LgX w B t oa on oc ba bn bc ta tn tc L) (k : w.grownBy w' (some g)) (hg : g < B) : LgX w' B t oa on oc ba bn bc ta tn tc L := by
 obtain ⟨Qo, Qb, Qt, bo, bb, bt, h, ht, n1, n2, n3⟩ := h
 exact ⟨_, _, _, _, _, _, h.grown k hg, Nat.lt_of_lt_of_le ht k.size, n1, n2, n3⟩
theorem LgX.r (h : LgX w B t oa on oc ba bn bc ta tn tc L) : LgR w (FrG B) oa on oc ba bn bc ta tn tc L := by
 obtain ⟨Qo, Qb, Qt, bo, bb, bt, h, ht, n1, n2, n3⟩ := h
 exact h.r
theorem LgX.rowB (h : LgX w B t oa on oc ba bn bc ta tn tc L) : TxtR EBk w 64 B ba bn bc L.bl := by
 obtain ⟨Qo, Qb, Qt, bo, bb, bt, h, ht, n1, n2, n3⟩ := h
 have e : bb = L.bl := lists_eq (β := Blk) h.bl.rd.1 h.bl.rd.2
 have hr := h.bl.row
 rw [e] at hr
 exact ⟨hr.either.imp id fun ⟨g, h1, h2, _⟩ => ⟨g, h1, h2, (h.gb g (h.bl.frm g (by rw [h1]; rfl))).1⟩⟩
theorem LgX.appB {b : Blk} {g' c' : Nat} (h : LgX w B t oa on oc ba bn bc ta tn tc L) (hB : B ≤ w.heap.size) (o' : TxtR EBk w' 64 B (some ⟨g',0,none⟩) (bn + 1) c' (L.bl ++ [b])) (g : w.grownBy w' (blk ba)) (hg' : blk ba = some g' ∨ w.heap.size ≤ g') :
 LgX w' B t oa on oc (some ⟨g', 0, none⟩) (bn + 1) c' ta tn tc ⟨L.next, L.op, L.bl ++ [b], L.ts⟩ := by
 obtain ⟨Qo, Qb, Qt, bo, bb, bt, h, ht, n1, n2, n3⟩ := h
 have e : bb = L.bl := lists_eq (β := Blk) h.bl.rd.1 h.bl.rd.2
 subst e
 have o2 : TxtR DB.E w' 64 0 (some ⟨g', 0, none⟩) (bn + 1) c' ((L.bl : List DB.β) ++ [(b : DB.β)]) := o'.zero
 have hx : DB.R w (fun _ => False) (b : DB.β) b := rfl
 have h0 := TxD.app (D := DB) h.bl hx (fun _ _ h => h) o2 g hg'
 have h1 := h0.imp (Q' := fun k => Qb k ∨ (w.heap.size ≤ k ∧ k < w'.heap.size)) fun k hk hh => by
  rcases hh with hh | hh | hh
  · exact .inl hh
  · exact hh.elim
  · exact .inr ⟨hh, hk⟩
 refine ⟨Qo,_,Qt,bo,_,bt,⟨h.op.grownO g fun r er hq => h.ob r hq (h.bl.frm r er),h1,h.ts.grownO g fun r er hq => h.bt_ r (h.bl.frm r er) hq,fun k hk hh => ?_,h.ot,fun k hh hk => ?_,fun k hk => ⟨(h.go k hk).1,Nat.lt_of_lt_of_le (h.go k hk).2 g.size⟩,fun k hh => ?_,fun k hk => ⟨(h.gt k hk).1,Nat.lt_of_lt_of_le (h.gt k hk).2 g.size⟩⟩,Nat.lt_of_lt_of_le ht g.size,n1,fun hh => hh.elim n2 (fun h9 => by omega),n3⟩
 · rcases hh with hh | hh
   · exact h.ob k hk hh
   · have := (h.go k hk).2; omega
 · rcases hh with hh | hh
   · exact h.bt_ k hh hk
   · have := (h.gt k hk).2; omega
 · rcases hh with hh | hh
   · exact ⟨(h.gb k hh).1, Nat.lt_of_lt_of_le (h.gb k hh).2 g.size⟩
   · exact ⟨Nat.le_trans hB hh.1, hh.2⟩
theorem LgX.appT (h : LgX w B t oa on oc ba bn bc ta tn tc L) (hB : B ≤ w.heap.size) : ∃ bt : List HdR,TxtR EH w 25 B ta tn tc bt ∧ ∀ (g' c' : Nat) (w' : World),TxtR EH w' 25 B (some ⟨g',0,none⟩) (tn + 1) c' (bt ++ [⟨oa,on,oc⟩]) → w.grownBy w' (blk ta) → (blk ta = some g' ∨ w.heap.size ≤ g') →
 LgX w' B t none 0 0 ba bn bc (some ⟨g', 0, none⟩) (tn + 1) c' ⟨L.next, [], L.bl, L.ts ++ [L.op]⟩ := by
 obtain ⟨Qo, Qb, Qt, bo, bb, bt, h, ht, n1, n2, n3⟩ := h
 refine ⟨bt, ⟨h.ts.row.either.imp id fun ⟨g, h1, h2, _⟩ => ⟨g, h1, h2, (h.gt g (h.ts.frm g (by rw [h1]; rfl))).1⟩⟩, fun g' c' w' o' g hg' => ?_⟩
 have o2 : TxtR DTs.E w' 25 0 (some ⟨g', 0, none⟩) (tn + 1) c' (List.append (α := DTs.β) bt [(⟨oa, on, oc⟩ : HdR)]) := o'.zero
 have hx : DTs.R w Qo (⟨oa, on, oc⟩ : HdR) L.op := h.op.isD
 have h0 := TxD.app (D := DTs) h.ts hx (fun z hz hq => h.ot z hq (h.ts.frm z hz)) o2 g hg'
 have h1 := h0.imp (Q' := fun k => Qt k ∨ Qo k ∨ (w.heap.size ≤ k ∧ k < w'.heap.size)) fun k hk hh => by
  rcases hh with hh | hh | hh
  · exact .inl hh
  · exact .inr (.inl hh)
  · exact .inr (.inr ⟨hh, hk⟩)
 refine ⟨fun _ => False,Qb,_,[],bb,_,⟨TxD.nil _ _ _,h.bl.grownO g fun r er hq => h.bt_ r hq (h.ts.frm r er),h1,fun k hk => hk.elim,fun k hk => hk.elim,fun k hk hh => ?_,fun k hk => hk.elim,fun k hk => ⟨(h.gb k hk).1,Nat.lt_of_lt_of_le (h.gb k hk).2 g.size⟩,fun k hh => ?_⟩,Nat.lt_of_lt_of_le ht g.size,fun h9 => h9,n2,fun hh => hh.elim n3 (fun h9 => h9.elim n1 (fun h9 => by omega))⟩
 · rcases hh with hh | hh | hh
   · exact h.bt_ k hk hh
   · exact h.ob k hh hk
   · have := (h.gb k hk).2; omega
 · rcases hh with hh | hh | hh
   · exact ⟨(h.gt k hh).1, Nat.lt_of_lt_of_le (h.gt k hh).2 g.size⟩
   · exact ⟨(h.go k hh).1, Nat.lt_of_lt_of_le (h.go k hh).2 g.size⟩
   · exact ⟨Nat.le_trans hB hh.1, hh.2⟩
theorem LgX.lt (h : LgX w B t oa on oc ba bn bc ta tn tc L) : t < w.heap.size := by
 obtain ⟨Qo, Qb, Qt, bo, bb, bt, h, ht, n1, n2, n3⟩ := h
 exact ht
theorem LgX.neB (h : LgX w B t oa on oc ba bn bc ta tn tc L) : ∀ r, blk ba = some r → B ≤ r ∧ r ≠ t := by
 obtain ⟨Qo, Qb, Qt, bo, bb, bt, h, ht, n1, n2, n3⟩ := h
 exact fun r hr => ⟨(h.gb r (h.bl.frm r hr)).1, fun e => n2 (e ▸ h.bl.frm r hr)⟩
theorem LgX.neT (h : LgX w B t oa on oc ba bn bc ta tn tc L) : ∀ r, blk ta = some r → B ≤ r ∧ r ≠ t := by
 obtain ⟨Qo, Qb, Qt, bo, bb, bt, h, ht, n1, n2, n3⟩ := h
 exact fun r hr => ⟨(h.gt r (h.ts.frm r hr)).1, fun e => n3 (e ▸ h.ts.frm r hr)⟩
theorem LgX.rowT (h : LgX w B t oa on oc ba bn bc ta tn tc L) : ∃ bt : List HdR, TxtR EH w 25 B ta tn tc bt := by
 obtain ⟨Qo, Qb, Qt, bo, bb, bt, h, ht, n1, n2, n3⟩ := h
 exact ⟨bt, ⟨h.ts.row.either.imp id fun ⟨g, h1, h2, _⟩ => ⟨g, h1, h2, (h.gt g (h.ts.frm g (by rw [h1]; rfl))).1⟩⟩⟩
end
inductive LCls4 (t : Nat) (w1 : World) (B : Nat) (g : Nat) (B9 : Nat) (next : Int) (oa : Option Addr) (on : Nat) (oc : Nat) (ba : Option Addr) (bn : Nat) (bc : Nat) (ta : Option Addr) (tn : Nat) (tc : Nat) (M : Lgr) (nb : Blk) (NB : Array Value) (a0 : Act) (w0 : World) (L : Array Bool) (a : Act) (w : World) : Prop
 | mk (b0 b1 b2 b3 b4 b5 b6 b7 b8 b9 b10 b11 : Bool) (x13 x14 x15 x16 x17 x18 x19 x20 x21 x22 x23 : Value) (gs : Nat) (gq : Nat) (cq : Nat) (hL : L = #[b0,b1,b2,b3,b4,b5,b6,b7,b8,b9,b10,b11]) (ha : a = ⟨(((((((((((a0.tmps.setIfInBounds 13 x13).setIfInBounds 14 x14).setIfInBounds 15 x15).setIfInBounds 16 x16).setIfInBounds 17 x17).setIfInBounds 18 x18).setIfInBounds 19 x19).setIfInBounds 20 x20).setIfInBounds 21 x21).setIfInBounds 22 x22).setIfInBounds 23 x23),a0.defers⟩) (hb : Below B w0 w) (cd0 : Hid (b0 = true → x13 = .pointer (some ⟨g,3,none⟩))) (cd1 : Hid (b1 = true → x14 = .pointer (some ⟨g,3,none⟩))) (cd2 : Hid (b2 = true → x15 = .pointer (some ⟨g,3,none⟩))) (cd3 : Hid (b3 = true → x16 = .pointer (some ⟨g,5,none⟩))) (cd4 : Hid (b4 = true → x17 = .slice ba bn bc)) (cd5 : Hid (b5 = true → x18 = .pointer (some ⟨g,3,none⟩))) (cd6 : Hid (b6 = true → x19 = .agg NB)) (cd7 : Hid (b7 = true → x20 = .slice (some ⟨gs,0,none⟩) 1 1)) (cd8 : Hid (b8 = true → x21 = .slice (some ⟨gq,0,none⟩) (bn + 1) cq)) (cd9 : Hid (b9 = true → x22 = .pointer (some ⟨g,3,none⟩))) (cd10 : Hid (b10 = true → x23 = .pointer (some ⟨g,5,none⟩))) (f_g : Hid (b11 = false → Bk w g (dfC 1 0 next oa on oc ba bn bc ta tn tc) 115)) (f_lo : Hid (b8 = false → LgX w B9 t oa on oc ba bn bc ta tn tc M)) (f_ls : Hid (b7 = true → b8 = false → IsR EBk w (some ⟨gs,0,none⟩) 1 1 [nb])) (f_lo2 : Hid (b8 = true → LgX w B9 t oa on oc (some ⟨gq,0,none⟩) (bn + 1) cq ta tn tc ⟨M.next,M.op,M.bl ++ [nb],M.ts⟩)) (f_s : Hid (b11 = true → Bk w g (dfC 1 0 next oa on oc (some ⟨gq,0,none⟩) (bn + 1) cq ta tn tc) 115)) (f_o8 : Hid (b11 = true → b8 = true)) (f_q4 : Hid (b11 = true → b4 = true)) (f_q6 : Hid (b11 = true → b6 = true)) (f_r6 : Hid (b8 = true → b6 = true)) (f_kb : Hid (SameB B9 t g w1 w)) : LCls4 t w1 B g B9 next oa on oc ba bn bc ta tn tc M nb NB a0 w0 L a w
inductive LCls5 (t : Nat) (w1 : World) (B : Nat) (g : Nat) (B9 : Nat) (next : Int) (oa : Option Addr) (on : Nat) (oc : Nat) (ba4 : Option Addr) (bn4 : Nat) (cq : Nat) (ta : Option Addr) (tn : Nat) (tc : Nat) (M4 : Lgr) (a0 : Act) (w0 : World) (L : Array Bool) (a : Act) (w : World) : Prop
 | mk (b0 b1 b2 b3 b4 b5 b6 b7 b8 b9 b10 b11 b12 b13 : Bool) (x24 x25 x26 x27 x28 x29 x30 x31 x32 x33 x34 x35 x36 : Value) (gs : Nat) (gt : Nat) (ct : Nat) (hL : L = #[b0,b1,b2,b3,b4,b5,b6,b7,b8,b9,b10,b11,b12,b13]) (ha : a = ⟨(((((((((((((a0.tmps.setIfInBounds 24 x24).setIfInBounds 25 x25).setIfInBounds 26 x26).setIfInBounds 27 x27).setIfInBounds 28 x28).setIfInBounds 29 x29).setIfInBounds 30 x30).setIfInBounds 31 x31).setIfInBounds 32 x32).setIfInBounds 33 x33).setIfInBounds 34 x34).setIfInBounds 35 x35).setIfInBounds 36 x36),a0.defers⟩) (hb : Below B w0 w) (cd0 : Hid (b0 = true → x24 = .pointer (some ⟨g,3,none⟩))) (cd1 : Hid (b1 = true → x25 = .pointer (some ⟨g,3,none⟩))) (cd2 : Hid (b2 = true → x26 = .pointer (some ⟨g,3,none⟩))) (cd3 : Hid (b3 = true → x27 = .pointer (some ⟨g,6,none⟩))) (cd4 : Hid (b4 = true → x28 = .slice ta tn tc)) (cd5 : Hid (b5 = true → x29 = .pointer (some ⟨g,3,none⟩))) (cd6 : Hid (b6 = true → x30 = .pointer (some ⟨g,3,none⟩))) (cd7 : Hid (b7 = true → x31 = .pointer (some ⟨g,4,none⟩))) (cd8 : Hid (b8 = true → x32 = .slice oa on oc)) (cd9 : Hid (b9 = true → x33 = .slice (some ⟨gs,0,none⟩) 1 1)) (cd10 : Hid (b10 = true → x34 = .slice (some ⟨gt,0,none⟩) (tn + 1) ct)) (cd11 : Hid (b11 = true → x35 = .pointer (some ⟨g,3,none⟩))) (cd12 : Hid (b12 = true → x36 = .pointer (some ⟨g,6,none⟩))) (f_g : Hid (b13 = false → Bk w g (dfC 1 0 next oa on oc ba4 bn4 cq ta tn tc) 115)) (f_lo : Hid (b10 = false → LgX w B9 t oa on oc ba4 bn4 cq ta tn tc M4)) (f_ls : Hid (b9 = true → b10 = false → IsR EH w (some ⟨gs,0,none⟩) 1 1 [⟨oa,on,oc⟩])) (f_lo2 : Hid (b10 = true → LgX w B9 t none 0 0 ba4 bn4 cq (some ⟨gt,0,none⟩) (tn + 1) ct ⟨M4.next,[],M4.bl,M4.ts ++ [M4.op]⟩)) (f_s : Hid (b13 = true → Bk w g (dfC 1 0 next oa on oc ba4 bn4 cq (some ⟨gt,0,none⟩) (tn + 1) ct) 115)) (f_o8 : Hid (b13 = true → b10 = true)) (f_q4 : Hid (b13 = true → b4 = true)) (f_q8 : Hid (b13 = true → b8 = true)) (f_kb : Hid (SameB B9 t g w1 w)) : LCls5 t w1 B g B9 next oa on oc ba4 bn4 cq ta tn tc M4 a0 w0 L a w
theorem Bk.past9 {w w' : World} {g B : Nat} {cs : Array Value} {t : TypeId} (h : Bk w g cs t) (b : Below B w w') (hg : g < B) : Bk w' g cs t := (b.block g hg).trans h
theorem blk_i : ∃ i z, Tryz.prog.info? 64 = some i ∧ i.zero = some z ∧ i.size = 66 := by
 obtain ⟨i, h1, h2, h3, h4⟩ := info_parts blk_info
 exact ⟨i, _, h1, h2, h3⟩
theorem blk_row {w : World} {g : Nat} {nb : Blk} {CL : List Value} (h : w.heap[g]? = some (.cells CL.toArray 64 (0, 0))) (hc : CL = nb.cs) : IsR EBk w (some ⟨g, 0, none⟩) 1 1 [nb] :=
 (OwnR.ofBlk (E := EBk) (l := [nb]) (n := 1) h (by rw [hc]; simp [Enc.all]; rfl) rfl (by omega)).isR
def OwnAt (w : World) (g B t : Nat) (next : Int) (on bn tn : Nat) (L : Lgr) (e : Ending) (w' : World) : Prop :=
 ∃ oa oc ba bc ta tc,e = .returned (.pointer (some ⟨g,3,none⟩)) ∧ Bk w' g (dfC 1 0 next oa on oc ba bn bc ta tn tc) 115 ∧ LgX w' B t oa on oc ba bn bc ta tn tc L ∧ Below g w w' ∧ B ≤ w'.heap.size ∧ SameB B t g w w'
def ClosedIs (w : World) (g B t : Nat) (next : Int) (M : Lgr) (e : Ending) (w' : World) : Prop :=
 ∃ oa on oc ba bn bc ta tn tc,e = .returned (.int .i64 0) ∧ Bk w' g (dfC 1 0 next oa on oc ba bn bc ta tn tc) 115 ∧ LgX w' B t oa on oc ba bn bc ta tn tc ⟨M.next,[],M.bl ++ [newB M],M.ts ++ [M.op]⟩ ∧ Below g w w' ∧ B ≤ w'.heap.size ∧ SameB B t g w w'
theorem hd_one (w : World) (t : TypeId) (x : HdR) : IsR EH (w.alloc (.cells #[.slice x.a x.n x.c] t)) (some ⟨w.heap.size,0,none⟩) 1 1 [x] := (OwnR.ofBlk (E := EH) (l := [x]) (n := 1) (heap_alloc_new w _) rfl rfl (by omega)).isR
set_option maxRecDepth 100000 in
set_option maxHeartbeats 2000000 in
theorem dclose_some (w : World) (g B9 t : Nat) (hCg : ∀ w',Below g w w' → RC w') (dn next : Int) (oa0 : Option Addr) (on oc0 : Nat) (ba0 : Option Addr) (bn bc0 : Nat) (ta0 : Option Addr) (tn tc0 : Nat) (M : Lgr) (X : Bk w g (dfC dn 0 next oa0 on oc0 ba0 bn bc0 ta0 tn tc0) 115) (hgB : g < B9) (hon : 0 < on) (HO : Calls Tryz.prog 51 #[.pointer (some ⟨g,0,none⟩)] w (OwnAt w g B9 t next on bn tn M)) (hL : LgOk M) :
 Calls Tryz.prog 50 #[.pointer (some ⟨g, 0, none⟩)] w (ClosedIs w g B9 t next M) := by
 have hon2 : ¬ (on = 0) := by omega
 obtain ⟨c3, c4, c5, c6⟩ := df_cells X
 go_enter Tryz.func50, Tryz.ntmps50
 go_upto_region 4 with (go_at_call 51; refine HO.mono ?_; rintro e w1 ⟨oa, oc, ba, bc, ta, tc, rfl, hX, hLo, b1, hBw, hK1⟩)
 clear c3 c4 c5 c6 X HO
 obtain ⟨nb, hnb⟩ : ∃ b, newB M = b := ⟨_, rfl⟩
 obtain ⟨CL, hCL⟩ : ∃ c, nb.cs = c := ⟨_, rfl⟩
 obtain ⟨NB, hNB⟩ : ∃ c, CL.toArray = c := ⟨_, rfl⟩
 have HCN := Lib.hid hCL.symm
 have HNB := Lib.hid hNB
 have HNN := Lib.hid hnb
 have HC66 : Hid (CL.length = 66) := Lib.hid (by rw [← hCL]; exact nb.cs_len)
 have HBl : ∀ w',Below g w1.drew w' → Bk w' g (dfC 1 0 next oa on oc ba bn bc ta tn tc) 115 → LgX w' B9 t oa on oc ba bn bc ta tn tc M → Calls Tryz.prog 85 #[.pointer (some ⟨g,3,none⟩)] w' fun e w'' => e = .returned (.agg NB) ∧ Below w'.heap.size w' w'' := fun w' hb hX' hL' => by
  have h := dblock_any w' (hCg w' (b1.trans ((Below.refl _ _).drew.trans hb))) _ g 1 0 next oa on oc ba bn bc ta tn tc M hX' hL'.r hL
  rwa [hnb, hCL, hNB] at h
 have hB0 : g ≤ w1.heap.size := by omega
 have hbn : M.bl.length = bn := hLo.r.bl.len
 have htn : M.ts.length = tn := hLo.r.ts.len
 have hbl2 := hL.bl
 have hts2 := hL.ts
 have hM0 : newB M = nb := hnb
 clear hnb hCL hNB
 go_upto_region 4 with fail
 refine region_inv (LCls4 t w1 g g B9 next oa on oc ba bn bc ta tn tc M nb NB) (by kernel_rfl) (by kernel_rfl) ?_ ?_ ?_
 · exact ⟨false,false,false,false,false,false,false,false,false,false,false,false,undef,undef,undef,undef,undef,undef,undef,undef,undef,undef,undef,0,0,0,rfl,(by go_simp),Below.refl _ _,nf2,nf2,nf2,nf2,nf2,nf2,nf2,nf2,nf2,nf2,nf2,(fun h1 => hX.past (Below.refl _ _).drew),(fun h1 => hLo.past (Below.refl _ _).drew),nf2,nf2,nf2,nf2,nf2,nf2,nf2,((SameB.refl g hBw hK1.ht).past (Below.refl _ _).drew)⟩
 · refine ⟨?_, ?_, ?_, ?_, ?_, ?_, ?_, ?_, ?_, ?_, ?_, ?_, trivial⟩
   all_goals rintro L a w ⟨b0,b1,b2,b3,b4,b5,b6,b7,b8,b9,b10,b11,x13,x14,x15,x16,x17,x18,x19,x20,x21,x22,x23,gs,gq,cq,rfl,rfl,hb,cd0,cd1,cd2,cd3,cd4,cd5,cd6,cd7,cd8,cd9,cd10,f_g,f_lo,f_ls,f_lo2,f_s,f_o8,f_q4,f_q6,f_r6,f_kb⟩ hf hd
   · have hf' : b0 = false := hf
     subst hf'
     clear hf hd
     have W_kb := f_kb.out
     intro K hK
     rw [if_pos (by rfl)]
     go_simp
     exact hK.out _ _ ⟨true,b1,b2,b3,b4,b5,b6,b7,b8,b9,b10,b11,(.pointer (some ⟨g,3,none⟩)),x14,x15,x16,x17,x18,x19,x20,x21,x22,x23,gs,gq,cq,(by go_simp),(by go_simp),hb,(fun _ => rfl),cd1,cd2,cd3,cd4,cd5,cd6,cd7,cd8,cd9,cd10,f_g,f_lo,f_ls,f_lo2,f_s,f_o8,f_q4,f_q6,f_r6,f_kb⟩
   · have hf' : b1 = false := hf
     subst hf'
     clear hf hd
     have W_kb := f_kb.out
     intro K hK
     rw [if_pos (by rfl)]
     go_simp
     exact hK.out _ _ ⟨b0,true,b2,b3,b4,b5,b6,b7,b8,b9,b10,b11,x13,(.pointer (some ⟨g,3,none⟩)),x15,x16,x17,x18,x19,x20,x21,x22,x23,gs,gq,cq,(by go_simp),(by go_simp),hb,cd0,(fun _ => rfl),cd2,cd3,cd4,cd5,cd6,cd7,cd8,cd9,cd10,f_g,f_lo,f_ls,f_lo2,f_s,f_o8,f_q4,f_q6,f_r6,f_kb⟩
   · have hf' : b2 = false := hf
     subst hf'
     have d1 : b1 = true := hd ⟨1, .data⟩ (by simp) rfl
     subst d1
     obtain rfl := cd1.out rfl
     clear hf hd
     have W_kb := f_kb.out
     intro K hK
     rw [if_pos (by rfl)]
     go_simp
     exact hK.out _ _ ⟨b0,true,true,b3,b4,b5,b6,b7,b8,b9,b10,b11,x13,.pointer (some ⟨g,3,none⟩),(.pointer (some ⟨g,3,none⟩)),x16,x17,x18,x19,x20,x21,x22,x23,gs,gq,cq,(by go_simp),(by go_simp),hb,cd0,rf,rf,cd3,cd4,cd5,cd6,cd7,cd8,cd9,cd10,f_g,f_lo,f_ls,f_lo2,f_s,f_o8,f_q4,f_q6,f_r6,f_kb⟩
   · have hf' : b3 = false := hf
     subst hf'
     have d2 : b2 = true := hd ⟨2, .data⟩ (by simp) rfl
     subst d2
     obtain rfl := cd2.out rfl
     clear hf hd
     have W_kb := f_kb.out
     intro K hK
     rw [if_pos (by rfl)]
     go_simp
     exact hK.out _ _ ⟨b0,b1,true,true,b4,b5,b6,b7,b8,b9,b10,b11,x13,x14,.pointer (some ⟨g,3,none⟩),(.pointer (some ⟨g,5,none⟩)),x17,x18,x19,x20,x21,x22,x23,gs,gq,cq,(by go_simp),(by go_simp),hb,cd0,cd1,rf,rf,cd4,cd5,cd6,cd7,cd8,cd9,cd10,f_g,f_lo,f_ls,f_lo2,f_s,f_o8,f_q4,f_q6,f_r6,f_kb⟩
   · have hf' : b4 = false := hf
     subst hf'
     have d3 : b3 = true := hd ⟨3, .data⟩ (by simp) rfl
     subst d3
     obtain rfl := cd3.out rfl
     clear hf hd
     have W_kb := f_kb.out
     try simp only [setIfInBounds_toArray, set_cons_zero, set_cons_succ]
     have e_g : b11 = false := by cases hq : b11 with | false => rfl | true => exact absurd (f_q4.out hq) (by simp)
     have W_g := f_g.out e_g
     have z5 : w.cell? ⟨g, 5, none⟩ = some (.slice ba bn bc) := W_g.c rfl
     intro K hK
     rw [if_pos (by rfl)]
     go_simp
     exact hK.out _ _ ⟨b0,b1,b2,true,true,b5,b6,b7,b8,b9,b10,b11,x13,x14,x15,.pointer (some ⟨g,5,none⟩),(.slice ba bn bc),x18,x19,x20,x21,x22,x23,gs,gq,cq,(by go_simp),(by go_simp),hb,cd0,cd1,cd2,rf,rf,cd5,cd6,cd7,cd8,cd9,cd10,f_g,f_lo,f_ls,f_lo2,f_s,f_o8,rf,f_q6,f_r6,f_kb⟩
   · have hf' : b5 = false := hf
     subst hf'
     clear hf hd
     have W_kb := f_kb.out
     intro K hK
     rw [if_pos (by rfl)]
     go_simp
     exact hK.out _ _ ⟨b0,b1,b2,b3,b4,true,b6,b7,b8,b9,b10,b11,x13,x14,x15,x16,x17,(.pointer (some ⟨g,3,none⟩)),x19,x20,x21,x22,x23,gs,gq,cq,(by go_simp),(by go_simp),hb,cd0,cd1,cd2,cd3,cd4,(fun _ => rfl),cd6,cd7,cd8,cd9,cd10,f_g,f_lo,f_ls,f_lo2,f_s,f_o8,f_q4,f_q6,f_r6,f_kb⟩
   · have hf' : b6 = false := hf
     subst hf'
     have d5 : b5 = true := hd ⟨5, .data⟩ (by simp) rfl
     subst d5
     obtain rfl := cd5.out rfl
     clear hf hd
     have W_kb := f_kb.out
     try simp only [setIfInBounds_toArray, set_cons_zero, set_cons_succ]
     have e_g : b11 = false := by cases hq : b11 with | false => rfl | true => exact absurd (f_q6.out hq) (by simp)
     have W_g := f_g.out e_g
     have e_lo : b8 = false := by cases hq : b8 with | false => rfl | true => exact absurd (f_r6.out hq) (by simp)
     have W_lo := f_lo.out e_lo
     intro K hK
     rw [if_pos (by rfl)]
     go_simp
     go_at_call 85
     refine (HBl _ hb W_g W_lo).mono ?_
     rintro e w' ⟨rfl, bx⟩
     exact hK.out _ _ ⟨b0,b1,b2,b3,b4,true,true,b7,b8,b9,b10,b11,x13,x14,x15,x16,x17,.pointer (some ⟨g,3,none⟩),(.agg NB),x20,x21,x22,x23,gs,gq,cq,(by go_simp),(by go_simp),hb.trans (bx.mono (Nat.le_trans hB0 hb.size)),cd0,cd1,cd2,cd3,cd4,rf,rf,cd7,cd8,cd9,cd10,(fun h1 => (f_g.out h1).past bx),(fun h1 => (f_lo.out h1).past bx),(fun h0 h1 => (f_ls.out h0 h1).past bx),(fun h0 => (f_lo2.out h0).past bx),(fun h0 => (f_s.out h0).past bx),f_o8,f_q4,rf,rf,(f_kb.out.past bx)⟩
   · have hf' : b7 = false := hf
     subst hf'
     have d6 : b6 = true := hd ⟨6, .data⟩ (by simp) rfl
     subst d6
     obtain rfl := cd6.out rfl
     clear hf hd
     have W_kb := f_kb.out
     try simp only [setIfInBounds_toArray, set_cons_zero, set_cons_succ]
     intro K hK
     rw [if_pos (by rfl)]
     refine wp_buildSlice_one 26 64 _ rfl CL 66 (congrArg Value.agg HNB.out.symm) HC66.out (by omega) (by omega) Tryz.underlying26 blk_i fun w' h7 bx _ => ?_
     exact hK.out _ _ ⟨b0,b1,b2,b3,b4,b5,true,true,b8,b9,b10,b11,x13,x14,x15,x16,x17,x18,.agg NB,(.slice (some ⟨(w.heap.size),0,none⟩) 1 1),x21,x22,x23,w.heap.size,gq,cq,(by go_simp),(by go_simp),hb.trans (bx.mono (Nat.le_trans hB0 hb.size)),cd0,cd1,cd2,cd3,cd4,cd5,rf,rf,cd8,cd9,cd10,(fun h1 => (f_g.out h1).past bx),(fun h1 => (f_lo.out h1).past bx),(fun _ _ => blk_row h7 HCN.out),(fun h0 => (f_lo2.out h0).past bx),(fun h0 => (f_s.out h0).past bx),f_o8,f_q4,f_q6,f_r6,(f_kb.out.past bx)⟩
   · have hf' : b8 = false := hf
     subst hf'
     have d4 : b4 = true := hd ⟨4, .data⟩ (by simp) rfl
     subst d4
     have d7 : b7 = true := hd ⟨7, .data⟩ (by simp) rfl
     subst d7
     have d6 : b6 = true := hd ⟨6, .chain⟩ (by simp) rfl
     subst d6
     obtain rfl := cd4.out rfl
     obtain rfl := cd7.out rfl
     obtain rfl := cd6.out rfl
     clear hf hd
     have W_lo := f_lo.out rfl
     have W_ls := f_ls.out rfl rfl
     have W_kb := f_kb.out
     try simp only [setIfInBounds_toArray, set_cons_zero, set_cons_succ]
     intro K hK
     rw [if_pos (by rfl)]
     refine wp_append_r (E := EBk) _ _ 26 26 rfl rowTyBk rfl W_lo.rowB (Nat.le_trans hBw hb.size) _ rfl 1 [nb] (W_ls.src Tryz.underlying26) rfl (by omega) (bn + 1) rfl (M.bl ++ [nb]) rfl (by omega) fun q9 r9 w2 o8 g8 f8 k8 => ?_
     have hb2 := hb.trans (k8.mono (Nat.le_of_lt hgB))
     exact hK.out _ _ ⟨b0,b1,b2,b3,true,b5,true,true,true,b9,b10,b11,x13,x14,x15,x16,.slice ba bn bc,x18,.agg NB,.slice (some ⟨gs,0,none⟩) 1 1,(.slice (some ⟨q9,0,none⟩) (bn + 1) r9),x22,x23,gs,q9,r9,(by go_simp),(by go_simp),hb2,cd0,cd1,cd2,cd3,rf,cd5,rf,rf,rf,cd9,cd10,(fun h1 => Bk.past9 (f_g.out h1) k8 hgB),nf2,(fun _ h => by cases h),(fun _ => W_lo.appB (Nat.le_trans hBw hb.size) o8 g8 f8),(fun h0 => absurd (f_o8.out h0) (by simp)),rf,f_q4,f_q6,rf,((f_kb.out).row g8 W_lo.neB)⟩
   · have hf' : b9 = false := hf
     subst hf'
     have d0 : b0 = true := hd ⟨0, .data⟩ (by simp) rfl
     subst d0
     have d1 : b1 = true := hd ⟨1, .phase⟩ (by simp) rfl
     subst d1
     have d2 : b2 = true := hd ⟨2, .phase⟩ (by simp) rfl
     subst d2
     have d3 : b3 = true := hd ⟨3, .phase⟩ (by simp) rfl
     subst d3
     have d4 : b4 = true := hd ⟨4, .phase⟩ (by simp) rfl
     subst d4
     have d5 : b5 = true := hd ⟨5, .phase⟩ (by simp) rfl
     subst d5
     have d6 : b6 = true := hd ⟨6, .phase⟩ (by simp) rfl
     subst d6
     have d7 : b7 = true := hd ⟨7, .phase⟩ (by simp) rfl
     subst d7
     have d8 : b8 = true := hd ⟨8, .phase⟩ (by simp) rfl
     subst d8
     obtain rfl := cd0.out rfl
     obtain rfl := cd1.out rfl
     obtain rfl := cd2.out rfl
     obtain rfl := cd3.out rfl
     obtain rfl := cd4.out rfl
     obtain rfl := cd5.out rfl
     obtain rfl := cd6.out rfl
     obtain rfl := cd7.out rfl
     obtain rfl := cd8.out rfl
     clear hf hd
     have W_lo2 := f_lo2.out rfl
     have W_r6 := f_r6.out rfl
     have W_kb := f_kb.out
     intro K hK
     rw [if_pos (by rfl)]
     go_simp
     exact hK.out _ _ ⟨true,true,true,true,true,true,true,true,true,true,b10,b11,.pointer (some ⟨g,3,none⟩),.pointer (some ⟨g,3,none⟩),.pointer (some ⟨g,3,none⟩),.pointer (some ⟨g,5,none⟩),.slice ba bn bc,.pointer (some ⟨g,3,none⟩),.agg NB,.slice (some ⟨gs,0,none⟩) 1 1,.slice (some ⟨gq,0,none⟩) (bn + 1) cq,(.pointer (some ⟨g,3,none⟩)),x23,gs,gq,cq,(by go_simp),(by go_simp),hb,rf,rf,rf,rf,rf,rf,rf,rf,rf,rf,cd10,f_g,nf2,(fun _ h => by cases h),f_lo2,f_s,f_o8,f_q4,f_q6,f_r6,f_kb⟩
   · have hf' : b10 = false := hf
     subst hf'
     have d9 : b9 = true := hd ⟨9, .data⟩ (by simp) rfl
     subst d9
     have d0 : b0 = true := hd ⟨0, .phase⟩ (by simp) rfl
     subst d0
     have d1 : b1 = true := hd ⟨1, .phase⟩ (by simp) rfl
     subst d1
     have d2 : b2 = true := hd ⟨2, .phase⟩ (by simp) rfl
     subst d2
     have d3 : b3 = true := hd ⟨3, .phase⟩ (by simp) rfl
     subst d3
     have d4 : b4 = true := hd ⟨4, .phase⟩ (by simp) rfl
     subst d4
     have d5 : b5 = true := hd ⟨5, .phase⟩ (by simp) rfl
     subst d5
     have d6 : b6 = true := hd ⟨6, .phase⟩ (by simp) rfl
     subst d6
     have d7 : b7 = true := hd ⟨7, .phase⟩ (by simp) rfl
     subst d7
     have d8 : b8 = true := hd ⟨8, .phase⟩ (by simp) rfl
     subst d8
     obtain rfl := cd9.out rfl
     obtain rfl := cd0.out rfl
     obtain rfl := cd1.out rfl
     obtain rfl := cd2.out rfl
     obtain rfl := cd3.out rfl
     obtain rfl := cd4.out rfl
     obtain rfl := cd5.out rfl
     obtain rfl := cd6.out rfl
     obtain rfl := cd7.out rfl
     obtain rfl := cd8.out rfl
     clear hf hd
     have W_lo2 := f_lo2.out rfl
     have W_r6 := f_r6.out rfl
     have W_kb := f_kb.out
     intro K hK
     rw [if_pos (by rfl)]
     go_simp
     exact hK.out _ _ ⟨true,true,true,true,true,true,true,true,true,true,true,b11,.pointer (some ⟨g,3,none⟩),.pointer (some ⟨g,3,none⟩),.pointer (some ⟨g,3,none⟩),.pointer (some ⟨g,5,none⟩),.slice ba bn bc,.pointer (some ⟨g,3,none⟩),.agg NB,.slice (some ⟨gs,0,none⟩) 1 1,.slice (some ⟨gq,0,none⟩) (bn + 1) cq,.pointer (some ⟨g,3,none⟩),(.pointer (some ⟨g,5,none⟩)),gs,gq,cq,(by go_simp),(by go_simp),hb,rf,rf,rf,rf,rf,rf,rf,rf,rf,rf,rf,f_g,nf2,(fun _ h => by cases h),f_lo2,f_s,f_o8,f_q4,f_q6,f_r6,f_kb⟩
   · have hf' : b11 = false := hf
     subst hf'
     have d10 : b10 = true := hd ⟨10, .data⟩ (by simp) rfl
     subst d10
     have d8 : b8 = true := hd ⟨8, .data⟩ (by simp) rfl
     subst d8
     have d0 : b0 = true := hd ⟨0, .phase⟩ (by simp) rfl
     subst d0
     have d1 : b1 = true := hd ⟨1, .phase⟩ (by simp) rfl
     subst d1
     have d2 : b2 = true := hd ⟨2, .phase⟩ (by simp) rfl
     subst d2
     have d3 : b3 = true := hd ⟨3, .phase⟩ (by simp) rfl
     subst d3
     have d4 : b4 = true := hd ⟨4, .phase⟩ (by simp) rfl
     subst d4
     have d5 : b5 = true := hd ⟨5, .phase⟩ (by simp) rfl
     subst d5
     have d6 : b6 = true := hd ⟨6, .phase⟩ (by simp) rfl
     subst d6
     have d7 : b7 = true := hd ⟨7, .phase⟩ (by simp) rfl
     subst d7
     obtain rfl := cd10.out rfl
     obtain rfl := cd8.out rfl
     obtain rfl := cd0.out rfl
     obtain rfl := cd1.out rfl
     obtain rfl := cd2.out rfl
     obtain rfl := cd3.out rfl
     obtain rfl := cd4.out rfl
     obtain rfl := cd5.out rfl
     obtain rfl := cd6.out rfl
     obtain rfl := cd7.out rfl
     clear hf hd
     have W_g := f_g.out rfl
     have W_lo2 := f_lo2.out rfl
     have W_r6 := f_r6.out rfl
     have W_kb := f_kb.out
     try simp only [setIfInBounds_toArray, set_cons_zero, set_cons_succ]
     have z5 : w.cell? ⟨g, 5, none⟩ = some (.slice ba bn bc) := W_g.c rfl
     have fz := free_blk (i := 5) W_g
     intro K hK
     rw [if_pos (by rfl)]
     go_simp
     have g9 := grown_cell (grown_self w g) 5 (.slice (some ⟨gq, 0, none⟩) (bn + 1) cq)
     have hb2 := hb.grown g9 (Nat.le_trans hB0 hb.size) (fun z hz => by cases hz; exact Nat.le_refl _)
     exact hK.out _ _ ⟨true,true,true,true,true,true,true,true,true,b9,true,true,.pointer (some ⟨g,3,none⟩),.pointer (some ⟨g,3,none⟩),.pointer (some ⟨g,3,none⟩),.pointer (some ⟨g,5,none⟩),.slice ba bn bc,.pointer (some ⟨g,3,none⟩),.agg NB,.slice (some ⟨gs,0,none⟩) 1 1,.slice (some ⟨gq,0,none⟩) (bn + 1) cq,x22,.pointer (some ⟨g,5,none⟩),gs,gq,cq,(by go_simp),(by go_simp),hb2,rf,rf,rf,rf,rf,rf,rf,rf,rf,cd9,rf,nf2,nf2,(fun _ h => by cases h),(fun h0 => ((f_lo2.out h0)).grown g9 hgB),(fun _ => df_set W_g 5 _ rfl),rf,rf,rf,f_r6,((f_kb.out).grown g9)⟩
 · rintro act V4 ⟨b0,b1,b2,b3,b4,b5,b6,b7,b8,b9,b10,b11,x13,x14,x15,x16,x17,x18,x19,x20,x21,x22,x23,gs,gq,cq,hL,rfl,hb,cd0,cd1,cd2,cd3,cd4,cd5,cd6,cd7,cd8,cd9,cd10,f_g,f_lo,f_ls,f_lo2,f_s,f_o8,f_q4,f_q6,f_r6,f_kb⟩
   have hL' : [true, true, true, true, true, true, true, true, true, true, true, true] = [b0, b1, b2, b3, b4, b5, b6, b7, b8, b9, b10, b11] := congrArg Array.toList hL
   simp only [List.cons.injEq, and_true] at hL'
   obtain ⟨rfl, rfl, rfl, rfl, rfl, rfl, rfl, rfl, rfl, rfl, rfl, rfl⟩ := hL'
   obtain rfl := cd0.out rfl
   obtain rfl := cd1.out rfl
   obtain rfl := cd2.out rfl
   obtain rfl := cd3.out rfl
   obtain rfl := cd4.out rfl
   obtain rfl := cd5.out rfl
   obtain rfl := cd6.out rfl
   obtain rfl := cd7.out rfl
   obtain rfl := cd8.out rfl
   obtain rfl := cd9.out rfl
   obtain rfl := cd10.out rfl
   have W_lo2 := f_lo2.out rfl
   have W_s := f_s.out rfl
   have W_o8 := f_o8.out rfl
   have W_q4 := f_q4.out rfl
   have W_q6 := f_q6.out rfl
   have W_r6 := f_r6.out rfl
   have W_kb := f_kb.out
   clear hL f_g f_lo f_ls f_lo2 f_s f_o8 f_q4 f_q6 f_r6 f_kb cd0 cd1 cd2 cd3 cd4 cd5 cd6 cd7 cd8 cd9 cd10
   simp only [setIfInBounds_toArray, set_cons_zero, set_cons_succ]
   have BV : Below g w1 V4 := (Below.refl _ _).drew.trans hb
   have hX2 : Bk V4 g (dfC 1 0 next oa on oc (some ⟨gq, 0, none⟩) (bn + 1) cq ta tn tc) 115 := W_s
   have hLo2 : LgX V4 B9 t oa on oc (some ⟨gq, 0, none⟩) (bn + 1) cq ta tn tc ⟨M.next, M.op, M.bl ++ [nb], M.ts⟩ := W_lo2
   have B4 := b1.trans BV
   have hK4 : SameB B9 t g w1 V4 := W_kb
   have hBV : B9 ≤ V4.heap.size := Nat.le_trans hBw BV.size
   clear hb W_kb W_s W_lo2 W_o8 W_q4 W_q6 W_r6 BV HBl hX hLo b1 hBw hB0
   generalize V4 = w2 at hX2 hLo2 B4 hBV hK4 ⊢
   have hB0 : g ≤ w2.heap.size := by omega
   obtain ⟨ba4, hba4⟩ : ∃ z, (some ⟨gq, 0, none⟩ : Option Addr) = z := ⟨_, rfl⟩
   obtain ⟨bn4, hbn4⟩ : ∃ z, bn + 1 = z := ⟨_, rfl⟩
   obtain ⟨M4, hM4⟩ : ∃ z, (⟨M.next, M.op, M.bl ++ [nb], M.ts⟩ : Lgr) = z := ⟨_, rfl⟩
   rw [hba4, hbn4] at hX2 hLo2
   rw [hM4] at hLo2
   simp only [hba4, hbn4]
   have HM4 := Lib.hid hM4
   clear hba4 hbn4 hM4
   go_upto_region 5 with fail
   refine region_inv (LCls5 t w1 g g B9 next oa on oc ba4 bn4 cq ta tn tc M4) (by kernel_rfl) (by kernel_rfl) ?_ ?_ ?_
   · exact ⟨false,false,false,false,false,false,false,false,false,false,false,false,false,false,undef,undef,undef,undef,undef,undef,undef,undef,undef,undef,undef,undef,undef,0,0,0,rfl,(by go_simp),Below.refl _ _,nf2,nf2,nf2,nf2,nf2,nf2,nf2,nf2,nf2,nf2,nf2,nf2,nf2,(fun h1 => hX2.past (Below.refl _ _).drew),(fun h1 => hLo2.past (Below.refl _ _).drew),nf2,nf2,nf2,nf2,nf2,nf2,(hK4.past (Below.refl _ _).drew)⟩
   · refine ⟨?_, ?_, ?_, ?_, ?_, ?_, ?_, ?_, ?_, ?_, ?_, ?_, ?_, ?_, trivial⟩
     all_goals rintro L a w ⟨b0,b1,b2,b3,b4,b5,b6,b7,b8,b9,b10,b11,b12,b13,x24,x25,x26,x27,x28,x29,x30,x31,x32,x33,x34,x35,x36,gs,gt,ct,rfl,rfl,hb,cd0,cd1,cd2,cd3,cd4,cd5,cd6,cd7,cd8,cd9,cd10,cd11,cd12,f_g,f_lo,f_ls,f_lo2,f_s,f_o8,f_q4,f_q8,f_kb⟩ hf hd
     · have hf' : b0 = false := hf
       subst hf'
       clear hf hd
       have W_kb := f_kb.out
       intro K hK
       rw [if_pos (by rfl)]
       go_simp
       exact hK.out _ _ ⟨true,b1,b2,b3,b4,b5,b6,b7,b8,b9,b10,b11,b12,b13,(.pointer (some ⟨g,3,none⟩)),x25,x26,x27,x28,x29,x30,x31,x32,x33,x34,x35,x36,gs,gt,ct,(by go_simp),(by go_simp),hb,(fun _ => rfl),cd1,cd2,cd3,cd4,cd5,cd6,cd7,cd8,cd9,cd10,cd11,cd12,f_g,f_lo,f_ls,f_lo2,f_s,f_o8,f_q4,f_q8,f_kb⟩
     · have hf' : b1 = false := hf
       subst hf'
       clear hf hd
       have W_kb := f_kb.out
       intro K hK
       rw [if_pos (by rfl)]
       go_simp
       exact hK.out _ _ ⟨b0,true,b2,b3,b4,b5,b6,b7,b8,b9,b10,b11,b12,b13,x24,(.pointer (some ⟨g,3,none⟩)),x26,x27,x28,x29,x30,x31,x32,x33,x34,x35,x36,gs,gt,ct,(by go_simp),(by go_simp),hb,cd0,(fun _ => rfl),cd2,cd3,cd4,cd5,cd6,cd7,cd8,cd9,cd10,cd11,cd12,f_g,f_lo,f_ls,f_lo2,f_s,f_o8,f_q4,f_q8,f_kb⟩
     · have hf' : b2 = false := hf
       subst hf'
       have d1 : b1 = true := hd ⟨1, .data⟩ (by simp) rfl
       subst d1
       obtain rfl := cd1.out rfl
       clear hf hd
       have W_kb := f_kb.out
       intro K hK
       rw [if_pos (by rfl)]
       go_simp
       exact hK.out _ _ ⟨b0,true,true,b3,b4,b5,b6,b7,b8,b9,b10,b11,b12,b13,x24,.pointer (some ⟨g,3,none⟩),(.pointer (some ⟨g,3,none⟩)),x27,x28,x29,x30,x31,x32,x33,x34,x35,x36,gs,gt,ct,(by go_simp),(by go_simp),hb,cd0,rf,rf,cd3,cd4,cd5,cd6,cd7,cd8,cd9,cd10,cd11,cd12,f_g,f_lo,f_ls,f_lo2,f_s,f_o8,f_q4,f_q8,f_kb⟩
     · have hf' : b3 = false := hf
       subst hf'
       have d2 : b2 = true := hd ⟨2, .data⟩ (by simp) rfl
       subst d2
       obtain rfl := cd2.out rfl
       clear hf hd
       have W_kb := f_kb.out
       intro K hK
       rw [if_pos (by rfl)]
       go_simp
       exact hK.out _ _ ⟨b0,b1,true,true,b4,b5,b6,b7,b8,b9,b10,b11,b12,b13,x24,x25,.pointer (some ⟨g,3,none⟩),(.pointer (some ⟨g,6,none⟩)),x28,x29,x30,x31,x32,x33,x34,x35,x36,gs,gt,ct,(by go_simp),(by go_simp),hb,cd0,cd1,rf,rf,cd4,cd5,cd6,cd7,cd8,cd9,cd10,cd11,cd12,f_g,f_lo,f_ls,f_lo2,f_s,f_o8,f_q4,f_q8,f_kb⟩
     · have hf' : b4 = false := hf
       subst hf'
       have d3 : b3 = true := hd ⟨3, .data⟩ (by simp) rfl
       subst d3
       obtain rfl := cd3.out rfl
       clear hf hd
       have W_kb := f_kb.out
       try simp only [setIfInBounds_toArray, set_cons_zero, set_cons_succ]
       have e_g : b13 = false := by cases hq : b13 with | false => rfl | true => exact absurd (f_q4.out hq) (by simp)
       have W_g := f_g.out e_g
       have z6 : w.cell? ⟨g, 6, none⟩ = some (.slice ta tn tc) := W_g.c rfl
       intro K hK
       rw [if_pos (by rfl)]
       go_simp
       exact hK.out _ _ ⟨b0,b1,b2,true,true,b5,b6,b7,b8,b9,b10,b11,b12,b13,x24,x25,x26,.pointer (some ⟨g,6,none⟩),(.slice ta tn tc),x29,x30,x31,x32,x33,x34,x35,x36,gs,gt,ct,(by go_simp),(by go_simp),hb,cd0,cd1,cd2,rf,rf,cd5,cd6,cd7,cd8,cd9,cd10,cd11,cd12,f_g,f_lo,f_ls,f_lo2,f_s,f_o8,rf,f_q8,f_kb⟩
     · have hf' : b5 = false := hf
       subst hf'
       clear hf hd
       have W_kb := f_kb.out
       intro K hK
       rw [if_pos (by rfl)]
       go_simp
       exact hK.out _ _ ⟨b0,b1,b2,b3,b4,true,b6,b7,b8,b9,b10,b11,b12,b13,x24,x25,x26,x27,x28,(.pointer (some ⟨g,3,none⟩)),x30,x31,x32,x33,x34,x35,x36,gs,gt,ct,(by go_simp),(by go_simp),hb,cd0,cd1,cd2,cd3,cd4,(fun _ => rfl),cd6,cd7,cd8,cd9,cd10,cd11,cd12,f_g,f_lo,f_ls,f_lo2,f_s,f_o8,f_q4,f_q8,f_kb⟩
     · have hf' : b6 = false := hf
       subst hf'
       have d5 : b5 = true := hd ⟨5, .data⟩ (by simp) rfl
       subst d5
       obtain rfl := cd5.out rfl
       clear hf hd
       have W_kb := f_kb.out
       intro K hK
       rw [if_pos (by rfl)]
       go_simp
       exact hK.out _ _ ⟨b0,b1,b2,b3,b4,true,true,b7,b8,b9,b10,b11,b12,b13,x24,x25,x26,x27,x28,.pointer (some ⟨g,3,none⟩),(.pointer (some ⟨g,3,none⟩)),x31,x32,x33,x34,x35,x36,gs,gt,ct,(by go_simp),(by go_simp),hb,cd0,cd1,cd2,cd3,cd4,rf,rf,cd7,cd8,cd9,cd10,cd11,cd12,f_g,f_lo,f_ls,f_lo2,f_s,f_o8,f_q4,f_q8,f_kb⟩
     · have hf' : b7 = false := hf
       subst hf'
       have d6 : b6 = true := hd ⟨6, .data⟩ (by simp) rfl
       subst d6
       obtain rfl := cd6.out rfl
       clear hf hd
       have W_kb := f_kb.out
       intro K hK
       rw [if_pos (by rfl)]
       go_simp
       exact hK.out _ _ ⟨b0,b1,b2,b3,b4,b5,true,true,b8,b9,b10,b11,b12,b13,x24,x25,x26,x27,x28,x29,.pointer (some ⟨g,3,none⟩),(.pointer (some ⟨g,4,none⟩)),x32,x33,x34,x35,x36,gs,gt,ct,(by go_simp),(by go_simp),hb,cd0,cd1,cd2,cd3,cd4,cd5,rf,rf,cd8,cd9,cd10,cd11,cd12,f_g,f_lo,f_ls,f_lo2,f_s,f_o8,f_q4,f_q8,f_kb⟩
     · have hf' : b8 = false := hf
       subst hf'
       have d7 : b7 = true := hd ⟨7, .data⟩ (by simp) rfl
       subst d7
       obtain rfl := cd7.out rfl
       clear hf hd
       have W_kb := f_kb.out
       try simp only [setIfInBounds_toArray, set_cons_zero, set_cons_succ]
       have e_g : b13 = false := by cases hq : b13 with | false => rfl | true => exact absurd (f_q8.out hq) (by simp)
       have W_g := f_g.out e_g
       have z4 : w.cell? ⟨g, 4, none⟩ = some (.slice oa on oc) := W_g.c rfl
       intro K hK
       rw [if_pos (by rfl)]
       go_simp
       exact hK.out _ _ ⟨b0,b1,b2,b3,b4,b5,b6,true,true,b9,b10,b11,b12,b13,x24,x25,x26,x27,x28,x29,x30,.pointer (some ⟨g,4,none⟩),(.slice oa on oc),x33,x34,x35,x36,gs,gt,ct,(by go_simp),(by go_simp),hb,cd0,cd1,cd2,cd3,cd4,cd5,cd6,rf,rf,cd9,cd10,cd11,cd12,f_g,f_lo,f_ls,f_lo2,f_s,f_o8,f_q4,rf,f_kb⟩
     · have hf' : b9 = false := hf
       subst hf'
       have d8 : b8 = true := hd ⟨8, .data⟩ (by simp) rfl
       subst d8
       obtain rfl := cd8.out rfl
       clear hf hd
       have W_kb := f_kb.out
       intro K hK
       rw [if_pos (by rfl)]
       go_simp
       have bx : Below w.heap.size w (w.alloc (.cells #[.slice oa on oc] 25)) := (Below.refl _ _).alloc (Nat.le_refl _) _
       exact hK.out _ _ ⟨b0,b1,b2,b3,b4,b5,b6,b7,true,true,b10,b11,b12,b13,x24,x25,x26,x27,x28,x29,x30,x31,.slice oa on oc,(.slice (some ⟨(w.heap.size),0,none⟩) 1 1),x34,x35,x36,w.heap.size,gt,ct,(by go_simp),(by go_simp),hb.trans (bx.mono (Nat.le_trans hB0 hb.size)),cd0,cd1,cd2,cd3,cd4,cd5,cd6,cd7,rf,rf,cd10,cd11,cd12,(fun h1 => (f_g.out h1).past bx),(fun h1 => (f_lo.out h1).past bx),(fun _ _ => hd_one w _ ⟨oa,on,oc⟩),(fun h0 => (f_lo2.out h0).past bx),(fun h0 => (f_s.out h0).past bx),f_o8,f_q4,f_q8,(f_kb.out.past bx)⟩
     · have hf' : b10 = false := hf
       subst hf'
       have d4 : b4 = true := hd ⟨4, .data⟩ (by simp) rfl
       subst d4
       have d9 : b9 = true := hd ⟨9, .data⟩ (by simp) rfl
       subst d9
       obtain rfl := cd4.out rfl
       obtain rfl := cd9.out rfl
       clear hf hd
       have W_lo := f_lo.out rfl
       have W_ls := f_ls.out rfl rfl
       have W_kb := f_kb.out
       try simp only [setIfInBounds_toArray, set_cons_zero, set_cons_succ]
       obtain ⟨bt9, hbt9, happ9⟩ := W_lo.appT (Nat.le_trans hBV hb.size)
       intro K hK
       rw [if_pos (by rfl)]
       refine wp_append_r (E := EH) _ _ 27 27 rfl rowTyTxs rfl hbt9 (Nat.le_trans hBV hb.size) _ rfl 1 [⟨oa,on,oc⟩] (W_ls.src Tryz.underlying27) rfl (by omega) (tn + 1) rfl (bt9 ++ [⟨oa,on,oc⟩]) rfl (by omega) fun q9 r9 w2 o8 g8 f8 k8 => ?_
       have hb2 := hb.trans (k8.mono (Nat.le_of_lt hgB))
       exact hK.out _ _ ⟨b0,b1,b2,b3,true,b5,b6,b7,b8,true,true,b11,b12,b13,x24,x25,x26,x27,.slice ta tn tc,x29,x30,x31,x32,.slice (some ⟨gs,0,none⟩) 1 1,(.slice (some ⟨q9,0,none⟩) (tn + 1) r9),x35,x36,gs,q9,r9,(by go_simp),(by go_simp),hb2,cd0,cd1,cd2,cd3,rf,cd5,cd6,cd7,cd8,rf,rf,cd11,cd12,(fun h1 => Bk.past9 (f_g.out h1) k8 hgB),nf2,(fun _ h => by cases h),(fun _ => happ9 _ _ _ o8 g8 f8),(fun h0 => absurd (f_o8.out h0) (by simp)),rf,f_q4,f_q8,((f_kb.out).row g8 W_lo.neT)⟩
     · have hf' : b11 = false := hf
       subst hf'
       have d0 : b0 = true := hd ⟨0, .data⟩ (by simp) rfl
       subst d0
       have d1 : b1 = true := hd ⟨1, .phase⟩ (by simp) rfl
       subst d1
       have d2 : b2 = true := hd ⟨2, .phase⟩ (by simp) rfl
       subst d2
       have d3 : b3 = true := hd ⟨3, .phase⟩ (by simp) rfl
       subst d3
       have d4 : b4 = true := hd ⟨4, .phase⟩ (by simp) rfl
       subst d4
       have d5 : b5 = true := hd ⟨5, .phase⟩ (by simp) rfl
       subst d5
       have d6 : b6 = true := hd ⟨6, .phase⟩ (by simp) rfl
       subst d6
       have d7 : b7 = true := hd ⟨7, .phase⟩ (by simp) rfl
       subst d7
       have d8 : b8 = true := hd ⟨8, .phase⟩ (by simp) rfl
       subst d8
       have d9 : b9 = true := hd ⟨9, .phase⟩ (by simp) rfl
       subst d9
       have d10 : b10 = true := hd ⟨10, .phase⟩ (by simp) rfl
       subst d10
       obtain rfl := cd0.out rfl
       obtain rfl := cd1.out rfl
       obtain rfl := cd2.out rfl
       obtain rfl := cd3.out rfl
       obtain rfl := cd4.out rfl
       obtain rfl := cd5.out rfl
       obtain rfl := cd6.out rfl
       obtain rfl := cd7.out rfl
       obtain rfl := cd8.out rfl
       obtain rfl := cd9.out rfl
       obtain rfl := cd10.out rfl
       clear hf hd
       have W_lo2 := f_lo2.out rfl
       have W_kb := f_kb.out
       intro K hK
       rw [if_pos (by rfl)]
       go_simp
       exact hK.out _ _ ⟨true,true,true,true,true,true,true,true,true,true,true,true,b12,b13,.pointer (some ⟨g,3,none⟩),.pointer (some ⟨g,3,none⟩),.pointer (some ⟨g,3,none⟩),.pointer (some ⟨g,6,none⟩),.slice ta tn tc,.pointer (some ⟨g,3,none⟩),.pointer (some ⟨g,3,none⟩),.pointer (some ⟨g,4,none⟩),.slice oa on oc,.slice (some ⟨gs,0,none⟩) 1 1,.slice (some ⟨gt,0,none⟩) (tn + 1) ct,(.pointer (some ⟨g,3,none⟩)),x36,gs,gt,ct,(by go_simp),(by go_simp),hb,rf,rf,rf,rf,rf,rf,rf,rf,rf,rf,rf,rf,cd12,f_g,nf2,(fun _ h => by cases h),f_lo2,f_s,f_o8,f_q4,f_q8,f_kb⟩
     · have hf' : b12 = false := hf
       subst hf'
       have d11 : b11 = true := hd ⟨11, .data⟩ (by simp) rfl
       subst d11
       have d0 : b0 = true := hd ⟨0, .phase⟩ (by simp) rfl
       subst d0
       have d1 : b1 = true := hd ⟨1, .phase⟩ (by simp) rfl
       subst d1
       have d2 : b2 = true := hd ⟨2, .phase⟩ (by simp) rfl
       subst d2
       have d3 : b3 = true := hd ⟨3, .phase⟩ (by simp) rfl
       subst d3
       have d4 : b4 = true := hd ⟨4, .phase⟩ (by simp) rfl
       subst d4
       have d5 : b5 = true := hd ⟨5, .phase⟩ (by simp) rfl
       subst d5
       have d6 : b6 = true := hd ⟨6, .phase⟩ (by simp) rfl
       subst d6
       have d7 : b7 = true := hd ⟨7, .phase⟩ (by simp) rfl
       subst d7
       have d8 : b8 = true := hd ⟨8, .phase⟩ (by simp) rfl
       subst d8
       have d9 : b9 = true := hd ⟨9, .phase⟩ (by simp) rfl
       subst d9
       have d10 : b10 = true := hd ⟨10, .phase⟩ (by simp) rfl
       subst d10
       obtain rfl := cd11.out rfl
       obtain rfl := cd0.out rfl
       obtain rfl := cd1.out rfl
       obtain rfl := cd2.out rfl
       obtain rfl := cd3.out rfl
       obtain rfl := cd4.out rfl
       obtain rfl := cd5.out rfl
       obtain rfl := cd6.out rfl
       obtain rfl := cd7.out rfl
       obtain rfl := cd8.out rfl
       obtain rfl := cd9.out rfl
       obtain rfl := cd10.out rfl
       clear hf hd
       have W_lo2 := f_lo2.out rfl
       have W_kb := f_kb.out
       intro K hK
       rw [if_pos (by rfl)]
       go_simp
       exact hK.out _ _ ⟨true,true,true,true,true,true,true,true,true,true,true,true,true,b13,.pointer (some ⟨g,3,none⟩),.pointer (some ⟨g,3,none⟩),.pointer (some ⟨g,3,none⟩),.pointer (some ⟨g,6,none⟩),.slice ta tn tc,.pointer (some ⟨g,3,none⟩),.pointer (some ⟨g,3,none⟩),.pointer (some ⟨g,4,none⟩),.slice oa on oc,.slice (some ⟨gs,0,none⟩) 1 1,.slice (some ⟨gt,0,none⟩) (tn + 1) ct,.pointer (some ⟨g,3,none⟩),(.pointer (some ⟨g,6,none⟩)),gs,gt,ct,(by go_simp),(by go_simp),hb,rf,rf,rf,rf,rf,rf,rf,rf,rf,rf,rf,rf,rf,f_g,nf2,(fun _ h => by cases h),f_lo2,f_s,f_o8,f_q4,f_q8,f_kb⟩
     · have hf' : b13 = false := hf
       subst hf'
       have d12 : b12 = true := hd ⟨12, .data⟩ (by simp) rfl
       subst d12
       have d10 : b10 = true := hd ⟨10, .data⟩ (by simp) rfl
       subst d10
       have d0 : b0 = true := hd ⟨0, .phase⟩ (by simp) rfl
       subst d0
       have d1 : b1 = true := hd ⟨1, .phase⟩ (by simp) rfl
       subst d1
       have d2 : b2 = true := hd ⟨2, .phase⟩ (by simp) rfl
       subst d2
       have d3 : b3 = true := hd ⟨3, .phase⟩ (by simp) rfl
       subst d3
       have d4 : b4 = true := hd ⟨4, .phase⟩ (by simp) rfl
       subst d4
       have d5 : b5 = true := hd ⟨5, .phase⟩ (by simp) rfl
       subst d5
       have d6 : b6 = true := hd ⟨6, .phase⟩ (by simp) rfl
       subst d6
       have d7 : b7 = true := hd ⟨7, .phase⟩ (by simp) rfl
       subst d7
       have d8 : b8 = true := hd ⟨8, .phase⟩ (by simp) rfl
       subst d8
       have d9 : b9 = true := hd ⟨9, .phase⟩ (by simp) rfl
       subst d9
       obtain rfl := cd12.out rfl
       obtain rfl := cd10.out rfl
       obtain rfl := cd0.out rfl
       obtain rfl := cd1.out rfl
       obtain rfl := cd2.out rfl
       obtain rfl := cd3.out rfl
       obtain rfl := cd4.out rfl
       obtain rfl := cd5.out rfl
       obtain rfl := cd6.out rfl
       obtain rfl := cd7.out rfl
       obtain rfl := cd8.out rfl
       obtain rfl := cd9.out rfl
       clear hf hd
       have W_g := f_g.out rfl
       have W_lo2 := f_lo2.out rfl
       have W_kb := f_kb.out
       try simp only [setIfInBounds_toArray, set_cons_zero, set_cons_succ]
       have z6 : w.cell? ⟨g, 6, none⟩ = some (.slice ta tn tc) := W_g.c rfl
       have fz := free_blk (i := 6) W_g
       intro K hK
       rw [if_pos (by rfl)]
       go_simp
       have g9 := grown_cell (grown_self w g) 6 (.slice (some ⟨gt, 0, none⟩) (tn + 1) ct)
       have hb2 := hb.grown g9 (Nat.le_trans hB0 hb.size) (fun z hz => by cases hz; exact Nat.le_refl _)
       exact hK.out _ _ ⟨true,true,true,true,true,true,true,true,true,true,true,b11,true,true,.pointer (some ⟨g,3,none⟩),.pointer (some ⟨g,3,none⟩),.pointer (some ⟨g,3,none⟩),.pointer (some ⟨g,6,none⟩),.slice ta tn tc,.pointer (some ⟨g,3,none⟩),.pointer (some ⟨g,3,none⟩),.pointer (some ⟨g,4,none⟩),.slice oa on oc,.slice (some ⟨gs,0,none⟩) 1 1,.slice (some ⟨gt,0,none⟩) (tn + 1) ct,x35,.pointer (some ⟨g,6,none⟩),gs,gt,ct,(by go_simp),(by go_simp),hb2,rf,rf,rf,rf,rf,rf,rf,rf,rf,rf,rf,cd11,rf,nf2,nf2,(fun _ h => by cases h),(fun h0 => ((f_lo2.out h0)).grown g9 hgB),(fun _ => df_set W_g 6 _ rfl),rf,rf,rf,((f_kb.out).grown g9)⟩
   · rintro act V5 ⟨b0,b1,b2,b3,b4,b5,b6,b7,b8,b9,b10,b11,b12,b13,x24,x25,x26,x27,x28,x29,x30,x31,x32,x33,x34,x35,x36,gs,gt,ct,hL,rfl,hb,cd0,cd1,cd2,cd3,cd4,cd5,cd6,cd7,cd8,cd9,cd10,cd11,cd12,f_g,f_lo,f_ls,f_lo2,f_s,f_o8,f_q4,f_q8,f_kb⟩
     have hL' : [true, true, true, true, true, true, true, true, true, true, true, true, true, true] = [b0, b1, b2, b3, b4, b5, b6, b7, b8, b9, b10, b11, b12, b13] := congrArg Array.toList hL
     simp only [List.cons.injEq, and_true] at hL'
     obtain ⟨rfl, rfl, rfl, rfl, rfl, rfl, rfl, rfl, rfl, rfl, rfl, rfl, rfl, rfl⟩ := hL'
     obtain rfl := cd0.out rfl
     obtain rfl := cd1.out rfl
     obtain rfl := cd2.out rfl
     obtain rfl := cd3.out rfl
     obtain rfl := cd4.out rfl
     obtain rfl := cd5.out rfl
     obtain rfl := cd6.out rfl
     obtain rfl := cd7.out rfl
     obtain rfl := cd8.out rfl
     obtain rfl := cd9.out rfl
     obtain rfl := cd10.out rfl
     obtain rfl := cd11.out rfl
     obtain rfl := cd12.out rfl
     have W_lo2 := f_lo2.out rfl
     have W_s := f_s.out rfl
     have W_o8 := f_o8.out rfl
     have W_q4 := f_q4.out rfl
     have W_q8 := f_q8.out rfl
     have W_kb := f_kb.out
     clear hL f_g f_lo f_ls f_lo2 f_s f_o8 f_q4 f_q8 f_kb cd0 cd1 cd2 cd3 cd4 cd5 cd6 cd7 cd8 cd9 cd10 cd11 cd12
     simp only [setIfInBounds_toArray, set_cons_zero, set_cons_succ]
     have BV : Below g w2 V5 := (Below.refl _ _).drew.trans hb
     have B5 := B4.trans BV
     have hX5 : Bk V5 g (dfC 1 0 next oa on oc ba4 bn4 cq (some ⟨gt, 0, none⟩) (tn + 1) ct) 115 := W_s
     have hLo5 : LgX V5 B9 t none 0 0 ba4 bn4 cq (some ⟨gt, 0, none⟩) (tn + 1) ct ⟨M4.next, [], M4.bl, M4.ts ++ [M4.op]⟩ := W_lo2
     have hK5 : SameB B9 t g w1 V5 := W_kb
     have hB5 : B9 ≤ V5.heap.size := Nat.le_trans hBV BV.size
     clear hb W_kb W_s W_lo2 W_o8 W_q4 W_q8 BV hX2 hLo2 B4 hBV
     obtain ⟨c3, c4, c5, c6⟩ := df_cells hX5
     have f4 := free_blk (i := 4) hX5
     go_wp2_with fail
     have X6 := df_set hX5 4 (.slice none 0 0) (cs := dfC 1 0 next none 0 0 ba4 bn4 cq (some ⟨gt, 0, none⟩) (tn + 1) ct) rfl
     have g6 := grown_cell (grown_self V5 g) 4 (.slice none 0 0)
     go_ret
     refine ⟨none, 0, 0, ba4, bn4, cq, _, _, _, rfl, X6, ?_, B5.grown g6 (by have := hX5.lt; omega) (fun z hz => by cases hz; exact Nat.le_refl _), Nat.le_trans hB5 g6.size, hK1.trans (hK5.grown g6)⟩
     have := hLo5.grown g6 hgB
     rw [← HM4.out] at this
     rw [HNN.out]
     exact this
end Go.Proofs.YtdmnjjknkcnkgaaGreatDoor
