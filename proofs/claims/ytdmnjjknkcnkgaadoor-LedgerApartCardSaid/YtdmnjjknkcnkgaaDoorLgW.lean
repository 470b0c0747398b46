/-
  ledger: block (by gen_lgw.py).
-/
import Derived.Test.YtdmnjjknkcnkgaaDoorLgV
namespace Go.Proofs.YtdmnjjknkcnkgaaDoor
open Go.RowKit
set_option linter.unusedSimpArgs false
def entsH (l : List Txn) : List H32 := l.map fun x => ⟨entS x, entS_len x⟩
theorem entsH_l (l : List Txn) : (entsH l).map (·.l) = entsS l := by simp [entsH, entsS]
theorem entsH_get (l : List Txn) (i : Nat) (x : Txn) (h : l[i]? = some x) : (entsH l)[i]? = some ⟨entS x, entS_len x⟩ := by simp [entsH, h]
theorem alloc_then {w w' : World} {o : Obj} (g : (w.alloc o).grownBy w' (some w.heap.size)) : Below w.heap.size w w' :=
  ((Below.refl _ _).alloc (Nat.le_refl _) o).grown g (by rw [World.size_alloc]; omega) (fun z hz => by cases hz; exact Nat.le_refl _)
theorem hash_agg (w : World) : (isAgg 47).run Tryd.prog w = .ok true w := by kernel_rfl
theorem dg_cells {w : World} {d : Nat} {bl : List Blk} {t : TypeId} (h : Bk w d (dgC bl) t) : ∀ j v, (bcs (hLast bl))[j]? = some v → w.cell? ((⟨d, 1, none⟩ : Addr).add j) = some v := fun j v hv => by
  rw [Addr.add_lit]
  refine h.c ?_
  unfold dgC
  rw [List.getElem?_toArray, Nat.add_comm, List.getElem?_cons_succ]
  exact hv
/-- What stands while the region's operations come up. -/
inductive LBlk8 (B : Nat) (g : Nat) (q : Nat) (d : Nat) (gr : Nat) (dn : Int) (mu : Int) (next : Int) (oa : Option Addr) (on : Nat) (oc : Nat) (ba : Option Addr) (bn : Nat) (bc : Nat) (ta : Option Addr) (tn : Nat) (tc : Nat) (EL : List H32) (PA : Array Value) (RA : Array Value) (NB : Array Value) (ZB : Array Value) (DA : Array Value) (a0 : Act) (w0 : World) (L : Array Bool) (a : Act) (w : World) : Prop
  | mk (b0 b1 b2 b3 b4 b5 b6 b7 b8 b9 b10 b11 b12 b13 b14 b15 b16 : Bool) (x37 x38 x39 x40 x41 x42 x43 x44 x45 x46 x47 x48 x49 x50 x51 x52 : Value) (hL : L = #[b0, b1, b2, b3, b4, b5, b6, b7, b8, b9, b10, b11, b12, b13, b14, b15, b16]) (ha : a = ⟨((((((((((((((((a0.tmps.setIfInBounds 37 x37).setIfInBounds 38 x38).setIfInBounds 39 x39).setIfInBounds 40 x40).setIfInBounds 41 x41).setIfInBounds 42 x42).setIfInBounds 43 x43).setIfInBounds 44 x44).setIfInBounds 45 x45).setIfInBounds 46 x46).setIfInBounds 47 x47).setIfInBounds 48 x48).setIfInBounds 49 x49).setIfInBounds 50 x50).setIfInBounds 51 x51).setIfInBounds 52 x52), a0.defers⟩) (hb : Below B w0 w) (cd0 : Hid (b0 = true → x37 = .pointer (some ⟨g, 3, none⟩))) (cd1 : Hid (b1 = true → x38 = .pointer (some ⟨g, 3, none⟩))) (cd2 : Hid (b2 = true → x39 = .pointer (some ⟨g, 5, none⟩))) (cd3 : Hid (b3 = true → x40 = .slice ba bn bc)) (cd4 : Hid (b4 = true → x41 = .int .i64 (bn : Nat))) (cd5 : Hid (b5 = true → x42 = .int .i64 ((bn : Nat) + 1))) (cd6 : Hid (b6 = true → x43 = .pointer (some ⟨d, 1, none⟩))) (cd7 : Hid (b7 = true → x44 = .agg PA)) (cd8 : Hid (b8 = true → x45 = .slice (some ⟨gr, 0, none⟩) on on)) (cd9 : Hid (b9 = true → x46 = .agg RA)) (cd10 : Hid (b10 = true → x47 = .pointer (some ⟨g, 3, none⟩))) (cd11 : Hid (b11 = true → x48 = .pointer (some ⟨g, 3, none⟩))) (cd12 : Hid (b12 = true → x49 = .pointer (some ⟨g, 4, none⟩))) (cd13 : Hid (b13 = true → x50 = .slice oa on oc)) (cd14 : Hid (b14 = true → x51 = .int .i64 (on : Nat))) (cd15 : Hid (b15 = true → x52 = .agg NB)) (f_g : Hid (Bk w g (dfC dn mu next oa on oc ba bn bc ta tn tc) 68)) (f_d : Hid (Bk w d DA 52)) (f_e : Hid (IsR EHs w (some ⟨gr, 0, none⟩) on on EL)) (f_z : Hid (b16 = false → Bk w q ZB 79)) (f_s : Hid (b16 = true → Bk w q NB 79)) : LBlk8 B g q d gr dn mu next oa on oc ba bn bc ta tn tc EL PA RA NB ZB DA a0 w0 L a w
set_option maxRecDepth 100000 in
set_option maxHeartbeats 2000000 in
theorem dblock_any (w : World) (hC : RC w) (Q : Nat → Prop) (g : Nat) (dn mu next : Int) (oa : Option Addr) (on oc : Nat) (ba : Option Addr) (bn bc : Nat) (ta : Option Addr) (tn tc : Nat) (L : Lgr) (X : Bk w g (dfC dn mu next oa on oc ba bn bc ta tn tc) 68) (h : LgR w Q oa on oc ba bn bc ta tn tc L) (hL : LgOk L) :
    Calls Tryd.prog 31 #[.pointer (some ⟨g, 3, none⟩)] w fun e w' => e = .returned (.agg (newB L).cs.toArray) ∧ Below w.heap.size w w' := by
  have hon := h.op.len
  have hbn := h.bl.len
  have l1 := hL.op
  have l2 := hL.bl
  obtain ⟨NB, hNB⟩ : ∃ z, (newB L).cs.toArray = z := ⟨_, rfl⟩
  have HN0 : Hid (NB.size = 66) := Lib.hid (by rw [← hNB]; simp [Blk.cs_len])
  have HN1 : Hid (NB.all (·.oneCell') = true) := Lib.hid (by rw [← hNB]; exact Array.all_eq_true_iff_forall_mem.2 fun v hv => EBk.one (newB L) v (show v ∈ (newB L).cs by simpa using hv))
  have hbb := built_blk (newB L)
  rw [hNB] at hbb ⊢
  have e1 : (newB L).n = ((bn : Nat) : Int) + 1 := by show ((L.bl.length : Nat) : Int) + 1 = _; rw [hbn]
  have e2 : (newB L).count = ((on : Nat) : Int) := by show ((L.op.length : Nat) : Int) = _; rw [hon]
  have e3 : (newB L).prev.l = hLast L.bl := rfl
  have e4 : (newB L).root.l = rootS ((entsH L.op).map (·.l)) := by rw [entsH_l]; rfl
  rw [e1, e2, e3, e4] at hbb
  obtain ⟨RA, hRA⟩ : ∃ z, (bcs (rootS ((entsH L.op).map (·.l)))).toArray = z := ⟨_, rfl⟩
  obtain ⟨PL, hPL⟩ : ∃ z, bcs (hLast L.bl) = z := ⟨_, rfl⟩
  obtain ⟨PA, hPA⟩ : ∃ z, PL.toArray = z := ⟨_, rfl⟩
  rw [hRA, hPL, hPA] at hbb
  have HBB := Lib.hid hbb
  have HRA := Lib.hid hRA
  have HPA := Lib.hid hPA
  have HPL : Hid ((Tryd.prog.info? 47).map (·.size) = some PL.length) := Lib.hid (by rw [← hPL, bcs_length, hLast_len]; exact sizeHash)
  have HPC0 : Hid (∀ (w : World) (d : Nat), Bk w d (dgC L.bl) 52 → ∀ j v, PL[j]? = some v → w.cell? ((⟨d, 1, none⟩ : Addr).add j) = some v) := Lib.hid fun w d hb j v hv => dg_cells hb j v (by rw [hPL]; exact hv)
  obtain ⟨DA, hDA⟩ : ∃ z, dgC L.bl = z := ⟨_, rfl⟩
  have HD0 : Hid (DA.size = 33) := Lib.hid (by rw [← hDA]; exact dgC_len _)
  have HD1 : Hid (DA.all (·.oneCell') = true) := Lib.hid (by rw [← hDA]; exact dgC_one _)
  have HDG0 := fun (w' : World) (b : Below w.heap.size w w') => digest_any w' (hC.past b) next oa on oc ba bn bc ta tn tc L.bl (h.bl.past b).flat (by omega)
  obtain ⟨EE, hEE⟩ : ∃ e : Int, (if bn = 0 then 2 else 0) = e := ⟨_, rfl⟩
  rw [hDA] at HPC0
  simp only [hDA, hEE] at HDG0
  clear hEE
  obtain ⟨EL, hEL⟩ : ∃ z, entsH L.op = z := ⟨_, rfl⟩
  have hEg : Hid (∀ (j : Nat) (x : Txn), L.op[j]? = some x → EL[j]? = some ⟨entS x, entS_len x⟩) := Lib.hid fun j x hx => by rw [← hEL]; exact entsH_get _ j x hx
  have hEn : Hid (EL.length = on) := Lib.hid (by rw [← hEL]; simp [entsH, hon])
  rw [hEL] at HRA
  clear hNB hbb e1 e2 e3 e4 hRA hPL hPA hDA hEL
  go_enter Tryd.func31, Tryd.ntmps31
  go_upto_region 1 with (with_reducible refine wpList_alloc_blk (o := ⟨some 2, _, _, _, _, _⟩) rfl 79 rfl _ blk_zero ?_; intro W q hq b1 q1)
  obtain ⟨ZB, hZB⟩ : ∃ x, Blk0.cs.toArray = x := ⟨_, rfl⟩
  have HZB : Hid (ZB.size = 66) := Lib.hid (by rw [← hZB]; simp [Blk.cs_len])
  have hQ : Bk W q ZB 79 := by rw [← hZB]; exact hq.out
  clear hZB hq
  have X1 := X.past b1
  have h1 := h.past b1
  have hC1 := hC.past b1
  obtain ⟨S, hS⟩ : ∃ s, w.heap.size = s := ⟨_, rfl⟩
  have HG := Lib.hid hS
  have hgS := X.lt
  rw [hS] at b1 q1 hgS
  simp only [hS] at HDG0
  have hCW : Hid (∀ w', Below S w w' → RC w') := Lib.hid fun w' hb => hC.past (by rw [HG.out]; exact hb)
  clear hS X h hC
  try simp only [Act.put, List.setIfInBounds_toArray, List.set_cons_zero, List.set_cons_succ]
  obtain ⟨c3, c4, c5, c6⟩ := df_cells X1
  have hSW : S ≤ W.heap.size := by have := X1.lt; exact Nat.le_trans q1 (Nat.le_of_lt hQ.lt)
  go_upto_region 2 with (at_make; refine wpList_make_or (E := EHs) rfl _ _ 97 rfl 47 rowTyHs .i64 .i64 _ _ on rfl rfl rfl rfl (by omega) ?_; intro w2 o2 b2)
  have X2 := X1.past b2
  clear c3 c4 c5 c6
  obtain ⟨c3, c4, c5, c6⟩ := df_cells X2
  obtain ⟨gr, hgr⟩ : ∃ g, W.heap.size = g := ⟨_, rfl⟩
  have hgW : W.heap.size ≤ gr := Nat.le_of_eq hgr
  rw [hgr] at o2
  simp only [hgr]
  clear hgr
  have o3 : OwnR EHs w2 47 gr on on (EL.take 0 ++ (List.replicate on H0s).drop 0) := by simpa using o2
  clear o2
  have hqW := hQ.lt
  have hgW2 := X1.lt
  go_wp2_with fail
  go_loopw [19] (fun i wr => ∃ j : Nat, j ≤ on ∧ i = .int .i64 (j : Nat) ∧ OwnR EHs wr 47 gr on on (EL.take j ++ (List.replicate on H0s).drop j) ∧ Below W.heap.size W wr) (fun i _ => on - (intOf i).toNat)
  case atStart => exact ⟨0, Nat.zero_le _, rfl, o3, b2⟩
  case round =>
    clear o3 b2 c3 c4 c5 c6 X2
    obtain ⟨j, hj, rfl, o4, B2⟩ := hrel
    have X2 := X1.past B2
    have hpwr := X2.lt
    obtain ⟨c3, c4, c5, c6⟩ := df_cells X2
    by_cases hlt : j < on
    · have hlti : (j : Int) < (on : Int) := by omega
      obtain ⟨x, hx⟩ : ∃ x, L.op[j]? = some x := ⟨L.op[j]'(by omega), List.getElem?_eq_getElem _⟩
      have hxk := hL.tx x (List.mem_of_getElem? hx)
      obtain ⟨gb, goff, b, rfl, hgl, -, hcl, hr⟩ := (h1.op.past B2).at hx
      obtain ⟨xi, ⟨xa, xn, xc⟩⟩ := b
      obtain ⟨xj, xl⟩ := x
      obtain ⟨hE, hr2⟩ := hr
      obtain rfl : xi = xj := hE
      have hcl : ∀ k u, (ETx.f (xi, ⟨xa, xn, xc⟩))[k]? = some u → wr.cell? ⟨gb, goff + (j * 2 + k), none⟩ = some u := hcl
      have y0 : wr.cell? ⟨gb, goff + j * 2, none⟩ = some (.int .i64 xi) := hcl 0 _ rfl
      have y1 : wr.cell? ⟨gb, goff + j * 2 + 1, none⟩ = some (.slice xa xn xc) := by have := hcl 1 _ rfl; rwa [← Nat.add_assoc] at this
      have bA : Below wr.heap.size wr (wr.alloc (.cells #[.int .i64 xi, .slice xa xn xc] 32)) := (Below.refl _ _).alloc (Nat.le_refl _) _
      have HF := entry_any (wr.alloc (.cells #[.int .i64 xi, .slice xa xn xc] 32)) (hC1.past (B2.trans (bA.mono B2.size))) Q xi xl xa xn xc (hr2.past bA) hxk
      have HX := hEg.out j _ hx
      obtain ⟨rh, hrh⟩ : ∃ r : H32, ⟨entS (xi, xl), entS_len _⟩ = r := ⟨_, rfl⟩
      have HF2 : Calls Tryd.prog 46 #[.agg #[.int .i64 xi, .slice xa xn xc]] (wr.alloc (.cells #[.int .i64 xi, .slice xa xn xc] 32)) fun e w' => e = .returned (.agg (EHs.f rh).toArray) ∧ Below (wr.alloc (.cells #[.int .i64 xi, .slice xa xn xc] 32)).heap.size (wr.alloc (.cells #[.int .i64 xi, .slice xa xn xc] 32)) w' := by rw [← hrh]; exact HF
      rw [hrh] at HX
      have HXX := Lib.hid HX
      clear HF hx HX hrh hcl hr2 hxk
      go_wp2_with (first
        | (go_at_call 46; refine HF2.mono ?_; rintro e w3 ⟨rfl, b3⟩; have o5 := o4.past (bA.trans (b3.mono bA.size)))
        | ((with_reducible refine wpList_store_el rfl 47 _ _ rfl gr j on on 47 _ rh o5 hlt ?_ ?_ sizeEHs ?_); (rfl); (rfl); (intro w4 o6 g6)))
      go_roundw
      case rel => exact ⟨j + 1, by omega, by go_num, by rw [← mix_next HXX.out (by rw [List.length_replicate]; exact hEn.out.symm)]; exact o6, (B2.trans ((bA.trans (b3.mono bA.size)).mono B2.size)).grown g6 (Nat.le_trans B2.size (Nat.le_trans bA.size b3.size)) (fun z hz => by cases hz; exact hgW)⟩
      case measure => simp [intOf]; omega
    · have hlti : ¬ ((j : Int) < (on : Int)) := by omega
      obtain rfl : on = j := by omega
      have o5 : OwnR EHs wr 47 gr on on EL := by
        have := o4
        rwa [List.take_of_length_le (Nat.le_of_eq hEn.out), List.drop_of_length_le (by simp), List.append_nil] at this
      have BW : Below S w wr := b1.trans (B2.mono hSW)
      have HDG := HDG0 wr BW
      go_upto_region 8 with (first
        | (go_at_call 13; refine HDG.mono ?_; rintro e w3 ⟨rfl, b3⟩)
        | ((with_reducible refine wp_store_blkU rfl 52 _ _ rfl w3.heap.size _ DA ?_ ?_ _ (Bk.new w3 _ _) 33 dig_size ?_ HD0.out HD1.out ?_); (rfl); (rfl); (rfl); (intro w5 h5 g5)))
      have b5 := alloc_then g5
      have b35 := b3.trans (b5.mono b3.size)
      obtain ⟨d, hd⟩ : ∃ d, w3.heap.size = d := ⟨_, rfl⟩
      have hdr : wr.heap.size ≤ d := by rw [← hd]; exact b3.size
      have hqr : q < wr.heap.size := Nat.lt_of_lt_of_le hqW B2.size
      have hgr : gr < wr.heap.size := o5.lt
      rw [hd] at h5
      simp only [hd]
      have hD3 := h5
      have X3 := X2.past b35
      have e3 := (o5.past b35).isR
      have hQ3 := (hQ.past B2).past b35
      have B3 := BW.trans (b35.mono (Nat.le_trans hSW B2.size))
      have hB0 : S ≤ w5.heap.size := Nat.le_trans (Nat.le_trans hSW B2.size) b35.size
      have hBq : S ≤ q := q1
      have hgq : some g ≠ some q := fun e => by have := Option.some.inj e; omega
      have hdq : some d ≠ some q := fun e => by have := Option.some.inj e; omega
      have heq : ∀ a, some (⟨gr, 0, none⟩ : Addr) = some a → some a.block ≠ some q := fun a ha e => by cases ha; have := Option.some.inj e; simp only at this; omega
      have HPC : Hid (∀ w, Bk w d DA 52 → ∀ j v, PL[j]? = some v → w.cell? ((⟨d, 1, none⟩ : Addr).add j) = some v) := Lib.hid fun w hb => HPC0.out w d hb
      have HRt : ∀ (w' : World), Below S w5.drew w' → IsR EHs w' (some ⟨gr, 0, none⟩) on on EL → Calls Tryd.prog 47 #[.slice (some ⟨gr, 0, none⟩) on on] w' fun e w'' => e = .returned (.agg RA) ∧ Below w'.heap.size w' w'' := fun w' hb he => by
        have := root_any (some ⟨gr, 0, none⟩) on on _ w' (hCW.out w' (B3.trans ((Below.refl _ _).drew.trans hb))) he.hs (by omega)
        rwa [HRA.out] at this
      have HADD : Hid (IntKind.i64.wrap ((bn : Int) + 1) = (bn : Int) + 1) := Lib.hid (IntWalk.i64_in _ (by omega))
      clear HDG HDG0 h5 g5 b3 b5 b35 hd X2 o5 o4 hQ BW B2 HPC0 HRA hCW b1 X1 h1 hC1 c3 c4 c5 c6 hpwr hqr hdr
      refine region_inv (LBlk8 S g q d gr dn mu next oa on oc ba bn bc ta tn tc EL PA RA NB ZB DA) (by kernel_rfl) (by kernel_rfl) ?_ ?_ ?_
      · exact ⟨false, false, false, false, false, false, false, false, false, false, false, false, false, false, false, false, false, undef, undef, undef, undef, undef, undef, undef, undef, undef, undef, undef, undef, undef, undef, undef, undef, rfl, (by simp only [Act.put, List.setIfInBounds_toArray, List.set_cons_zero, List.set_cons_succ]), Below.refl _ _, (fun h => by cases h), (fun h => by cases h), (fun h => by cases h), (fun h => by cases h), (fun h => by cases h), (fun h => by cases h), (fun h => by cases h), (fun h => by cases h), (fun h => by cases h), (fun h => by cases h), (fun h => by cases h), (fun h => by cases h), (fun h => by cases h), (fun h => by cases h), (fun h => by cases h), (fun h => by cases h), (X3.past (Below.refl _ _).drew), (hD3.past (Below.refl _ _).drew), (e3.past (Below.refl _ _).drew), (fun h1 => hQ3.past (Below.refl _ _).drew), (fun h => by cases h)⟩
      · refine ⟨?_, ?_, ?_, ?_, ?_, ?_, ?_, ?_, ?_, ?_, ?_, ?_, ?_, ?_, ?_, ?_, ?_, trivial⟩
        · rintro L a w ⟨b0, b1, b2, b3, b4, b5, b6, b7, b8, b9, b10, b11, b12, b13, b14, b15, b16, x37, x38, x39, x40, x41, x42, x43, x44, x45, x46, x47, x48, x49, x50, x51, x52, rfl, rfl, hb, cd0, cd1, cd2, cd3, cd4, cd5, cd6, cd7, cd8, cd9, cd10, cd11, cd12, cd13, cd14, cd15, f_g, f_d, f_e, f_z, f_s⟩ hf hd
          have hf' : b0 = false := hf
          subst hf'
          clear hf hd
          have W_g := f_g.out
          have W_d := f_d.out
          have W_e := f_e.out
          try simp only [List.setIfInBounds_toArray, List.set_cons_zero, List.set_cons_succ]
          intro K hK
          rw [if_pos (by rfl)]
          go_simp
          exact hK.out _ _ ⟨true, b1, b2, b3, b4, b5, b6, b7, b8, b9, b10, b11, b12, b13, b14, b15, b16, (.pointer (some ⟨g, 3, none⟩)), x38, x39, x40, x41, x42, x43, x44, x45, x46, x47, x48, x49, x50, x51, x52, (by simp only [Act.put, List.setIfInBounds_toArray, List.set_cons_zero, List.set_cons_succ]), (by simp only [Act.put, List.setIfInBounds_toArray, List.set_cons_zero, List.set_cons_succ]), hb, (fun _ => rfl), cd1, cd2, cd3, cd4, cd5, cd6, cd7, cd8, cd9, cd10, cd11, cd12, cd13, cd14, cd15, f_g, f_d, f_e, f_z, f_s⟩
        · rintro L a w ⟨b0, b1, b2, b3, b4, b5, b6, b7, b8, b9, b10, b11, b12, b13, b14, b15, b16, x37, x38, x39, x40, x41, x42, x43, x44, x45, x46, x47, x48, x49, x50, x51, x52, rfl, rfl, hb, cd0, cd1, cd2, cd3, cd4, cd5, cd6, cd7, cd8, cd9, cd10, cd11, cd12, cd13, cd14, cd15, f_g, f_d, f_e, f_z, f_s⟩ hf hd
          have hf' : b1 = false := hf
          subst hf'
          have d0 : b0 = true := hd ⟨0, .data⟩ (by simp) rfl
          subst d0
          obtain rfl := cd0.out rfl
          clear hf hd
          have W_g := f_g.out
          have W_d := f_d.out
          have W_e := f_e.out
          try simp only [List.setIfInBounds_toArray, List.set_cons_zero, List.set_cons_succ]
          intro K hK
          rw [if_pos (by rfl)]
          go_simp
          exact hK.out _ _ ⟨true, true, b2, b3, b4, b5, b6, b7, b8, b9, b10, b11, b12, b13, b14, b15, b16, .pointer (some ⟨g, 3, none⟩), (.pointer (some ⟨g, 3, none⟩)), x39, x40, x41, x42, x43, x44, x45, x46, x47, x48, x49, x50, x51, x52, (by simp only [Act.put, List.setIfInBounds_toArray, List.set_cons_zero, List.set_cons_succ]), (by simp only [Act.put, List.setIfInBounds_toArray, List.set_cons_zero, List.set_cons_succ]), hb, (fun _ => rfl), (fun _ => rfl), cd2, cd3, cd4, cd5, cd6, cd7, cd8, cd9, cd10, cd11, cd12, cd13, cd14, cd15, f_g, f_d, f_e, f_z, f_s⟩
        · rintro L a w ⟨b0, b1, b2, b3, b4, b5, b6, b7, b8, b9, b10, b11, b12, b13, b14, b15, b16, x37, x38, x39, x40, x41, x42, x43, x44, x45, x46, x47, x48, x49, x50, x51, x52, rfl, rfl, hb, cd0, cd1, cd2, cd3, cd4, cd5, cd6, cd7, cd8, cd9, cd10, cd11, cd12, cd13, cd14, cd15, f_g, f_d, f_e, f_z, f_s⟩ hf hd
          have hf' : b2 = false := hf
          subst hf'
          have d1 : b1 = true := hd ⟨1, .data⟩ (by simp) rfl
          subst d1
          obtain rfl := cd1.out rfl
          clear hf hd
          have W_g := f_g.out
          have W_d := f_d.out
          have W_e := f_e.out
          try simp only [List.setIfInBounds_toArray, List.set_cons_zero, List.set_cons_succ]
          intro K hK
          rw [if_pos (by rfl)]
          go_simp
          exact hK.out _ _ ⟨b0, true, true, b3, b4, b5, b6, b7, b8, b9, b10, b11, b12, b13, b14, b15, b16, x37, .pointer (some ⟨g, 3, none⟩), (.pointer (some ⟨g, 5, none⟩)), x40, x41, x42, x43, x44, x45, x46, x47, x48, x49, x50, x51, x52, (by simp only [Act.put, List.setIfInBounds_toArray, List.set_cons_zero, List.set_cons_succ]), (by simp only [Act.put, List.setIfInBounds_toArray, List.set_cons_zero, List.set_cons_succ]), hb, cd0, (fun _ => rfl), (fun _ => rfl), cd3, cd4, cd5, cd6, cd7, cd8, cd9, cd10, cd11, cd12, cd13, cd14, cd15, f_g, f_d, f_e, f_z, f_s⟩
        · rintro L a w ⟨b0, b1, b2, b3, b4, b5, b6, b7, b8, b9, b10, b11, b12, b13, b14, b15, b16, x37, x38, x39, x40, x41, x42, x43, x44, x45, x46, x47, x48, x49, x50, x51, x52, rfl, rfl, hb, cd0, cd1, cd2, cd3, cd4, cd5, cd6, cd7, cd8, cd9, cd10, cd11, cd12, cd13, cd14, cd15, f_g, f_d, f_e, f_z, f_s⟩ hf hd
          have hf' : b3 = false := hf
          subst hf'
          have d2 : b2 = true := hd ⟨2, .data⟩ (by simp) rfl
          subst d2
          obtain rfl := cd2.out rfl
          clear hf hd
          have W_g := f_g.out
          have W_d := f_d.out
          have W_e := f_e.out
          try simp only [List.setIfInBounds_toArray, List.set_cons_zero, List.set_cons_succ]
          have z5 : w.cell? ⟨g, 5, none⟩ = some (.slice ba bn bc) := W_g.c rfl
          intro K hK
          rw [if_pos (by rfl)]
          go_simp
          exact hK.out _ _ ⟨b0, b1, true, true, b4, b5, b6, b7, b8, b9, b10, b11, b12, b13, b14, b15, b16, x37, x38, .pointer (some ⟨g, 5, none⟩), (.slice ba bn bc), x41, x42, x43, x44, x45, x46, x47, x48, x49, x50, x51, x52, (by simp only [Act.put, List.setIfInBounds_toArray, List.set_cons_zero, List.set_cons_succ]), (by simp only [Act.put, List.setIfInBounds_toArray, List.set_cons_zero, List.set_cons_succ]), hb, cd0, cd1, (fun _ => rfl), (fun _ => rfl), cd4, cd5, cd6, cd7, cd8, cd9, cd10, cd11, cd12, cd13, cd14, cd15, f_g, f_d, f_e, f_z, f_s⟩
        · rintro L a w ⟨b0, b1, b2, b3, b4, b5, b6, b7, b8, b9, b10, b11, b12, b13, b14, b15, b16, x37, x38, x39, x40, x41, x42, x43, x44, x45, x46, x47, x48, x49, x50, x51, x52, rfl, rfl, hb, cd0, cd1, cd2, cd3, cd4, cd5, cd6, cd7, cd8, cd9, cd10, cd11, cd12, cd13, cd14, cd15, f_g, f_d, f_e, f_z, f_s⟩ hf hd
          have hf' : b4 = false := hf
          subst hf'
          have d3 : b3 = true := hd ⟨3, .data⟩ (by simp) rfl
          subst d3
          obtain rfl := cd3.out rfl
          clear hf hd
          have W_g := f_g.out
          have W_d := f_d.out
          have W_e := f_e.out
          try simp only [List.setIfInBounds_toArray, List.set_cons_zero, List.set_cons_succ]
          intro K hK
          rw [if_pos (by rfl)]
          go_simp
          exact hK.out _ _ ⟨b0, b1, b2, true, true, b5, b6, b7, b8, b9, b10, b11, b12, b13, b14, b15, b16, x37, x38, x39, .slice ba bn bc, (.int .i64 (bn : Nat)), x42, x43, x44, x45, x46, x47, x48, x49, x50, x51, x52, (by simp only [Act.put, List.setIfInBounds_toArray, List.set_cons_zero, List.set_cons_succ]), (by simp only [Act.put, List.setIfInBounds_toArray, List.set_cons_zero, List.set_cons_succ]), hb, cd0, cd1, cd2, (fun _ => rfl), (fun _ => rfl), cd5, cd6, cd7, cd8, cd9, cd10, cd11, cd12, cd13, cd14, cd15, f_g, f_d, f_e, f_z, f_s⟩
        · rintro L a w ⟨b0, b1, b2, b3, b4, b5, b6, b7, b8, b9, b10, b11, b12, b13, b14, b15, b16, x37, x38, x39, x40, x41, x42, x43, x44, x45, x46, x47, x48, x49, x50, x51, x52, rfl, rfl, hb, cd0, cd1, cd2, cd3, cd4, cd5, cd6, cd7, cd8, cd9, cd10, cd11, cd12, cd13, cd14, cd15, f_g, f_d, f_e, f_z, f_s⟩ hf hd
          have hf' : b5 = false := hf
          subst hf'
          have d4 : b4 = true := hd ⟨4, .data⟩ (by simp) rfl
          subst d4
          obtain rfl := cd4.out rfl
          clear hf hd
          have W_g := f_g.out
          have W_d := f_d.out
          have W_e := f_e.out
          try simp only [List.setIfInBounds_toArray, List.set_cons_zero, List.set_cons_succ]
          intro K hK
          rw [if_pos (by rfl)]
          go_simp
          rw [HADD.out]
          exact hK.out _ _ ⟨b0, b1, b2, b3, true, true, b6, b7, b8, b9, b10, b11, b12, b13, b14, b15, b16, x37, x38, x39, x40, .int .i64 (bn : Nat), (.int .i64 ((bn : Nat) + 1)), x43, x44, x45, x46, x47, x48, x49, x50, x51, x52, (by simp only [Act.put, List.setIfInBounds_toArray, List.set_cons_zero, List.set_cons_succ]), (by simp only [Act.put, List.setIfInBounds_toArray, List.set_cons_zero, List.set_cons_succ]), hb, cd0, cd1, cd2, cd3, (fun _ => rfl), (fun _ => rfl), cd6, cd7, cd8, cd9, cd10, cd11, cd12, cd13, cd14, cd15, f_g, f_d, f_e, f_z, f_s⟩
        · rintro L a w ⟨b0, b1, b2, b3, b4, b5, b6, b7, b8, b9, b10, b11, b12, b13, b14, b15, b16, x37, x38, x39, x40, x41, x42, x43, x44, x45, x46, x47, x48, x49, x50, x51, x52, rfl, rfl, hb, cd0, cd1, cd2, cd3, cd4, cd5, cd6, cd7, cd8, cd9, cd10, cd11, cd12, cd13, cd14, cd15, f_g, f_d, f_e, f_z, f_s⟩ hf hd
          have hf' : b6 = false := hf
          subst hf'
          clear hf hd
          have W_g := f_g.out
          have W_d := f_d.out
          have W_e := f_e.out
          try simp only [List.setIfInBounds_toArray, List.set_cons_zero, List.set_cons_succ]
          intro K hK
          rw [if_pos (by rfl)]
          go_simp
          exact hK.out _ _ ⟨b0, b1, b2, b3, b4, b5, true, b7, b8, b9, b10, b11, b12, b13, b14, b15, b16, x37, x38, x39, x40, x41, x42, (.pointer (some ⟨d, 1, none⟩)), x44, x45, x46, x47, x48, x49, x50, x51, x52, (by simp only [Act.put, List.setIfInBounds_toArray, List.set_cons_zero, List.set_cons_succ]), (by simp only [Act.put, List.setIfInBounds_toArray, List.set_cons_zero, List.set_cons_succ]), hb, cd0, cd1, cd2, cd3, cd4, cd5, (fun _ => rfl), cd7, cd8, cd9, cd10, cd11, cd12, cd13, cd14, cd15, f_g, f_d, f_e, f_z, f_s⟩
        · rintro L a w ⟨b0, b1, b2, b3, b4, b5, b6, b7, b8, b9, b10, b11, b12, b13, b14, b15, b16, x37, x38, x39, x40, x41, x42, x43, x44, x45, x46, x47, x48, x49, x50, x51, x52, rfl, rfl, hb, cd0, cd1, cd2, cd3, cd4, cd5, cd6, cd7, cd8, cd9, cd10, cd11, cd12, cd13, cd14, cd15, f_g, f_d, f_e, f_z, f_s⟩ hf hd
          have hf' : b7 = false := hf
          subst hf'
          have d6 : b6 = true := hd ⟨6, .data⟩ (by simp) rfl
          subst d6
          obtain rfl := cd6.out rfl
          clear hf hd
          have W_g := f_g.out
          have W_d := f_d.out
          have W_e := f_e.out
          try simp only [List.setIfInBounds_toArray, List.set_cons_zero, List.set_cons_succ]
          intro K hK
          rw [if_pos (by rfl)]
          refine wp_load_cells 47 _ rfl ⟨d, 1, none⟩ rfl PL (HPC.out _ W_d) hash_agg HPL.out ?_
          rw [HPA.out]
          exact hK.out _ _ ⟨b0, b1, b2, b3, b4, b5, true, true, b8, b9, b10, b11, b12, b13, b14, b15, b16, x37, x38, x39, x40, x41, x42, .pointer (some ⟨d, 1, none⟩), (.agg PA), x45, x46, x47, x48, x49, x50, x51, x52, (by simp only [Act.put, List.setIfInBounds_toArray, List.set_cons_zero, List.set_cons_succ]), (by simp only [Act.put, List.setIfInBounds_toArray, List.set_cons_zero, List.set_cons_succ]), hb, cd0, cd1, cd2, cd3, cd4, cd5, (fun _ => rfl), (fun _ => rfl), cd8, cd9, cd10, cd11, cd12, cd13, cd14, cd15, f_g, f_d, f_e, f_z, f_s⟩
        · rintro L a w ⟨b0, b1, b2, b3, b4, b5, b6, b7, b8, b9, b10, b11, b12, b13, b14, b15, b16, x37, x38, x39, x40, x41, x42, x43, x44, x45, x46, x47, x48, x49, x50, x51, x52, rfl, rfl, hb, cd0, cd1, cd2, cd3, cd4, cd5, cd6, cd7, cd8, cd9, cd10, cd11, cd12, cd13, cd14, cd15, f_g, f_d, f_e, f_z, f_s⟩ hf hd
          have hf' : b8 = false := hf
          subst hf'
          clear hf hd
          have W_g := f_g.out
          have W_d := f_d.out
          have W_e := f_e.out
          try simp only [List.setIfInBounds_toArray, List.set_cons_zero, List.set_cons_succ]
          intro K hK
          rw [if_pos (by rfl)]
          go_simp
          exact hK.out _ _ ⟨b0, b1, b2, b3, b4, b5, b6, b7, true, b9, b10, b11, b12, b13, b14, b15, b16, x37, x38, x39, x40, x41, x42, x43, x44, (.slice (some ⟨gr, 0, none⟩) on on), x46, x47, x48, x49, x50, x51, x52, (by simp only [Act.put, List.setIfInBounds_toArray, List.set_cons_zero, List.set_cons_succ]), (by simp only [Act.put, List.setIfInBounds_toArray, List.set_cons_zero, List.set_cons_succ]), hb, cd0, cd1, cd2, cd3, cd4, cd5, cd6, cd7, (fun _ => rfl), cd9, cd10, cd11, cd12, cd13, cd14, cd15, f_g, f_d, f_e, f_z, f_s⟩
        · rintro L a w ⟨b0, b1, b2, b3, b4, b5, b6, b7, b8, b9, b10, b11, b12, b13, b14, b15, b16, x37, x38, x39, x40, x41, x42, x43, x44, x45, x46, x47, x48, x49, x50, x51, x52, rfl, rfl, hb, cd0, cd1, cd2, cd3, cd4, cd5, cd6, cd7, cd8, cd9, cd10, cd11, cd12, cd13, cd14, cd15, f_g, f_d, f_e, f_z, f_s⟩ hf hd
          have hf' : b9 = false := hf
          subst hf'
          have d8 : b8 = true := hd ⟨8, .data⟩ (by simp) rfl
          subst d8
          obtain rfl := cd8.out rfl
          clear hf hd
          have W_g := f_g.out
          have W_d := f_d.out
          have W_e := f_e.out
          try simp only [List.setIfInBounds_toArray, List.set_cons_zero, List.set_cons_succ]
          intro K hK
          rw [if_pos (by rfl)]
          go_simp
          go_at_call 47
          refine (HRt _ hb W_e).mono ?_
          rintro e w' ⟨rfl, bx⟩
          exact hK.out _ _ ⟨b0, b1, b2, b3, b4, b5, b6, b7, true, true, b10, b11, b12, b13, b14, b15, b16, x37, x38, x39, x40, x41, x42, x43, x44, .slice (some ⟨gr, 0, none⟩) on on, (.agg RA), x47, x48, x49, x50, x51, x52, (by simp only [Act.put, List.setIfInBounds_toArray, List.set_cons_zero, List.set_cons_succ]), (by simp only [Act.put, List.setIfInBounds_toArray, List.set_cons_zero, List.set_cons_succ]), hb.trans (bx.mono (Nat.le_trans hB0 hb.size)), cd0, cd1, cd2, cd3, cd4, cd5, cd6, cd7, (fun _ => rfl), (fun _ => rfl), cd10, cd11, cd12, cd13, cd14, cd15, (f_g.out.past bx), (f_d.out.past bx), (f_e.out.past bx), (fun h1 => (f_z.out h1).past bx), (fun h0 => (f_s.out h0).past bx)⟩
        · rintro L a w ⟨b0, b1, b2, b3, b4, b5, b6, b7, b8, b9, b10, b11, b12, b13, b14, b15, b16, x37, x38, x39, x40, x41, x42, x43, x44, x45, x46, x47, x48, x49, x50, x51, x52, rfl, rfl, hb, cd0, cd1, cd2, cd3, cd4, cd5, cd6, cd7, cd8, cd9, cd10, cd11, cd12, cd13, cd14, cd15, f_g, f_d, f_e, f_z, f_s⟩ hf hd
          have hf' : b10 = false := hf
          subst hf'
          clear hf hd
          have W_g := f_g.out
          have W_d := f_d.out
          have W_e := f_e.out
          try simp only [List.setIfInBounds_toArray, List.set_cons_zero, List.set_cons_succ]
          intro K hK
          rw [if_pos (by rfl)]
          go_simp
          exact hK.out _ _ ⟨b0, b1, b2, b3, b4, b5, b6, b7, b8, b9, true, b11, b12, b13, b14, b15, b16, x37, x38, x39, x40, x41, x42, x43, x44, x45, x46, (.pointer (some ⟨g, 3, none⟩)), x48, x49, x50, x51, x52, (by simp only [Act.put, List.setIfInBounds_toArray, List.set_cons_zero, List.set_cons_succ]), (by simp only [Act.put, List.setIfInBounds_toArray, List.set_cons_zero, List.set_cons_succ]), hb, cd0, cd1, cd2, cd3, cd4, cd5, cd6, cd7, cd8, cd9, (fun _ => rfl), cd11, cd12, cd13, cd14, cd15, f_g, f_d, f_e, f_z, f_s⟩
        · rintro L a w ⟨b0, b1, b2, b3, b4, b5, b6, b7, b8, b9, b10, b11, b12, b13, b14, b15, b16, x37, x38, x39, x40, x41, x42, x43, x44, x45, x46, x47, x48, x49, x50, x51, x52, rfl, rfl, hb, cd0, cd1, cd2, cd3, cd4, cd5, cd6, cd7, cd8, cd9, cd10, cd11, cd12, cd13, cd14, cd15, f_g, f_d, f_e, f_z, f_s⟩ hf hd
          have hf' : b11 = false := hf
          subst hf'
          have d10 : b10 = true := hd ⟨10, .data⟩ (by simp) rfl
          subst d10
          obtain rfl := cd10.out rfl
          clear hf hd
          have W_g := f_g.out
          have W_d := f_d.out
          have W_e := f_e.out
          try simp only [List.setIfInBounds_toArray, List.set_cons_zero, List.set_cons_succ]
          intro K hK
          rw [if_pos (by rfl)]
          go_simp
          exact hK.out _ _ ⟨b0, b1, b2, b3, b4, b5, b6, b7, b8, b9, true, true, b12, b13, b14, b15, b16, x37, x38, x39, x40, x41, x42, x43, x44, x45, x46, .pointer (some ⟨g, 3, none⟩), (.pointer (some ⟨g, 3, none⟩)), x49, x50, x51, x52, (by simp only [Act.put, List.setIfInBounds_toArray, List.set_cons_zero, List.set_cons_succ]), (by simp only [Act.put, List.setIfInBounds_toArray, List.set_cons_zero, List.set_cons_succ]), hb, cd0, cd1, cd2, cd3, cd4, cd5, cd6, cd7, cd8, cd9, (fun _ => rfl), (fun _ => rfl), cd12, cd13, cd14, cd15, f_g, f_d, f_e, f_z, f_s⟩
        · rintro L a w ⟨b0, b1, b2, b3, b4, b5, b6, b7, b8, b9, b10, b11, b12, b13, b14, b15, b16, x37, x38, x39, x40, x41, x42, x43, x44, x45, x46, x47, x48, x49, x50, x51, x52, rfl, rfl, hb, cd0, cd1, cd2, cd3, cd4, cd5, cd6, cd7, cd8, cd9, cd10, cd11, cd12, cd13, cd14, cd15, f_g, f_d, f_e, f_z, f_s⟩ hf hd
          have hf' : b12 = false := hf
          subst hf'
          have d11 : b11 = true := hd ⟨11, .data⟩ (by simp) rfl
          subst d11
          obtain rfl := cd11.out rfl
          clear hf hd
          have W_g := f_g.out
          have W_d := f_d.out
          have W_e := f_e.out
          try simp only [List.setIfInBounds_toArray, List.set_cons_zero, List.set_cons_succ]
          intro K hK
          rw [if_pos (by rfl)]
          go_simp
          exact hK.out _ _ ⟨b0, b1, b2, b3, b4, b5, b6, b7, b8, b9, b10, true, true, b13, b14, b15, b16, x37, x38, x39, x40, x41, x42, x43, x44, x45, x46, x47, .pointer (some ⟨g, 3, none⟩), (.pointer (some ⟨g, 4, none⟩)), x50, x51, x52, (by simp only [Act.put, List.setIfInBounds_toArray, List.set_cons_zero, List.set_cons_succ]), (by simp only [Act.put, List.setIfInBounds_toArray, List.set_cons_zero, List.set_cons_succ]), hb, cd0, cd1, cd2, cd3, cd4, cd5, cd6, cd7, cd8, cd9, cd10, (fun _ => rfl), (fun _ => rfl), cd13, cd14, cd15, f_g, f_d, f_e, f_z, f_s⟩
        · rintro L a w ⟨b0, b1, b2, b3, b4, b5, b6, b7, b8, b9, b10, b11, b12, b13, b14, b15, b16, x37, x38, x39, x40, x41, x42, x43, x44, x45, x46, x47, x48, x49, x50, x51, x52, rfl, rfl, hb, cd0, cd1, cd2, cd3, cd4, cd5, cd6, cd7, cd8, cd9, cd10, cd11, cd12, cd13, cd14, cd15, f_g, f_d, f_e, f_z, f_s⟩ hf hd
          have hf' : b13 = false := hf
          subst hf'
          have d12 : b12 = true := hd ⟨12, .data⟩ (by simp) rfl
          subst d12
          obtain rfl := cd12.out rfl
          clear hf hd
          have W_g := f_g.out
          have W_d := f_d.out
          have W_e := f_e.out
          try simp only [List.setIfInBounds_toArray, List.set_cons_zero, List.set_cons_succ]
          have z4 : w.cell? ⟨g, 4, none⟩ = some (.slice oa on oc) := W_g.c rfl
          intro K hK
          rw [if_pos (by rfl)]
          go_simp
          exact hK.out _ _ ⟨b0, b1, b2, b3, b4, b5, b6, b7, b8, b9, b10, b11, true, true, b14, b15, b16, x37, x38, x39, x40, x41, x42, x43, x44, x45, x46, x47, x48, .pointer (some ⟨g, 4, none⟩), (.slice oa on oc), x51, x52, (by simp only [Act.put, List.setIfInBounds_toArray, List.set_cons_zero, List.set_cons_succ]), (by simp only [Act.put, List.setIfInBounds_toArray, List.set_cons_zero, List.set_cons_succ]), hb, cd0, cd1, cd2, cd3, cd4, cd5, cd6, cd7, cd8, cd9, cd10, cd11, (fun _ => rfl), (fun _ => rfl), cd14, cd15, f_g, f_d, f_e, f_z, f_s⟩
        · rintro L a w ⟨b0, b1, b2, b3, b4, b5, b6, b7, b8, b9, b10, b11, b12, b13, b14, b15, b16, x37, x38, x39, x40, x41, x42, x43, x44, x45, x46, x47, x48, x49, x50, x51, x52, rfl, rfl, hb, cd0, cd1, cd2, cd3, cd4, cd5, cd6, cd7, cd8, cd9, cd10, cd11, cd12, cd13, cd14, cd15, f_g, f_d, f_e, f_z, f_s⟩ hf hd
          have hf' : b14 = false := hf
          subst hf'
          have d13 : b13 = true := hd ⟨13, .data⟩ (by simp) rfl
          subst d13
          obtain rfl := cd13.out rfl
          clear hf hd
          have W_g := f_g.out
          have W_d := f_d.out
          have W_e := f_e.out
          try simp only [List.setIfInBounds_toArray, List.set_cons_zero, List.set_cons_succ]
          intro K hK
          rw [if_pos (by rfl)]
          go_simp
          exact hK.out _ _ ⟨b0, b1, b2, b3, b4, b5, b6, b7, b8, b9, b10, b11, b12, true, true, b15, b16, x37, x38, x39, x40, x41, x42, x43, x44, x45, x46, x47, x48, x49, .slice oa on oc, (.int .i64 (on : Nat)), x52, (by simp only [Act.put, List.setIfInBounds_toArray, List.set_cons_zero, List.set_cons_succ]), (by simp only [Act.put, List.setIfInBounds_toArray, List.set_cons_zero, List.set_cons_succ]), hb, cd0, cd1, cd2, cd3, cd4, cd5, cd6, cd7, cd8, cd9, cd10, cd11, cd12, (fun _ => rfl), (fun _ => rfl), cd15, f_g, f_d, f_e, f_z, f_s⟩
        · rintro L a w ⟨b0, b1, b2, b3, b4, b5, b6, b7, b8, b9, b10, b11, b12, b13, b14, b15, b16, x37, x38, x39, x40, x41, x42, x43, x44, x45, x46, x47, x48, x49, x50, x51, x52, rfl, rfl, hb, cd0, cd1, cd2, cd3, cd4, cd5, cd6, cd7, cd8, cd9, cd10, cd11, cd12, cd13, cd14, cd15, f_g, f_d, f_e, f_z, f_s⟩ hf hd
          have hf' : b15 = false := hf
          subst hf'
          have d5 : b5 = true := hd ⟨5, .data⟩ (by simp) rfl
          subst d5
          have d7 : b7 = true := hd ⟨7, .data⟩ (by simp) rfl
          subst d7
          have d9 : b9 = true := hd ⟨9, .data⟩ (by simp) rfl
          subst d9
          have d14 : b14 = true := hd ⟨14, .data⟩ (by simp) rfl
          subst d14
          obtain rfl := cd5.out rfl
          obtain rfl := cd7.out rfl
          obtain rfl := cd9.out rfl
          obtain rfl := cd14.out rfl
          clear hf hd
          have W_g := f_g.out
          have W_d := f_d.out
          have W_e := f_e.out
          try simp only [List.setIfInBounds_toArray, List.set_cons_zero, List.set_cons_succ]
          intro K hK
          rw [if_pos (by rfl)]
          refine wp_build_at 79 _ rfl NB (by simp only [List.map_toArray, List.map_cons, List.map_nil]; exact HBB.out) ?_
          exact hK.out _ _ ⟨b0, b1, b2, b3, b4, true, b6, true, b8, true, b10, b11, b12, b13, true, true, b16, x37, x38, x39, x40, x41, .int .i64 ((bn : Nat) + 1), x43, .agg PA, x45, .agg RA, x47, x48, x49, x50, .int .i64 (on : Nat), (.agg NB), (by simp only [Act.put, List.setIfInBounds_toArray, List.set_cons_zero, List.set_cons_succ]), (by simp only [Act.put, List.setIfInBounds_toArray, List.set_cons_zero, List.set_cons_succ]), hb, cd0, cd1, cd2, cd3, cd4, (fun _ => rfl), cd6, (fun _ => rfl), cd8, (fun _ => rfl), cd10, cd11, cd12, cd13, (fun _ => rfl), (fun _ => rfl), f_g, f_d, f_e, f_z, f_s⟩
        · rintro L a w ⟨b0, b1, b2, b3, b4, b5, b6, b7, b8, b9, b10, b11, b12, b13, b14, b15, b16, x37, x38, x39, x40, x41, x42, x43, x44, x45, x46, x47, x48, x49, x50, x51, x52, rfl, rfl, hb, cd0, cd1, cd2, cd3, cd4, cd5, cd6, cd7, cd8, cd9, cd10, cd11, cd12, cd13, cd14, cd15, f_g, f_d, f_e, f_z, f_s⟩ hf hd
          have hf' : b16 = false := hf
          subst hf'
          have d15 : b15 = true := hd ⟨15, .data⟩ (by simp) rfl
          subst d15
          have d9 : b9 = true := hd ⟨9, .chain⟩ (by simp) rfl
          subst d9
          have d0 : b0 = true := hd ⟨0, .phase⟩ (by simp) rfl
          subst d0
          have d1 : b1 = true := hd ⟨1, .phase⟩ (by simp) rfl
          subst d1
          have d2 : b2 = true := hd ⟨2, .phase⟩ (by simp) rfl
          subst d2
          have d3 : b3 = true := hd ⟨3, .phase⟩ (by simp) rfl
          subst d3
          have d4 : b4 = true := hd ⟨4, .phase⟩ (by simp) rfl
          subst d4
          have d5 : b5 = true := hd ⟨5, .phase⟩ (by simp) rfl
          subst d5
          have d6 : b6 = true := hd ⟨6, .phase⟩ (by simp) rfl
          subst d6
          have d7 : b7 = true := hd ⟨7, .phase⟩ (by simp) rfl
          subst d7
          have d8 : b8 = true := hd ⟨8, .phase⟩ (by simp) rfl
          subst d8
          have d10 : b10 = true := hd ⟨10, .phase⟩ (by simp) rfl
          subst d10
          have d11 : b11 = true := hd ⟨11, .phase⟩ (by simp) rfl
          subst d11
          have d12 : b12 = true := hd ⟨12, .phase⟩ (by simp) rfl
          subst d12
          have d13 : b13 = true := hd ⟨13, .phase⟩ (by simp) rfl
          subst d13
          have d14 : b14 = true := hd ⟨14, .phase⟩ (by simp) rfl
          subst d14
          obtain rfl := cd15.out rfl
          obtain rfl := cd9.out rfl
          obtain rfl := cd0.out rfl
          obtain rfl := cd1.out rfl
          obtain rfl := cd2.out rfl
          obtain rfl := cd3.out rfl
          obtain rfl := cd4.out rfl
          obtain rfl := cd5.out rfl
          obtain rfl := cd6.out rfl
          obtain rfl := cd7.out rfl
          obtain rfl := cd8.out rfl
          obtain rfl := cd10.out rfl
          obtain rfl := cd11.out rfl
          obtain rfl := cd12.out rfl
          obtain rfl := cd13.out rfl
          obtain rfl := cd14.out rfl
          clear hf hd
          have W_g := f_g.out
          have W_d := f_d.out
          have W_e := f_e.out
          have W_z := f_z.out rfl
          try simp only [List.setIfInBounds_toArray, List.set_cons_zero, List.set_cons_succ]
          have ZZ : Hid (w.heap[q]? = some (.cells ZB 79 (0, 0))) := Lib.hid W_z
          intro K hK
          rw [if_pos (by rfl)]
          refine wp_store_blkT 79 _ _ rfl q ZB NB rfl rfl 79 ZZ 66 blk_size HZB.out HN0.out HN1.out fun w2 h8 b8 => ?_
          have hb2 := hb.grown b8 (Nat.le_trans hB0 hb.size) (fun z hz => by cases hz; exact hBq)
          exact hK.out _ _ ⟨true, true, true, true, true, true, true, true, true, true, true, true, true, true, true, true, true, .pointer (some ⟨g, 3, none⟩), .pointer (some ⟨g, 3, none⟩), .pointer (some ⟨g, 5, none⟩), .slice ba bn bc, .int .i64 (bn : Nat), .int .i64 ((bn : Nat) + 1), .pointer (some ⟨d, 1, none⟩), .agg PA, .slice (some ⟨gr, 0, none⟩) on on, .agg RA, .pointer (some ⟨g, 3, none⟩), .pointer (some ⟨g, 3, none⟩), .pointer (some ⟨g, 4, none⟩), .slice oa on oc, .int .i64 (on : Nat), .agg NB, (by simp only [Act.put, List.setIfInBounds_toArray, List.set_cons_zero, List.set_cons_succ]), (by simp only [Act.put, List.setIfInBounds_toArray, List.set_cons_zero, List.set_cons_succ]), hb2, (fun _ => rfl), (fun _ => rfl), (fun _ => rfl), (fun _ => rfl), (fun _ => rfl), (fun _ => rfl), (fun _ => rfl), (fun _ => rfl), (fun _ => rfl), (fun _ => rfl), (fun _ => rfl), (fun _ => rfl), (fun _ => rfl), (fun _ => rfl), (fun _ => rfl), (fun _ => rfl), (Bk.grown f_g.out b8 hgq), (Bk.grown f_d.out b8 hdq), (IsR.grown f_e.out b8 heq), (fun h => by cases h), (fun _ => h8.out)⟩
      · rintro act V ⟨b0, b1, b2, b3, b4, b5, b6, b7, b8, b9, b10, b11, b12, b13, b14, b15, b16, x37, x38, x39, x40, x41, x42, x43, x44, x45, x46, x47, x48, x49, x50, x51, x52, hL, rfl, hb, cd0, cd1, cd2, cd3, cd4, cd5, cd6, cd7, cd8, cd9, cd10, cd11, cd12, cd13, cd14, cd15, f_g, f_d, f_e, f_z, f_s⟩
        have hL' : [true, true, true, true, true, true, true, true, true, true, true, true, true, true, true, true, true] = [b0, b1, b2, b3, b4, b5, b6, b7, b8, b9, b10, b11, b12, b13, b14, b15, b16] := congrArg Array.toList hL
        simp only [List.cons.injEq, and_true] at hL'
        obtain ⟨rfl, rfl, rfl, rfl, rfl, rfl, rfl, rfl, rfl, rfl, rfl, rfl, rfl, rfl, rfl, rfl, rfl⟩ := hL'
        obtain rfl := cd0.out rfl
        obtain rfl := cd1.out rfl
        obtain rfl := cd2.out rfl
        obtain rfl := cd3.out rfl
        obtain rfl := cd4.out rfl
        obtain rfl := cd5.out rfl
        obtain rfl := cd6.out rfl
        obtain rfl := cd7.out rfl
        obtain rfl := cd8.out rfl
        obtain rfl := cd9.out rfl
        obtain rfl := cd10.out rfl
        obtain rfl := cd11.out rfl
        obtain rfl := cd12.out rfl
        obtain rfl := cd13.out rfl
        obtain rfl := cd14.out rfl
        obtain rfl := cd15.out rfl
        have W_g := f_g.out
        have W_d := f_d.out
        have W_e := f_e.out
        have W_s := f_s.out rfl
        clear hL f_g f_d f_e f_z f_s cd0 cd1 cd2 cd3 cd4 cd5 cd6 cd7 cd8 cd9 cd10 cd11 cd12 cd13 cd14 cd15
        simp only [List.setIfInBounds_toArray, List.set_cons_zero, List.set_cons_succ]
        have BV : Below S w V := B3.trans ((Below.refl _ _).drew.trans hb)
        clear hb
        go_wp2_with fail
        refine bodyPost_ret (v := .agg NB) (results_cell_row rfl _ _ q _ _ (0, 0) _ rfl W_s Tryd.underlying79 rfl (by rw [blk_size, HN0.out])) rfl ?_
        exact ⟨rfl, by rw [HG.out]; exact BV⟩
end Go.Proofs.YtdmnjjknkcnkgaaDoor
