/-
 The law's Build (by gen_rgb.py).
-/
import Derived.Test.YtdmnjjknkcnkgaaGreatDoorMzB
namespace Go.Proofs.YtdmnjjknkcnkgaaGreatDoor
open List (setIfInBounds_toArray set_cons_zero set_cons_succ)
open Go.RowKit
set_option linter.unusedSimpArgs false
theorem lg_all {w : World} {p : Nat} {v0 v1 v2 v3 : Value} {t : TypeId} (h : Bk w p #[v0,v1,v2,v3] t) (u0 u1 u2 u3 : Value) : Bk ((((w.setCell ⟨p,0,none⟩ u0).setCell ⟨p,1,none⟩ u1).setCell ⟨p,2,none⟩ u2).setCell ⟨p,3,none⟩ u3) p #[u0,u1,u2,u3] t :=
 (heap_setCell_same (i := 3) (v := u3) (heap_setCell_same (i := 2) (v := u2) (heap_setCell_same (i := 1) (v := u1) (heap_setCell_same (i := 0) (v := u0) h))))
theorem addL_next' (M : Lgr) (cl : List Chg) : (addL M cl).next = M.next + 1 := by
 simp only [addL, cls]
 split
 · split <;> rfl
 · rfl
def RVar (w : World) (p X : Nat) (M : Lgr) : Prop := ∃ (oa : Option Addr) (on oc : Nat) (ba : Option Addr) (bn bc : Nat) (ta : Option Addr) (tn tc : Nat),Bk w p #[.int .i64 M.next,.slice oa on oc,.slice ba bn bc,.slice ta tn tc] 32 ∧ LgR w (fun k => X ≤ k) oa on oc ba bn bc ta tn tc M
def BuiltIs (w : World) (l : List Stp) (e : Ending) (w' : World) : Prop := ∃ v, e = .returned v ∧ RLed w (fun k => w.heap.size ≤ k) (buildL l) v w'
inductive RgB7 (B : Nat) (px : Nat) (nx : Int) (oa : Option Addr) (on : Nat) (oc : Nat) (ba : Option Addr) (bn : Nat) (bc : Nat) (ta : Option Addr) (tn : Nat) (tc : Nat) (n : Nat) (c : Nat) (gb : Nat) (goff : Nat) (jn : Nat) (sn : Int) (so : Int) (nm : ByteArray) (va : Option Addr) (vn : Nat) (vc : Nat) (nx2 : Int) (M : Lgr) (sp : Stp) (a0 : Act) (w0 : World) (L : Array Bool) (a : Act) (w : World) : Prop
 | mk (b0 b1 b2 b3 b4 b5 b6 b7 b8 b9 b10 : Bool) (x25 x26 x27 x28 x29 x30 x31 x24 x32 x33 : Value) (ca : Option Addr) (cn7 : Nat) (cc7 : Nat) (oa7 : Option Addr) (on7 : Nat) (oc7 : Nat) (ba7 : Option Addr) (bn7 : Nat) (bc7 : Nat) (ta7 : Option Addr) (tn7 : Nat) (tc7 : Nat) (xa : Option Addr) (xc : Nat) (hL : L = #[b0,b1,b2,b3,b4,b5,b6,b7,b8,b9,b10]) (ha : a = ⟨((((((((((a0.tmps.setIfInBounds 25 x25).setIfInBounds 26 x26).setIfInBounds 27 x27).setIfInBounds 28 x28).setIfInBounds 29 x29).setIfInBounds 30 x30).setIfInBounds 31 x31).setIfInBounds 24 x24).setIfInBounds 32 x32).setIfInBounds 33 x33),a0.defers⟩) (hb : Below B w0 w) (cd0 : Hid (b0 = true → x25 = .agg #[.int .i64 nx,.slice oa on oc,.slice ba bn bc,.slice ta tn tc])) (cd1 : Hid (b1 = true → x26 = .slice (some ⟨gb,goff,none⟩) n c)) (cd2 : Hid (b2 = true → x27 = .int .i64 (jn : Nat))) (cd3 : Hid (b3 = true → x28 = .pointer (some ⟨gb,goff + jn * 4,none⟩))) (cd4 : Hid (b4 = true → x29 = .agg #[.int .i64 sn,.int .i64 so,.string nm,.slice va vn vc])) (cd5 : Hid (b5 = true → x30 = .slice ca cn7 cc7)) (cd6 : Hid (b6 = true → x31 = .tuple #[.agg #[.int .i64 nx2,.slice oa7 on7 oc7,.slice ba7 bn7 bc7,.slice ta7 tn7 tc7],.agg #[.int .i64 nx,.slice xa cn7 xc]])) (cd7 : Hid (b7 = true → x24 = .tuple #[.agg #[.int .i64 nx2,.slice oa7 on7 oc7,.slice ba7 bn7 bc7,.slice ta7 tn7 tc7],.agg #[.int .i64 nx,.slice xa cn7 xc]])) (cd8 : Hid (b8 = true → x32 = .agg #[.int .i64 nx2,.slice oa7 on7 oc7,.slice ba7 bn7 bc7,.slice ta7 tn7 tc7])) (cd9 : Hid (b9 = true → x33 = .agg #[.int .i64 nx,.slice xa cn7 xc])) (f_x : Hid (b10 = false → Bk w px #[.int .i64 nx,.slice oa on oc,.slice ba bn bc,.slice ta tn tc] 32)) (f_l : Hid (b6 = false → LgR w (fun k => px + 1 ≤ k) oa on oc ba bn bc ta tn tc M)) (f_d : Hid (b5 = true → b6 = false → IsD DC w (fun k => px + 1 ≤ k) ca cn7 cc7 (chgs sp))) (f_l2 : Hid (b6 = true → LgR w (fun k => px + 1 ≤ k) oa7 on7 oc7 ba7 bn7 bc7 ta7 tn7 tc7 (addL M (chgs sp)))) (f_s : Hid (b10 = true → Bk w px #[.int .i64 nx2,.slice oa7 on7 oc7,.slice ba7 bn7 bc7,.slice ta7 tn7 tc7] 32)) (f_q6 : Hid (b10 = true → b6 = true)) (f_q0 : Hid (b10 = true → b0 = true)) (w_6_5 : Hid (b6 = true → b5 = true)) (w_7_5 : Hid (b7 = true → b5 = true)) (w_7_6 : Hid (b7 = true → b6 = true)) (w_8_6 : Hid (b8 = true → b6 = true)) (w_9_5 : Hid (b9 = true → b5 = true)) (w_9_6 : Hid (b9 = true → b6 = true)) : RgB7 B px nx oa on oc ba bn bc ta tn tc n c gb goff jn sn so nm va vn vc nx2 M sp a0 w0 L a w
set_option maxRecDepth 100000 in
set_option maxHeartbeats 2000000 in
theorem build_any (w : World) (Q : Nat → Prop) (ao : Option Addr) (n c : Nat) (l : List Stp) (h : IsD DSt w Q ao n c l) (hn : n ≤ 40) (hok : ∀ s ∈ l, StOk s) :
 Calls Tryz.prog 38 #[.slice ao n c] w (BuiltIs w l) := by
 have hln := h.len
 have B0 : Below w.heap.size w ((w.alloc (.cells #[.int .i64 0,.slice none 0 0,.slice none 0 0,.slice none 0 0] 32)).alloc (.cells #[.int .i64 0,.slice none 0 0,.slice none 0 0,.slice none 0 0] 32)) := ((Below.refl _ _).alloc (Nat.le_refl _) _).alloc (by simp) _
 have hQ0 : Bk ((w.alloc (.cells #[.int .i64 0,.slice none 0 0,.slice none 0 0,.slice none 0 0] 32)).alloc (.cells #[.int .i64 0,.slice none 0 0,.slice none 0 0,.slice none 0 0] 32)) w.heap.size #[.int .i64 0,.slice none 0 0,.slice none 0 0,.slice none 0 0] 32 := (Bk.new w _ _).alloc _
 have hX0 : Bk ((w.alloc (.cells #[.int .i64 0,.slice none 0 0,.slice none 0 0,.slice none 0 0] 32)).alloc (.cells #[.int .i64 0,.slice none 0 0,.slice none 0 0,.slice none 0 0] 32)) (w.heap.size + 1) #[.int .i64 0,.slice none 0 0,.slice none 0 0,.slice none 0 0] 32 := by
  have := Bk.new (w.alloc (.cells #[.int .i64 0,.slice none 0 0,.slice none 0 0,.slice none 0 0] 32)) #[.int .i64 0,.slice none 0 0,.slice none 0 0,.slice none 0 0] 32
  rwa [World.size_alloc] at this
 go_enter Tryz.func38, Tryz.ntmps38
 go_upto_region 2 with fail
 generalize (w.alloc (.cells #[.int .i64 0,.slice none 0 0,.slice none 0 0,.slice none 0 0] 32)).alloc (.cells #[.int .i64 0,.slice none 0 0,.slice none 0 0,.slice none 0 0] 32) = W at B0 hQ0 hX0 ⊢
 obtain ⟨q, hq⟩ : ∃ p, w.heap.size = p := ⟨_, rfl⟩
 obtain ⟨px, hpx⟩ : ∃ p, q + 1 = p := ⟨_, rfl⟩
 have HG := Lib.hid hq
 rw [hq] at hQ0 hX0 B0
 rw [hpx] at hX0
 simp only [hq, hpx]
 have hqx : q < px := by omega
 have hxW := hX0.lt
 clear hq hpx
 have V0 : RVar W px (px + 1) ⟨0, [], [], []⟩ := ⟨none, 0, 0, none, 0, 0, none, 0, 0, hX0, ⟨IsD.nil _ _, IsD.nil _ _, IsD.nil _ _⟩⟩
 have HK := fun a w' => within14_any a 4 w' (by omega) (by omega)
 go_wp2_with fail
 go_loopw [4] (fun i wr => ∃ (jn : Nat) (M : Lgr) (k : Nat),jn ≤ n ∧ i = .int .i64 (jn : Nat) ∧ RVar wr px (px + 1) M ∧ LInv k M ∧ M = (l.take jn).foldl stepL ⟨0,[],[],[]⟩ ∧ k ≤ jn ∧ Below px W wr) (fun i _ => n - (intOf i).toNat)
 case atStart => exact ⟨0, _, 0, Nat.zero_le _, rfl, V0, LInv.zero, rfl, Nat.le_refl _, Below.refl _ _⟩
 case round =>
  clear V0 hX0
  obtain ⟨jn, M, k, hj, rfl, ⟨oa, on, oc, ba, bn, bc, ta, tn, tc, hX, hL⟩, hI, hM, hk, B2⟩ := hrel
  have hpW := hX.lt
  have hBw : Below w.heap.size w wr := by rw [HG.out]; exact B0.trans (B2.mono (Nat.le_of_lt hqx))
  by_cases hlt : jn < n
  · have hlti : (jn : Int) < (n : Int) := by omega
    obtain ⟨x, hx⟩ : ∃ x, l[jn]? = some x := ⟨l[jn]'(by omega), List.getElem?_eq_getElem _⟩
    have hsx := hok x (List.mem_of_getElem? hx)
    have HFd : Hid ((l.take (jn + 1)).foldl stepL ⟨0, [], [], []⟩ = stepL M x) := Lib.hid (by
     obtain ⟨hj2, rfl⟩ := List.getElem?_eq_some_iff.1 hx
     rw [List.take_succ_eq_append_getElem hj2, List.foldl_append, ← hM]
     rfl)
    obtain ⟨gb, goff, bb, rfl, hgl0, -, hcl, hr⟩ := h.at hx
    obtain ⟨⟨sn, so, nm⟩, ⟨va, vn, vc⟩⟩ := bb
    obtain ⟨⟨xi, xo, xt⟩, xl⟩ := x
    obtain ⟨hE, hr2⟩ := hr
    obtain ⟨rfl, rfl, rfl⟩ : sn = xi ∧ so = xo ∧ nm = xt := by simpa using hE
    have hxl : xl.length = vn := hr2.flat.len
    have hvn : vn ≤ 12 := by have := hsx.2; simp only at this; omega
    have hcl : ∀ k u, (ESt.f ((sn, so, nm), ⟨va, vn, vc⟩))[k]? = some u → w.cell? ⟨gb, goff + (jn * 4 + k), none⟩ = some u := hcl
    have hgl : gb < px := by have := HG.out; omega
    have y0' : w.cell? ⟨gb, goff + jn * 4, none⟩ = some (.int .i64 sn) := hcl 0 _ rfl
    have y1' : w.cell? ⟨gb, goff + jn * 4 + 1, none⟩ = some (.int .i64 so) := by have := hcl 1 _ rfl; rwa [← Nat.add_assoc] at this
    have y2' : w.cell? ⟨gb, goff + jn * 4 + 2, none⟩ = some (.string nm) := by have := hcl 2 _ rfl; rwa [← Nat.add_assoc] at this
    have y3' : w.cell? ⟨gb, goff + jn * 4 + 3, none⟩ = some (.slice va vn vc) := by have := hcl 3 _ rfl; rwa [← Nat.add_assoc] at this
    have y0 := (hBw.cell hgl0).trans y0'
    have y1 := (hBw.cell hgl0).trans y1'
    have y2 := (hBw.cell hgl0).trans y2'
    have y3 := (hBw.cell hgl0).trans y3'
    have hnk := hI.next
    clear hcl y0' y1' y2' y3' hx hgl0
    obtain ⟨z, hz⟩ : ∃ z, wth14 sn 4 = z := ⟨_, rfl⟩
    have HKz := HK sn
    rw [hz] at HKz
    have HTX : Hid (TxOk ((k : Int), chgs ((sn, so, nm), xl))) := Lib.hid (chgs_ok _ hsx _)
    have hQ9 : ∀ w' : World, wr.heap.size ≤ w'.heap.size → ∀ k, w'.heap.size ≤ k → px + 1 ≤ k := fun w' h1 k h2 => by omega
    by_cases h3 : z = 3
    · have HSt : Hid (stepL M ((sn, so, nm), xl) = cls M) := Lib.hid (if_pos (hz.trans h3))
      clear hz
      subst h3
      have HCl := Lib.hid (rclose_any wr (fun k => px + 1 ≤ k) (hQ9 wr (Nat.le_refl _)) (k : Int) oa on oc ba bn bc ta tn tc M hnk hL (hI.ok (by omega)))
      rw [hnk] at hX
      have hcn : (cls M).next = (k : Int) := hI.cls.next
      obtain ⟨c0,c1,c2,c3⟩ : wr.cell? ⟨px,0,none⟩ = some (.int .i64 (k : Int)) ∧ wr.cell? ⟨px,1,none⟩ = some (.slice oa on oc) ∧ wr.cell? ⟨px,2,none⟩ = some (.slice ba bn bc) ∧ wr.cell? ⟨px,3,none⟩ = some (.slice ta tn tc) := ⟨hX.c rfl,hX.c rfl,hX.c rfl,hX.c rfl⟩
      go_wp2_with (first
       | (go_at_call 16; refine (HKz _).mono ?_; rintro e w9 ⟨rfl, rfl⟩)
       | (go_at_call 18; refine HCl.out.mono ?_; rintro e w7 ⟨v7,rfl,oa7,on7,oc7,ba7,bn7,bc7,ta7,tn7,tc7,rfl,L7,b7⟩; rw [hcn]; have P7 := hX.past b7; obtain ⟨d0,d1,d2,d3⟩ : w7.cell? ⟨px,0,none⟩ = some (.int .i64 (k : Int)) ∧ w7.cell? ⟨px,1,none⟩ = some (.slice oa on oc) ∧ w7.cell? ⟨px,2,none⟩ = some (.slice ba bn bc) ∧ w7.cell? ⟨px,3,none⟩ = some (.slice ta tn tc) := ⟨P7.c rfl,P7.c rfl,P7.c rfl,P7.c rfl⟩; obtain ⟨f0,f1,f2,f3⟩ : w7.frozen? ⟨px,0,none⟩ = false ∧ w7.frozen? ⟨px,1,none⟩ = false ∧ w7.frozen? ⟨px,2,none⟩ = false ∧ w7.frozen? ⟨px,3,none⟩ = false := ⟨free_blk P7,free_blk P7,free_blk P7,free_blk P7⟩))
      have G8 : w7.grownBy ((((w7.setCell ⟨px,0,none⟩ (.int .i64 (k : Int))).setCell ⟨px,1,none⟩ (.slice oa7 on7 oc7)).setCell ⟨px,2,none⟩ (.slice ba7 bn7 bc7)).setCell ⟨px,3,none⟩ (.slice ta7 tn7 tc7)) (some px) := grown_cell (grown_cell (grown_cell (grown_cell (grown_self w7 px) _ _) _ _) _ _) _ _
      have X8 := lg_all P7 (.int .i64 (k : Int)) (.slice oa7 on7 oc7) (.slice ba7 bn7 bc7) (.slice ta7 tn7 tc7)
      have L8 := L7.grown G8 (fun h : px + 1 ≤ px => by omega)
      have B8 : Below px W ((((w7.setCell ⟨px,0,none⟩ (.int .i64 (k : Int))).setCell ⟨px,1,none⟩ (.slice oa7 on7 oc7)).setCell ⟨px,2,none⟩ (.slice ba7 bn7 bc7)).setCell ⟨px,3,none⟩ (.slice ta7 tn7 tc7)) := (B2.trans (b7.mono (Nat.le_of_lt hpW))).grown G8 (Nat.le_of_lt P7.lt) (fun z hz => by cases hz; exact Nat.le_refl _)
      go_roundw
      case rel => exact ⟨jn + 1, cls M, k, by omega, by go_num, ⟨_, _, _, _, _, _, _, _, _, by rw [hcn]; exact X8, L8⟩, hI.cls, by rw [HFd.out, HSt.out], by omega, B8⟩
      case measure => simp [intOf]; omega
    · have hbe : (z == 3) = false := by simpa using h3
      have HSt0 : stepL M ((sn, so, nm), xl) = addL M (chgs ((sn, so, nm), xl)) := if_neg (by rw [hz]; exact h3)
      go_upto_region 7 with (go_at_call 16; refine (HKz _).mono ?_; rintro e w9 ⟨rfl, rfl⟩)
      try simp only [hbe]
      have hB0 : px ≤ wr.heap.size := Nat.le_of_lt hpW
      have HCg0 := fun (w' : World) (b : Below w.heap.size w w') => changes_any w' Q sn so nm va vn vc xl (hr2.past b) hvn
      have HAd0 := fun (w' : World) (b : wr.heap.size ≤ w'.heap.size) (ca : Option Addr) (cn cc : Nat) (h1 : LgR w' (fun k => px + 1 ≤ k) oa on oc ba bn bc ta tn tc M) (h2 : IsD DC w' (fun k => px + 1 ≤ k) ca cn cc (chgs ((sn,so,nm),xl))) => radd_any w' (fun k => px + 1 ≤ k) (hQ9 w' b) (k : Int) oa on oc ba bn bc ta tn tc ca cn cc (chgs ((sn,so,nm),xl)) M hnk (by omega) (by omega) h1 (hI.ok (by omega)) hI.op HTX.out h2
      obtain ⟨sp, hsp⟩ : ∃ s : Stp, ((sn, so, nm), xl) = s := ⟨_, rfl⟩
      simp only [hsp] at HCg0 HAd0
      rw [hsp] at HSt0 HFd HTX
      have HSt := Lib.hid HSt0
      have hn2 : (addL M (chgs sp)).next = (k : Int) + 1 := by rw [addL_next', hnk]
      rw [hnk] at hX
      obtain ⟨nx2, hnx2⟩ : ∃ x, (k : Int) + 1 = x := ⟨_, rfl⟩
      have HNX2 : Hid ((addL M (chgs sp)).next = nx2) := Lib.hid (by rw [hn2]; exact hnx2)
      obtain ⟨nx, hnx⟩ : ∃ x, (k : Int) = x := ⟨_, rfl⟩
      rw [hnx] at hX
      simp only [hnx] at HAd0
      obtain ⟨rr, hrr⟩ : ∃ r, wr.heap.size = r := ⟨_, rfl⟩
      have HCg1 := fun (w' : World) (hb : Below px wr.drew w') => HCg0 w' (by rw [HG.out]; exact (B0.trans (B2.mono (Nat.le_of_lt hqx))).trans (((Below.refl _ _).drew.trans hb).mono (Nat.le_of_lt hqx)))
      have HCg : ∀ (w' : World) (hb : Below px wr.drew w'),Calls Tryz.prog 20 #[.agg #[.int .i64 sn,.int .i64 so,.string nm,.slice va vn vc]] w' (ChIs w' w'.heap.size sp) := fun w' hb => HCg1 w' hb
      have HAd : ∀ (w' : World) (hb : Below px wr.drew w') (ca : Option Addr) (cn cc : Nat) (h1 : LgR w' (fun k => px + 1 ≤ k) oa on oc ba bn bc ta tn tc M) (h2 : IsD DC w' (fun k => px + 1 ≤ k) ca cn cc (chgs sp)),Calls Tryz.prog 21 #[.agg #[.int .i64 nx,.slice oa on oc,.slice ba bn bc,.slice ta tn tc],.slice ca cn cc] w' (RAdded w' (fun k => px + 1 ≤ k) nx M cn (chgs sp)) := fun w' hb ca cn cc h1 h2 => HAd0 w' hb.size ca cn cc h1 h2
      clear HCg0 HCg1 HAd0 hsp HSt0 hn2 hnx2 hrr hbe h3 hz HKz
      refine region_inv (RgB7 px px nx oa on oc ba bn bc ta tn tc n c gb goff jn sn so nm va vn vc nx2 M sp) (by kernel_rfl) (by kernel_rfl) ?_ ?_ ?_
      · exact ⟨false,false,false,false,false,false,false,false,false,false,false,u25,u26,u27,u28,u29,u30,u31,u24,u32,u33,none,0,0,none,0,0,none,0,0,none,0,0,none,0,rfl,(by go_simp),Below.refl _ _,nf2,nf2,nf2,nf2,nf2,nf2,nf2,nf2,nf2,nf2,(fun h1 => hX.past (Below.refl _ _).drew),(fun h1 => hL.past (Below.refl _ _).drew),nf2,nf2,nf2,nf2,nf2,nf2,nf2,nf2,nf2,nf2,nf2⟩
      · refine ⟨?_, ?_, ?_, ?_, ?_, ?_, ?_, ?_, ?_, ?_, ?_, trivial⟩
        all_goals rintro L a w ⟨b0,b1,b2,b3,b4,b5,b6,b7,b8,b9,b10,x25,x26,x27,x28,x29,x30,x31,x24,x32,x33,ca,cn7,cc7,oa7,on7,oc7,ba7,bn7,bc7,ta7,tn7,tc7,xa,xc,rfl,rfl,hb,cd0,cd1,cd2,cd3,cd4,cd5,cd6,cd7,cd8,cd9,f_x,f_l,f_d,f_l2,f_s,f_q6,f_q0,w_6_5,w_7_5,w_7_6,w_8_6,w_9_5,w_9_6⟩ hf hd
        · have hf' : b0 = false := hf
          subst hf'
          clear hf hd
          try simp only [setIfInBounds_toArray, set_cons_zero, set_cons_succ]
          have e_x : b10 = false := by cases hq : b10 with | false => rfl | true => exact absurd (f_q0.out hq) (by simp)
          have W_x := f_x.out e_x
          have z0 : w.cell? ⟨px, 0, none⟩ = some (.int .i64 nx) := W_x.c rfl
          have z1 : w.cell? ⟨px, 1, none⟩ = some (.slice oa on oc) := W_x.c rfl
          have z2 : w.cell? ⟨px, 2, none⟩ = some (.slice ba bn bc) := W_x.c rfl
          have z3 : w.cell? ⟨px, 3, none⟩ = some (.slice ta tn tc) := W_x.c rfl
          intro K hK
          rw [if_pos (by rfl)]
          go_simp
          exact hK.out _ _ ⟨true,b1,b2,b3,b4,b5,b6,b7,b8,b9,b10,(.agg #[.int .i64 nx,.slice oa on oc,.slice ba bn bc,.slice ta tn tc]),x26,x27,x28,x29,x30,x31,x24,x32,x33,ca,cn7,cc7,oa7,on7,oc7,ba7,bn7,bc7,ta7,tn7,tc7,xa,xc,(by go_simp),(by go_simp),hb,rf,cd1,cd2,cd3,cd4,cd5,cd6,cd7,cd8,cd9,f_x,f_l,f_d,f_l2,f_s,f_q6,rf,w_6_5,w_7_5,w_7_6,w_8_6,w_9_5,w_9_6⟩
        · have hf' : b1 = false := hf
          subst hf'
          clear hf hd
          intro K hK
          rw [if_pos (by rfl)]
          go_simp
          exact hK.out _ _ ⟨b0,true,b2,b3,b4,b5,b6,b7,b8,b9,b10,x25,(.slice (some ⟨gb,goff,none⟩) n c),x27,x28,x29,x30,x31,x24,x32,x33,ca,cn7,cc7,oa7,on7,oc7,ba7,bn7,bc7,ta7,tn7,tc7,xa,xc,(by go_simp),(by go_simp),hb,cd0,rf,cd2,cd3,cd4,cd5,cd6,cd7,cd8,cd9,f_x,f_l,f_d,f_l2,f_s,f_q6,f_q0,w_6_5,w_7_5,w_7_6,w_8_6,w_9_5,w_9_6⟩
        · have hf' : b2 = false := hf
          subst hf'
          clear hf hd
          intro K hK
          rw [if_pos (by rfl)]
          go_simp
          exact hK.out _ _ ⟨b0,b1,true,b3,b4,b5,b6,b7,b8,b9,b10,x25,x26,(.int .i64 (jn : Nat)),x28,x29,x30,x31,x24,x32,x33,ca,cn7,cc7,oa7,on7,oc7,ba7,bn7,bc7,ta7,tn7,tc7,xa,xc,(by go_simp),(by go_simp),hb,cd0,cd1,rf,cd3,cd4,cd5,cd6,cd7,cd8,cd9,f_x,f_l,f_d,f_l2,f_s,f_q6,f_q0,w_6_5,w_7_5,w_7_6,w_8_6,w_9_5,w_9_6⟩
        · have hf' : b3 = false := hf
          subst hf'
          have d1 : b1 = true := hd ⟨1, .data⟩ (by simp) rfl
          subst d1
          have d2 : b2 = true := hd ⟨2, .data⟩ (by simp) rfl
          subst d2
          obtain rfl := cd1.out rfl
          obtain rfl := cd2.out rfl
          clear hf hd
          intro K hK
          rw [if_pos (by rfl)]
          go_simp
          exact hK.out _ _ ⟨b0,true,true,true,b4,b5,b6,b7,b8,b9,b10,x25,.slice (some ⟨gb,goff,none⟩) n c,.int .i64 (jn : Nat),(.pointer (some ⟨gb,goff + jn * 4,none⟩)),x29,x30,x31,x24,x32,x33,ca,cn7,cc7,oa7,on7,oc7,ba7,bn7,bc7,ta7,tn7,tc7,xa,xc,(by go_simp),(by go_simp),hb,cd0,rf,rf,rf,cd4,cd5,cd6,cd7,cd8,cd9,f_x,f_l,f_d,f_l2,f_s,f_q6,f_q0,w_6_5,w_7_5,w_7_6,w_8_6,w_9_5,w_9_6⟩
        · have hf' : b4 = false := hf
          subst hf'
          have d3 : b3 = true := hd ⟨3, .data⟩ (by simp) rfl
          subst d3
          obtain rfl := cd3.out rfl
          clear hf hd
          try simp only [setIfInBounds_toArray, set_cons_zero, set_cons_succ]
          have z0 := (hb.cell hgl).trans y0
          have z1 := (hb.cell hgl).trans y1
          have z2 := (hb.cell hgl).trans y2
          have z3 := (hb.cell hgl).trans y3
          intro K hK
          rw [if_pos (by rfl)]
          go_simp
          exact hK.out _ _ ⟨b0,b1,b2,true,true,b5,b6,b7,b8,b9,b10,x25,x26,x27,.pointer (some ⟨gb,goff + jn * 4,none⟩),(.agg #[.int .i64 sn,.int .i64 so,.string nm,.slice va vn vc]),x30,x31,x24,x32,x33,ca,cn7,cc7,oa7,on7,oc7,ba7,bn7,bc7,ta7,tn7,tc7,xa,xc,(by go_simp),(by go_simp),hb,cd0,cd1,cd2,rf,rf,cd5,cd6,cd7,cd8,cd9,f_x,f_l,f_d,f_l2,f_s,f_q6,f_q0,w_6_5,w_7_5,w_7_6,w_8_6,w_9_5,w_9_6⟩
        · have hf' : b5 = false := hf
          subst hf'
          have d4 : b4 = true := hd ⟨4, .data⟩ (by simp) rfl
          subst d4
          obtain rfl := cd4.out rfl
          clear hf hd
          intro K hK
          rw [if_pos (by rfl)]
          go_simp
          go_at_call 20
          refine (HCg _ hb).mono ?_
          rintro e w' ⟨a9, n9, c9, rfl, d9, bx⟩
          have e_6 : b6 = false := by cases hq : b6 with | false => rfl | true => exact absurd (w_6_5.out hq) (by simp)
          subst e_6
          have e_7 : b7 = false := by cases hq : b7 with | false => rfl | true => exact absurd (w_7_5.out hq) (by simp)
          subst e_7
          have e_9 : b9 = false := by cases hq : b9 with | false => rfl | true => exact absurd (w_9_5.out hq) (by simp)
          subst e_9
          exact hK.out _ _ ⟨b0,b1,b2,b3,true,true,false,false,b8,false,b10,x25,x26,x27,x28,.agg #[.int .i64 sn,.int .i64 so,.string nm,.slice va vn vc],(.slice a9 n9 c9),x31,x24,x32,x33,a9,n9,c9,oa7,on7,oc7,ba7,bn7,bc7,ta7,tn7,tc7,xa,xc,(by go_simp),(by go_simp),hb.trans (bx.mono (Nat.le_trans hB0 hb.size)),cd0,cd1,cd2,cd3,rf,rf,nf2,nf2,cd8,nf2,(fun h1 => (f_x.out h1).past bx),(fun h1 => (f_l.out h1).past bx),(fun _ _ => d9.imp (fun k _ hk => Nat.le_trans (Nat.le_trans hpW hb.size) hk)),(fun h0 => (f_l2.out h0).past bx),(fun h0 => (f_s.out h0).past bx),f_q6,f_q0,rf,rf,w_7_6,w_8_6,rf,w_9_6⟩
        · have hf' : b6 = false := hf
          subst hf'
          have d0 : b0 = true := hd ⟨0, .data⟩ (by simp) rfl
          subst d0
          have d5 : b5 = true := hd ⟨5, .data⟩ (by simp) rfl
          subst d5
          obtain rfl := cd0.out rfl
          obtain rfl := cd5.out rfl
          clear hf hd
          have W_l := f_l.out rfl
          have W_d := f_d.out rfl rfl
          intro K hK
          rw [if_pos (by rfl)]
          go_simp
          go_at_call 21
          refine (HAd _ hb _ _ _ W_l W_d).mono ?_
          rintro e w' ⟨v', xa', xc', rfl, ⟨oa7', on7', oc7', ba7', bn7', bc7', ta7', tn7', tc7', rfl, l9, bx⟩, e9⟩
          rw [HNX2.out]
          have e_7 : b7 = false := by cases hq : b7 with | false => rfl | true => exact absurd (w_7_6.out hq) (by simp)
          subst e_7
          have e_8 : b8 = false := by cases hq : b8 with | false => rfl | true => exact absurd (w_8_6.out hq) (by simp)
          subst e_8
          have e_9 : b9 = false := by cases hq : b9 with | false => rfl | true => exact absurd (w_9_6.out hq) (by simp)
          subst e_9
          exact hK.out _ _ ⟨true,b1,b2,b3,b4,true,true,false,false,false,b10,.agg #[.int .i64 nx,.slice oa on oc,.slice ba bn bc,.slice ta tn tc],x26,x27,x28,x29,.slice ca cn7 cc7,(.tuple #[.agg #[.int .i64 nx2,.slice oa7' on7' oc7',.slice ba7' bn7' bc7',.slice ta7' tn7' tc7'],.agg #[.int .i64 nx,.slice xa' cn7 xc']]),x24,x32,x33,ca,cn7,cc7,oa7',on7',oc7',ba7',bn7',bc7',ta7',tn7',tc7',xa',xc',(by go_simp),(by go_simp),hb.trans (bx.mono (Nat.le_trans hB0 hb.size)),rf,cd1,cd2,cd3,cd4,rf,rf,nf2,nf2,nf2,(fun h1 => (f_x.out h1).past bx),nf2,(fun _ h => by cases h),(fun _ => l9),(fun h0 => absurd (f_q6.out h0) (by simp)),rf,f_q0,rf,rf,rf,rf,rf,rf⟩
        · have hf' : b7 = false := hf
          subst hf'
          have d6 : b6 = true := hd ⟨6, .data⟩ (by simp) rfl
          subst d6
          obtain rfl := cd6.out rfl
          clear hf hd
          have W_l2 := f_l2.out rfl
          intro K hK
          rw [if_pos (by rfl)]
          go_simp
          exact hK.out _ _ ⟨b0,b1,b2,b3,b4,b5,true,true,b8,b9,b10,x25,x26,x27,x28,x29,x30,.tuple #[.agg #[.int .i64 nx2,.slice oa7 on7 oc7,.slice ba7 bn7 bc7,.slice ta7 tn7 tc7],.agg #[.int .i64 nx,.slice xa cn7 xc]],(.tuple #[.agg #[.int .i64 nx2,.slice oa7 on7 oc7,.slice ba7 bn7 bc7,.slice ta7 tn7 tc7],.agg #[.int .i64 nx,.slice xa cn7 xc]]),x32,x33,ca,cn7,cc7,oa7,on7,oc7,ba7,bn7,bc7,ta7,tn7,tc7,xa,xc,(by go_simp),(by go_simp),hb,cd0,cd1,cd2,cd3,cd4,cd5,rf,rf,cd8,cd9,f_x,nf2,(fun _ h => by cases h),f_l2,f_s,f_q6,f_q0,w_6_5,(fun _ => w_6_5.out rfl),rf,rf,w_9_5,rf⟩
        · have hf' : b8 = false := hf
          subst hf'
          have d7 : b7 = true := hd ⟨7, .data⟩ (by simp) rfl
          subst d7
          obtain rfl := cd7.out rfl
          clear hf hd
          intro K hK
          rw [if_pos (by rfl)]
          go_simp
          exact hK.out _ _ ⟨b0,b1,b2,b3,b4,b5,b6,true,true,b9,b10,x25,x26,x27,x28,x29,x30,x31,.tuple #[.agg #[.int .i64 nx2,.slice oa7 on7 oc7,.slice ba7 bn7 bc7,.slice ta7 tn7 tc7],.agg #[.int .i64 nx,.slice xa cn7 xc]],(.agg #[.int .i64 nx2,.slice oa7 on7 oc7,.slice ba7 bn7 bc7,.slice ta7 tn7 tc7]),x33,ca,cn7,cc7,oa7,on7,oc7,ba7,bn7,bc7,ta7,tn7,tc7,xa,xc,(by go_simp),(by go_simp),hb,cd0,cd1,cd2,cd3,cd4,cd5,cd6,rf,rf,cd9,f_x,f_l,f_d,f_l2,f_s,f_q6,f_q0,w_6_5,w_7_5,w_7_6,(fun _ => w_7_6.out rfl),w_9_5,w_9_6⟩
        · have hf' : b9 = false := hf
          subst hf'
          have d7 : b7 = true := hd ⟨7, .data⟩ (by simp) rfl
          subst d7
          obtain rfl := cd7.out rfl
          clear hf hd
          intro K hK
          rw [if_pos (by rfl)]
          go_simp
          exact hK.out _ _ ⟨b0,b1,b2,b3,b4,b5,b6,true,b8,true,b10,x25,x26,x27,x28,x29,x30,x31,.tuple #[.agg #[.int .i64 nx2,.slice oa7 on7 oc7,.slice ba7 bn7 bc7,.slice ta7 tn7 tc7],.agg #[.int .i64 nx,.slice xa cn7 xc]],x32,(.agg #[.int .i64 nx,.slice xa cn7 xc]),ca,cn7,cc7,oa7,on7,oc7,ba7,bn7,bc7,ta7,tn7,tc7,xa,xc,(by go_simp),(by go_simp),hb,cd0,cd1,cd2,cd3,cd4,cd5,cd6,rf,cd8,rf,f_x,f_l,f_d,f_l2,f_s,f_q6,f_q0,w_6_5,w_7_5,w_7_6,w_8_6,(fun _ => w_7_5.out rfl),(fun _ => w_7_6.out rfl)⟩
        · have hf' : b10 = false := hf
          subst hf'
          have d8 : b8 = true := hd ⟨8, .data⟩ (by simp) rfl
          subst d8
          have d6 : b6 = true := hd ⟨6, .chain⟩ (by simp) rfl
          subst d6
          have d0 : b0 = true := hd ⟨0, .phase⟩ (by simp) rfl
          subst d0
          have d1 : b1 = true := hd ⟨1, .phase⟩ (by simp) rfl
          subst d1
          have d2 : b2 = true := hd ⟨2, .phase⟩ (by simp) rfl
          subst d2
          have d3 : b3 = true := hd ⟨3, .phase⟩ (by simp) rfl
          subst d3
          have d4 : b4 = true := hd ⟨4, .phase⟩ (by simp) rfl
          subst d4
          have d5 : b5 = true := hd ⟨5, .phase⟩ (by simp) rfl
          subst d5
          have d7 : b7 = true := hd ⟨7, .phase⟩ (by simp) rfl
          subst d7
          obtain rfl := cd8.out rfl
          obtain rfl := cd6.out rfl
          obtain rfl := cd0.out rfl
          obtain rfl := cd1.out rfl
          obtain rfl := cd2.out rfl
          obtain rfl := cd3.out rfl
          obtain rfl := cd4.out rfl
          obtain rfl := cd5.out rfl
          obtain rfl := cd7.out rfl
          clear hf hd
          have W_x := f_x.out rfl
          have W_l2 := f_l2.out rfl
          try simp only [setIfInBounds_toArray, set_cons_zero, set_cons_succ]
          have z0 : w.cell? ⟨px, 0, none⟩ = some (.int .i64 nx) := W_x.c rfl
          have f0 := free_blk (i := 0) W_x
          have z1 : w.cell? ⟨px, 1, none⟩ = some (.slice oa on oc) := W_x.c rfl
          have f1 := free_blk (i := 1) W_x
          have z2 : w.cell? ⟨px, 2, none⟩ = some (.slice ba bn bc) := W_x.c rfl
          have f2 := free_blk (i := 2) W_x
          have z3 : w.cell? ⟨px, 3, none⟩ = some (.slice ta tn tc) := W_x.c rfl
          have f3 := free_blk (i := 3) W_x
          intro K hK
          rw [if_pos (by rfl)]
          go_simp
          have gz9 := grown_cell (grown_cell (grown_cell (grown_cell (grown_self w px) 0 (.int .i64 nx2)) 1 (.slice oa7 on7 oc7)) 2 (.slice ba7 bn7 bc7)) 3 (.slice ta7 tn7 tc7)
          have hb2 := hb.grown gz9 (Nat.le_trans hB0 hb.size) (fun z hz => by cases hz; exact Nat.le_refl _)
          exact hK.out _ _ ⟨true,true,true,true,true,true,true,true,true,b9,true,.agg #[.int .i64 nx,.slice oa on oc,.slice ba bn bc,.slice ta tn tc],.slice (some ⟨gb,goff,none⟩) n c,.int .i64 (jn : Nat),.pointer (some ⟨gb,goff + jn * 4,none⟩),.agg #[.int .i64 sn,.int .i64 so,.string nm,.slice va vn vc],.slice ca cn7 cc7,.tuple #[.agg #[.int .i64 nx2,.slice oa7 on7 oc7,.slice ba7 bn7 bc7,.slice ta7 tn7 tc7],.agg #[.int .i64 nx,.slice xa cn7 xc]],.tuple #[.agg #[.int .i64 nx2,.slice oa7 on7 oc7,.slice ba7 bn7 bc7,.slice ta7 tn7 tc7],.agg #[.int .i64 nx,.slice xa cn7 xc]],.agg #[.int .i64 nx2,.slice oa7 on7 oc7,.slice ba7 bn7 bc7,.slice ta7 tn7 tc7],x33,ca,cn7,cc7,oa7,on7,oc7,ba7,bn7,bc7,ta7,tn7,tc7,xa,xc,(by go_simp),(by go_simp),hb2,rf,rf,rf,rf,rf,rf,rf,rf,rf,cd9,nf2,nf2,(fun _ h => by cases h),(fun h0 => ((f_l2.out h0)).grown gz9 (fun h => by have : px + 1 ≤ px := h; omega)),(fun _ => lg_all W_x _ _ _ _),rf,rf,rf,rf,rf,rf,rf,rf⟩
      · rintro act V ⟨b0,b1,b2,b3,b4,b5,b6,b7,b8,b9,b10,x25,x26,x27,x28,x29,x30,x31,x24,x32,x33,ca,cn7,cc7,oa7,on7,oc7,ba7,bn7,bc7,ta7,tn7,tc7,xa,xc,hL,rfl,hb,cd0,cd1,cd2,cd3,cd4,cd5,cd6,cd7,cd8,cd9,f_x,f_l,f_d,f_l2,f_s,f_q6,f_q0,w_6_5,w_7_5,w_7_6,w_8_6,w_9_5,w_9_6⟩
        have hL' : [true, true, true, true, true, true, true, true, true, true, true] = [b0, b1, b2, b3, b4, b5, b6, b7, b8, b9, b10] := congrArg Array.toList hL
        simp only [List.cons.injEq, and_true] at hL'
        obtain ⟨rfl, rfl, rfl, rfl, rfl, rfl, rfl, rfl, rfl, rfl, rfl⟩ := hL'
        obtain rfl := cd0.out rfl
        obtain rfl := cd1.out rfl
        obtain rfl := cd2.out rfl
        obtain rfl := cd3.out rfl
        obtain rfl := cd4.out rfl
        obtain rfl := cd5.out rfl
        obtain rfl := cd6.out rfl
        obtain rfl := cd7.out rfl
        obtain rfl := cd8.out rfl
        obtain rfl := cd9.out rfl
        have W_l2 := f_l2.out rfl
        have W_s := f_s.out rfl
        have W_q6 := f_q6.out rfl
        have W_q0 := f_q0.out rfl
        clear hL f_x f_l f_d f_l2 f_s f_q6 f_q0 cd0 cd1 cd2 cd3 cd4 cd5 cd6 cd7 cd8 cd9 w_6_5 w_7_5 w_7_6 w_8_6 w_9_5 w_9_6
        simp only [setIfInBounds_toArray, set_cons_zero, set_cons_succ]
        have BV : Below px W V := B2.trans ((Below.refl _ _).drew.trans hb)
        have X9 := W_s
        have L9 := W_l2
        clear W_s W_l2 hb
        go_wp2_with fail
        go_roundw
        case rel => exact ⟨jn + 1,addL M (chgs sp),k + 1,by omega,by go_num,⟨_,_,_,_,_,_,_,_,_,by rw [HNX2.out]; exact X9,L9⟩,hI.add _ (HTX.out),by rw [HFd.out,HSt.out],by omega,BV⟩
        case measure => simp [intOf]; omega
  · have hlti : ¬ (jn : Int) < (n : Int) := by omega
    obtain rfl : jn = n := by omega
    rw [List.take_of_length_le (Nat.le_of_eq hln)] at hM
    have hnk := hI.next
    rw [hnk] at hX
    have Q3 := hQ0.past9 B2 hqx
    obtain ⟨d0,d1,d2,d3⟩ : wr.cell? ⟨px,0,none⟩ = some (.int .i64 (k : Int)) ∧ wr.cell? ⟨px,1,none⟩ = some (.slice oa on oc) ∧ wr.cell? ⟨px,2,none⟩ = some (.slice ba bn bc) ∧ wr.cell? ⟨px,3,none⟩ = some (.slice ta tn tc) := ⟨hX.c rfl,hX.c rfl,hX.c rfl,hX.c rfl⟩
    obtain ⟨e0,e1,e2,e3⟩ : wr.cell? ⟨q,0,none⟩ = some (.int .i64 0) ∧ wr.cell? ⟨q,1,none⟩ = some (.slice none 0 0) ∧ wr.cell? ⟨q,2,none⟩ = some (.slice none 0 0) ∧ wr.cell? ⟨q,3,none⟩ = some (.slice none 0 0) := ⟨Q3.c rfl,Q3.c rfl,Q3.c rfl,Q3.c rfl⟩
    obtain ⟨f0,f1,f2,f3⟩ : wr.frozen? ⟨q,0,none⟩ = false ∧ wr.frozen? ⟨q,1,none⟩ = false ∧ wr.frozen? ⟨q,2,none⟩ = false ∧ wr.frozen? ⟨q,3,none⟩ = false := ⟨free_blk Q3,free_blk Q3,free_blk Q3,free_blk Q3⟩
    go_wp2_with fail
    have G9 : wr.grownBy ((((wr.setCell ⟨q,0,none⟩ (.int .i64 (k : Int))).setCell ⟨q,1,none⟩ (.slice oa on oc)).setCell ⟨q,2,none⟩ (.slice ba bn bc)).setCell ⟨q,3,none⟩ (.slice ta tn tc)) (some q) := grown_cell (grown_cell (grown_cell (grown_cell (grown_self _ _) _ _) _ _) _ _) _ _
    have Q9 := lg_all Q3 (.int .i64 (k : Int)) (.slice oa on oc) (.slice ba bn bc) (.slice ta tn tc)
    have L9 := hL.grown G9 (fun h : px + 1 ≤ q => by omega)
    have B9 : Below w.heap.size w ((((wr.setCell ⟨q,0,none⟩ (.int .i64 (k : Int))).setCell ⟨q,1,none⟩ (.slice oa on oc)).setCell ⟨q,2,none⟩ (.slice ba bn bc)).setCell ⟨q,3,none⟩ (.slice ta tn tc)) := hBw.grown G9 hBw.size (fun z hz => by cases hz; exact Nat.le_of_eq HG.out)
    generalize ((((wr.setCell ⟨q,0,none⟩ (.int .i64 (k : Int))).setCell ⟨q,1,none⟩ (.slice oa on oc)).setCell ⟨q,2,none⟩ (.slice ba bn bc)).setCell ⟨q,3,none⟩ (.slice ta tn tc)) = w9 at Q9 L9 B9 ⊢
    obtain ⟨r0,r1,r2,r3⟩ : w9.cell? ⟨q,0,none⟩ = some (.int .i64 (k : Int)) ∧ w9.cell? ⟨q,1,none⟩ = some (.slice oa on oc) ∧ w9.cell? ⟨q,2,none⟩ = some (.slice ba bn bc) ∧ w9.cell? ⟨q,3,none⟩ = some (.slice ta tn tc) := ⟨Q9.c rfl,Q9.c rfl,Q9.c rfl,Q9.c rfl⟩
    refine bodyPost_ret (v := .agg #[.int .i64 (k : Int),.slice oa on oc,.slice ba bn bc,.slice ta tn tc]) (by simp [results, Tryz.results38, go_sem,r0,r1,r2,r3]) rfl ?_
    unfold BuiltIs RLed
    have hMb : M = buildL l := hM
    rw [← hMb]
    exact ⟨_, rfl, _, _, _, _, _, _, _, _, _, by rw [hnk], L9.imp (fun k _ hk => by have := HG.out; have : px + 1 ≤ k := hk; omega), B9⟩
end Go.Proofs.YtdmnjjknkcnkgaaGreatDoor
