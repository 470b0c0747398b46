/-
 The document's SameChange, of changes that are alike (by gen_rsc.py).
 The document's SameTxs, of transactions that are alike (by gen_rst.py).
-/
import Derived.Test.YtdmnjjknkcnkgaaGreatDoorMzD
namespace Go.Proofs.YtdmnjjknkcnkgaaGreatDoor
open List (setIfInBounds_toArray set_cons_zero set_cons_succ)
open Go.RowKit
set_option linter.unusedSimpArgs false
inductive RSc6 (B : Nat) (px : Nat) (py : Nat) (n : Nat) (ca : Nat) (cb : Nat) (ga : Nat) (oa : Nat) (gb : Nat) (ob : Nat) (jn : Nat) (vk : Int) (vn : Int) (vs : ByteArray) (a0 : Act) (w0 : World) (L : Array Bool) (a : Act) (w : World) : Prop
 | mk (b0 b1 b2 b3 b4 b5 b6 b7 b8 b9 b10 : Bool) (x34 x35 x36 x37 x38 x39 x40 x41 x42 x43 x44 : Value) (hL : L = #[b0,b1,b2,b3,b4,b5,b6,b7,b8,b9,b10]) (ha : a = ⟨(((((((((((a0.tmps.setIfInBounds 34 x34).setIfInBounds 35 x35).setIfInBounds 36 x36).setIfInBounds 37 x37).setIfInBounds 38 x38).setIfInBounds 39 x39).setIfInBounds 40 x40).setIfInBounds 41 x41).setIfInBounds 42 x42).setIfInBounds 43 x43).setIfInBounds 44 x44),a0.defers⟩) (hb : Below B w0 w) (cd0 : Hid (b0 = true → x34 = .pointer (some ⟨px,2,none⟩))) (cd1 : Hid (b1 = true → x35 = .slice (some ⟨ga,oa,none⟩) n ca)) (cd2 : Hid (b2 = true → x36 = .int .i64 (jn : Nat))) (cd3 : Hid (b3 = true → x37 = .pointer (some ⟨ga,oa + jn * 3,none⟩))) (cd4 : Hid (b4 = true → x38 = .agg #[.int .i64 vk,.int .i64 vn,.string vs])) (cd5 : Hid (b5 = true → x39 = .pointer (some ⟨py,2,none⟩))) (cd6 : Hid (b6 = true → x40 = .slice (some ⟨gb,ob,none⟩) n cb)) (cd7 : Hid (b7 = true → x41 = .int .i64 (jn : Nat))) (cd8 : Hid (b8 = true → x42 = .pointer (some ⟨gb,ob + jn * 3,none⟩))) (cd9 : Hid (b9 = true → x43 = .agg #[.int .i64 vk,.int .i64 vn,.string vs])) (cd10 : Hid (b10 = true → x44 = .bool false)) : RSc6 B px py n ca cb ga oa gb ob jn vk vn vs a0 w0 L a w
set_option maxRecDepth 100000 in
set_option maxHeartbeats 2000000 in
theorem rsameCh_rfl (w : World) (bt : ByteArray) (bo : Int) (ra : Option Addr) (n ca : Nat) (sa : Option Addr) (cb : Nat) (vl : List V) (hr : IsR EV w ra n ca vl) (hs : IsR EV w sa n cb vl) :
 Calls Tryz.prog 53 #[.agg #[.string bt,.int .i64 bo,.slice ra n ca],.agg #[.string bt,.int .i64 bo,.slice sa n cb]] w fun e w' => e = .returned (.bool true) ∧ Below w.heap.size w w' := by
 have hln := hr.len
 have hmx : n ≤ maxLen := Nat.le_trans hr.le hr.max
 unfold maxLen at hmx
 have B0 : Below w.heap.size w ((w.alloc (.cells #[.string bt,.int .i64 bo,.slice ra n ca] 67)).alloc (.cells #[.string bt,.int .i64 bo,.slice sa n cb] 67)) := ((Below.refl _ _).alloc (Nat.le_refl _) _).alloc (by simp) _
 have hP : Bk ((w.alloc (.cells #[.string bt,.int .i64 bo,.slice ra n ca] 67)).alloc (.cells #[.string bt,.int .i64 bo,.slice sa n cb] 67)) w.heap.size #[.string bt,.int .i64 bo,.slice ra n ca] 67 := (Bk.new w _ _).alloc _
 have hQ : Bk ((w.alloc (.cells #[.string bt,.int .i64 bo,.slice ra n ca] 67)).alloc (.cells #[.string bt,.int .i64 bo,.slice sa n cb] 67)) (w.heap.size + 1) #[.string bt,.int .i64 bo,.slice sa n cb] 67 := by
  have := Bk.new (w.alloc (.cells #[.string bt, .int .i64 bo, .slice ra n ca] 67)) #[.string bt, .int .i64 bo, .slice sa n cb] 67
  rwa [World.size_alloc] at this
 have hr0 := hr.past B0
 have hs0 := hs.past B0
 go_enter Tryz.func53, Tryz.ntmps53
 go_upto_region 1 with fail
 generalize ((w.alloc (.cells #[.string bt, .int .i64 bo, .slice ra n ca] 67)).alloc (.cells #[.string bt, .int .i64 bo, .slice sa n cb] 67)) = W at B0 hP hQ hr0 hs0 ⊢
 obtain ⟨px, hpx⟩ : ∃ x, w.heap.size = x := ⟨_, rfl⟩
 obtain ⟨py, hpy⟩ : ∃ x, px + 1 = x := ⟨_, rfl⟩
 have HG := Lib.hid hpx
 rw [hpx] at hP hQ B0
 rw [hpy] at hQ
 simp only [hpx, hpy]
 clear hpx hpy hr hs
 obtain ⟨c0, c1, c2⟩ : W.cell? ⟨px, 0, none⟩ = some (.string bt) ∧ W.cell? ⟨px, 1, none⟩ = some (.int .i64 bo) ∧ W.cell? ⟨px, 2, none⟩ = some (.slice ra n ca) := ⟨hP.c rfl, hP.c rfl, hP.c rfl⟩
 obtain ⟨d0, d1, d2⟩ : W.cell? ⟨py, 0, none⟩ = some (.string bt) ∧ W.cell? ⟨py, 1, none⟩ = some (.int .i64 bo) ∧ W.cell? ⟨py, 2, none⟩ = some (.slice sa n cb) := ⟨hQ.c rfl, hQ.c rfl, hQ.c rfl⟩
 go_wp2_with fail
 go_loopw [5] (fun i wr => ∃ jn : Nat, jn ≤ n ∧ i = .int .i64 (jn : Nat) ∧ Below W.heap.size W wr) (fun i _ => n - (intOf i).toNat)
 case atStart => exact ⟨0, Nat.zero_le _, rfl, Below.refl _ _⟩
 case round =>
  clear c0 c1 c2 d0 d1 d2
  obtain ⟨jn, hj, rfl, hB⟩ := hrel
  have P3 := hP.past hB
  have Q3 := hQ.past hB
  have hr3 := hr0.past hB
  have hs3 := hs0.past hB
  have px2 : wr.cell? ⟨px, 2, none⟩ = some (.slice ra n ca) := P3.c rfl
  have py2 : wr.cell? ⟨py, 2, none⟩ = some (.slice sa n cb) := Q3.c rfl
  by_cases hlt : jn < n
  · have hlti : (jn : Int) < (n : Int) := by omega
    obtain ⟨v, hv⟩ : ∃ v, vl[jn]? = some v := ⟨vl[jn]'(by omega), List.getElem?_eq_getElem _⟩
    obtain ⟨ga, oa, rfl, hga, hcga⟩ := hr3.open (by omega) (by decide)
    have y0 : wr.drew.cell? ⟨ga, oa + jn * 3, none⟩ = some (.int .i64 v.k) := hcga _ _ ((EV.all_get vl jn 0 v hv (by decide)).trans rfl)
    have y1 : wr.drew.cell? ⟨ga, oa + jn * 3 + 1, none⟩ = some (.int .i64 v.n) := by have := hcga _ _ ((EV.all_get vl jn 1 v hv (by decide)).trans rfl); rwa [← Nat.add_assoc] at this
    have y2 : wr.drew.cell? ⟨ga, oa + jn * 3 + 2, none⟩ = some (.string v.s) := by have := hcga _ _ ((EV.all_get vl jn 2 v hv (by decide)).trans rfl); rwa [← Nat.add_assoc] at this
    obtain ⟨gb, ob, rfl, hgb, hcgb⟩ := hs3.open (by omega) (by decide)
    have x0 : wr.drew.cell? ⟨gb, ob + jn * 3, none⟩ = some (.int .i64 v.k) := hcgb _ _ ((EV.all_get vl jn 0 v hv (by decide)).trans rfl)
    have x1 : wr.drew.cell? ⟨gb, ob + jn * 3 + 1, none⟩ = some (.int .i64 v.n) := by have := hcgb _ _ ((EV.all_get vl jn 1 v hv (by decide)).trans rfl); rwa [← Nat.add_assoc] at this
    have x2 : wr.drew.cell? ⟨gb, ob + jn * 3 + 2, none⟩ = some (.string v.s) := by have := hcgb _ _ ((EV.all_get vl jn 2 v hv (by decide)).trans rfl); rwa [← Nat.add_assoc] at this
    have hlpx := P3.lt
    have hlpy := Q3.lt
    obtain ⟨r, hr⟩ : ∃ r, wr.heap.size = r := ⟨_, rfl⟩
    have HR := Lib.hid hr
    have hB0 : r ≤ wr.heap.size := Nat.le_of_eq hr.symm
    rw [hr] at hlpx hlpy hga hgb
    obtain ⟨vk, vn, vs⟩ := v
    simp only at y0 y1 y2 x0 x1 x2
    clear hcga hcgb hv hr hr3 hs3 hr0 hs0 P3 Q3
    go_upto_region 6 with fail
    refine region_inv (RSc6 r px py n ca cb ga oa gb ob jn vk vn vs) (by kernel_rfl) (by kernel_rfl) ?_ ?_ ?_
    · exact ⟨false,false,false,false,false,false,false,false,false,false,false,u34,u35,u36,u37,u38,u39,u40,u41,u42,u43,u44,rfl,(by go_simp),Below.refl _ _,nf2,nf2,nf2,nf2,nf2,nf2,nf2,nf2,nf2,nf2,nf2⟩
    · refine ⟨?_, ?_, ?_, ?_, ?_, ?_, ?_, ?_, ?_, ?_, ?_, trivial⟩
      all_goals rintro L a w ⟨b0,b1,b2,b3,b4,b5,b6,b7,b8,b9,b10,x34,x35,x36,x37,x38,x39,x40,x41,x42,x43,x44,rfl,rfl,hb,cd0,cd1,cd2,cd3,cd4,cd5,cd6,cd7,cd8,cd9,cd10⟩ hf hd
      · have hf' : b0 = false := hf
        subst hf'
        clear hf hd
        intro K hK
        rw [if_pos (by rfl)]
        go_simp
        exact hK.out _ _ ⟨true,b1,b2,b3,b4,b5,b6,b7,b8,b9,b10,(.pointer (some ⟨px,2,none⟩)),x35,x36,x37,x38,x39,x40,x41,x42,x43,x44,(by go_simp),(by go_simp),hb,(fun _ => rfl),cd1,cd2,cd3,cd4,cd5,cd6,cd7,cd8,cd9,cd10⟩
      · have hf' : b1 = false := hf
        subst hf'
        have d0 : b0 = true := hd ⟨0, .data⟩ (by simp) rfl
        subst d0
        obtain rfl := cd0.out rfl
        clear hf hd
        try simp only [setIfInBounds_toArray, set_cons_zero, set_cons_succ]
        have z0 := (hb.cell hlpx).trans px2
        intro K hK
        rw [if_pos (by rfl)]
        go_simp
        exact hK.out _ _ ⟨true,true,b2,b3,b4,b5,b6,b7,b8,b9,b10,.pointer (some ⟨px,2,none⟩),(.slice (some ⟨ga,oa,none⟩) n ca),x36,x37,x38,x39,x40,x41,x42,x43,x44,(by go_simp),(by go_simp),hb,(fun _ => rfl),(fun _ => rfl),cd2,cd3,cd4,cd5,cd6,cd7,cd8,cd9,cd10⟩
      · have hf' : b2 = false := hf
        subst hf'
        clear hf hd
        intro K hK
        rw [if_pos (by rfl)]
        go_simp
        exact hK.out _ _ ⟨b0,b1,true,b3,b4,b5,b6,b7,b8,b9,b10,x34,x35,(.int .i64 (jn : Nat)),x37,x38,x39,x40,x41,x42,x43,x44,(by go_simp),(by go_simp),hb,cd0,cd1,(fun _ => rfl),cd3,cd4,cd5,cd6,cd7,cd8,cd9,cd10⟩
      · have hf' : b3 = false := hf
        subst hf'
        have d1 : b1 = true := hd ⟨1, .data⟩ (by simp) rfl
        subst d1
        have d2 : b2 = true := hd ⟨2, .data⟩ (by simp) rfl
        subst d2
        obtain rfl := cd1.out rfl
        obtain rfl := cd2.out rfl
        clear hf hd
        intro K hK
        rw [if_pos (by rfl)]
        go_simp
        exact hK.out _ _ ⟨b0,true,true,true,b4,b5,b6,b7,b8,b9,b10,x34,.slice (some ⟨ga,oa,none⟩) n ca,.int .i64 (jn : Nat),(.pointer (some ⟨ga,oa + jn * 3,none⟩)),x38,x39,x40,x41,x42,x43,x44,(by go_simp),(by go_simp),hb,cd0,(fun _ => rfl),(fun _ => rfl),(fun _ => rfl),cd4,cd5,cd6,cd7,cd8,cd9,cd10⟩
      · have hf' : b4 = false := hf
        subst hf'
        have d3 : b3 = true := hd ⟨3, .data⟩ (by simp) rfl
        subst d3
        obtain rfl := cd3.out rfl
        clear hf hd
        try simp only [setIfInBounds_toArray, set_cons_zero, set_cons_succ]
        have z0 := (hb.cell hga).trans y0
        have z1 := (hb.cell hga).trans y1
        have z2 := (hb.cell hga).trans y2
        intro K hK
        rw [if_pos (by rfl)]
        go_simp
        exact hK.out _ _ ⟨b0,b1,b2,true,true,b5,b6,b7,b8,b9,b10,x34,x35,x36,.pointer (some ⟨ga,oa + jn * 3,none⟩),(.agg #[.int .i64 vk,.int .i64 vn,.string vs]),x39,x40,x41,x42,x43,x44,(by go_simp),(by go_simp),hb,cd0,cd1,cd2,(fun _ => rfl),(fun _ => rfl),cd5,cd6,cd7,cd8,cd9,cd10⟩
      · have hf' : b5 = false := hf
        subst hf'
        clear hf hd
        intro K hK
        rw [if_pos (by rfl)]
        go_simp
        exact hK.out _ _ ⟨b0,b1,b2,b3,b4,true,b6,b7,b8,b9,b10,x34,x35,x36,x37,x38,(.pointer (some ⟨py,2,none⟩)),x40,x41,x42,x43,x44,(by go_simp),(by go_simp),hb,cd0,cd1,cd2,cd3,cd4,(fun _ => rfl),cd6,cd7,cd8,cd9,cd10⟩
      · have hf' : b6 = false := hf
        subst hf'
        have d5 : b5 = true := hd ⟨5, .data⟩ (by simp) rfl
        subst d5
        obtain rfl := cd5.out rfl
        clear hf hd
        try simp only [setIfInBounds_toArray, set_cons_zero, set_cons_succ]
        have z0 := (hb.cell hlpy).trans py2
        intro K hK
        rw [if_pos (by rfl)]
        go_simp
        exact hK.out _ _ ⟨b0,b1,b2,b3,b4,true,true,b7,b8,b9,b10,x34,x35,x36,x37,x38,.pointer (some ⟨py,2,none⟩),(.slice (some ⟨gb,ob,none⟩) n cb),x41,x42,x43,x44,(by go_simp),(by go_simp),hb,cd0,cd1,cd2,cd3,cd4,(fun _ => rfl),(fun _ => rfl),cd7,cd8,cd9,cd10⟩
      · have hf' : b7 = false := hf
        subst hf'
        clear hf hd
        intro K hK
        rw [if_pos (by rfl)]
        go_simp
        exact hK.out _ _ ⟨b0,b1,b2,b3,b4,b5,b6,true,b8,b9,b10,x34,x35,x36,x37,x38,x39,x40,(.int .i64 (jn : Nat)),x42,x43,x44,(by go_simp),(by go_simp),hb,cd0,cd1,cd2,cd3,cd4,cd5,cd6,(fun _ => rfl),cd8,cd9,cd10⟩
      · have hf' : b8 = false := hf
        subst hf'
        have d6 : b6 = true := hd ⟨6, .data⟩ (by simp) rfl
        subst d6
        have d7 : b7 = true := hd ⟨7, .data⟩ (by simp) rfl
        subst d7
        obtain rfl := cd6.out rfl
        obtain rfl := cd7.out rfl
        clear hf hd
        intro K hK
        rw [if_pos (by rfl)]
        go_simp
        exact hK.out _ _ ⟨b0,b1,b2,b3,b4,b5,true,true,true,b9,b10,x34,x35,x36,x37,x38,x39,.slice (some ⟨gb,ob,none⟩) n cb,.int .i64 (jn : Nat),(.pointer (some ⟨gb,ob + jn * 3,none⟩)),x43,x44,(by go_simp),(by go_simp),hb,cd0,cd1,cd2,cd3,cd4,cd5,(fun _ => rfl),(fun _ => rfl),(fun _ => rfl),cd9,cd10⟩
      · have hf' : b9 = false := hf
        subst hf'
        have d8 : b8 = true := hd ⟨8, .data⟩ (by simp) rfl
        subst d8
        obtain rfl := cd8.out rfl
        clear hf hd
        try simp only [setIfInBounds_toArray, set_cons_zero, set_cons_succ]
        have z0 := (hb.cell hgb).trans x0
        have z1 := (hb.cell hgb).trans x1
        have z2 := (hb.cell hgb).trans x2
        intro K hK
        rw [if_pos (by rfl)]
        go_simp
        exact hK.out _ _ ⟨b0,b1,b2,b3,b4,b5,b6,b7,true,true,b10,x34,x35,x36,x37,x38,x39,x40,x41,.pointer (some ⟨gb,ob + jn * 3,none⟩),(.agg #[.int .i64 vk,.int .i64 vn,.string vs]),x44,(by go_simp),(by go_simp),hb,cd0,cd1,cd2,cd3,cd4,cd5,cd6,cd7,(fun _ => rfl),(fun _ => rfl),cd10⟩
      · have hf' : b10 = false := hf
        subst hf'
        have d4 : b4 = true := hd ⟨4, .data⟩ (by simp) rfl
        subst d4
        have d9 : b9 = true := hd ⟨9, .data⟩ (by simp) rfl
        subst d9
        obtain rfl := cd4.out rfl
        obtain rfl := cd9.out rfl
        clear hf hd
        intro K hK
        rw [if_pos (by rfl)]
        go_simp
        exact hK.out _ _ ⟨b0,b1,b2,b3,true,b5,b6,b7,b8,true,true,x34,x35,x36,x37,.agg #[.int .i64 vk,.int .i64 vn,.string vs],x39,x40,x41,x42,.agg #[.int .i64 vk,.int .i64 vn,.string vs],(.bool false),(by go_simp),(by go_simp),hb,cd0,cd1,cd2,cd3,rf,cd5,cd6,cd7,cd8,rf,rf⟩
    · rintro act V ⟨b0, b1, b2, b3, b4, b5, b6, b7, b8, b9, b10, x34, x35, x36, x37, x38, x39, x40, x41, x42, x43, x44, hL, rfl, hb, cd0, cd1, cd2, cd3, cd4, cd5, cd6, cd7, cd8, cd9, cd10⟩
      have hL' : [true, true, true, true, true, true, true, true, true, true, true] = [b0, b1, b2, b3, b4, b5, b6, b7, b8, b9, b10] := congrArg Array.toList hL
      simp only [List.cons.injEq, and_true] at hL'
      obtain ⟨rfl, rfl, rfl, rfl, rfl, rfl, rfl, rfl, rfl, rfl, rfl⟩ := hL'
      obtain rfl := cd0.out rfl
      obtain rfl := cd1.out rfl
      obtain rfl := cd2.out rfl
      obtain rfl := cd3.out rfl
      obtain rfl := cd4.out rfl
      obtain rfl := cd5.out rfl
      obtain rfl := cd6.out rfl
      obtain rfl := cd7.out rfl
      obtain rfl := cd8.out rfl
      obtain rfl := cd9.out rfl
      obtain rfl := cd10.out rfl
      clear hL cd0 cd1 cd2 cd3 cd4 cd5 cd6 cd7 cd8 cd9 cd10
      simp only [setIfInBounds_toArray, set_cons_zero, set_cons_succ]
      have BV : Below wr.heap.size wr V := by rw [HR.out]; exact (Below.refl _ _).drew.trans hb
      clear hb
      go_wp2_with fail
      go_roundw
      case rel => exact ⟨jn + 1, by omega, by go_num, hB.trans (BV.mono hB.size)⟩
      case measure => simp [intOf]; omega
  · have hlti : ¬ (jn : Int) < (n : Int) := by omega
    go_wp2_with fail
    go_ret
    exact ⟨rfl, by rw [HG.out]; exact B0.trans (hB.mono (Nat.le_of_lt hP.lt))⟩
inductive RSt6 (B : Nat) (n : Nat) (c : Nat) (c2 : Nat) (ga : Nat) (oa : Nat) (gb : Nat) (ob : Nat) (jn : Nat) (ti : Int) (ra : Option Addr) (cn : Nat) (rc : Nat) (sa : Option Addr) (sc : Nat) (a0 : Act) (w0 : World) (L : Array Bool) (a : Act) (w : World) : Prop
 | mk (b0 b1 b2 b3 b4 b5 b6 b7 b8 b9 b10 b11 b12 b13 b14 b15 b16 b17 b18 b19 b20 b21 b22 b23 b24 b25 : Bool) (x18 x19 x20 x21 x22 x23 x24 x25 x26 x27 x28 x29 x30 x31 x32 x33 x34 x35 x36 x37 x38 x39 x40 x41 x42 x43 : Value) (hL : L = #[b0,b1,b2,b3,b4,b5,b6,b7,b8,b9,b10,b11,b12,b13,b14,b15,b16,b17,b18,b19,b20,b21,b22,b23,b24,b25]) (ha : a = ⟨((((((((((((((((((((((((((a0.tmps.setIfInBounds 18 x18).setIfInBounds 19 x19).setIfInBounds 20 x20).setIfInBounds 21 x21).setIfInBounds 22 x22).setIfInBounds 23 x23).setIfInBounds 24 x24).setIfInBounds 25 x25).setIfInBounds 26 x26).setIfInBounds 27 x27).setIfInBounds 28 x28).setIfInBounds 29 x29).setIfInBounds 30 x30).setIfInBounds 31 x31).setIfInBounds 32 x32).setIfInBounds 33 x33).setIfInBounds 34 x34).setIfInBounds 35 x35).setIfInBounds 36 x36).setIfInBounds 37 x37).setIfInBounds 38 x38).setIfInBounds 39 x39).setIfInBounds 40 x40).setIfInBounds 41 x41).setIfInBounds 42 x42).setIfInBounds 43 x43),a0.defers⟩) (hb : Below B w0 w) (cd0 : Hid (b0 = true → x18 = .slice (some ⟨ga,oa,none⟩) n c)) (cd1 : Hid (b1 = true → x19 = .int .i64 (jn : Nat))) (cd2 : Hid (b2 = true → x20 = .pointer (some ⟨ga,oa + jn * 2,none⟩))) (cd3 : Hid (b3 = true → x21 = .pointer (some ⟨ga,oa + jn * 2,none⟩))) (cd4 : Hid (b4 = true → x22 = .int .i64 ti)) (cd5 : Hid (b5 = true → x23 = .slice (some ⟨gb,ob,none⟩) n c2)) (cd6 : Hid (b6 = true → x24 = .int .i64 (jn : Nat))) (cd7 : Hid (b7 = true → x25 = .pointer (some ⟨gb,ob + jn * 2,none⟩))) (cd8 : Hid (b8 = true → x26 = .pointer (some ⟨gb,ob + jn * 2,none⟩))) (cd9 : Hid (b9 = true → x27 = .int .i64 ti)) (cd10 : Hid (b10 = true → x28 = .bool false)) (cd11 : Hid (b11 = true → x29 = .bool false)) (cd12 : Hid (b12 = true → x30 = .slice (some ⟨ga,oa,none⟩) n c)) (cd13 : Hid (b13 = true → x31 = .int .i64 (jn : Nat))) (cd14 : Hid (b14 = true → x32 = .pointer (some ⟨ga,oa + jn * 2,none⟩))) (cd15 : Hid (b15 = true → x33 = .pointer (some ⟨ga,oa + jn * 2 + 1,none⟩))) (cd16 : Hid (b16 = true → x34 = .slice ra cn rc)) (cd17 : Hid (b17 = true → x35 = .int .i64 (cn : Nat))) (cd18 : Hid (b18 = true → x36 = .slice (some ⟨gb,ob,none⟩) n c2)) (cd19 : Hid (b19 = true → x37 = .int .i64 (jn : Nat))) (cd20 : Hid (b20 = true → x38 = .pointer (some ⟨gb,ob + jn * 2,none⟩))) (cd21 : Hid (b21 = true → x39 = .pointer (some ⟨gb,ob + jn * 2 + 1,none⟩))) (cd22 : Hid (b22 = true → x40 = .slice sa cn sc)) (cd23 : Hid (b23 = true → x41 = .int .i64 (cn : Nat))) (cd24 : Hid (b24 = true → x42 = .bool false)) (cd25 : Hid (b25 = true → x43 = .bool false)) : RSt6 B n c c2 ga oa gb ob jn ti ra cn rc sa sc a0 w0 L a w
inductive RSt11 (B : Nat) (n : Nat) (c : Nat) (c2 : Nat) (ga : Nat) (oa : Nat) (gb : Nat) (ob : Nat) (jn : Nat) (gc : Nat) (oc : Nat) (cn : Nat) (rc : Nat) (gd : Nat) (od : Nat) (sc : Nat) (kn : Nat) (bt : ByteArray) (bo : Int) (va : Option Addr) (vn : Nat) (vc : Nat) (ua : Option Addr) (uc : Nat) (a0 : Act) (w0 : World) (L : Array Bool) (a : Act) (w : World) : Prop
 | mk (b0 b1 b2 b3 b4 b5 b6 b7 b8 b9 b10 b11 b12 b13 b14 b15 b16 b17 : Bool) (x54 x55 x56 x57 x58 x59 x60 x61 x62 x63 x64 x65 x66 x67 x68 x69 x70 x71 : Value) (hL : L = #[b0,b1,b2,b3,b4,b5,b6,b7,b8,b9,b10,b11,b12,b13,b14,b15,b16,b17]) (ha : a = ⟨((((((((((((((((((a0.tmps.setIfInBounds 54 x54).setIfInBounds 55 x55).setIfInBounds 56 x56).setIfInBounds 57 x57).setIfInBounds 58 x58).setIfInBounds 59 x59).setIfInBounds 60 x60).setIfInBounds 61 x61).setIfInBounds 62 x62).setIfInBounds 63 x63).setIfInBounds 64 x64).setIfInBounds 65 x65).setIfInBounds 66 x66).setIfInBounds 67 x67).setIfInBounds 68 x68).setIfInBounds 69 x69).setIfInBounds 70 x70).setIfInBounds 71 x71),a0.defers⟩) (hb : Below B w0 w) (cd0 : Hid (b0 = true → x54 = .slice (some ⟨ga,oa,none⟩) n c)) (cd1 : Hid (b1 = true → x55 = .int .i64 (jn : Nat))) (cd2 : Hid (b2 = true → x56 = .pointer (some ⟨ga,oa + jn * 2,none⟩))) (cd3 : Hid (b3 = true → x57 = .pointer (some ⟨ga,oa + jn * 2 + 1,none⟩))) (cd4 : Hid (b4 = true → x58 = .slice (some ⟨gc,oc,none⟩) cn rc)) (cd5 : Hid (b5 = true → x59 = .int .i64 (kn : Nat))) (cd6 : Hid (b6 = true → x60 = .pointer (some ⟨gc,oc + kn * 3,none⟩))) (cd7 : Hid (b7 = true → x61 = .agg #[.string bt,.int .i64 bo,.slice va vn vc])) (cd8 : Hid (b8 = true → x62 = .slice (some ⟨gb,ob,none⟩) n c2)) (cd9 : Hid (b9 = true → x63 = .int .i64 (jn : Nat))) (cd10 : Hid (b10 = true → x64 = .pointer (some ⟨gb,ob + jn * 2,none⟩))) (cd11 : Hid (b11 = true → x65 = .pointer (some ⟨gb,ob + jn * 2 + 1,none⟩))) (cd12 : Hid (b12 = true → x66 = .slice (some ⟨gd,od,none⟩) cn sc)) (cd13 : Hid (b13 = true → x67 = .int .i64 (kn : Nat))) (cd14 : Hid (b14 = true → x68 = .pointer (some ⟨gd,od + kn * 3,none⟩))) (cd15 : Hid (b15 = true → x69 = .agg #[.string bt,.int .i64 bo,.slice ua vn uc])) (cd16 : Hid (b16 = true → x70 = .bool true)) (cd17 : Hid (b17 = true → x71 = .bool false)) : RSt11 B n c c2 ga oa gb ob jn gc oc cn rc gd od sc kn bt bo va vn vc ua uc a0 w0 L a w
set_option maxRecDepth 100000 in
set_option maxHeartbeats 4000000 in
theorem rsameTxs_rfl (w : World) (Qa Qb : Nat → Prop) (ao : Option Addr) (n c : Nat) (bo0 : Option Addr) (c2 : Nat) (ls : List Txn) (ha : IsD DT w Qa ao n c ls) (hb9 : IsD DT w Qb bo0 n c2 ls) :
 Calls Tryz.prog 22 #[.slice ao n c, .slice bo0 n c2] w fun e w' => e = .returned (.bool true) ∧ Below w.heap.size w w' := by
 have hln := ha.len
 have hmx : n ≤ maxLen := by obtain ⟨bs, h1, -⟩ := id ha; exact Nat.le_trans h1.le h1.max
 unfold maxLen at hmx
 go_enter Tryz.func22, Tryz.ntmps22
 go_wp2_with fail
 go_loopw [5] (fun i wr => ∃ jn : Nat, jn ≤ n ∧ i = .int .i64 (jn : Nat) ∧ Below w.heap.size w wr) (fun i _ => n - (intOf i).toNat)
 case atStart => exact ⟨0, Nat.zero_le _, rfl, Below.refl _ _⟩
 case round =>
  obtain ⟨jn, hj, rfl, hB⟩ := hrel
  have ha3 := ha.past hB
  have hb3 := hb9.past hB
  by_cases hlt : jn < n
  · have hlti : (jn : Int) < (n : Int) := by omega
    obtain ⟨x, hx⟩ : ∃ x, ls[jn]? = some x := ⟨ls[jn]'(by omega), List.getElem?_eq_getElem _⟩
    obtain ⟨ga, oa, pb, rfl, hga, -, hca, hra⟩ := ha3.at hx
    obtain ⟨gb, ob, qb, rfl, hgb, -, hcb, hsa⟩ := hb3.at hx
    obtain ⟨xi, xl⟩ := x
    obtain ⟨ti, ⟨ra, cn, rc⟩⟩ := pb
    obtain ⟨t2, ⟨sa, sn, sc⟩⟩ := qb
    obtain ⟨hE, hra⟩ := hra
    obtain ⟨hE2, hsa⟩ := hsa
    obtain rfl : ti = xi := hE
    obtain rfl : t2 = ti := hE2
    have hl1 : xl.length = cn := hra.len
    have hl2 : xl.length = sn := hsa.len
    obtain rfl : sn = cn := by omega
    have hcm : sn ≤ maxLen := by obtain ⟨bs, h1, -⟩ := id hra; exact Nat.le_trans h1.le h1.max
    unfold maxLen at hcm
    obtain ⟨cn, rfl⟩ : ∃ z, z = sn := ⟨_, rfl⟩
    obtain ⟨ti, rfl⟩ : ∃ z, z = t2 := ⟨_, rfl⟩
    have hra : IsD DC wr Qa ra cn rc xl := hra
    have hsa : IsD DC wr Qb sa cn sc xl := hsa
    have hca : ∀ k u, (ETx.f (ti, ⟨ra, cn, rc⟩))[k]? = some u → wr.cell? ⟨ga, oa + (jn * 2 + k), none⟩ = some u := hca
    have hcb : ∀ k u, (ETx.f (ti, ⟨sa, cn, sc⟩))[k]? = some u → wr.cell? ⟨gb, ob + (jn * 2 + k), none⟩ = some u := hcb
    have y0 : wr.drew.cell? ⟨ga, oa + jn * 2, none⟩ = some (.int .i64 ti) := hca 0 _ rfl
    have y1 : wr.drew.cell? ⟨ga, oa + jn * 2 + 1, none⟩ = some (.slice ra cn rc) := by have := hca 1 _ rfl; rwa [← Nat.add_assoc] at this
    have x0 : wr.drew.cell? ⟨gb, ob + jn * 2, none⟩ = some (.int .i64 ti) := hcb 0 _ rfl
    have x1 : wr.drew.cell? ⟨gb, ob + jn * 2 + 1, none⟩ = some (.slice sa cn sc) := by have := hcb 1 _ rfl; rwa [← Nat.add_assoc] at this
    have y19 : wr.cell? ⟨ga, oa + jn * 2 + 1, none⟩ = some (.slice ra cn rc) := y1
    have x19 : wr.cell? ⟨gb, ob + jn * 2 + 1, none⟩ = some (.slice sa cn sc) := x1
    have hga9 := hga
    have hgb9 := hgb
    obtain ⟨r, hr⟩ : ∃ r, wr.heap.size = r := ⟨_, rfl⟩
    have HR := Lib.hid hr
    have hB0 : r ≤ wr.heap.size := Nat.le_of_eq hr.symm
    rw [hr] at hga hgb
    clear hca hcb hx hr ha3 hb3 hl2 ha hb9
    go_upto_region 6 with fail
    refine region_inv (RSt6 r n c c2 ga oa gb ob jn ti ra cn rc sa sc) (by kernel_rfl) (by kernel_rfl) ?_ ?_ ?_
    · exact ⟨false,false,false,false,false,false,false,false,false,false,false,false,false,false,false,false,false,false,false,false,false,false,false,false,false,false,u18,u19,u20,u21,u22,u23,u24,u25,u26,u27,u28,u29,u30,u31,u32,u33,u34,u35,u36,u37,u38,u39,u40,u41,u42,u43,rfl,(by go_simp),Below.refl _ _,nf2,nf2,nf2,nf2,nf2,nf2,nf2,nf2,nf2,nf2,nf2,nf2,nf2,nf2,nf2,nf2,nf2,nf2,nf2,nf2,nf2,nf2,nf2,nf2,nf2,nf2⟩
    · refine ⟨?_, ?_, ?_, ?_, ?_, ?_, ?_, ?_, ?_, ?_, ?_, ?_, ?_, ?_, ?_, ?_, ?_, ?_, ?_, ?_, ?_, ?_, ?_, ?_, ?_, ?_, trivial⟩
      all_goals rintro L a w ⟨b0,b1,b2,b3,b4,b5,b6,b7,b8,b9,b10,b11,b12,b13,b14,b15,b16,b17,b18,b19,b20,b21,b22,b23,b24,b25,x18,x19,x20,x21,x22,x23,x24,x25,x26,x27,x28,x29,x30,x31,x32,x33,x34,x35,x36,x37,x38,x39,x40,x41,x42,x43,rfl,rfl,hb,cd0,cd1,cd2,cd3,cd4,cd5,cd6,cd7,cd8,cd9,cd10,cd11,cd12,cd13,cd14,cd15,cd16,cd17,cd18,cd19,cd20,cd21,cd22,cd23,cd24,cd25⟩ hf hd
      · have hf' : b0 = false := hf
        subst hf'
        clear hf hd
        intro K hK
        rw [if_pos (by rfl)]
        go_simp
        exact hK.out _ _ ⟨true,b1,b2,b3,b4,b5,b6,b7,b8,b9,b10,b11,b12,b13,b14,b15,b16,b17,b18,b19,b20,b21,b22,b23,b24,b25,(.slice (some ⟨ga,oa,none⟩) n c),x19,x20,x21,x22,x23,x24,x25,x26,x27,x28,x29,x30,x31,x32,x33,x34,x35,x36,x37,x38,x39,x40,x41,x42,x43,(by go_simp),(by go_simp),hb,rf,cd1,cd2,cd3,cd4,cd5,cd6,cd7,cd8,cd9,cd10,cd11,cd12,cd13,cd14,cd15,cd16,cd17,cd18,cd19,cd20,cd21,cd22,cd23,cd24,cd25⟩
      · have hf' : b1 = false := hf
        subst hf'
        clear hf hd
        intro K hK
        rw [if_pos (by rfl)]
        go_simp
        exact hK.out _ _ ⟨b0,true,b2,b3,b4,b5,b6,b7,b8,b9,b10,b11,b12,b13,b14,b15,b16,b17,b18,b19,b20,b21,b22,b23,b24,b25,x18,(.int .i64 (jn : Nat)),x20,x21,x22,x23,x24,x25,x26,x27,x28,x29,x30,x31,x32,x33,x34,x35,x36,x37,x38,x39,x40,x41,x42,x43,(by go_simp),(by go_simp),hb,cd0,rf,cd2,cd3,cd4,cd5,cd6,cd7,cd8,cd9,cd10,cd11,cd12,cd13,cd14,cd15,cd16,cd17,cd18,cd19,cd20,cd21,cd22,cd23,cd24,cd25⟩
      · have hf' : b2 = false := hf
        subst hf'
        have d0 : b0 = true := hd ⟨0, .data⟩ (by simp) rfl
        subst d0
        have d1 : b1 = true := hd ⟨1, .data⟩ (by simp) rfl
        subst d1
        obtain rfl := cd0.out rfl
        obtain rfl := cd1.out rfl
        clear hf hd
        intro K hK
        rw [if_pos (by rfl)]
        go_simp
        exact hK.out _ _ ⟨true,true,true,b3,b4,b5,b6,b7,b8,b9,b10,b11,b12,b13,b14,b15,b16,b17,b18,b19,b20,b21,b22,b23,b24,b25,.slice (some ⟨ga,oa,none⟩) n c,.int .i64 (jn : Nat),(.pointer (some ⟨ga,oa + jn * 2,none⟩)),x21,x22,x23,x24,x25,x26,x27,x28,x29,x30,x31,x32,x33,x34,x35,x36,x37,x38,x39,x40,x41,x42,x43,(by go_simp),(by go_simp),hb,rf,rf,rf,cd3,cd4,cd5,cd6,cd7,cd8,cd9,cd10,cd11,cd12,cd13,cd14,cd15,cd16,cd17,cd18,cd19,cd20,cd21,cd22,cd23,cd24,cd25⟩
      · have hf' : b3 = false := hf
        subst hf'
        have d2 : b2 = true := hd ⟨2, .data⟩ (by simp) rfl
        subst d2
        obtain rfl := cd2.out rfl
        clear hf hd
        intro K hK
        rw [if_pos (by rfl)]
        go_simp
        exact hK.out _ _ ⟨b0,b1,true,true,b4,b5,b6,b7,b8,b9,b10,b11,b12,b13,b14,b15,b16,b17,b18,b19,b20,b21,b22,b23,b24,b25,x18,x19,.pointer (some ⟨ga,oa + jn * 2,none⟩),(.pointer (some ⟨ga,oa + jn * 2,none⟩)),x22,x23,x24,x25,x26,x27,x28,x29,x30,x31,x32,x33,x34,x35,x36,x37,x38,x39,x40,x41,x42,x43,(by go_simp),(by go_simp),hb,cd0,cd1,rf,rf,cd4,cd5,cd6,cd7,cd8,cd9,cd10,cd11,cd12,cd13,cd14,cd15,cd16,cd17,cd18,cd19,cd20,cd21,cd22,cd23,cd24,cd25⟩
      · have hf' : b4 = false := hf
        subst hf'
        have d3 : b3 = true := hd ⟨3, .data⟩ (by simp) rfl
        subst d3
        obtain rfl := cd3.out rfl
        clear hf hd
        try simp only [setIfInBounds_toArray, set_cons_zero, set_cons_succ]
        have z0 := (hb.cell hga).trans y0
        intro K hK
        rw [if_pos (by rfl)]
        go_simp
        exact hK.out _ _ ⟨b0,b1,b2,true,true,b5,b6,b7,b8,b9,b10,b11,b12,b13,b14,b15,b16,b17,b18,b19,b20,b21,b22,b23,b24,b25,x18,x19,x20,.pointer (some ⟨ga,oa + jn * 2,none⟩),(.int .i64 ti),x23,x24,x25,x26,x27,x28,x29,x30,x31,x32,x33,x34,x35,x36,x37,x38,x39,x40,x41,x42,x43,(by go_simp),(by go_simp),hb,cd0,cd1,cd2,rf,rf,cd5,cd6,cd7,cd8,cd9,cd10,cd11,cd12,cd13,cd14,cd15,cd16,cd17,cd18,cd19,cd20,cd21,cd22,cd23,cd24,cd25⟩
      · have hf' : b5 = false := hf
        subst hf'
        clear hf hd
        intro K hK
        rw [if_pos (by rfl)]
        go_simp
        exact hK.out _ _ ⟨b0,b1,b2,b3,b4,true,b6,b7,b8,b9,b10,b11,b12,b13,b14,b15,b16,b17,b18,b19,b20,b21,b22,b23,b24,b25,x18,x19,x20,x21,x22,(.slice (some ⟨gb,ob,none⟩) n c2),x24,x25,x26,x27,x28,x29,x30,x31,x32,x33,x34,x35,x36,x37,x38,x39,x40,x41,x42,x43,(by go_simp),(by go_simp),hb,cd0,cd1,cd2,cd3,cd4,rf,cd6,cd7,cd8,cd9,cd10,cd11,cd12,cd13,cd14,cd15,cd16,cd17,cd18,cd19,cd20,cd21,cd22,cd23,cd24,cd25⟩
      · have hf' : b6 = false := hf
        subst hf'
        clear hf hd
        intro K hK
        rw [if_pos (by rfl)]
        go_simp
        exact hK.out _ _ ⟨b0,b1,b2,b3,b4,b5,true,b7,b8,b9,b10,b11,b12,b13,b14,b15,b16,b17,b18,b19,b20,b21,b22,b23,b24,b25,x18,x19,x20,x21,x22,x23,(.int .i64 (jn : Nat)),x25,x26,x27,x28,x29,x30,x31,x32,x33,x34,x35,x36,x37,x38,x39,x40,x41,x42,x43,(by go_simp),(by go_simp),hb,cd0,cd1,cd2,cd3,cd4,cd5,rf,cd7,cd8,cd9,cd10,cd11,cd12,cd13,cd14,cd15,cd16,cd17,cd18,cd19,cd20,cd21,cd22,cd23,cd24,cd25⟩
      · have hf' : b7 = false := hf
        subst hf'
        have d5 : b5 = true := hd ⟨5, .data⟩ (by simp) rfl
        subst d5
        have d6 : b6 = true := hd ⟨6, .data⟩ (by simp) rfl
        subst d6
        obtain rfl := cd5.out rfl
        obtain rfl := cd6.out rfl
        clear hf hd
        intro K hK
        rw [if_pos (by rfl)]
        go_simp
        exact hK.out _ _ ⟨b0,b1,b2,b3,b4,true,true,true,b8,b9,b10,b11,b12,b13,b14,b15,b16,b17,b18,b19,b20,b21,b22,b23,b24,b25,x18,x19,x20,x21,x22,.slice (some ⟨gb,ob,none⟩) n c2,.int .i64 (jn : Nat),(.pointer (some ⟨gb,ob + jn * 2,none⟩)),x26,x27,x28,x29,x30,x31,x32,x33,x34,x35,x36,x37,x38,x39,x40,x41,x42,x43,(by go_simp),(by go_simp),hb,cd0,cd1,cd2,cd3,cd4,rf,rf,rf,cd8,cd9,cd10,cd11,cd12,cd13,cd14,cd15,cd16,cd17,cd18,cd19,cd20,cd21,cd22,cd23,cd24,cd25⟩
      · have hf' : b8 = false := hf
        subst hf'
        have d7 : b7 = true := hd ⟨7, .data⟩ (by simp) rfl
        subst d7
        obtain rfl := cd7.out rfl
        clear hf hd
        intro K hK
        rw [if_pos (by rfl)]
        go_simp
        exact hK.out _ _ ⟨b0,b1,b2,b3,b4,b5,b6,true,true,b9,b10,b11,b12,b13,b14,b15,b16,b17,b18,b19,b20,b21,b22,b23,b24,b25,x18,x19,x20,x21,x22,x23,x24,.pointer (some ⟨gb,ob + jn * 2,none⟩),(.pointer (some ⟨gb,ob + jn * 2,none⟩)),x27,x28,x29,x30,x31,x32,x33,x34,x35,x36,x37,x38,x39,x40,x41,x42,x43,(by go_simp),(by go_simp),hb,cd0,cd1,cd2,cd3,cd4,cd5,cd6,rf,rf,cd9,cd10,cd11,cd12,cd13,cd14,cd15,cd16,cd17,cd18,cd19,cd20,cd21,cd22,cd23,cd24,cd25⟩
      · have hf' : b9 = false := hf
        subst hf'
        have d8 : b8 = true := hd ⟨8, .data⟩ (by simp) rfl
        subst d8
        obtain rfl := cd8.out rfl
        clear hf hd
        try simp only [setIfInBounds_toArray, set_cons_zero, set_cons_succ]
        have z0 := (hb.cell hgb).trans x0
        intro K hK
        rw [if_pos (by rfl)]
        go_simp
        exact hK.out _ _ ⟨b0,b1,b2,b3,b4,b5,b6,b7,true,true,b10,b11,b12,b13,b14,b15,b16,b17,b18,b19,b20,b21,b22,b23,b24,b25,x18,x19,x20,x21,x22,x23,x24,x25,.pointer (some ⟨gb,ob + jn * 2,none⟩),(.int .i64 ti),x28,x29,x30,x31,x32,x33,x34,x35,x36,x37,x38,x39,x40,x41,x42,x43,(by go_simp),(by go_simp),hb,cd0,cd1,cd2,cd3,cd4,cd5,cd6,cd7,rf,rf,cd10,cd11,cd12,cd13,cd14,cd15,cd16,cd17,cd18,cd19,cd20,cd21,cd22,cd23,cd24,cd25⟩
      · have hf' : b10 = false := hf
        subst hf'
        have d4 : b4 = true := hd ⟨4, .data⟩ (by simp) rfl
        subst d4
        have d9 : b9 = true := hd ⟨9, .data⟩ (by simp) rfl
        subst d9
        obtain rfl := cd4.out rfl
        obtain rfl := cd9.out rfl
        clear hf hd
        intro K hK
        rw [if_pos (by rfl)]
        go_simp
        exact hK.out _ _ ⟨b0,b1,b2,b3,true,b5,b6,b7,b8,true,true,b11,b12,b13,b14,b15,b16,b17,b18,b19,b20,b21,b22,b23,b24,b25,x18,x19,x20,x21,.int .i64 ti,x23,x24,x25,x26,.int .i64 ti,(.bool false),x29,x30,x31,x32,x33,x34,x35,x36,x37,x38,x39,x40,x41,x42,x43,(by go_simp),(by go_simp),hb,cd0,cd1,cd2,cd3,rf,cd5,cd6,cd7,cd8,rf,rf,cd11,cd12,cd13,cd14,cd15,cd16,cd17,cd18,cd19,cd20,cd21,cd22,cd23,cd24,cd25⟩
      · have hf' : b11 = false := hf
        subst hf'
        have d10 : b10 = true := hd ⟨10, .data⟩ (by simp) rfl
        subst d10
        obtain rfl := cd10.out rfl
        clear hf hd
        intro K hK
        rw [if_pos (by rfl)]
        go_simp
        exact hK.out _ _ ⟨b0,b1,b2,b3,b4,b5,b6,b7,b8,b9,true,true,b12,b13,b14,b15,b16,b17,b18,b19,b20,b21,b22,b23,b24,b25,x18,x19,x20,x21,x22,x23,x24,x25,x26,x27,.bool false,(.bool false),x30,x31,x32,x33,x34,x35,x36,x37,x38,x39,x40,x41,x42,x43,(by go_simp),(by go_simp),hb,cd0,cd1,cd2,cd3,cd4,cd5,cd6,cd7,cd8,cd9,rf,rf,cd12,cd13,cd14,cd15,cd16,cd17,cd18,cd19,cd20,cd21,cd22,cd23,cd24,cd25⟩
      · have hf' : b12 = false := hf
        subst hf'
        have d11 : b11 = true := hd ⟨11, .guard⟩ (by simp) rfl
        subst d11
        obtain rfl := cd11.out rfl
        clear hf hd
        try simp only [setIfInBounds_toArray, set_cons_zero, set_cons_succ]
        intro K hK
        rw [if_pos (by rfl)]
        go_simp
        exact hK.out _ _ ⟨b0,b1,b2,b3,b4,b5,b6,b7,b8,b9,b10,true,true,b13,b14,b15,b16,b17,b18,b19,b20,b21,b22,b23,b24,b25,x18,x19,x20,x21,x22,x23,x24,x25,x26,x27,x28,.bool false,(.slice (some ⟨ga,oa,none⟩) n c),x31,x32,x33,x34,x35,x36,x37,x38,x39,x40,x41,x42,x43,(by go_simp),(by go_simp),hb,cd0,cd1,cd2,cd3,cd4,cd5,cd6,cd7,cd8,cd9,cd10,rf,rf,cd13,cd14,cd15,cd16,cd17,cd18,cd19,cd20,cd21,cd22,cd23,cd24,cd25⟩
      · have hf' : b13 = false := hf
        subst hf'
        have d11 : b11 = true := hd ⟨11, .guard⟩ (by simp) rfl
        subst d11
        obtain rfl := cd11.out rfl
        clear hf hd
        try simp only [setIfInBounds_toArray, set_cons_zero, set_cons_succ]
        intro K hK
        rw [if_pos (by rfl)]
        go_simp
        exact hK.out _ _ ⟨b0,b1,b2,b3,b4,b5,b6,b7,b8,b9,b10,true,b12,true,b14,b15,b16,b17,b18,b19,b20,b21,b22,b23,b24,b25,x18,x19,x20,x21,x22,x23,x24,x25,x26,x27,x28,.bool false,x30,(.int .i64 (jn : Nat)),x32,x33,x34,x35,x36,x37,x38,x39,x40,x41,x42,x43,(by go_simp),(by go_simp),hb,cd0,cd1,cd2,cd3,cd4,cd5,cd6,cd7,cd8,cd9,cd10,rf,cd12,rf,cd14,cd15,cd16,cd17,cd18,cd19,cd20,cd21,cd22,cd23,cd24,cd25⟩
      · have hf' : b14 = false := hf
        subst hf'
        have d12 : b12 = true := hd ⟨12, .data⟩ (by simp) rfl
        subst d12
        have d13 : b13 = true := hd ⟨13, .data⟩ (by simp) rfl
        subst d13
        have d11 : b11 = true := hd ⟨11, .guard⟩ (by simp) rfl
        subst d11
        obtain rfl := cd12.out rfl
        obtain rfl := cd13.out rfl
        obtain rfl := cd11.out rfl
        clear hf hd
        try simp only [setIfInBounds_toArray, set_cons_zero, set_cons_succ]
        intro K hK
        rw [if_pos (by rfl)]
        go_simp
        exact hK.out _ _ ⟨b0,b1,b2,b3,b4,b5,b6,b7,b8,b9,b10,true,true,true,true,b15,b16,b17,b18,b19,b20,b21,b22,b23,b24,b25,x18,x19,x20,x21,x22,x23,x24,x25,x26,x27,x28,.bool false,.slice (some ⟨ga,oa,none⟩) n c,.int .i64 (jn : Nat),(.pointer (some ⟨ga,oa + jn * 2,none⟩)),x33,x34,x35,x36,x37,x38,x39,x40,x41,x42,x43,(by go_simp),(by go_simp),hb,cd0,cd1,cd2,cd3,cd4,cd5,cd6,cd7,cd8,cd9,cd10,rf,rf,rf,rf,cd15,cd16,cd17,cd18,cd19,cd20,cd21,cd22,cd23,cd24,cd25⟩
      · have hf' : b15 = false := hf
        subst hf'
        have d14 : b14 = true := hd ⟨14, .data⟩ (by simp) rfl
        subst d14
        have d11 : b11 = true := hd ⟨11, .guard⟩ (by simp) rfl
        subst d11
        obtain rfl := cd14.out rfl
        obtain rfl := cd11.out rfl
        clear hf hd
        try simp only [setIfInBounds_toArray, set_cons_zero, set_cons_succ]
        intro K hK
        rw [if_pos (by rfl)]
        go_simp
        exact hK.out _ _ ⟨b0,b1,b2,b3,b4,b5,b6,b7,b8,b9,b10,true,b12,b13,true,true,b16,b17,b18,b19,b20,b21,b22,b23,b24,b25,x18,x19,x20,x21,x22,x23,x24,x25,x26,x27,x28,.bool false,x30,x31,.pointer (some ⟨ga,oa + jn * 2,none⟩),(.pointer (some ⟨ga,oa + jn * 2 + 1,none⟩)),x34,x35,x36,x37,x38,x39,x40,x41,x42,x43,(by go_simp),(by go_simp),hb,cd0,cd1,cd2,cd3,cd4,cd5,cd6,cd7,cd8,cd9,cd10,rf,cd12,cd13,rf,rf,cd16,cd17,cd18,cd19,cd20,cd21,cd22,cd23,cd24,cd25⟩
      · have hf' : b16 = false := hf
        subst hf'
        have d15 : b15 = true := hd ⟨15, .data⟩ (by simp) rfl
        subst d15
        have d11 : b11 = true := hd ⟨11, .guard⟩ (by simp) rfl
        subst d11
        obtain rfl := cd15.out rfl
        obtain rfl := cd11.out rfl
        clear hf hd
        try simp only [setIfInBounds_toArray, set_cons_zero, set_cons_succ]
        have z0 := (hb.cell hga).trans y1
        intro K hK
        rw [if_pos (by rfl)]
        go_simp
        exact hK.out _ _ ⟨b0,b1,b2,b3,b4,b5,b6,b7,b8,b9,b10,true,b12,b13,b14,true,true,b17,b18,b19,b20,b21,b22,b23,b24,b25,x18,x19,x20,x21,x22,x23,x24,x25,x26,x27,x28,.bool false,x30,x31,x32,.pointer (some ⟨ga,oa + jn * 2 + 1,none⟩),(.slice ra cn rc),x35,x36,x37,x38,x39,x40,x41,x42,x43,(by go_simp),(by go_simp),hb,cd0,cd1,cd2,cd3,cd4,cd5,cd6,cd7,cd8,cd9,cd10,rf,cd12,cd13,cd14,rf,rf,cd17,cd18,cd19,cd20,cd21,cd22,cd23,cd24,cd25⟩
      · have hf' : b17 = false := hf
        subst hf'
        have d16 : b16 = true := hd ⟨16, .data⟩ (by simp) rfl
        subst d16
        have d11 : b11 = true := hd ⟨11, .guard⟩ (by simp) rfl
        subst d11
        obtain rfl := cd16.out rfl
        obtain rfl := cd11.out rfl
        clear hf hd
        try simp only [setIfInBounds_toArray, set_cons_zero, set_cons_succ]
        intro K hK
        rw [if_pos (by rfl)]
        go_simp
        exact hK.out _ _ ⟨b0,b1,b2,b3,b4,b5,b6,b7,b8,b9,b10,true,b12,b13,b14,b15,true,true,b18,b19,b20,b21,b22,b23,b24,b25,x18,x19,x20,x21,x22,x23,x24,x25,x26,x27,x28,.bool false,x30,x31,x32,x33,.slice ra cn rc,(.int .i64 (cn : Nat)),x36,x37,x38,x39,x40,x41,x42,x43,(by go_simp),(by go_simp),hb,cd0,cd1,cd2,cd3,cd4,cd5,cd6,cd7,cd8,cd9,cd10,rf,cd12,cd13,cd14,cd15,rf,rf,cd18,cd19,cd20,cd21,cd22,cd23,cd24,cd25⟩
      · have hf' : b18 = false := hf
        subst hf'
        have d11 : b11 = true := hd ⟨11, .guard⟩ (by simp) rfl
        subst d11
        obtain rfl := cd11.out rfl
        clear hf hd
        try simp only [setIfInBounds_toArray, set_cons_zero, set_cons_succ]
        intro K hK
        rw [if_pos (by rfl)]
        go_simp
        exact hK.out _ _ ⟨b0,b1,b2,b3,b4,b5,b6,b7,b8,b9,b10,true,b12,b13,b14,b15,b16,b17,true,b19,b20,b21,b22,b23,b24,b25,x18,x19,x20,x21,x22,x23,x24,x25,x26,x27,x28,.bool false,x30,x31,x32,x33,x34,x35,(.slice (some ⟨gb,ob,none⟩) n c2),x37,x38,x39,x40,x41,x42,x43,(by go_simp),(by go_simp),hb,cd0,cd1,cd2,cd3,cd4,cd5,cd6,cd7,cd8,cd9,cd10,rf,cd12,cd13,cd14,cd15,cd16,cd17,rf,cd19,cd20,cd21,cd22,cd23,cd24,cd25⟩
      · have hf' : b19 = false := hf
        subst hf'
        have d11 : b11 = true := hd ⟨11, .guard⟩ (by simp) rfl
        subst d11
        obtain rfl := cd11.out rfl
        clear hf hd
        try simp only [setIfInBounds_toArray, set_cons_zero, set_cons_succ]
        intro K hK
        rw [if_pos (by rfl)]
        go_simp
        exact hK.out _ _ ⟨b0,b1,b2,b3,b4,b5,b6,b7,b8,b9,b10,true,b12,b13,b14,b15,b16,b17,b18,true,b20,b21,b22,b23,b24,b25,x18,x19,x20,x21,x22,x23,x24,x25,x26,x27,x28,.bool false,x30,x31,x32,x33,x34,x35,x36,(.int .i64 (jn : Nat)),x38,x39,x40,x41,x42,x43,(by go_simp),(by go_simp),hb,cd0,cd1,cd2,cd3,cd4,cd5,cd6,cd7,cd8,cd9,cd10,rf,cd12,cd13,cd14,cd15,cd16,cd17,cd18,rf,cd20,cd21,cd22,cd23,cd24,cd25⟩
      · have hf' : b20 = false := hf
        subst hf'
        have d18 : b18 = true := hd ⟨18, .data⟩ (by simp) rfl
        subst d18
        have d19 : b19 = true := hd ⟨19, .data⟩ (by simp) rfl
        subst d19
        have d11 : b11 = true := hd ⟨11, .guard⟩ (by simp) rfl
        subst d11
        obtain rfl := cd18.out rfl
        obtain rfl := cd19.out rfl
        obtain rfl := cd11.out rfl
        clear hf hd
        try simp only [setIfInBounds_toArray, set_cons_zero, set_cons_succ]
        intro K hK
        rw [if_pos (by rfl)]
        go_simp
        exact hK.out _ _ ⟨b0,b1,b2,b3,b4,b5,b6,b7,b8,b9,b10,true,b12,b13,b14,b15,b16,b17,true,true,true,b21,b22,b23,b24,b25,x18,x19,x20,x21,x22,x23,x24,x25,x26,x27,x28,.bool false,x30,x31,x32,x33,x34,x35,.slice (some ⟨gb,ob,none⟩) n c2,.int .i64 (jn : Nat),(.pointer (some ⟨gb,ob + jn * 2,none⟩)),x39,x40,x41,x42,x43,(by go_simp),(by go_simp),hb,cd0,cd1,cd2,cd3,cd4,cd5,cd6,cd7,cd8,cd9,cd10,rf,cd12,cd13,cd14,cd15,cd16,cd17,rf,rf,rf,cd21,cd22,cd23,cd24,cd25⟩
      · have hf' : b21 = false := hf
        subst hf'
        have d20 : b20 = true := hd ⟨20, .data⟩ (by simp) rfl
        subst d20
        have d11 : b11 = true := hd ⟨11, .guard⟩ (by simp) rfl
        subst d11
        obtain rfl := cd20.out rfl
        obtain rfl := cd11.out rfl
        clear hf hd
        try simp only [setIfInBounds_toArray, set_cons_zero, set_cons_succ]
        intro K hK
        rw [if_pos (by rfl)]
        go_simp
        exact hK.out _ _ ⟨b0,b1,b2,b3,b4,b5,b6,b7,b8,b9,b10,true,b12,b13,b14,b15,b16,b17,b18,b19,true,true,b22,b23,b24,b25,x18,x19,x20,x21,x22,x23,x24,x25,x26,x27,x28,.bool false,x30,x31,x32,x33,x34,x35,x36,x37,.pointer (some ⟨gb,ob + jn * 2,none⟩),(.pointer (some ⟨gb,ob + jn * 2 + 1,none⟩)),x40,x41,x42,x43,(by go_simp),(by go_simp),hb,cd0,cd1,cd2,cd3,cd4,cd5,cd6,cd7,cd8,cd9,cd10,rf,cd12,cd13,cd14,cd15,cd16,cd17,cd18,cd19,rf,rf,cd22,cd23,cd24,cd25⟩
      · have hf' : b22 = false := hf
        subst hf'
        have d21 : b21 = true := hd ⟨21, .data⟩ (by simp) rfl
        subst d21
        have d11 : b11 = true := hd ⟨11, .guard⟩ (by simp) rfl
        subst d11
        obtain rfl := cd21.out rfl
        obtain rfl := cd11.out rfl
        clear hf hd
        try simp only [setIfInBounds_toArray, set_cons_zero, set_cons_succ]
        have z0 := (hb.cell hgb).trans x1
        intro K hK
        rw [if_pos (by rfl)]
        go_simp
        exact hK.out _ _ ⟨b0,b1,b2,b3,b4,b5,b6,b7,b8,b9,b10,true,b12,b13,b14,b15,b16,b17,b18,b19,b20,true,true,b23,b24,b25,x18,x19,x20,x21,x22,x23,x24,x25,x26,x27,x28,.bool false,x30,x31,x32,x33,x34,x35,x36,x37,x38,.pointer (some ⟨gb,ob + jn * 2 + 1,none⟩),(.slice sa cn sc),x41,x42,x43,(by go_simp),(by go_simp),hb,cd0,cd1,cd2,cd3,cd4,cd5,cd6,cd7,cd8,cd9,cd10,rf,cd12,cd13,cd14,cd15,cd16,cd17,cd18,cd19,cd20,rf,rf,cd23,cd24,cd25⟩
      · have hf' : b23 = false := hf
        subst hf'
        have d22 : b22 = true := hd ⟨22, .data⟩ (by simp) rfl
        subst d22
        have d11 : b11 = true := hd ⟨11, .guard⟩ (by simp) rfl
        subst d11
        obtain rfl := cd22.out rfl
        obtain rfl := cd11.out rfl
        clear hf hd
        try simp only [setIfInBounds_toArray, set_cons_zero, set_cons_succ]
        intro K hK
        rw [if_pos (by rfl)]
        go_simp
        exact hK.out _ _ ⟨b0,b1,b2,b3,b4,b5,b6,b7,b8,b9,b10,true,b12,b13,b14,b15,b16,b17,b18,b19,b20,b21,true,true,b24,b25,x18,x19,x20,x21,x22,x23,x24,x25,x26,x27,x28,.bool false,x30,x31,x32,x33,x34,x35,x36,x37,x38,x39,.slice sa cn sc,(.int .i64 (cn : Nat)),x42,x43,(by go_simp),(by go_simp),hb,cd0,cd1,cd2,cd3,cd4,cd5,cd6,cd7,cd8,cd9,cd10,rf,cd12,cd13,cd14,cd15,cd16,cd17,cd18,cd19,cd20,cd21,rf,rf,cd24,cd25⟩
      · have hf' : b24 = false := hf
        subst hf'
        have d17 : b17 = true := hd ⟨17, .data⟩ (by simp) rfl
        subst d17
        have d23 : b23 = true := hd ⟨23, .data⟩ (by simp) rfl
        subst d23
        have d11 : b11 = true := hd ⟨11, .guard⟩ (by simp) rfl
        subst d11
        obtain rfl := cd17.out rfl
        obtain rfl := cd23.out rfl
        obtain rfl := cd11.out rfl
        clear hf hd
        try simp only [setIfInBounds_toArray, set_cons_zero, set_cons_succ]
        intro K hK
        rw [if_pos (by rfl)]
        go_simp
        exact hK.out _ _ ⟨b0,b1,b2,b3,b4,b5,b6,b7,b8,b9,b10,true,b12,b13,b14,b15,b16,true,b18,b19,b20,b21,b22,true,true,b25,x18,x19,x20,x21,x22,x23,x24,x25,x26,x27,x28,.bool false,x30,x31,x32,x33,x34,.int .i64 (cn : Nat),x36,x37,x38,x39,x40,.int .i64 (cn : Nat),(.bool false),x43,(by go_simp),(by go_simp),hb,cd0,cd1,cd2,cd3,cd4,cd5,cd6,cd7,cd8,cd9,cd10,rf,cd12,cd13,cd14,cd15,cd16,rf,cd18,cd19,cd20,cd21,cd22,rf,rf,cd25⟩
      · have hf' : b25 = false := hf
        subst hf'
        have d11 : b11 = true := hd ⟨11, .data⟩ (by simp) rfl
        subst d11
        have d24 : b24 = true := hd ⟨24, .data⟩ (by simp) rfl
        subst d24
        obtain rfl := cd11.out rfl
        obtain rfl := cd24.out rfl
        clear hf hd
        intro K hK
        rw [if_pos (by rfl)]
        go_simp
        exact hK.out _ _ ⟨b0,b1,b2,b3,b4,b5,b6,b7,b8,b9,b10,true,b12,b13,b14,b15,b16,b17,b18,b19,b20,b21,b22,b23,true,true,x18,x19,x20,x21,x22,x23,x24,x25,x26,x27,x28,.bool false,x30,x31,x32,x33,x34,x35,x36,x37,x38,x39,x40,x41,.bool false,(.bool false),(by go_simp),(by go_simp),hb,cd0,cd1,cd2,cd3,cd4,cd5,cd6,cd7,cd8,cd9,cd10,rf,cd12,cd13,cd14,cd15,cd16,cd17,cd18,cd19,cd20,cd21,cd22,cd23,rf,rf⟩
    · rintro act V ⟨b0,b1,b2,b3,b4,b5,b6,b7,b8,b9,b10,b11,b12,b13,b14,b15,b16,b17,b18,b19,b20,b21,b22,b23,b24,b25,x18,x19,x20,x21,x22,x23,x24,x25,x26,x27,x28,x29,x30,x31,x32,x33,x34,x35,x36,x37,x38,x39,x40,x41,x42,x43,hL,rfl,hb,cd0,cd1,cd2,cd3,cd4,cd5,cd6,cd7,cd8,cd9,cd10,cd11,cd12,cd13,cd14,cd15,cd16,cd17,cd18,cd19,cd20,cd21,cd22,cd23,cd24,cd25⟩
      have hL' : [true,true,true,true,true,true,true,true,true,true,true,true,true,true,true,true,true,true,true,true,true,true,true,true,true,true] = [b0,b1,b2,b3,b4,b5,b6,b7,b8,b9,b10,b11,b12,b13,b14,b15,b16,b17,b18,b19,b20,b21,b22,b23,b24,b25] := congrArg Array.toList hL
      simp only [List.cons.injEq, and_true] at hL'
      obtain ⟨rfl, rfl, rfl, rfl, rfl, rfl, rfl, rfl, rfl, rfl, rfl, rfl, rfl, rfl, rfl, rfl, rfl, rfl, rfl, rfl, rfl, rfl, rfl, rfl, rfl, rfl⟩ := hL'
      obtain rfl := cd0.out rfl
      obtain rfl := cd1.out rfl
      obtain rfl := cd2.out rfl
      obtain rfl := cd3.out rfl
      obtain rfl := cd4.out rfl
      obtain rfl := cd5.out rfl
      obtain rfl := cd6.out rfl
      obtain rfl := cd7.out rfl
      obtain rfl := cd8.out rfl
      obtain rfl := cd9.out rfl
      obtain rfl := cd10.out rfl
      obtain rfl := cd11.out rfl
      obtain rfl := cd12.out rfl
      obtain rfl := cd13.out rfl
      obtain rfl := cd14.out rfl
      obtain rfl := cd15.out rfl
      obtain rfl := cd16.out rfl
      obtain rfl := cd17.out rfl
      obtain rfl := cd18.out rfl
      obtain rfl := cd19.out rfl
      obtain rfl := cd20.out rfl
      obtain rfl := cd21.out rfl
      obtain rfl := cd22.out rfl
      obtain rfl := cd23.out rfl
      obtain rfl := cd24.out rfl
      obtain rfl := cd25.out rfl
      clear hL cd0 cd1 cd2 cd3 cd4 cd5 cd6 cd7 cd8 cd9 cd10 cd11 cd12 cd13 cd14 cd15 cd16 cd17 cd18 cd19 cd20 cd21 cd22 cd23 cd24 cd25
      simp only [setIfInBounds_toArray, set_cons_zero, set_cons_succ]
      have BV : Below wr.heap.size wr V := by rw [HR.out]; exact (Below.refl _ _).drew.trans hb
      clear hb hB0 HR hga hgb y0 y1 x0 x1
      obtain ⟨w1, rfl⟩ : ∃ z, z = wr := ⟨_, rfl⟩
      go_wp2_with fail
      go_loopw [6] (fun i wk => ∃ kn : Nat, kn ≤ cn ∧ i = .int .i64 (kn : Nat) ∧ Below w1.heap.size w1 wk) (fun i _ => cn - (intOf i).toNat)
      case atStart => exact ⟨0, Nat.zero_le _, rfl, BV⟩
      case round =>
       obtain ⟨kn, hk, rfl, hK⟩ := hrel
       have hra3 := hra.past hK
       have hsa3 := hsa.past hK
       have hga := Nat.lt_of_lt_of_le hga9 hK.size
       have hgb := Nat.lt_of_lt_of_le hgb9 hK.size
       have y1 : wr.cell? ⟨ga, oa + jn * 2 + 1, none⟩ = some (.slice ra cn rc) := (hK.cell hga9).trans y19
       have x1 : wr.cell? ⟨gb, ob + jn * 2 + 1, none⟩ = some (.slice sa cn sc) := (hK.cell hgb9).trans x19
       by_cases hkt : kn < cn
       · have hkti : (kn : Int) < (cn : Int) := by omega
         obtain ⟨z, hz⟩ : ∃ z, xl[kn]? = some z := ⟨xl[kn]'(by omega), List.getElem?_eq_getElem _⟩
         obtain ⟨gc, oc, bb, rfl, hgc, -, hcc, hrc⟩ := hra3.at hz
         obtain ⟨gd, od, bd, rfl, hgd, -, hcd, hrd⟩ := hsa3.at hz
         obtain ⟨⟨zt, zo⟩, zl⟩ := z
         obtain ⟨⟨bt, bo⟩, ⟨va, vn, vc⟩⟩ := bb
         obtain ⟨⟨bt2, bo2⟩, ⟨ua, un, uc⟩⟩ := bd
         obtain ⟨hE, hrc⟩ := hrc
         obtain ⟨hE2, hrd⟩ := hrd
         obtain ⟨rfl, rfl⟩ : bt = zt ∧ bo = zo := by simpa using hE
         obtain ⟨rfl, rfl⟩ : bt2 = bt ∧ bo2 = bo := by simpa using hE2
         have hl1 : zl.length = vn := hrc.flat.len
         have hl2 : zl.length = un := hrd.flat.len
         obtain rfl : un = vn := by omega
         have hcc : ∀ k u, (ECh.f ((bt2, bo2), ⟨va, un, vc⟩))[k]? = some u → wr.cell? ⟨gc, oc + (kn * 3 + k), none⟩ = some u := hcc
         have hcd : ∀ k u, (ECh.f ((bt2, bo2), ⟨ua, un, uc⟩))[k]? = some u → wr.cell? ⟨gd, od + (kn * 3 + k), none⟩ = some u := hcd
         have m0 : wr.drew.cell? ⟨gc, oc + kn * 3, none⟩ = some (.string bt2) := hcc 0 _ rfl
         have m1 : wr.drew.cell? ⟨gc, oc + kn * 3 + 1, none⟩ = some (.int .i64 bo2) := by have := hcc 1 _ rfl; rwa [← Nat.add_assoc] at this
         have m2 : wr.drew.cell? ⟨gc, oc + kn * 3 + 2, none⟩ = some (.slice va un vc) := by have := hcc 2 _ rfl; rwa [← Nat.add_assoc] at this
         have k0 : wr.drew.cell? ⟨gd, od + kn * 3, none⟩ = some (.string bt2) := hcd 0 _ rfl
         have k1 : wr.drew.cell? ⟨gd, od + kn * 3 + 1, none⟩ = some (.int .i64 bo2) := by have := hcd 1 _ rfl; rwa [← Nat.add_assoc] at this
         have k2 : wr.drew.cell? ⟨gd, od + kn * 3 + 2, none⟩ = some (.slice ua un uc) := by have := hcd 2 _ rfl; rwa [← Nat.add_assoc] at this
         obtain ⟨q, hq⟩ : ∃ q, wr.heap.size = q := ⟨_, rfl⟩
         have HQ := Lib.hid hq
         have hB0 : q ≤ wr.heap.size := Nat.le_of_eq hq.symm
         rw [hq] at hga hgb hgc hgd
         have HW := fun (w' : World) (hb : Below q wr.drew w') => (show Below wr.heap.size wr w' by rw [HQ.out]; exact (Below.refl _ _).drew.trans hb)
         have HC := fun (w' : World) (hb : Below q wr.drew w') => rsameCh_rfl w' bt2 bo2 va un vc ua uc zl (hrc.flat.past (HW w' hb)) (hrd.flat.past (HW w' hb))
         clear hcc hcd hz hq hra3 hsa3 hE hE2 hl1 hl2
         go_upto_region 11 with fail
         refine region_inv (RSt11 q n c c2 ga oa gb ob jn gc oc cn rc gd od sc kn bt2 bo2 va un vc ua uc) (by kernel_rfl) (by kernel_rfl) ?_ ?_ ?_
         · exact ⟨false,false,false,false,false,false,false,false,false,false,false,false,false,false,false,false,false,false,u54,u55,u56,u57,u58,u59,u60,u61,u62,u63,u64,u65,u66,u67,u68,u69,u70,u71,rfl,(by go_simp),Below.refl _ _,nf2,nf2,nf2,nf2,nf2,nf2,nf2,nf2,nf2,nf2,nf2,nf2,nf2,nf2,nf2,nf2,nf2,nf2⟩
         · refine ⟨?_, ?_, ?_, ?_, ?_, ?_, ?_, ?_, ?_, ?_, ?_, ?_, ?_, ?_, ?_, ?_, ?_, ?_, trivial⟩
           all_goals rintro L a w ⟨b0,b1,b2,b3,b4,b5,b6,b7,b8,b9,b10,b11,b12,b13,b14,b15,b16,b17,x54,x55,x56,x57,x58,x59,x60,x61,x62,x63,x64,x65,x66,x67,x68,x69,x70,x71,rfl,rfl,hb,cd0,cd1,cd2,cd3,cd4,cd5,cd6,cd7,cd8,cd9,cd10,cd11,cd12,cd13,cd14,cd15,cd16,cd17⟩ hf hd
           · have hf' : b0 = false := hf
             subst hf'
             clear hf hd
             intro K hK
             rw [if_pos (by rfl)]
             go_simp
             exact hK.out _ _ ⟨true,b1,b2,b3,b4,b5,b6,b7,b8,b9,b10,b11,b12,b13,b14,b15,b16,b17,(.slice (some ⟨ga,oa,none⟩) n c),x55,x56,x57,x58,x59,x60,x61,x62,x63,x64,x65,x66,x67,x68,x69,x70,x71,(by go_simp),(by go_simp),hb,rf,cd1,cd2,cd3,cd4,cd5,cd6,cd7,cd8,cd9,cd10,cd11,cd12,cd13,cd14,cd15,cd16,cd17⟩
           · have hf' : b1 = false := hf
             subst hf'
             clear hf hd
             intro K hK
             rw [if_pos (by rfl)]
             go_simp
             exact hK.out _ _ ⟨b0,true,b2,b3,b4,b5,b6,b7,b8,b9,b10,b11,b12,b13,b14,b15,b16,b17,x54,(.int .i64 (jn : Nat)),x56,x57,x58,x59,x60,x61,x62,x63,x64,x65,x66,x67,x68,x69,x70,x71,(by go_simp),(by go_simp),hb,cd0,rf,cd2,cd3,cd4,cd5,cd6,cd7,cd8,cd9,cd10,cd11,cd12,cd13,cd14,cd15,cd16,cd17⟩
           · have hf' : b2 = false := hf
             subst hf'
             have d0 : b0 = true := hd ⟨0, .data⟩ (by simp) rfl
             subst d0
             have d1 : b1 = true := hd ⟨1, .data⟩ (by simp) rfl
             subst d1
             obtain rfl := cd0.out rfl
             obtain rfl := cd1.out rfl
             clear hf hd
             intro K hK
             rw [if_pos (by rfl)]
             go_simp
             exact hK.out _ _ ⟨true,true,true,b3,b4,b5,b6,b7,b8,b9,b10,b11,b12,b13,b14,b15,b16,b17,.slice (some ⟨ga,oa,none⟩) n c,.int .i64 (jn : Nat),(.pointer (some ⟨ga,oa + jn * 2,none⟩)),x57,x58,x59,x60,x61,x62,x63,x64,x65,x66,x67,x68,x69,x70,x71,(by go_simp),(by go_simp),hb,rf,rf,rf,cd3,cd4,cd5,cd6,cd7,cd8,cd9,cd10,cd11,cd12,cd13,cd14,cd15,cd16,cd17⟩
           · have hf' : b3 = false := hf
             subst hf'
             have d2 : b2 = true := hd ⟨2, .data⟩ (by simp) rfl
             subst d2
             obtain rfl := cd2.out rfl
             clear hf hd
             intro K hK
             rw [if_pos (by rfl)]
             go_simp
             exact hK.out _ _ ⟨b0,b1,true,true,b4,b5,b6,b7,b8,b9,b10,b11,b12,b13,b14,b15,b16,b17,x54,x55,.pointer (some ⟨ga,oa + jn * 2,none⟩),(.pointer (some ⟨ga,oa + jn * 2 + 1,none⟩)),x58,x59,x60,x61,x62,x63,x64,x65,x66,x67,x68,x69,x70,x71,(by go_simp),(by go_simp),hb,cd0,cd1,rf,rf,cd4,cd5,cd6,cd7,cd8,cd9,cd10,cd11,cd12,cd13,cd14,cd15,cd16,cd17⟩
           · have hf' : b4 = false := hf
             subst hf'
             have d3 : b3 = true := hd ⟨3, .data⟩ (by simp) rfl
             subst d3
             obtain rfl := cd3.out rfl
             clear hf hd
             try simp only [setIfInBounds_toArray, set_cons_zero, set_cons_succ]
             have z0 := (hb.cell hga).trans y1
             intro K hK
             rw [if_pos (by rfl)]
             go_simp
             exact hK.out _ _ ⟨b0,b1,b2,true,true,b5,b6,b7,b8,b9,b10,b11,b12,b13,b14,b15,b16,b17,x54,x55,x56,.pointer (some ⟨ga,oa + jn * 2 + 1,none⟩),(.slice (some ⟨gc,oc,none⟩) cn rc),x59,x60,x61,x62,x63,x64,x65,x66,x67,x68,x69,x70,x71,(by go_simp),(by go_simp),hb,cd0,cd1,cd2,rf,rf,cd5,cd6,cd7,cd8,cd9,cd10,cd11,cd12,cd13,cd14,cd15,cd16,cd17⟩
           · have hf' : b5 = false := hf
             subst hf'
             clear hf hd
             intro K hK
             rw [if_pos (by rfl)]
             go_simp
             exact hK.out _ _ ⟨b0,b1,b2,b3,b4,true,b6,b7,b8,b9,b10,b11,b12,b13,b14,b15,b16,b17,x54,x55,x56,x57,x58,(.int .i64 (kn : Nat)),x60,x61,x62,x63,x64,x65,x66,x67,x68,x69,x70,x71,(by go_simp),(by go_simp),hb,cd0,cd1,cd2,cd3,cd4,rf,cd6,cd7,cd8,cd9,cd10,cd11,cd12,cd13,cd14,cd15,cd16,cd17⟩
           · have hf' : b6 = false := hf
             subst hf'
             have d4 : b4 = true := hd ⟨4, .data⟩ (by simp) rfl
             subst d4
             have d5 : b5 = true := hd ⟨5, .data⟩ (by simp) rfl
             subst d5
             obtain rfl := cd4.out rfl
             obtain rfl := cd5.out rfl
             clear hf hd
             intro K hK
             rw [if_pos (by rfl)]
             go_simp
             exact hK.out _ _ ⟨b0,b1,b2,b3,true,true,true,b7,b8,b9,b10,b11,b12,b13,b14,b15,b16,b17,x54,x55,x56,x57,.slice (some ⟨gc,oc,none⟩) cn rc,.int .i64 (kn : Nat),(.pointer (some ⟨gc,oc + kn * 3,none⟩)),x61,x62,x63,x64,x65,x66,x67,x68,x69,x70,x71,(by go_simp),(by go_simp),hb,cd0,cd1,cd2,cd3,rf,rf,rf,cd7,cd8,cd9,cd10,cd11,cd12,cd13,cd14,cd15,cd16,cd17⟩
           · have hf' : b7 = false := hf
             subst hf'
             have d6 : b6 = true := hd ⟨6, .data⟩ (by simp) rfl
             subst d6
             obtain rfl := cd6.out rfl
             clear hf hd
             try simp only [setIfInBounds_toArray, set_cons_zero, set_cons_succ]
             have z0 := (hb.cell hgc).trans m0
             have z1 := (hb.cell hgc).trans m1
             have z2 := (hb.cell hgc).trans m2
             intro K hK
             rw [if_pos (by rfl)]
             go_simp
             exact hK.out _ _ ⟨b0,b1,b2,b3,b4,b5,true,true,b8,b9,b10,b11,b12,b13,b14,b15,b16,b17,x54,x55,x56,x57,x58,x59,.pointer (some ⟨gc,oc + kn * 3,none⟩),(.agg #[.string bt2,.int .i64 bo2,.slice va un vc]),x62,x63,x64,x65,x66,x67,x68,x69,x70,x71,(by go_simp),(by go_simp),hb,cd0,cd1,cd2,cd3,cd4,cd5,rf,rf,cd8,cd9,cd10,cd11,cd12,cd13,cd14,cd15,cd16,cd17⟩
           · have hf' : b8 = false := hf
             subst hf'
             clear hf hd
             intro K hK
             rw [if_pos (by rfl)]
             go_simp
             exact hK.out _ _ ⟨b0,b1,b2,b3,b4,b5,b6,b7,true,b9,b10,b11,b12,b13,b14,b15,b16,b17,x54,x55,x56,x57,x58,x59,x60,x61,(.slice (some ⟨gb,ob,none⟩) n c2),x63,x64,x65,x66,x67,x68,x69,x70,x71,(by go_simp),(by go_simp),hb,cd0,cd1,cd2,cd3,cd4,cd5,cd6,cd7,rf,cd9,cd10,cd11,cd12,cd13,cd14,cd15,cd16,cd17⟩
           · have hf' : b9 = false := hf
             subst hf'
             clear hf hd
             intro K hK
             rw [if_pos (by rfl)]
             go_simp
             exact hK.out _ _ ⟨b0,b1,b2,b3,b4,b5,b6,b7,b8,true,b10,b11,b12,b13,b14,b15,b16,b17,x54,x55,x56,x57,x58,x59,x60,x61,x62,(.int .i64 (jn : Nat)),x64,x65,x66,x67,x68,x69,x70,x71,(by go_simp),(by go_simp),hb,cd0,cd1,cd2,cd3,cd4,cd5,cd6,cd7,cd8,rf,cd10,cd11,cd12,cd13,cd14,cd15,cd16,cd17⟩
           · have hf' : b10 = false := hf
             subst hf'
             have d8 : b8 = true := hd ⟨8, .data⟩ (by simp) rfl
             subst d8
             have d9 : b9 = true := hd ⟨9, .data⟩ (by simp) rfl
             subst d9
             obtain rfl := cd8.out rfl
             obtain rfl := cd9.out rfl
             clear hf hd
             intro K hK
             rw [if_pos (by rfl)]
             go_simp
             exact hK.out _ _ ⟨b0,b1,b2,b3,b4,b5,b6,b7,true,true,true,b11,b12,b13,b14,b15,b16,b17,x54,x55,x56,x57,x58,x59,x60,x61,.slice (some ⟨gb,ob,none⟩) n c2,.int .i64 (jn : Nat),(.pointer (some ⟨gb,ob + jn * 2,none⟩)),x65,x66,x67,x68,x69,x70,x71,(by go_simp),(by go_simp),hb,cd0,cd1,cd2,cd3,cd4,cd5,cd6,cd7,rf,rf,rf,cd11,cd12,cd13,cd14,cd15,cd16,cd17⟩
           · have hf' : b11 = false := hf
             subst hf'
             have d10 : b10 = true := hd ⟨10, .data⟩ (by simp) rfl
             subst d10
             obtain rfl := cd10.out rfl
             clear hf hd
             intro K hK
             rw [if_pos (by rfl)]
             go_simp
             exact hK.out _ _ ⟨b0,b1,b2,b3,b4,b5,b6,b7,b8,b9,true,true,b12,b13,b14,b15,b16,b17,x54,x55,x56,x57,x58,x59,x60,x61,x62,x63,.pointer (some ⟨gb,ob + jn * 2,none⟩),(.pointer (some ⟨gb,ob + jn * 2 + 1,none⟩)),x66,x67,x68,x69,x70,x71,(by go_simp),(by go_simp),hb,cd0,cd1,cd2,cd3,cd4,cd5,cd6,cd7,cd8,cd9,rf,rf,cd12,cd13,cd14,cd15,cd16,cd17⟩
           · have hf' : b12 = false := hf
             subst hf'
             have d11 : b11 = true := hd ⟨11, .data⟩ (by simp) rfl
             subst d11
             obtain rfl := cd11.out rfl
             clear hf hd
             try simp only [setIfInBounds_toArray, set_cons_zero, set_cons_succ]
             have z0 := (hb.cell hgb).trans x1
             intro K hK
             rw [if_pos (by rfl)]
             go_simp
             exact hK.out _ _ ⟨b0,b1,b2,b3,b4,b5,b6,b7,b8,b9,b10,true,true,b13,b14,b15,b16,b17,x54,x55,x56,x57,x58,x59,x60,x61,x62,x63,x64,.pointer (some ⟨gb,ob + jn * 2 + 1,none⟩),(.slice (some ⟨gd,od,none⟩) cn sc),x67,x68,x69,x70,x71,(by go_simp),(by go_simp),hb,cd0,cd1,cd2,cd3,cd4,cd5,cd6,cd7,cd8,cd9,cd10,rf,rf,cd13,cd14,cd15,cd16,cd17⟩
           · have hf' : b13 = false := hf
             subst hf'
             clear hf hd
             intro K hK
             rw [if_pos (by rfl)]
             go_simp
             exact hK.out _ _ ⟨b0,b1,b2,b3,b4,b5,b6,b7,b8,b9,b10,b11,b12,true,b14,b15,b16,b17,x54,x55,x56,x57,x58,x59,x60,x61,x62,x63,x64,x65,x66,(.int .i64 (kn : Nat)),x68,x69,x70,x71,(by go_simp),(by go_simp),hb,cd0,cd1,cd2,cd3,cd4,cd5,cd6,cd7,cd8,cd9,cd10,cd11,cd12,rf,cd14,cd15,cd16,cd17⟩
           · have hf' : b14 = false := hf
             subst hf'
             have d12 : b12 = true := hd ⟨12, .data⟩ (by simp) rfl
             subst d12
             have d13 : b13 = true := hd ⟨13, .data⟩ (by simp) rfl
             subst d13
             obtain rfl := cd12.out rfl
             obtain rfl := cd13.out rfl
             clear hf hd
             intro K hK
             rw [if_pos (by rfl)]
             go_simp
             exact hK.out _ _ ⟨b0,b1,b2,b3,b4,b5,b6,b7,b8,b9,b10,b11,true,true,true,b15,b16,b17,x54,x55,x56,x57,x58,x59,x60,x61,x62,x63,x64,x65,.slice (some ⟨gd,od,none⟩) cn sc,.int .i64 (kn : Nat),(.pointer (some ⟨gd,od + kn * 3,none⟩)),x69,x70,x71,(by go_simp),(by go_simp),hb,cd0,cd1,cd2,cd3,cd4,cd5,cd6,cd7,cd8,cd9,cd10,cd11,rf,rf,rf,cd15,cd16,cd17⟩
           · have hf' : b15 = false := hf
             subst hf'
             have d14 : b14 = true := hd ⟨14, .data⟩ (by simp) rfl
             subst d14
             obtain rfl := cd14.out rfl
             clear hf hd
             try simp only [setIfInBounds_toArray, set_cons_zero, set_cons_succ]
             have z0 := (hb.cell hgd).trans k0
             have z1 := (hb.cell hgd).trans k1
             have z2 := (hb.cell hgd).trans k2
             intro K hK
             rw [if_pos (by rfl)]
             go_simp
             exact hK.out _ _ ⟨b0,b1,b2,b3,b4,b5,b6,b7,b8,b9,b10,b11,b12,b13,true,true,b16,b17,x54,x55,x56,x57,x58,x59,x60,x61,x62,x63,x64,x65,x66,x67,.pointer (some ⟨gd,od + kn * 3,none⟩),(.agg #[.string bt2,.int .i64 bo2,.slice ua un uc]),x70,x71,(by go_simp),(by go_simp),hb,cd0,cd1,cd2,cd3,cd4,cd5,cd6,cd7,cd8,cd9,cd10,cd11,cd12,cd13,rf,rf,cd16,cd17⟩
           · have hf' : b16 = false := hf
             subst hf'
             have d7 : b7 = true := hd ⟨7, .data⟩ (by simp) rfl
             subst d7
             have d15 : b15 = true := hd ⟨15, .data⟩ (by simp) rfl
             subst d15
             obtain rfl := cd7.out rfl
             obtain rfl := cd15.out rfl
             clear hf hd
             intro K hK
             rw [if_pos (by rfl)]
             go_simp
             go_at_call 53
             refine (HC _ hb).mono ?_
             rintro e w' ⟨rfl, bx⟩
             exact hK.out _ _ ⟨b0,b1,b2,b3,b4,b5,b6,true,b8,b9,b10,b11,b12,b13,b14,true,true,b17,x54,x55,x56,x57,x58,x59,x60,.agg #[.string bt2,.int .i64 bo2,.slice va un vc],x62,x63,x64,x65,x66,x67,x68,.agg #[.string bt2,.int .i64 bo2,.slice ua un uc],(.bool true),x71,(by go_simp),(by go_simp),hb.trans (bx.mono (Nat.le_trans hB0 hb.size)),cd0,cd1,cd2,cd3,cd4,cd5,cd6,rf,cd8,cd9,cd10,cd11,cd12,cd13,cd14,rf,rf,cd17⟩
           · have hf' : b17 = false := hf
             subst hf'
             have d16 : b16 = true := hd ⟨16, .data⟩ (by simp) rfl
             subst d16
             obtain rfl := cd16.out rfl
             clear hf hd
             intro K hK
             rw [if_pos (by rfl)]
             go_simp
             exact hK.out _ _ ⟨b0,b1,b2,b3,b4,b5,b6,b7,b8,b9,b10,b11,b12,b13,b14,b15,true,true,x54,x55,x56,x57,x58,x59,x60,x61,x62,x63,x64,x65,x66,x67,x68,x69,.bool true,(.bool false),(by go_simp),(by go_simp),hb,cd0,cd1,cd2,cd3,cd4,cd5,cd6,cd7,cd8,cd9,cd10,cd11,cd12,cd13,cd14,cd15,rf,rf⟩
         · rintro act V ⟨b0,b1,b2,b3,b4,b5,b6,b7,b8,b9,b10,b11,b12,b13,b14,b15,b16,b17,x54,x55,x56,x57,x58,x59,x60,x61,x62,x63,x64,x65,x66,x67,x68,x69,x70,x71,hL,rfl,hb,cd0,cd1,cd2,cd3,cd4,cd5,cd6,cd7,cd8,cd9,cd10,cd11,cd12,cd13,cd14,cd15,cd16,cd17⟩
           have hL' : [true,true,true,true,true,true,true,true,true,true,true,true,true,true,true,true,true,true] = [b0,b1,b2,b3,b4,b5,b6,b7,b8,b9,b10,b11,b12,b13,b14,b15,b16,b17] := congrArg Array.toList hL
           simp only [List.cons.injEq, and_true] at hL'
           obtain ⟨rfl, rfl, rfl, rfl, rfl, rfl, rfl, rfl, rfl, rfl, rfl, rfl, rfl, rfl, rfl, rfl, rfl, rfl⟩ := hL'
           obtain rfl := cd0.out rfl
           obtain rfl := cd1.out rfl
           obtain rfl := cd2.out rfl
           obtain rfl := cd3.out rfl
           obtain rfl := cd4.out rfl
           obtain rfl := cd5.out rfl
           obtain rfl := cd6.out rfl
           obtain rfl := cd7.out rfl
           obtain rfl := cd8.out rfl
           obtain rfl := cd9.out rfl
           obtain rfl := cd10.out rfl
           obtain rfl := cd11.out rfl
           obtain rfl := cd12.out rfl
           obtain rfl := cd13.out rfl
           obtain rfl := cd14.out rfl
           obtain rfl := cd15.out rfl
           obtain rfl := cd16.out rfl
           obtain rfl := cd17.out rfl
           clear hL cd0 cd1 cd2 cd3 cd4 cd5 cd6 cd7 cd8 cd9 cd10 cd11 cd12 cd13 cd14 cd15 cd16 cd17
           simp only [setIfInBounds_toArray, set_cons_zero, set_cons_succ]
           have BV2 : Below wr.heap.size wr V := by rw [HQ.out]; exact (Below.refl _ _).drew.trans hb
           clear hb
           go_wp2_with fail
           go_roundw
           case rel => exact ⟨kn + 1, by omega, by go_num, hK.trans (BV2.mono hK.size)⟩
           case measure => simp [intOf]; omega
       · have hkti : ¬ (kn : Int) < (cn : Int) := by omega
         go_wp2_with fail
         go_roundw
         case rel => exact ⟨jn + 1, by omega, by go_num, hB.trans (hK.mono hB.size)⟩
         case measure => simp [intOf]; omega
  · have hlti : ¬ (jn : Int) < (n : Int) := by omega
    go_wp2_with fail
    go_ret
    exact ⟨rfl, hB⟩
end Go.Proofs.YtdmnjjknkcnkgaaGreatDoor
