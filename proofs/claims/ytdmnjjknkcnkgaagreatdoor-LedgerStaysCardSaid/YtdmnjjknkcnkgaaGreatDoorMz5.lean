/-
 Digests, blocks that are built; ledger: Hash, Entry (by gen_lgu.py).
 ledger: Digest (by gen_lgv.py).
-/
import Derived.Test.YtdmnjjknkcnkgaaGreatDoorMz4
namespace Go.Proofs.YtdmnjjknkcnkgaaGreatDoor
open List (setIfInBounds_toArray set_cons_zero set_cons_succ)
open Go.RowKit
set_option linter.unusedSimpArgs false
theorem fill_next (place : Nat → Option (Nat × Nat)) (z : Array Value) (i off n : Nat) (v : Value) (C : List Value) (rest : List (Nat × Value)) (hp : place i = some (off,n)) (hv : v.cells = C.toArray) (hn : C.length = n) (hz : off + n ≤ z.size) :
 Instr.fill place z ((i, v) :: rest) = Instr.fill place (z.toList.take off ++ C ++ z.toList.drop (off + n)).toArray rest := by
 have hs : v.cells.size = n := by rw [hv]; simp [hn]
 rw [Instr.fill, hp]
 simp only [hs]
 rw [if_neg (by simp; omega)]
 simp only [hv]
 congr 1
 apply Array.toList_inj.1
 have := foldl_set off C 0 z (by omega)
 simp only [Nat.add_zero, hn] at this
 rw [← this]
 simp
theorem dig_info : (Tryz.prog.info? 55).map (fun i => i.zero) = some (some (.agg (Value.int .i64 0 :: bcs (List.replicate 32 0)).toArray)) := by kernel_rfl
theorem dig_size : (Tryz.prog.info? 55).map (·.size) = some 33 := by kernel_rfl
theorem dig_places : (match Tryz.prog.underlying 55 with | some (.struct fields) => fields.toList.mapM (fun f => (Tryz.prog.info? f.type).map fun i => (f.offset,i.size)) | _ => none) = some [(0,1),(1,32)] := by kernel_rfl
theorem built_dig (n : Int) (H : List UInt8) (h : H.length = 32) : Tryz.prog.built 55 [(0, .int .i64 n), (1, .agg (bcs H).toArray)] = some (Value.int .i64 n :: bcs H).toArray := by
 have hi := dig_info
 have hp := dig_places
 unfold Program.built
 cases h1 : Tryz.prog.info? 55 with
 | none => rw [h1] at hi; cases hi
 | some it =>
  rw [h1] at hi
  simp only [Option.map_some, Option.some.injEq] at hi
  cases h2 : Tryz.prog.underlying 55 with
  | none => rw [h2] at hp; cases hp
  | some d =>
   rw [h2] at hp
   cases d <;> try (cases hp; done)
   simp only at hp
   simp only [hi, hp]
   rw [fill_next _ _ 0 0 1 (.int .i64 n) [.int .i64 n] _ rfl rfl rfl (by simp [Value.cells,bcs_length]),fill_one _ _ 1 1 32 (bcs H) rfl (by rw [bcs_length,h]) (by simp [Value.cells,bcs_length])]
   simp [Value.cells, bcs_length]
theorem blk_zero : (Tryz.prog.info? 64).map (fun i => i.zero) = some (some (.agg Blk0.cs.toArray)) := by kernel_rfl
theorem blk_size : (Tryz.prog.info? 64).map (·.size) = some 66 := by kernel_rfl
theorem blk_places : (match Tryz.prog.underlying 64 with | some (.struct fields) => fields.toList.mapM (fun f => (Tryz.prog.info? f.type).map fun i => (f.offset,i.size)) | _ => none) = some [(0,1),(1,32),(33,32),(65,1)] := by kernel_rfl
theorem built_blk (b : Blk) : Tryz.prog.built 64 [(0,.int .i64 b.n),(1,.agg (bcs b.prev.l).toArray),(2,.agg (bcs b.root.l).toArray),(3,.int .i64 b.count)] = some b.cs.toArray := by
 have hi := blk_zero
 have hp := blk_places
 have l1 := b.prev.len
 have l2 := b.root.len
 have c1 : (bcs b.prev.l).length = 32 := by rw [bcs_length, l1]
 have c2 : (bcs b.root.l).length = 32 := by rw [bcs_length, l2]
 have hz : Blk0.cs = [Value.int .i64 0] ++ (bcs H0s.l ++ (bcs H0s.l ++ [.int .i64 0])) := rfl
 have hz32 : (bcs H0s.l).length = 32 := rfl
 unfold Program.built
 cases h1 : Tryz.prog.info? 64 with
 | none => rw [h1] at hi; cases hi
 | some it =>
  rw [h1] at hi
  simp only [Option.map_some, Option.some.injEq] at hi
  cases h2 : Tryz.prog.underlying 64 with
  | none => rw [h2] at hp; cases hp
  | some d =>
   rw [h2] at hp
   cases d <;> try (cases hp; done)
   simp only at hp
   simp only [hi, hp, hz, Value.cells]
   generalize bcs H0s.l = Z at hz32
   generalize hP : bcs b.prev.l = P at c1
   generalize hR : bcs b.root.l = R at c2
   rw [fill_next _ _ 0 0 1 (.int .i64 b.n) [.int .i64 b.n] _ rfl rfl rfl (by simp),fill_next _ _ 1 1 32 (.agg P.toArray) P _ rfl rfl c1 (by simp; omega),fill_next _ _ 2 33 32 (.agg R.toArray) R _ rfl rfl c2 (by simp; omega),fill_next _ _ 3 65 1 (.int .i64 b.count) [.int .i64 b.count] _ rfl rfl rfl (by simp; omega)]
   unfold Instr.fill
   unfold Blk.cs
   rw [hP, hR]
   have e33 : ∀ (x : Value), (x :: (P ++ (R ++ [.int .i64 0]))).take 33 = x :: P := fun x => by rw [show 33 = P.length + 1 by omega, List.take_succ_cons, List.take_left]
   simp [List.take_append, List.drop_append, c1, c2, hz32, List.take_of_length_le, List.drop_of_length_le]
theorem slice_at (g o : Nat) (w : World) : (Instr.sliceAt 53 (.pointer (some ⟨g, o, none⟩)) none none none).run Tryz.prog w = .ok (.slice (some ⟨g, o, none⟩) 32 32) w := by kernel_rfl
theorem IsRR.p8 {w : World} {B : Nat} {ao : Option Addr} {n c : Nat} {ls : List (List UInt8)} (h : IsRR EU8 w B ao n c ls) : IsP w ao n ls :=
 ⟨h.len, fun hn => by
  obtain ⟨b, off, x, rfl, -⟩ := h.at (j := 0) (l := ls[0]'(by rw [h.len]; exact hn)) (List.getElem?_eq_getElem _)
  exact ⟨_, rfl⟩, fun a ha j hj => by
  have hl : j < ls.length := by rw [h.len]; exact hj
  obtain ⟨b, off, x, h1, -, hc, hx⟩ := h.at (j := j) (l := ls[j]) (List.getElem?_eq_getElem hl)
  rw [h1] at ha
  obtain rfl := Option.some.inj ha
  refine ⟨x.a, x.n, x.c, by rw [Addr.add_lit]; exact hc, ?_⟩
  rw [List.getD_eq_getElem?_getD, List.getElem?_eq_getElem hl]
  exact hx.b8⟩
theorem blk_cs0 (b : Blk) : b.cs.toArray[0]? = some (.int .i64 b.n) := rfl
theorem blk_cs65 (b : Blk) : b.cs.toArray[65]? = some (.int .i64 b.count) := by
 have l1 : (bcs b.prev.l).length = 32 := by rw [bcs_length, b.prev.len]
 have l2 : (bcs b.root.l).length = 32 := by rw [bcs_length, b.root.len]
 unfold Blk.cs
 rw [List.getElem?_toArray, List.getElem?_cons_succ, List.getElem?_append_right (by omega), List.getElem?_append_right (by omega), l1, l2]
 rfl
theorem blk_prev {w : World} {p : Nat} {b : Blk} {t : TypeId} (h : Bk w p b.cs.toArray t) : IsB w (some ⟨p, 1, none⟩) 32 32 b.prev.l :=
 ⟨b.prev.len, Nat.le_refl _, by unfold maxLen; omega, (fun h => by cases h), fun a ha j u hu => by
  obtain rfl := Option.some.inj ha
  have hj := (List.getElem?_eq_some_iff.1 hu).1
  rw [Addr.add_lit]
  refine h.c ?_
  unfold Blk.cs
  rw [List.getElem?_toArray, Nat.add_comm, List.getElem?_cons_succ, List.getElem?_append_left (by rw [bcs_length]; exact hj)]
  simp only [bcs, List.getElem?_map, hu]
  rfl⟩
theorem blk_root {w : World} {p : Nat} {b : Blk} {t : TypeId} (h : Bk w p b.cs.toArray t) : IsB w (some ⟨p, 33, none⟩) 32 32 b.root.l :=
 ⟨b.root.len, Nat.le_refl _, by unfold maxLen; omega, (fun h => by cases h), fun a ha j u hu => by
  obtain rfl := Option.some.inj ha
  have hj := (List.getElem?_eq_some_iff.1 hu).1
  have l1 : (bcs b.prev.l).length = 32 := by rw [bcs_length, b.prev.len]
  rw [Addr.add_lit]
  refine h.c ?_
  unfold Blk.cs
  rw [List.getElem?_toArray,show 33 + j = (32 + j) + 1 by omega,List.getElem?_cons_succ,List.getElem?_append_right (by omega),l1,Nat.add_sub_cancel_left,List.getElem?_append_left (by rw [bcs_length]; exact hj)]
  simp only [bcs, List.getElem?_map, hu]
  rfl⟩
inductive LHash1 (B : Nat) (p : Nat) (q : Nat) (n : Int) (ct : Int) (CS : Array Value) (l1 : List UInt8) (lp : List UInt8) (lr : List UInt8) (l2 : List UInt8) (n8 : Nat) (Z0 : Array Value) (HA : Array Value) (a0 : Act) (w0 : World) (L : Array Bool) (a : Act) (w : World) : Prop
 | mk (b0 b1 b2 b3 b4 b5 b6 b7 b8 b9 b10 b11 b12 : Bool) (x3 x4 x5 x6 x7 x8 x9 x10 x11 x12 x13 x14 : Value) (g1 : Nat) (c1 : Nat) (g2 : Nat) (c2 : Nat) (gs : Nat) (hL : L = #[b0,b1,b2,b3,b4,b5,b6,b7,b8,b9,b10,b11,b12]) (ha : a = ⟨((((((((((((a0.tmps.setIfInBounds 3 x3).setIfInBounds 4 x4).setIfInBounds 5 x5).setIfInBounds 6 x6).setIfInBounds 7 x7).setIfInBounds 8 x8).setIfInBounds 9 x9).setIfInBounds 10 x10).setIfInBounds 11 x11).setIfInBounds 12 x12).setIfInBounds 13 x13).setIfInBounds 14 x14),a0.defers⟩) (hb : Below B w0 w) (cd0 : Hid (b0 = true → x3 = .pointer (some ⟨p,0,none⟩))) (cd1 : Hid (b1 = true → x4 = .int .i64 n)) (cd2 : Hid (b2 = true → x5 = .slice (some ⟨g1,0,none⟩) n8 c1)) (cd3 : Hid (b3 = true → x6 = .pointer (some ⟨p,1,none⟩))) (cd4 : Hid (b4 = true → x7 = .slice (some ⟨p,1,none⟩) 32 32)) (cd5 : Hid (b5 = true → x8 = .pointer (some ⟨p,33,none⟩))) (cd6 : Hid (b6 = true → x9 = .slice (some ⟨p,33,none⟩) 32 32)) (cd7 : Hid (b7 = true → x10 = .pointer (some ⟨p,65,none⟩))) (cd8 : Hid (b8 = true → x11 = .int .i64 ct)) (cd9 : Hid (b9 = true → x12 = .slice (some ⟨g2,0,none⟩) n8 c2)) (cd10 : Hid (b10 = true → x13 = .slice (some ⟨gs,0,none⟩) 4 4)) (cd11 : Hid (b11 = true → x14 = .agg HA)) (f_p : Hid (Bk w p CS 64)) (f_a : Hid (b2 = true → b10 = false → IsB w (some ⟨g1,0,none⟩) n8 c1 l1)) (f_b : Hid (b9 = true → b10 = false → IsB w (some ⟨g2,0,none⟩) n8 c2 l2)) (f_m : Hid (b10 = true → b11 = false → IsRR EU8 w 0 (some ⟨gs,0,none⟩) 4 4 [l1,lp,lr,l2])) (f_z : Hid (b12 = false → Bk w q Z0 53)) (f_s : Hid (b12 = true → Bk w q HA 53)) : LHash1 B p q n ct CS l1 lp lr l2 n8 Z0 HA a0 w0 L a w
set_option maxRecDepth 100000 in
set_option maxHeartbeats 1600000 in
theorem lhash_any (w : World) (hC : RC w) (b : Blk) : Calls Tryz.prog 36 #[.agg b.cs.toArray] w fun e w' => e = .returned (.agg (bcs (blkS b)).toArray) ∧ Below w.heap.size w w' := by
 have HI10 := fun w => int_nil b.n w
 have HI20 := fun w => int_nil b.count w
 have hS : blkS b = sha (le 8 (XU b.n) ++ (b.prev.l ++ (b.root.l ++ le 8 (XU b.count)))) := rfl
 have HH0 := blkS_len b
 have q1 : (le 8 (XU b.n)).length = 8 := le_length _ _
 have q2 : (le 8 (XU b.count)).length = 8 := le_length _ _
 have q3 := b.prev.len
 have q4 := b.root.len
 have HBp0 : ∀ w p, Bk w p b.cs.toArray 64 → IsB w (some ⟨p, 1, none⟩) 32 32 b.prev.l := fun w p h => blk_prev h
 have HBr0 : ∀ w p, Bk w p b.cs.toArray 64 → IsB w (some ⟨p, 33, none⟩) 32 32 b.root.l := fun w p h => blk_root h
 have hc0 := blk_cs0 b
 have hc65 := blk_cs65 b
 have hcs : b.cs.toArray.size = 66 := by simp [Blk.cs_len]
 obtain ⟨l1, hl1⟩ : ∃ x, le 8 (XU b.n) = x := ⟨_, rfl⟩
 obtain ⟨l2, hl2⟩ : ∃ x, le 8 (XU b.count) = x := ⟨_, rfl⟩
 obtain ⟨H, hH⟩ : ∃ x, blkS b = x := ⟨_, rfl⟩
 obtain ⟨CS, hCS⟩ : ∃ x, b.cs.toArray = x := ⟨_, rfl⟩
 obtain ⟨n, ⟨lp, hlp⟩, ⟨lr, hlr⟩, ct⟩ := b
 simp only at hl1 hl2 q1 q2 q3 q4 HBp0 HBr0 hc0 hc65 HI10 HI20 hS
 rw [hCS] at hc0 hc65 hcs ⊢
 rw [hl1] at q1
 rw [hl2] at q2
 rw [hH, hl1, hl2] at hS
 rw [hH] at HH0 ⊢
 simp only [hl1] at HI10
 simp only [hl2] at HI20
 simp only [hCS] at HBp0 HBr0
 obtain ⟨HA, hHA⟩ : ∃ z, (bcs H).toArray = z := ⟨_, rfl⟩
 have HA0 : Hid (HA.size = 32) := Lib.hid (by rw [← hHA]; simp [bcs_length, HH0])
 have HA1 : Hid (HA.all (·.oneCell') = true) := Lib.hid (by rw [← hHA]; exact bcs_all _)
 have HS0 := fun (w' : World) (hC' : RC w') (a : Option Addr) (n c : Nat) (hm : IsRR EU8 w' 0 a n c [l1,lp,lr,l2]) (hn : n ≤ 1000000) => sum_any a n c _ w' hC' hm.p8 hn (by simp only [List.flatten_cons,List.flatten_nil,List.length_append,List.length_nil]; omega)
 have hfl : [l1, lp, lr, l2].flatten = l1 ++ (lp ++ (lr ++ l2)) := by simp
 simp only [hfl, ← hS, hHA] at HS0
 rw [hHA]
 obtain ⟨n8, hn8⟩ : ∃ n, 8 = n := ⟨_, rfl⟩
 simp only [hn8] at HI10 HI20
 have HI1 : ∀ w, Calls Tryz.prog 61 #[.slice none 0 0, .int .i64 n] w (Fresh w n8 l1) := HI10
 have HI2 : ∀ w, Calls Tryz.prog 61 #[.slice none 0 0, .int .i64 ct] w (Fresh w n8 l2) := HI20
 have HC0 := Lib.hid hc0
 have HC65 := Lib.hid hc65
 have HBp1 := Lib.hid HBp0
 have HBr1 := Lib.hid HBr0
 have HCS := Lib.hid hcs
 clear hHA hl1 hl2 hH hCS hS HH0 q1 q2 q3 q4 hc0 hc65 HBp0 HBr0 hcs hfl hn8 HI10 HI20 hlp hlr
 have B0 : Below w.heap.size w (w.alloc (.cells CS 64)) := (Below.refl _ _).alloc (Nat.le_refl _) _
 have hP0 : Bk (w.alloc (.cells CS 64)) w.heap.size CS 64 := Bk.new w _ _
 go_enter Tryz.func36, Tryz.ntmps36
 go_upto_region 1 with (with_reducible refine wpList_alloc_blk (o := ⟨some 2, _, _, _, _, _⟩) rfl 53 rfl _ zeroHash ?_; intro W q hq b1 q1)
 have hP1 := hP0.past b1
 have B1' := B0.trans (b1.mono B0.size)
 have hq1 : w.heap.size < q := by rw [World.size_alloc] at q1; omega
 obtain ⟨Z0, hZ0⟩ : ∃ z, (bcs (List.replicate 32 0)).toArray = z := ⟨_, rfl⟩
 have HZ0 : Hid (Z0.size = 32) := Lib.hid (by rw [← hZ0]; simp [bcs_length])
 have hQ : Bk W q Z0 53 := by rw [← hZ0]; exact hq.out
 clear hZ0
 obtain ⟨p, hp⟩ : ∃ p, w.heap.size = p := ⟨_, rfl⟩
 have HG := Lib.hid hp
 rw [hp] at hP1 hq1 B1'
 simp only [hp]
 have hP := hP1
 have B1 : Below p w W := B1'
 have hBq : p ≤ q := by omega
 have hpq : some p ≠ some q := fun e => by have := Option.some.inj e; omega
 have hB0 : p ≤ W.heap.size := Nat.le_of_lt hP.lt
 have hqW := hQ.lt
 clear hq b1 q1 hp hP0 hP1 B0 B1'
 have HBp : Hid (∀ w, Bk w p CS 64 → IsB w (some ⟨p, 1, none⟩) 32 32 lp) := Lib.hid fun w h => HBp1.out w p h
 have HBr : Hid (∀ w, Bk w p CS 64 → IsB w (some ⟨p, 33, none⟩) 32 32 lr) := Lib.hid fun w h => HBr1.out w p h
 have HSm := fun (w' : World) (hb : Below p W.drew w') (a : Option Addr) (n c : Nat) (hm : IsRR EU8 w' 0 a n c [l1,lp,lr,l2]) (hn : n ≤ 1000000) => HS0 w' (hC.past (by rw [HG.out]; exact B1.trans ((Below.refl _ _).drew.trans hb))) a n c hm hn
 have hsl := slice_at
 clear HS0 HBp1 HBr1 hC
 simp only [Act.put, setIfInBounds_toArray, set_cons_zero, set_cons_succ]
 refine region_inv (LHash1 p p q n ct CS l1 lp lr l2 n8 Z0 HA) (by kernel_rfl) (by kernel_rfl) ?_ ?_ ?_
 · exact ⟨false,false,false,false,false,false,false,false,false,false,false,false,false,undef,undef,undef,undef,undef,undef,undef,undef,undef,undef,undef,undef,0,0,0,0,0,rfl,(by go_simp),Below.refl _ _,nf2,nf2,nf2,nf2,nf2,nf2,nf2,nf2,nf2,nf2,nf2,nf2,(hP.past (Below.refl _ _).drew),nf2,nf2,nf2,(fun h1 => hQ.past (Below.refl _ _).drew),nf2⟩
 · refine ⟨?_, ?_, ?_, ?_, ?_, ?_, ?_, ?_, ?_, ?_, ?_, ?_, ?_, trivial⟩
   all_goals rintro L a w ⟨b0,b1,b2,b3,b4,b5,b6,b7,b8,b9,b10,b11,b12,x3,x4,x5,x6,x7,x8,x9,x10,x11,x12,x13,x14,g1,c1,g2,c2,gs,rfl,rfl,hb,cd0,cd1,cd2,cd3,cd4,cd5,cd6,cd7,cd8,cd9,cd10,cd11,f_p,f_a,f_b,f_m,f_z,f_s⟩ hf hd
   · have hf' : b0 = false := hf
     subst hf'
     clear hf hd
     have W_p := f_p.out
     intro K hK
     rw [if_pos (by rfl)]
     go_simp
     exact hK.out _ _ ⟨true,b1,b2,b3,b4,b5,b6,b7,b8,b9,b10,b11,b12,(.pointer (some ⟨p,0,none⟩)),x4,x5,x6,x7,x8,x9,x10,x11,x12,x13,x14,g1,c1,g2,c2,gs,(by go_simp),(by go_simp),hb,(fun _ => rfl),cd1,cd2,cd3,cd4,cd5,cd6,cd7,cd8,cd9,cd10,cd11,f_p,f_a,f_b,f_m,f_z,f_s⟩
   · have hf' : b1 = false := hf
     subst hf'
     have d0 : b0 = true := hd ⟨0, .data⟩ (by simp) rfl
     subst d0
     obtain rfl := cd0.out rfl
     clear hf hd
     have W_p := f_p.out
     try simp only [setIfInBounds_toArray, set_cons_zero, set_cons_succ]
     have z0 := W_p.c HC0.out
     intro K hK
     rw [if_pos (by rfl)]
     go_simp
     exact hK.out _ _ ⟨true,true,b2,b3,b4,b5,b6,b7,b8,b9,b10,b11,b12,.pointer (some ⟨p,0,none⟩),(.int .i64 n),x5,x6,x7,x8,x9,x10,x11,x12,x13,x14,g1,c1,g2,c2,gs,(by go_simp),(by go_simp),hb,(fun _ => rfl),(fun _ => rfl),cd2,cd3,cd4,cd5,cd6,cd7,cd8,cd9,cd10,cd11,f_p,f_a,f_b,f_m,f_z,f_s⟩
   · have hf' : b2 = false := hf
     subst hf'
     have d1 : b1 = true := hd ⟨1, .data⟩ (by simp) rfl
     subst d1
     obtain rfl := cd1.out rfl
     clear hf hd
     have W_p := f_p.out
     intro K hK
     rw [if_pos (by rfl)]
     go_simp
     go_at_call 61
     refine (HI1 _).mono ?_
     rintro e w' ⟨g, c, rfl, o9, bx, _⟩
     exact hK.out _ _ ⟨b0,true,true,b3,b4,b5,b6,b7,b8,b9,b10,b11,b12,x3,.int .i64 n,(.slice (some ⟨g,0,none⟩) n8 c),x6,x7,x8,x9,x10,x11,x12,x13,x14,g,c,g2,c2,gs,(by go_simp),(by go_simp),hb.trans (bx.mono (Nat.le_trans hB0 hb.size)),cd0,rf,rf,cd3,cd4,cd5,cd6,cd7,cd8,cd9,cd10,cd11,(f_p.out.past bx),(fun _ _ => o9.isB),(fun h0 h1 => (f_b.out h0 h1).past bx),(fun h0 h1 => (f_m.out h0 h1).past bx),(fun h1 => (f_z.out h1).past bx),(fun h0 => (f_s.out h0).past bx)⟩
   · have hf' : b3 = false := hf
     subst hf'
     clear hf hd
     have W_p := f_p.out
     intro K hK
     rw [if_pos (by rfl)]
     go_simp
     exact hK.out _ _ ⟨b0,b1,b2,true,b4,b5,b6,b7,b8,b9,b10,b11,b12,x3,x4,x5,(.pointer (some ⟨p,1,none⟩)),x7,x8,x9,x10,x11,x12,x13,x14,g1,c1,g2,c2,gs,(by go_simp),(by go_simp),hb,cd0,cd1,cd2,(fun _ => rfl),cd4,cd5,cd6,cd7,cd8,cd9,cd10,cd11,f_p,f_a,f_b,f_m,f_z,f_s⟩
   · have hf' : b4 = false := hf
     subst hf'
     have d3 : b3 = true := hd ⟨3, .data⟩ (by simp) rfl
     subst d3
     obtain rfl := cd3.out rfl
     clear hf hd
     have W_p := f_p.out
     intro K hK
     rw [if_pos (by rfl)]
     go_simp
     exact hK.out _ _ ⟨b0,b1,b2,true,true,b5,b6,b7,b8,b9,b10,b11,b12,x3,x4,x5,.pointer (some ⟨p,1,none⟩),(.slice (some ⟨p,1,none⟩) 32 32),x8,x9,x10,x11,x12,x13,x14,g1,c1,g2,c2,gs,(by go_simp),(by go_simp),hb,cd0,cd1,cd2,rf,rf,cd5,cd6,cd7,cd8,cd9,cd10,cd11,f_p,f_a,f_b,f_m,f_z,f_s⟩
   · have hf' : b5 = false := hf
     subst hf'
     clear hf hd
     have W_p := f_p.out
     intro K hK
     rw [if_pos (by rfl)]
     go_simp
     exact hK.out _ _ ⟨b0,b1,b2,b3,b4,true,b6,b7,b8,b9,b10,b11,b12,x3,x4,x5,x6,x7,(.pointer (some ⟨p,33,none⟩)),x9,x10,x11,x12,x13,x14,g1,c1,g2,c2,gs,(by go_simp),(by go_simp),hb,cd0,cd1,cd2,cd3,cd4,(fun _ => rfl),cd6,cd7,cd8,cd9,cd10,cd11,f_p,f_a,f_b,f_m,f_z,f_s⟩
   · have hf' : b6 = false := hf
     subst hf'
     have d5 : b5 = true := hd ⟨5, .data⟩ (by simp) rfl
     subst d5
     obtain rfl := cd5.out rfl
     clear hf hd
     have W_p := f_p.out
     intro K hK
     rw [if_pos (by rfl)]
     go_simp
     exact hK.out _ _ ⟨b0,b1,b2,b3,b4,true,true,b7,b8,b9,b10,b11,b12,x3,x4,x5,x6,x7,.pointer (some ⟨p,33,none⟩),(.slice (some ⟨p,33,none⟩) 32 32),x10,x11,x12,x13,x14,g1,c1,g2,c2,gs,(by go_simp),(by go_simp),hb,cd0,cd1,cd2,cd3,cd4,rf,rf,cd7,cd8,cd9,cd10,cd11,f_p,f_a,f_b,f_m,f_z,f_s⟩
   · have hf' : b7 = false := hf
     subst hf'
     clear hf hd
     have W_p := f_p.out
     intro K hK
     rw [if_pos (by rfl)]
     go_simp
     exact hK.out _ _ ⟨b0,b1,b2,b3,b4,b5,b6,true,b8,b9,b10,b11,b12,x3,x4,x5,x6,x7,x8,x9,(.pointer (some ⟨p,65,none⟩)),x11,x12,x13,x14,g1,c1,g2,c2,gs,(by go_simp),(by go_simp),hb,cd0,cd1,cd2,cd3,cd4,cd5,cd6,(fun _ => rfl),cd8,cd9,cd10,cd11,f_p,f_a,f_b,f_m,f_z,f_s⟩
   · have hf' : b8 = false := hf
     subst hf'
     have d7 : b7 = true := hd ⟨7, .data⟩ (by simp) rfl
     subst d7
     obtain rfl := cd7.out rfl
     clear hf hd
     have W_p := f_p.out
     try simp only [setIfInBounds_toArray, set_cons_zero, set_cons_succ]
     have z0 := W_p.c HC65.out
     intro K hK
     rw [if_pos (by rfl)]
     go_simp
     exact hK.out _ _ ⟨b0,b1,b2,b3,b4,b5,b6,true,true,b9,b10,b11,b12,x3,x4,x5,x6,x7,x8,x9,.pointer (some ⟨p,65,none⟩),(.int .i64 ct),x12,x13,x14,g1,c1,g2,c2,gs,(by go_simp),(by go_simp),hb,cd0,cd1,cd2,cd3,cd4,cd5,cd6,(fun _ => rfl),(fun _ => rfl),cd9,cd10,cd11,f_p,f_a,f_b,f_m,f_z,f_s⟩
   · have hf' : b9 = false := hf
     subst hf'
     have d8 : b8 = true := hd ⟨8, .data⟩ (by simp) rfl
     subst d8
     have d2 : b2 = true := hd ⟨2, .chain⟩ (by simp) rfl
     subst d2
     obtain rfl := cd8.out rfl
     obtain rfl := cd2.out rfl
     clear hf hd
     have W_p := f_p.out
     intro K hK
     rw [if_pos (by rfl)]
     go_simp
     go_at_call 61
     refine (HI2 _).mono ?_
     rintro e w' ⟨g, c, rfl, o9, bx, _⟩
     exact hK.out _ _ ⟨b0,b1,true,b3,b4,b5,b6,b7,true,true,b10,b11,b12,x3,x4,.slice (some ⟨g1,0,none⟩) n8 c1,x6,x7,x8,x9,x10,.int .i64 ct,(.slice (some ⟨g,0,none⟩) n8 c),x13,x14,g1,c1,g,c,gs,(by go_simp),(by go_simp),hb.trans (bx.mono (Nat.le_trans hB0 hb.size)),cd0,cd1,rf,cd3,cd4,cd5,cd6,cd7,rf,rf,cd10,cd11,(f_p.out.past bx),(fun h0 h1 => (f_a.out h0 h1).past bx),(fun _ _ => o9.isB),(fun h0 h1 => (f_m.out h0 h1).past bx),(fun h1 => (f_z.out h1).past bx),(fun h0 => (f_s.out h0).past bx)⟩
   · have hf' : b10 = false := hf
     subst hf'
     have d2 : b2 = true := hd ⟨2, .data⟩ (by simp) rfl
     subst d2
     have d4 : b4 = true := hd ⟨4, .data⟩ (by simp) rfl
     subst d4
     have d6 : b6 = true := hd ⟨6, .data⟩ (by simp) rfl
     subst d6
     have d9 : b9 = true := hd ⟨9, .data⟩ (by simp) rfl
     subst d9
     obtain rfl := cd2.out rfl
     obtain rfl := cd4.out rfl
     obtain rfl := cd6.out rfl
     obtain rfl := cd9.out rfl
     clear hf hd
     have W_p := f_p.out
     have W_a := f_a.out rfl rfl
     have W_b := f_b.out rfl rfl
     intro K hK
     rw [if_pos (by rfl)]
     go_simp
     have bx : Below w.heap.size w (w.alloc (.cells #[.slice (some ⟨g1,0,none⟩) n8 c1,.slice (some ⟨p,1,none⟩) 32 32,.slice (some ⟨p,33,none⟩) 32 32,.slice (some ⟨g2,0,none⟩) n8 c2] 81)) := (Below.refl _ _).alloc (Nat.le_refl _) _
     exact hK.out _ _ ⟨b0,b1,true,b3,true,b5,true,b7,b8,true,true,b11,b12,x3,x4,.slice (some ⟨g1,0,none⟩) n8 c1,x6,.slice (some ⟨p,1,none⟩) 32 32,x8,.slice (some ⟨p,33,none⟩) 32 32,x10,x11,.slice (some ⟨g2,0,none⟩) n8 c2,(.slice (some ⟨(w.heap.size),0,none⟩) 4 4),x14,g1,c1,g2,c2,w.heap.size,(by go_simp),(by go_simp),hb.trans (bx.mono (Nat.le_trans hB0 hb.size)),cd0,cd1,rf,cd3,rf,cd5,rf,cd7,cd8,rf,rf,cd11,(f_p.out.past bx),(fun _ h => by cases h),(fun _ h => by cases h),(fun _ _ => parts4 w _ ⟨_,_,_⟩ ⟨_,_,_⟩ ⟨_,_,_⟩ ⟨_,_,_⟩ _ _ _ _ W_a.u8 (HBp.out _ W_p).u8 (HBr.out _ W_p).u8 W_b.u8),(fun h1 => (f_z.out h1).past bx),(fun h0 => (f_s.out h0).past bx)⟩
   · have hf' : b11 = false := hf
     subst hf'
     have d10 : b10 = true := hd ⟨10, .data⟩ (by simp) rfl
     subst d10
     have d9 : b9 = true := hd ⟨9, .chain⟩ (by simp) rfl
     subst d9
     obtain rfl := cd10.out rfl
     obtain rfl := cd9.out rfl
     clear hf hd
     have W_p := f_p.out
     have W_m := f_m.out rfl rfl
     intro K hK
     rw [if_pos (by rfl)]
     go_simp
     go_at_call 70
     refine (HSm _ hb _ _ _ W_m (by omega)).mono ?_
     rintro e w' ⟨rfl, bx⟩
     exact hK.out _ _ ⟨b0,b1,b2,b3,b4,b5,b6,b7,b8,true,true,true,b12,x3,x4,x5,x6,x7,x8,x9,x10,x11,.slice (some ⟨g2,0,none⟩) n8 c2,.slice (some ⟨gs,0,none⟩) 4 4,(.agg HA),g1,c1,g2,c2,gs,(by go_simp),(by go_simp),hb.trans (bx.mono (Nat.le_trans hB0 hb.size)),cd0,cd1,cd2,cd3,cd4,cd5,cd6,cd7,cd8,rf,rf,rf,(f_p.out.past bx),(fun _ h => by cases h),(fun _ h => by cases h),(fun _ h => by cases h),(fun h1 => (f_z.out h1).past bx),(fun h0 => (f_s.out h0).past bx)⟩
   · have hf' : b12 = false := hf
     subst hf'
     have d11 : b11 = true := hd ⟨11, .data⟩ (by simp) rfl
     subst d11
     have d0 : b0 = true := hd ⟨0, .phase⟩ (by simp) rfl
     subst d0
     have d1 : b1 = true := hd ⟨1, .phase⟩ (by simp) rfl
     subst d1
     have d2 : b2 = true := hd ⟨2, .phase⟩ (by simp) rfl
     subst d2
     have d3 : b3 = true := hd ⟨3, .phase⟩ (by simp) rfl
     subst d3
     have d4 : b4 = true := hd ⟨4, .phase⟩ (by simp) rfl
     subst d4
     have d5 : b5 = true := hd ⟨5, .phase⟩ (by simp) rfl
     subst d5
     have d6 : b6 = true := hd ⟨6, .phase⟩ (by simp) rfl
     subst d6
     have d7 : b7 = true := hd ⟨7, .phase⟩ (by simp) rfl
     subst d7
     have d8 : b8 = true := hd ⟨8, .phase⟩ (by simp) rfl
     subst d8
     have d9 : b9 = true := hd ⟨9, .phase⟩ (by simp) rfl
     subst d9
     have d10 : b10 = true := hd ⟨10, .phase⟩ (by simp) rfl
     subst d10
     obtain rfl := cd11.out rfl
     obtain rfl := cd0.out rfl
     obtain rfl := cd1.out rfl
     obtain rfl := cd2.out rfl
     obtain rfl := cd3.out rfl
     obtain rfl := cd4.out rfl
     obtain rfl := cd5.out rfl
     obtain rfl := cd6.out rfl
     obtain rfl := cd7.out rfl
     obtain rfl := cd8.out rfl
     obtain rfl := cd9.out rfl
     obtain rfl := cd10.out rfl
     clear hf hd
     have W_p := f_p.out
     have W_z := f_z.out rfl
     try simp only [setIfInBounds_toArray, set_cons_zero, set_cons_succ]
     have ZZ : Hid (w.heap[q]? = some (.cells Z0 53 (0, 0))) := Lib.hid W_z
     intro K hK
     rw [if_pos (by rfl)]
     refine wp_store_blkT 53 _ _ rfl q Z0 HA rfl rfl 53 ZZ 32 sizeHash HZ0.out HA0.out HA1.out fun w2 h8 b8 => ?_
     have hb2 := hb.grown b8 (Nat.le_trans hB0 hb.size) (fun z hz => by cases hz; exact hBq)
     exact hK.out _ _ ⟨true,true,true,true,true,true,true,true,true,true,true,true,true,.pointer (some ⟨p,0,none⟩),.int .i64 n,.slice (some ⟨g1,0,none⟩) n8 c1,.pointer (some ⟨p,1,none⟩),.slice (some ⟨p,1,none⟩) 32 32,.pointer (some ⟨p,33,none⟩),.slice (some ⟨p,33,none⟩) 32 32,.pointer (some ⟨p,65,none⟩),.int .i64 ct,.slice (some ⟨g2,0,none⟩) n8 c2,.slice (some ⟨gs,0,none⟩) 4 4,.agg HA,g1,c1,g2,c2,gs,(by go_simp),(by go_simp),hb2,rf,rf,rf,rf,rf,rf,rf,rf,rf,rf,rf,rf,(Bk.grown f_p.out b8 hpq),(fun _ h => by cases h),(fun _ h => by cases h),(fun _ h => by cases h),nf2,(fun _ => h8.out)⟩
 · rintro act V ⟨b0,b1,b2,b3,b4,b5,b6,b7,b8,b9,b10,b11,b12,x3,x4,x5,x6,x7,x8,x9,x10,x11,x12,x13,x14,g1,c1,g2,c2,gs,hL,rfl,hb,cd0,cd1,cd2,cd3,cd4,cd5,cd6,cd7,cd8,cd9,cd10,cd11,f_p,f_a,f_b,f_m,f_z,f_s⟩
   have hL' : [true, true, true, true, true, true, true, true, true, true, true, true, true] = [b0, b1, b2, b3, b4, b5, b6, b7, b8, b9, b10, b11, b12] := congrArg Array.toList hL
   simp only [List.cons.injEq, and_true] at hL'
   obtain ⟨rfl, rfl, rfl, rfl, rfl, rfl, rfl, rfl, rfl, rfl, rfl, rfl, rfl⟩ := hL'
   obtain rfl := cd0.out rfl
   obtain rfl := cd1.out rfl
   obtain rfl := cd2.out rfl
   obtain rfl := cd3.out rfl
   obtain rfl := cd4.out rfl
   obtain rfl := cd5.out rfl
   obtain rfl := cd6.out rfl
   obtain rfl := cd7.out rfl
   obtain rfl := cd8.out rfl
   obtain rfl := cd9.out rfl
   obtain rfl := cd10.out rfl
   obtain rfl := cd11.out rfl
   have W_p := f_p.out
   have W_s := f_s.out rfl
   clear hL f_p f_a f_b f_m f_z f_s cd0 cd1 cd2 cd3 cd4 cd5 cd6 cd7 cd8 cd9 cd10 cd11
   simp only [setIfInBounds_toArray, set_cons_zero, set_cons_succ]
   have BV : Below p w V := B1.trans ((Below.refl _ _).drew.trans hb)
   clear hb
   go_wp2_with fail
   refine bodyPost_ret (v := .agg HA) (results_cell_row rfl _ _ q _ _ (0, 0) _ rfl W_s Tryz.underlying53 rfl (by rw [sizeHash, HA0.out])) rfl ?_
   exact ⟨rfl, by rw [HG.out]; exact BV⟩
inductive LEntry2 (B : Nat) (p : Nat) (q : Nat) (gR : Nat) (id : Int) (ca : Option Addr) (cn : Nat) (cc : Nat) (RA : Array Value) (l1 : List UInt8) (l2 : List UInt8) (lr : List UInt8) (n8 : Nat) (Z0 : Array Value) (HA : Array Value) (a0 : Act) (w0 : World) (L : Array Bool) (a : Act) (w : World) : Prop
 | mk (b0 b1 b2 b3 b4 b5 b6 b7 b8 b9 b10 : Bool) (x6 x7 x8 x9 x10 x11 x12 x13 x14 x15 : Value) (g1 : Nat) (c1 : Nat) (g2 : Nat) (c2 : Nat) (gs : Nat) (hL : L = #[b0,b1,b2,b3,b4,b5,b6,b7,b8,b9,b10]) (ha : a = ⟨((((((((((a0.tmps.setIfInBounds 6 x6).setIfInBounds 7 x7).setIfInBounds 8 x8).setIfInBounds 9 x9).setIfInBounds 10 x10).setIfInBounds 11 x11).setIfInBounds 12 x12).setIfInBounds 13 x13).setIfInBounds 14 x14).setIfInBounds 15 x15),a0.defers⟩) (hb : Below B w0 w) (cd0 : Hid (b0 = true → x6 = .pointer (some ⟨p,0,none⟩))) (cd1 : Hid (b1 = true → x7 = .int .i64 id)) (cd2 : Hid (b2 = true → x8 = .slice (some ⟨g1,0,none⟩) n8 c1)) (cd3 : Hid (b3 = true → x9 = .pointer (some ⟨p,1,none⟩))) (cd4 : Hid (b4 = true → x10 = .slice ca cn cc)) (cd5 : Hid (b5 = true → x11 = .int .i64 (cn : Nat))) (cd6 : Hid (b6 = true → x12 = .slice (some ⟨g2,0,none⟩) n8 c2)) (cd7 : Hid (b7 = true → x13 = .slice (some ⟨gR,0,none⟩) 32 32)) (cd8 : Hid (b8 = true → x14 = .slice (some ⟨gs,0,none⟩) 3 3)) (cd9 : Hid (b9 = true → x15 = .agg HA)) (f_p : Hid (Bk w p #[.int .i64 id,.slice ca cn cc] 45)) (f_r : Hid (Bk w gR RA 53)) (f_a : Hid (b2 = true → b8 = false → IsB w (some ⟨g1,0,none⟩) n8 c1 l1)) (f_b : Hid (b6 = true → b8 = false → IsB w (some ⟨g2,0,none⟩) n8 c2 l2)) (f_m : Hid (b8 = true → b9 = false → IsRR EU8 w 0 (some ⟨gs,0,none⟩) 3 3 [l1,l2,lr])) (f_z : Hid (b10 = false → Bk w q Z0 53)) (f_s : Hid (b10 = true → Bk w q HA 53)) : LEntry2 B p q gR id ca cn cc RA l1 l2 lr n8 Z0 HA a0 w0 L a w
theorem hash_at {w : World} {g : Nat} {l : List UInt8} {t : TypeId} (h : Bk w g (bcs l).toArray t) (hl : l.length = 32) : IsB w (some ⟨g, 0, none⟩) 32 32 l :=
 ⟨hl, Nat.le_refl _, by unfold maxLen; omega, (fun h => by cases h), fun a ha j u hu => by
  obtain rfl := Option.some.inj ha
  rw [Addr.add_lit, Nat.zero_add]
  refine h.c ?_
  rw [List.getElem?_toArray]
  simp only [bcs, List.getElem?_map, hu]
  rfl⟩
set_option maxRecDepth 100000 in
set_option maxHeartbeats 1600000 in
theorem entry_any (w : World) (hC : RC w) (Q : Nat → Prop) (id : Int) (cs : List Chg) (ca : Option Addr) (cn cc : Nat) (h : IsD DC w Q ca cn cc cs) (hok : TxOk (id, cs)) :
 Calls Tryz.prog 34 #[.agg #[.int .i64 id, .slice ca cn cc]] w fun e w' => e = .returned (.agg (bcs (entS (id, cs))).toArray) ∧ Below w.heap.size w w' := by
 have hln := h.len
 have hcn : cn ≤ 100 := by have := hok.1; simp only at this; omega
 have HI10 := fun w => int_nil id w
 have HI20 := fun w => int_nil (cn : Nat) w
 have hS : entS (id, cs) = leafS (le 8 (XU id) ++ (le 8 (XU (cn : Nat)) ++ rootX (id, cs))) := by rw [← hln]; rfl
 have HH0 := entS_len (id, cs)
 have q1 : (le 8 (XU id)).length = 8 := le_length _ _
 have q2 : (le 8 (XU (cn : Nat))).length = 8 := le_length _ _
 have q3 := rootX_len (id, cs)
 have HRx0 := fun (w' : World) (b : Below w.heap.size w w') => rootx_any w' (hC.past b) Q id cs ca cn cc (h.past b) hok
 obtain ⟨l1, hl1⟩ : ∃ x, le 8 (XU id) = x := ⟨_, rfl⟩
 obtain ⟨l2, hl2⟩ : ∃ x, le 8 (XU (cn : Nat)) = x := ⟨_, rfl⟩
 obtain ⟨lr, hlr⟩ : ∃ x, rootX (id, cs) = x := ⟨_, rfl⟩
 obtain ⟨H, hH⟩ : ∃ x, entS (id, cs) = x := ⟨_, rfl⟩
 rw [hl1] at q1
 rw [hl2] at q2
 rw [hlr] at q3
 rw [hH, hl1, hl2, hlr] at hS
 rw [hH] at HH0 ⊢
 simp only [hl1] at HI10
 simp only [hl2] at HI20
 simp only [hlr] at HRx0
 obtain ⟨HA, hHA⟩ : ∃ z, (bcs H).toArray = z := ⟨_, rfl⟩
 have HA0 : Hid (HA.size = 32) := Lib.hid (by rw [← hHA]; simp [bcs_length, HH0])
 have HA1 : Hid (HA.all (·.oneCell') = true) := Lib.hid (by rw [← hHA]; exact bcs_all _)
 obtain ⟨RA, hRA⟩ : ∃ z, (bcs lr).toArray = z := ⟨_, rfl⟩
 have RA0 : Hid (RA.size = 32) := Lib.hid (by rw [← hRA]; simp [bcs_length, q3])
 have RA1 : Hid (RA.all (·.oneCell') = true) := Lib.hid (by rw [← hRA]; exact bcs_all _)
 have HBr1 : Hid (∀ w g, Bk w g RA 53 → IsB w (some ⟨g, 0, none⟩) 32 32 lr) := Lib.hid fun w g hb => by rw [← hRA] at hb; exact hash_at hb q3
 have HS0 := fun (w' : World) (hC' : RC w') (a : Option Addr) (n c : Nat) (hm : IsRR EU8 w' 0 a n c [l1,l2,lr]) (hn : n ≤ 1000) => lleaf_any w' hC' a n c _ hm hn (by simp only [List.flatten_cons,List.flatten_nil,List.length_append,List.length_nil]; omega) (l1 ++ (l2 ++ lr)) (by simp)
 simp only [← hS, hHA] at HS0
 simp only [hRA] at HRx0
 rw [hHA]
 obtain ⟨n8, hn8⟩ : ∃ n, 8 = n := ⟨_, rfl⟩
 simp only [hn8] at HI10 HI20
 have HI1 : ∀ w, Calls Tryz.prog 61 #[.slice none 0 0, .int .i64 id] w (Fresh w n8 l1) := HI10
 have HI2 : ∀ w, Calls Tryz.prog 61 #[.slice none 0 0, .int .i64 (cn : Nat)] w (Fresh w n8 l2) := HI20
 clear hHA hl1 hl2 hlr hH hS HH0 q1 q2 q3 hn8 HI10 HI20 hRA hln h
 have B0 : Below w.heap.size w (w.alloc (.cells #[.int .i64 id, .slice ca cn cc] 45)) := (Below.refl _ _).alloc (Nat.le_refl _) _
 have hP0 : Bk (w.alloc (.cells #[.int .i64 id, .slice ca cn cc] 45)) w.heap.size #[.int .i64 id, .slice ca cn cc] 45 := Bk.new w _ _
 go_enter Tryz.func34, Tryz.ntmps34
 go_upto_region 1 with (with_reducible refine wpList_alloc_blk (o := ⟨some 2, _, _, _, _, _⟩) rfl 53 rfl _ zeroHash ?_; intro W q hq b1 q1)
 have hP1 := hP0.past b1
 have B1' := B0.trans (b1.mono B0.size)
 have hq1 : w.heap.size < q := by rw [World.size_alloc] at q1; omega
 obtain ⟨Z0, hZ0⟩ : ∃ z, (bcs (List.replicate 32 0)).toArray = z := ⟨_, rfl⟩
 have HZ0 : Hid (Z0.size = 32) := Lib.hid (by rw [← hZ0]; simp [bcs_length])
 have hQ : Bk W q Z0 53 := by rw [← hZ0]; exact hq.out
 clear hZ0
 obtain ⟨p, hp⟩ : ∃ p, w.heap.size = p := ⟨_, rfl⟩
 have HG := Lib.hid hp
 rw [hp] at hP1 hq1 B1'
 simp only [hp]
 have hP := hP1
 have B1 : Below p w W := B1'
 have hBq : p ≤ q := by omega
 have hpq : some p ≠ some q := fun e => by have := Option.some.inj e; omega
 have hB0 : p ≤ W.heap.size := Nat.le_of_lt hP.lt
 have hqW := hQ.lt
 clear hq b1 q1 hp hP0 hP1 B0 B1'
 have HRx : Calls Tryz.prog 32 #[.agg #[.int .i64 id, .slice ca cn cc]] W fun e w' => e = .returned (.agg RA) ∧ Below W.heap.size W w' := HRx0 W (by rw [HG.out]; exact B1)
 obtain ⟨c0, c1⟩ : W.cell? ⟨p, 0, none⟩ = some (.int .i64 id) ∧ W.cell? ⟨p, 1, none⟩ = some (.slice ca cn cc) := ⟨hP.c rfl, hP.c rfl⟩
 simp only [Act.put, setIfInBounds_toArray, set_cons_zero, set_cons_succ]
 go_upto_region 2 with (first
  | (go_at_call 32; refine HRx.mono ?_; rintro e w1 ⟨rfl, b1⟩)
  | (with_reducible refine wpList_alloc_blk (o := ⟨some 3,_,_,_,_,_⟩) rfl 53 rfl _ zeroHash ?_; intro w2 gR h2 b2 q2; have hz2 : Hid (w2.heap[gR]? = some (.cells (bcs (List.replicate 32 0)).toArray 53 (0,0))) := h2)
  | ((with_reducible refine wpList_store_blk rfl 53 _ _ rfl gR _ RA ?_ ?_ _ hz2 32 sizeHash (by simp [bcs_length]) RA0.out RA1.out ?_); (rfl); (rfl); (intro w3 h3 g3)))
 have b12 := b1.trans (b2.mono b1.size)
 have hgR : W.heap.size ≤ gR := Nat.le_trans b1.size q2
 have hP2 := (hP.past b12).grown g3 (fun e => by have := Option.some.inj e; have := hP.lt; omega)
 have hQ2 := (hQ.past b12).grown g3 (fun e => by have := Option.some.inj e; omega)
 have hR2 : Bk w3 gR RA 53 := h3.out
 have B2 : Below p w w3 := (B1.trans (b12.mono hB0)).grown g3 (Nat.le_trans hB0 b12.size) (fun z hz => by cases hz; omega)
 have hrq : some gR ≠ some q := fun e => by have := Option.some.inj e; omega
 have hB03 : p ≤ w3.heap.size := Nat.le_of_lt hP2.lt
 have HLf := fun (w' : World) (hb : Below p w3.drew w') (a : Option Addr) (n c : Nat) (hm : IsRR EU8 w' 0 a n c [l1,l2,lr]) (hn : n ≤ 1000) => HS0 w' (hC.past (by rw [HG.out]; exact B2.trans ((Below.refl _ _).drew.trans hb))) a n c hm hn
 have HBr : Hid (∀ w, Bk w gR RA 53 → IsB w (some ⟨gR, 0, none⟩) 32 32 lr) := Lib.hid fun w hb => HBr1.out w gR hb
 have hsl := slice_at
 clear hB0
 have hB0 := hB03
 clear HS0 HRx0 HRx HBr1 hC h2 hz2 h3 g3 b1 b2 b12 c0 c1 hP hQ B1 q2 hB03 hgR
 simp only [Act.put, setIfInBounds_toArray, set_cons_zero, set_cons_succ]
 refine region_inv (LEntry2 p p q gR id ca cn cc RA l1 l2 lr n8 Z0 HA) (by kernel_rfl) (by kernel_rfl) ?_ ?_ ?_
 · exact ⟨false,false,false,false,false,false,false,false,false,false,false,undef,undef,undef,undef,undef,undef,undef,undef,undef,undef,0,0,0,0,0,rfl,(by go_simp),Below.refl _ _,nf2,nf2,nf2,nf2,nf2,nf2,nf2,nf2,nf2,nf2,(hP2.past (Below.refl _ _).drew),(hR2.past (Below.refl _ _).drew),nf2,nf2,nf2,(fun h1 => hQ2.past (Below.refl _ _).drew),nf2⟩
 · refine ⟨?_, ?_, ?_, ?_, ?_, ?_, ?_, ?_, ?_, ?_, ?_, trivial⟩
   all_goals rintro L a w ⟨b0,b1,b2,b3,b4,b5,b6,b7,b8,b9,b10,x6,x7,x8,x9,x10,x11,x12,x13,x14,x15,g1,c1,g2,c2,gs,rfl,rfl,hb,cd0,cd1,cd2,cd3,cd4,cd5,cd6,cd7,cd8,cd9,f_p,f_r,f_a,f_b,f_m,f_z,f_s⟩ hf hd
   · have hf' : b0 = false := hf
     subst hf'
     clear hf hd
     have W_p := f_p.out
     have W_r := f_r.out
     intro K hK
     rw [if_pos (by rfl)]
     go_simp
     exact hK.out _ _ ⟨true,b1,b2,b3,b4,b5,b6,b7,b8,b9,b10,(.pointer (some ⟨p,0,none⟩)),x7,x8,x9,x10,x11,x12,x13,x14,x15,g1,c1,g2,c2,gs,(by go_simp),(by go_simp),hb,(fun _ => rfl),cd1,cd2,cd3,cd4,cd5,cd6,cd7,cd8,cd9,f_p,f_r,f_a,f_b,f_m,f_z,f_s⟩
   · have hf' : b1 = false := hf
     subst hf'
     have d0 : b0 = true := hd ⟨0, .data⟩ (by simp) rfl
     subst d0
     obtain rfl := cd0.out rfl
     clear hf hd
     have W_p := f_p.out
     have W_r := f_r.out
     try simp only [setIfInBounds_toArray, set_cons_zero, set_cons_succ]
     have z0 : w.cell? ⟨p, 0, none⟩ = some (.int .i64 id) := W_p.c rfl
     intro K hK
     rw [if_pos (by rfl)]
     go_simp
     exact hK.out _ _ ⟨true,true,b2,b3,b4,b5,b6,b7,b8,b9,b10,.pointer (some ⟨p,0,none⟩),(.int .i64 id),x8,x9,x10,x11,x12,x13,x14,x15,g1,c1,g2,c2,gs,(by go_simp),(by go_simp),hb,(fun _ => rfl),(fun _ => rfl),cd2,cd3,cd4,cd5,cd6,cd7,cd8,cd9,f_p,f_r,f_a,f_b,f_m,f_z,f_s⟩
   · have hf' : b2 = false := hf
     subst hf'
     have d1 : b1 = true := hd ⟨1, .data⟩ (by simp) rfl
     subst d1
     obtain rfl := cd1.out rfl
     clear hf hd
     have W_p := f_p.out
     have W_r := f_r.out
     intro K hK
     rw [if_pos (by rfl)]
     go_simp
     go_at_call 61
     refine (HI1 _).mono ?_
     rintro e w' ⟨g, c, rfl, o9, bx, _⟩
     exact hK.out _ _ ⟨b0,true,true,b3,b4,b5,b6,b7,b8,b9,b10,x6,.int .i64 id,(.slice (some ⟨g,0,none⟩) n8 c),x9,x10,x11,x12,x13,x14,x15,g,c,g2,c2,gs,(by go_simp),(by go_simp),hb.trans (bx.mono (Nat.le_trans hB0 hb.size)),cd0,rf,rf,cd3,cd4,cd5,cd6,cd7,cd8,cd9,(f_p.out.past bx),(f_r.out.past bx),(fun _ _ => o9.isB),(fun h0 h1 => (f_b.out h0 h1).past bx),(fun h0 h1 => (f_m.out h0 h1).past bx),(fun h1 => (f_z.out h1).past bx),(fun h0 => (f_s.out h0).past bx)⟩
   · have hf' : b3 = false := hf
     subst hf'
     clear hf hd
     have W_p := f_p.out
     have W_r := f_r.out
     intro K hK
     rw [if_pos (by rfl)]
     go_simp
     exact hK.out _ _ ⟨b0,b1,b2,true,b4,b5,b6,b7,b8,b9,b10,x6,x7,x8,(.pointer (some ⟨p,1,none⟩)),x10,x11,x12,x13,x14,x15,g1,c1,g2,c2,gs,(by go_simp),(by go_simp),hb,cd0,cd1,cd2,(fun _ => rfl),cd4,cd5,cd6,cd7,cd8,cd9,f_p,f_r,f_a,f_b,f_m,f_z,f_s⟩
   · have hf' : b4 = false := hf
     subst hf'
     have d3 : b3 = true := hd ⟨3, .data⟩ (by simp) rfl
     subst d3
     obtain rfl := cd3.out rfl
     clear hf hd
     have W_p := f_p.out
     have W_r := f_r.out
     try simp only [setIfInBounds_toArray, set_cons_zero, set_cons_succ]
     have z1 : w.cell? ⟨p, 1, none⟩ = some (.slice ca cn cc) := W_p.c rfl
     intro K hK
     rw [if_pos (by rfl)]
     go_simp
     exact hK.out _ _ ⟨b0,b1,b2,true,true,b5,b6,b7,b8,b9,b10,x6,x7,x8,.pointer (some ⟨p,1,none⟩),(.slice ca cn cc),x11,x12,x13,x14,x15,g1,c1,g2,c2,gs,(by go_simp),(by go_simp),hb,cd0,cd1,cd2,(fun _ => rfl),(fun _ => rfl),cd5,cd6,cd7,cd8,cd9,f_p,f_r,f_a,f_b,f_m,f_z,f_s⟩
   · have hf' : b5 = false := hf
     subst hf'
     have d4 : b4 = true := hd ⟨4, .data⟩ (by simp) rfl
     subst d4
     obtain rfl := cd4.out rfl
     clear hf hd
     have W_p := f_p.out
     have W_r := f_r.out
     intro K hK
     rw [if_pos (by rfl)]
     go_simp
     exact hK.out _ _ ⟨b0,b1,b2,b3,true,true,b6,b7,b8,b9,b10,x6,x7,x8,x9,.slice ca cn cc,(.int .i64 (cn : Nat)),x12,x13,x14,x15,g1,c1,g2,c2,gs,(by go_simp),(by go_simp),hb,cd0,cd1,cd2,cd3,(fun _ => rfl),(fun _ => rfl),cd6,cd7,cd8,cd9,f_p,f_r,f_a,f_b,f_m,f_z,f_s⟩
   · have hf' : b6 = false := hf
     subst hf'
     have d5 : b5 = true := hd ⟨5, .data⟩ (by simp) rfl
     subst d5
     have d2 : b2 = true := hd ⟨2, .chain⟩ (by simp) rfl
     subst d2
     obtain rfl := cd5.out rfl
     obtain rfl := cd2.out rfl
     clear hf hd
     have W_p := f_p.out
     have W_r := f_r.out
     intro K hK
     rw [if_pos (by rfl)]
     go_simp
     go_at_call 61
     refine (HI2 _).mono ?_
     rintro e w' ⟨g, c, rfl, o9, bx, _⟩
     exact hK.out _ _ ⟨b0,b1,true,b3,b4,true,true,b7,b8,b9,b10,x6,x7,.slice (some ⟨g1,0,none⟩) n8 c1,x9,x10,.int .i64 (cn : Nat),(.slice (some ⟨g,0,none⟩) n8 c),x13,x14,x15,g1,c1,g,c,gs,(by go_simp),(by go_simp),hb.trans (bx.mono (Nat.le_trans hB0 hb.size)),cd0,cd1,rf,cd3,cd4,rf,rf,cd7,cd8,cd9,(f_p.out.past bx),(f_r.out.past bx),(fun h0 h1 => (f_a.out h0 h1).past bx),(fun _ _ => o9.isB),(fun h0 h1 => (f_m.out h0 h1).past bx),(fun h1 => (f_z.out h1).past bx),(fun h0 => (f_s.out h0).past bx)⟩
   · have hf' : b7 = false := hf
     subst hf'
     clear hf hd
     have W_p := f_p.out
     have W_r := f_r.out
     intro K hK
     rw [if_pos (by rfl)]
     go_simp
     exact hK.out _ _ ⟨b0,b1,b2,b3,b4,b5,b6,true,b8,b9,b10,x6,x7,x8,x9,x10,x11,x12,(.slice (some ⟨gR,0,none⟩) 32 32),x14,x15,g1,c1,g2,c2,gs,(by go_simp),(by go_simp),hb,cd0,cd1,cd2,cd3,cd4,cd5,cd6,(fun _ => rfl),cd8,cd9,f_p,f_r,f_a,f_b,f_m,f_z,f_s⟩
   · have hf' : b8 = false := hf
     subst hf'
     have d2 : b2 = true := hd ⟨2, .data⟩ (by simp) rfl
     subst d2
     have d6 : b6 = true := hd ⟨6, .data⟩ (by simp) rfl
     subst d6
     have d7 : b7 = true := hd ⟨7, .data⟩ (by simp) rfl
     subst d7
     obtain rfl := cd2.out rfl
     obtain rfl := cd6.out rfl
     obtain rfl := cd7.out rfl
     clear hf hd
     have W_p := f_p.out
     have W_r := f_r.out
     have W_a := f_a.out rfl rfl
     have W_b := f_b.out rfl rfl
     intro K hK
     rw [if_pos (by rfl)]
     go_simp
     have bx : Below w.heap.size w (w.alloc (.cells #[.slice (some ⟨g1,0,none⟩) n8 c1,.slice (some ⟨g2,0,none⟩) n8 c2,.slice (some ⟨gR,0,none⟩) 32 32] 81)) := (Below.refl _ _).alloc (Nat.le_refl _) _
     exact hK.out _ _ ⟨b0,b1,true,b3,b4,b5,true,true,true,b9,b10,x6,x7,.slice (some ⟨g1,0,none⟩) n8 c1,x9,x10,x11,.slice (some ⟨g2,0,none⟩) n8 c2,.slice (some ⟨gR,0,none⟩) 32 32,(.slice (some ⟨(w.heap.size),0,none⟩) 3 3),x15,g1,c1,g2,c2,w.heap.size,(by go_simp),(by go_simp),hb.trans (bx.mono (Nat.le_trans hB0 hb.size)),cd0,cd1,rf,cd3,cd4,cd5,rf,rf,rf,cd9,(f_p.out.past bx),(f_r.out.past bx),(fun _ h => by cases h),(fun _ h => by cases h),(fun _ _ => parts3 w _ ⟨_,_,_⟩ ⟨_,_,_⟩ ⟨_,_,_⟩ _ _ _ W_a.u8 W_b.u8 (HBr.out _ W_r).u8),(fun h1 => (f_z.out h1).past bx),(fun h0 => (f_s.out h0).past bx)⟩
   · have hf' : b9 = false := hf
     subst hf'
     have d8 : b8 = true := hd ⟨8, .data⟩ (by simp) rfl
     subst d8
     have d6 : b6 = true := hd ⟨6, .chain⟩ (by simp) rfl
     subst d6
     obtain rfl := cd8.out rfl
     obtain rfl := cd6.out rfl
     clear hf hd
     have W_p := f_p.out
     have W_r := f_r.out
     have W_m := f_m.out rfl rfl
     intro K hK
     rw [if_pos (by rfl)]
     go_simp
     go_at_call 60
     refine (HLf _ hb _ _ _ W_m (by omega)).mono ?_
     rintro e w' ⟨rfl, bx⟩
     exact hK.out _ _ ⟨b0,b1,b2,b3,b4,b5,true,b7,true,true,b10,x6,x7,x8,x9,x10,x11,.slice (some ⟨g2,0,none⟩) n8 c2,x13,.slice (some ⟨gs,0,none⟩) 3 3,(.agg HA),g1,c1,g2,c2,gs,(by go_simp),(by go_simp),hb.trans (bx.mono (Nat.le_trans hB0 hb.size)),cd0,cd1,cd2,cd3,cd4,cd5,rf,cd7,rf,rf,(f_p.out.past bx),(f_r.out.past bx),(fun _ h => by cases h),(fun _ h => by cases h),(fun _ h => by cases h),(fun h1 => (f_z.out h1).past bx),(fun h0 => (f_s.out h0).past bx)⟩
   · have hf' : b10 = false := hf
     subst hf'
     have d9 : b9 = true := hd ⟨9, .data⟩ (by simp) rfl
     subst d9
     have d0 : b0 = true := hd ⟨0, .phase⟩ (by simp) rfl
     subst d0
     have d1 : b1 = true := hd ⟨1, .phase⟩ (by simp) rfl
     subst d1
     have d2 : b2 = true := hd ⟨2, .phase⟩ (by simp) rfl
     subst d2
     have d3 : b3 = true := hd ⟨3, .phase⟩ (by simp) rfl
     subst d3
     have d4 : b4 = true := hd ⟨4, .phase⟩ (by simp) rfl
     subst d4
     have d5 : b5 = true := hd ⟨5, .phase⟩ (by simp) rfl
     subst d5
     have d6 : b6 = true := hd ⟨6, .phase⟩ (by simp) rfl
     subst d6
     have d7 : b7 = true := hd ⟨7, .phase⟩ (by simp) rfl
     subst d7
     have d8 : b8 = true := hd ⟨8, .phase⟩ (by simp) rfl
     subst d8
     obtain rfl := cd9.out rfl
     obtain rfl := cd0.out rfl
     obtain rfl := cd1.out rfl
     obtain rfl := cd2.out rfl
     obtain rfl := cd3.out rfl
     obtain rfl := cd4.out rfl
     obtain rfl := cd5.out rfl
     obtain rfl := cd6.out rfl
     obtain rfl := cd7.out rfl
     obtain rfl := cd8.out rfl
     clear hf hd
     have W_p := f_p.out
     have W_r := f_r.out
     have W_z := f_z.out rfl
     try simp only [setIfInBounds_toArray, set_cons_zero, set_cons_succ]
     have ZZ : Hid (w.heap[q]? = some (.cells Z0 53 (0, 0))) := Lib.hid W_z
     intro K hK
     rw [if_pos (by rfl)]
     refine wp_store_blkT 53 _ _ rfl q Z0 HA rfl rfl 53 ZZ 32 sizeHash HZ0.out HA0.out HA1.out fun w2 h8 b8 => ?_
     have hb2 := hb.grown b8 (Nat.le_trans hB0 hb.size) (fun z hz => by cases hz; exact hBq)
     exact hK.out _ _ ⟨true,true,true,true,true,true,true,true,true,true,true,.pointer (some ⟨p,0,none⟩),.int .i64 id,.slice (some ⟨g1,0,none⟩) n8 c1,.pointer (some ⟨p,1,none⟩),.slice ca cn cc,.int .i64 (cn : Nat),.slice (some ⟨g2,0,none⟩) n8 c2,.slice (some ⟨gR,0,none⟩) 32 32,.slice (some ⟨gs,0,none⟩) 3 3,.agg HA,g1,c1,g2,c2,gs,(by go_simp),(by go_simp),hb2,rf,rf,rf,rf,rf,rf,rf,rf,rf,rf,(Bk.grown f_p.out b8 hpq),(Bk.grown f_r.out b8 hrq),(fun _ h => by cases h),(fun _ h => by cases h),(fun _ h => by cases h),nf2,(fun _ => h8.out)⟩
 · rintro act V ⟨b0,b1,b2,b3,b4,b5,b6,b7,b8,b9,b10,x6,x7,x8,x9,x10,x11,x12,x13,x14,x15,g1,c1,g2,c2,gs,hL,rfl,hb,cd0,cd1,cd2,cd3,cd4,cd5,cd6,cd7,cd8,cd9,f_p,f_r,f_a,f_b,f_m,f_z,f_s⟩
   have hL' : [true, true, true, true, true, true, true, true, true, true, true] = [b0, b1, b2, b3, b4, b5, b6, b7, b8, b9, b10] := congrArg Array.toList hL
   simp only [List.cons.injEq, and_true] at hL'
   obtain ⟨rfl, rfl, rfl, rfl, rfl, rfl, rfl, rfl, rfl, rfl, rfl⟩ := hL'
   obtain rfl := cd0.out rfl
   obtain rfl := cd1.out rfl
   obtain rfl := cd2.out rfl
   obtain rfl := cd3.out rfl
   obtain rfl := cd4.out rfl
   obtain rfl := cd5.out rfl
   obtain rfl := cd6.out rfl
   obtain rfl := cd7.out rfl
   obtain rfl := cd8.out rfl
   obtain rfl := cd9.out rfl
   have W_p := f_p.out
   have W_r := f_r.out
   have W_s := f_s.out rfl
   clear hL f_p f_r f_a f_b f_m f_z f_s cd0 cd1 cd2 cd3 cd4 cd5 cd6 cd7 cd8 cd9
   simp only [setIfInBounds_toArray, set_cons_zero, set_cons_succ]
   have BV : Below p w V := B2.trans ((Below.refl _ _).drew.trans hb)
   clear hb
   go_wp2_with fail
   refine bodyPost_ret (v := .agg HA) (results_cell_row rfl _ _ q _ _ (0, 0) _ rfl W_s Tryz.underlying53 rfl (by rw [sizeHash, HA0.out])) rfl ?_
   exact ⟨rfl, by rw [HG.out]; exact BV⟩
theorem results_ct {P : Program} {fn : Func} {p t : Tmp} {ty : TypeId} (h : fn.results = #[.cell p ty,.tmp t]) (tmps : Array Value) (w : World) (g : Nat) (t0 : TypeId) (cs : Array Value) (fr : Nat × Nat) (d : TypeDesc)
 (hp : tmps.getD p undef = .pointer (some ⟨g, 0, none⟩)) (hg : w.heap[g]? = some (.cells cs t0 fr))
 (hu : P.underlying ty = some d) (hd : (match d with | .struct _ | .array _ _ => true | _ => false) = true) (hi : (P.info? ty).map (·.size) = some cs.size) (v : Value) (ht : tmps.getD t undef = v) :
 (results fn tmps).run P w = .ok (.tuple #[.agg cs, v]) w := by
 have hp' : tmps[p]?.getD undef = .pointer (some ⟨g, 0, none⟩) := by simpa using hp
 have ht' : tmps[t]?.getD undef = v := by simpa using ht
 simp [results, h, hp', ht', asAddr, run_loadVar_row w g t0 ty cs fr d hg hu hd hi]
theorem built_dig0 : Tryz.prog.built 55 [] = some (Value.int .i64 0 :: bcs (List.replicate 32 0)).toArray := by kernel_rfl
def dgN (bl : List Blk) : Int := match bl.getLast? with
 | some b => b.n
 | none => 0
def dgC (bl : List Blk) : Array Value := (Value.int .i64 (dgN bl) :: bcs (hLast bl)).toArray
theorem dgC_len (bl : List Blk) : (dgC bl).size = 33 := by simp [dgC, bcs_length, hLast_len]
theorem dgC_one (bl : List Blk) : (dgC bl).all (·.oneCell') = true := by
 refine Array.all_eq_true_iff_forall_mem.2 fun v hv => ?_
 rcases List.mem_cons.1 (by simpa [dgC] using hv) with rfl | hv
 · rfl
 · exact bcs_1cell _ v hv
theorem dig_agg (w : World) : (isAgg 64).run Tryz.prog w = .ok true w := by kernel_rfl
theorem wp_store_blkU {P : Program} {w : World} {ops : Array Oper} {rest : List Oper} {o : Oper} {a : Act} {Q : Exit → Act → World → Prop} (hgd : o.guard = none) (ty : TypeId) (x y : Operand) (ho : o.op = .store ty x y)
 (g : Nat) (old cs : Array Value) (hx : a.eval x = .pointer (some ⟨g,0,none⟩)) (hy : a.eval y = .agg cs) (t : TypeId) (hg : Bk w g old t) (N : Nat) (hi : (P.info? ty).map (·.size) = some N) (hl : old.size = N) (hm : cs.size = N) (h1 : cs.all (·.oneCell') = true)
 (hK : ∀ w', Bk w' g cs t → w.grownBy w' (some g) → wpList P ops Q rest (a.put o.dst undef) w') : wpList P ops Q (o :: rest) a w :=
 wpList_store_blk hgd ty x y ho g old cs hx hy t (Lib.hid hg) N hi hl hm h1 fun w' h => hK w' h.out
theorem blk_in {w : World} {ba : Option Addr} {bn bc : Nat} {bl : List Blk} (h : IsR EBk w ba bn bc bl) {i : Nat} {b : Blk} (hb : bl[i]? = some b) : ∃ g off,ba = some ⟨g,off,none⟩ ∧ g < w.heap.size ∧ ∀ j v,b.cs[j]? = some v → w.cell? ((⟨g,off + i * 66,none⟩ : Addr).add j) = some v := by
 have hl := h.len
 have hi := (List.getElem?_eq_some_iff.1 hb).1
 obtain ⟨g, off, rfl, hg, hc⟩ := h.open (by omega) (by decide)
 refine ⟨g, off, rfl, hg, fun j v hv => ?_⟩
 have hj : j < 66 := by have := (List.getElem?_eq_some_iff.1 hv).1; rw [b.cs_len] at this; exact this
 rw [Addr.add_lit, Nat.add_assoc]
 refine hc _ v ?_
 exact (EBk.all_get bl i j b hb hj).trans hv
inductive LDig4 (B : Nat) (q : Nat) (r : Nat) (bN : Int) (CS : Array Value) (HA : Array Value) (DA : Array Value) (DZ : Array Value) (a0 : Act) (w0 : World) (L : Array Bool) (a : Act) (w : World) : Prop
 | mk (b0 b1 b2 b3 b4 b5 b6 : Bool) (x18 x19 x20 x21 x22 x3 : Value) (hL : L = #[b0,b1,b2,b3,b4,b5,b6]) (ha : a = ⟨((((((a0.tmps.setIfInBounds 18 x18).setIfInBounds 19 x19).setIfInBounds 20 x20).setIfInBounds 21 x21).setIfInBounds 22 x22).setIfInBounds 3 x3),a0.defers⟩) (hb : Below B w0 w) (cd0 : Hid (b0 = true → x18 = .pointer (some ⟨r,0,none⟩))) (cd1 : Hid (b1 = true → x19 = .int .i64 bN)) (cd2 : Hid (b2 = true → x20 = .agg CS)) (cd3 : Hid (b3 = true → x21 = .agg HA)) (cd4 : Hid (b4 = true → x22 = .agg DA)) (cd6 : Hid (b6 = true → x3 = .int .i64 0)) (f_r : Hid (Bk w r CS 64)) (f_z : Hid (b5 = false → Bk w q DZ 55)) (f_s : Hid (b5 = true → Bk w q DA 55)) : LDig4 B q r bN CS HA DA DZ a0 w0 L a w
theorem wp_build_at {P : Program} {o : Oper} {a : Act} {w : World} {K : Act → World → Prop} {Q : Exit → Act → World → Prop} (t : TypeId) (parts : Array (Nat × Operand)) (ho : o.op = .build t parts) (V : Array Value) (hf : P.built t (parts.map fun (i,x) => (i,a.eval x)).toList = some V) (h : K (a.put o.dst (.agg V)) w) : o.wp P a w K Q :=
 wp_build t parts ho (by rw [hf]; rfl) (by rw [hf]; exact h)
set_option maxRecDepth 100000 in
set_option maxHeartbeats 1600000 in
theorem digest_any (w : World) (hC : RC w) (next : Int) (oa : Option Addr) (on oc : Nat) (ba : Option Addr) (bn bc : Nat) (ta : Option Addr) (tn tc : Nat) (bl : List Blk) (h : IsR EBk w ba bn bc bl) (hn : bn ≤ 1000) :
 Calls Tryz.prog 23 #[.agg #[.int .i64 next,.slice oa on oc,.slice ba bn bc,.slice ta tn tc]] w fun e w' => e = .returned (.tuple #[.agg (dgC bl),.int .i64 (if bn = 0 then 2 else 0)]) ∧ Below w.heap.size w w' := by
 have hln := h.len
 have B0 : Below w.heap.size w (w.alloc (.cells #[.int .i64 next, .slice oa on oc, .slice ba bn bc, .slice ta tn tc] 29)) := (Below.refl _ _).alloc (Nat.le_refl _) _
 have hP0 : Bk (w.alloc (.cells #[.int .i64 next,.slice oa on oc,.slice ba bn bc,.slice ta tn tc] 29)) w.heap.size #[.int .i64 next,.slice oa on oc,.slice ba bn bc,.slice ta tn tc] 29 := Bk.new w _ _
 obtain ⟨DA, hDA⟩ : ∃ d, dgC bl = d := ⟨_, rfl⟩
 have HD0 : Hid (DA.size = 33) := Lib.hid (by rw [← hDA]; exact dgC_len bl)
 have HD1 : Hid (DA.all (·.oneCell') = true) := Lib.hid (by rw [← hDA]; exact dgC_one bl)
 have HDD := Lib.hid hDA
 rw [hDA]
 clear hDA
 obtain ⟨EE, hEE⟩ : ∃ e : Int, (if bn = 0 then 2 else 0) = e := ⟨_, rfl⟩
 rw [hEE]
 go_enter Tryz.func23, Tryz.ntmps23
 go_upto_region 1 with (with_reducible refine wpList_alloc_blk (o := ⟨some 2, _, _, _, _, _⟩) rfl 55 rfl _ dig_info ?_; intro W q hq b1 q1)
 have hP1 := hP0.past b1
 have B1' := B0.trans (b1.mono B0.size)
 have hq1 : w.heap.size < q := by rw [World.size_alloc] at q1; omega
 obtain ⟨DZ, hDZ⟩ : ∃ z, (Value.int .i64 0 :: bcs (List.replicate 32 0)).toArray = z := ⟨_, rfl⟩
 have HDZ : Hid (DZ.size = 33) := Lib.hid (by rw [← hDZ]; simp [bcs_length])
 have hQ : Bk W q DZ 55 := by rw [← hDZ]; exact hq.out
 have HBD : Hid (Tryz.prog.built 55 [] = some DZ) := Lib.hid (by rw [← hDZ]; exact built_dig0)
 have h1 := h.past B1'
 have hC1 := hC.past B1'
 obtain ⟨p, hp⟩ : ∃ p, w.heap.size = p := ⟨_, rfl⟩
 have HG := Lib.hid hp
 rw [hp] at hP1 hq1 B1'
 simp only [hp]
 have hP : Bk W p #[.int .i64 next, .slice oa on oc, .slice ba bn bc, .slice ta tn tc] 29 := hP1
 have B1 : Below p w W := B1'
 have hBq : p ≤ q := by omega
 have hB0 : p ≤ W.heap.size := Nat.le_of_lt hP.lt
 have hqW := hQ.lt
 have c2 : W.cell? ⟨p, 2, none⟩ = some (.slice ba bn bc) := hP.c rfl
 have hpW := hP.lt
 have hC0 : Hid (∀ w', Below p w w' → RC w') := Lib.hid fun w' hb => hC.past (by rw [HG.out]; exact hb)
 clear hq b1 q1 hp hP0 hP1 B0 B1' hC h
 try simp only [Act.put, setIfInBounds_toArray, set_cons_zero, set_cons_succ]
 rcases Nat.eq_zero_or_pos bn with h0 | h0
 · subst h0
   obtain rfl : bl = [] := List.eq_nil_of_length_eq_zero hln
   obtain rfl : (2 : Int) = EE := hEE
   have hDD : DZ = DA := by rw [← hDZ]; exact HDD.out
   subst hDD
   clear hDZ
   go_wp2_with ((with_reducible refine wpList_build_at rfl 55 _ rfl DZ ?_ ?_); (simp only [List.map_toArray,List.map_nil]; exact HBD.out); (refine wp_store_blkU rfl 55 _ _ rfl q _ DZ rfl rfl _ hQ 33 dig_size HDZ.out HDZ.out HD1.out ?_); (intro w8 h8 b8))
   refine bodyPost_ret (v := .tuple #[.agg DZ, .int .i64 2]) (results_ct rfl _ _ q _ _ (0, 0) _ rfl h8 Tryz.underlying55 rfl (by rw [dig_size, HDZ.out]) _ rfl) rfl ?_
   exact ⟨rfl, by rw [HG.out]; exact B1.grown b8 hB0 (fun z hz => by cases hz; exact hBq)⟩
 · obtain ⟨m, rfl⟩ : ∃ m, bn = m + 1 := ⟨bn - 1, by omega⟩
   obtain ⟨b, hb⟩ : ∃ b, bl[m]? = some b := ⟨bl[m]'(by omega), List.getElem?_eq_getElem _⟩
   have hlast : bl.getLast? = some b := by rw [List.getLast?_eq_getElem?, hln]; exact hb
   obtain ⟨gb, goff, rfl, hgb, hcl⟩ := blk_in h1 hb
   have hd1 : dgC bl = (Value.int .i64 b.n :: bcs (blkS b)).toArray := by unfold dgC dgN hLast; rw [hlast]
   obtain rfl : (0 : Int) = EE := hEE
   have HHs0 := fun (w' : World) (hC' : RC w') => lhash_any w' hC' b
   have hb0 := built_dig b.n (blkS b) (blkS_len b)
   rw [← hd1, HDD.out] at hb0
   obtain ⟨HA, hHA⟩ : ∃ z, (bcs (blkS b)).toArray = z := ⟨_, rfl⟩
   rw [hHA] at hb0
   simp only [hHA] at HHs0
   have hc0 := blk_cs0 b
   have hcs : b.cs.toArray.size = 66 := by simp [Blk.cs_len]
   have hca : b.cs.toArray.all (·.oneCell') = true := Array.all_eq_true_iff_forall_mem.2 fun v hv => EBk.one b v (show v ∈ b.cs by simpa using hv)
   have hll : (Tryz.prog.info? 64).map (·.size) = some b.cs.length := by rw [b.cs_len]; exact blk_size
   obtain ⟨CL, hCL⟩ : ∃ x, b.cs = x := ⟨_, rfl⟩
   obtain ⟨bN, hbN⟩ : ∃ x, b.n = x := ⟨_, rfl⟩
   rw [hCL] at hcl hc0 hcs hca hll
   simp only [hCL] at HHs0
   rw [hbN] at hc0 hb0
   obtain ⟨CS, hCS⟩ : ∃ x, CL.toArray = x := ⟨_, rfl⟩
   rw [hCS] at hc0 hcs hca
   simp only [hCS] at HHs0
   have HC0 := Lib.hid hc0
   have HCS := Lib.hid hcs
   have HCA := Lib.hid hca
   have HLL := Lib.hid hll
   have HDA := Lib.hid hb0
   have HCC := Lib.hid hCS
   obtain ⟨ZB, hZB⟩ : ∃ x, Blk0.cs.toArray = x := ⟨_, rfl⟩
   have HZB : Hid (ZB.size = 66) := Lib.hid (by rw [← hZB]; simp [Blk.cs_len])
   have HZI : Hid ((Tryz.prog.info? 64).map (fun i => i.zero) = some (some (.agg ZB))) := Lib.hid (by rw [← hZB]; exact blk_zero)
   have HCN := Lib.hid hcl
   clear hZB hDZ HBD hCS hCL hbN hc0 hcs hca hll hb0 hd1 hlast hb hHA hcl
   go_upto_region 4 with ((with_reducible refine wpList_load_cells (o := ⟨some 17,_,_,_,_,_⟩) rfl 64 _ rfl ⟨gb,goff + m * 66,none⟩ rfl CL HCN.out dig_agg HLL.out ?_); (rw [HCC.out]); (refine wpList_alloc_blk rfl 64 rfl _ HZI.out ?_); (intro w2 r h2 b2 q2); (refine wp_store_blkU rfl 64 _ _ rfl r _ CS rfl rfl _ h2.out 66 blk_size HZB.out HCS.out HCA.out ?_); (intro w3 h3 g3))
   have hQ3 := (hQ.past b2).grown g3 (fun e => by have := Option.some.inj e; omega)
   have hR3 : Bk w3 r CS 64 := h3
   have B3 : Below p w w3 := (B1.trans (b2.mono hB0)).grown g3 (Nat.le_trans hB0 b2.size) (fun z hz => by cases hz; omega)
   have hrq : some r ≠ some q := fun e => by have := Option.some.inj e; omega
   have hB3 : p ≤ w3.heap.size := Nat.le_trans hB0 (Nat.le_trans b2.size g3.size)
   have HHs := fun (w' : World) (hb : Below p w3.drew w') => HHs0 w' (hC0.out w' (B3.trans ((Below.refl _ _).drew.trans hb)))
   clear hB0
   have hB0 := hB3
   clear HHs0 HCN h2 h3 g3 b2 q2 hQ B1 hP c2 hB3 hC1 h1 hC0
   have hz8 : (((m : Int) + 1) == 0) = false := by simp; omega
   try simp only [Act.put, setIfInBounds_toArray, set_cons_zero, set_cons_succ]
   try simp only [hz8]
   clear hz8
   refine region_inv (LDig4 p q r bN CS HA DA DZ) (by kernel_rfl) (by kernel_rfl) ?_ ?_ ?_
   · exact ⟨false,false,false,false,false,false,false,undef,undef,undef,undef,undef,.int .i64 0,rfl,(by go_simp),Below.refl _ _,nf2,nf2,nf2,nf2,nf2,nf2,(hR3.past (Below.refl _ _).drew),(fun h1 => hQ3.past (Below.refl _ _).drew),nf2⟩
   · refine ⟨?_, ?_, ?_, ?_, ?_, ?_, ?_, trivial⟩
     all_goals rintro L a w ⟨b0, b1, b2, b3, b4, b5, b6, x18, x19, x20, x21, x22, x3, rfl, rfl, hb, cd0, cd1, cd2, cd3, cd4, cd6, f_r, f_z, f_s⟩ hf hd
     · have hf' : b0 = false := hf
       subst hf'
       clear hf hd
       have W_r := f_r.out
       intro K hK
       rw [if_pos (by rfl)]
       go_simp
       exact hK.out _ _ ⟨true,b1,b2,b3,b4,b5,b6,(.pointer (some ⟨r,0,none⟩)),x19,x20,x21,x22,x3,(by go_simp),(by go_simp),hb,(fun _ => rfl),cd1,cd2,cd3,cd4,cd6,f_r,f_z,f_s⟩
     · have hf' : b1 = false := hf
       subst hf'
       have d0 : b0 = true := hd ⟨0, .data⟩ (by simp) rfl
       subst d0
       obtain rfl := cd0.out rfl
       clear hf hd
       have W_r := f_r.out
       try simp only [setIfInBounds_toArray, set_cons_zero, set_cons_succ]
       have z0 := W_r.c HC0.out
       intro K hK
       rw [if_pos (by rfl)]
       go_simp
       exact hK.out _ _ ⟨true,true,b2,b3,b4,b5,b6,.pointer (some ⟨r,0,none⟩),(.int .i64 bN),x20,x21,x22,x3,(by go_simp),(by go_simp),hb,(fun _ => rfl),(fun _ => rfl),cd2,cd3,cd4,cd6,f_r,f_z,f_s⟩
     · have hf' : b2 = false := hf
       subst hf'
       clear hf hd
       have W_r := f_r.out
       try simp only [setIfInBounds_toArray, set_cons_zero, set_cons_succ]
       intro K hK
       rw [if_pos (by rfl)]
       refine wp_load_cells 64 _ rfl ⟨r,0,none⟩ rfl CS.toList (fun j v hv => by rw [Addr.add_lit,Nat.zero_add]; exact W_r.c (by simpa using hv)) dig_agg (by rw [blk_size]; simp [HCS.out]) ?_
       simp only [Array.toArray_toList]
       exact hK.out _ _ ⟨b0,b1,true,b3,b4,b5,b6,x18,x19,(.agg CS),x21,x22,x3,(by go_simp),(by go_simp),hb,cd0,cd1,(fun _ => rfl),cd3,cd4,cd6,f_r,f_z,f_s⟩
     · have hf' : b3 = false := hf
       subst hf'
       have d2 : b2 = true := hd ⟨2, .data⟩ (by simp) rfl
       subst d2
       obtain rfl := cd2.out rfl
       clear hf hd
       have W_r := f_r.out
       intro K hK
       rw [if_pos (by rfl)]
       go_simp
       go_at_call 36
       refine (HHs _ hb).mono ?_
       rintro e w' ⟨rfl, bx⟩
       exact hK.out _ _ ⟨b0,b1,true,true,b4,b5,b6,x18,x19,.agg CS,(.agg HA),x22,x3,(by go_simp),(by go_simp),hb.trans (bx.mono (Nat.le_trans hB0 hb.size)),cd0,cd1,(fun _ => rfl),(fun _ => rfl),cd4,cd6,(f_r.out.past bx),(fun h1 => (f_z.out h1).past bx),(fun h0 => (f_s.out h0).past bx)⟩
     · have hf' : b4 = false := hf
       subst hf'
       have d1 : b1 = true := hd ⟨1, .data⟩ (by simp) rfl
       subst d1
       have d3 : b3 = true := hd ⟨3, .data⟩ (by simp) rfl
       subst d3
       obtain rfl := cd1.out rfl
       obtain rfl := cd3.out rfl
       clear hf hd
       have W_r := f_r.out
       try simp only [setIfInBounds_toArray, set_cons_zero, set_cons_succ]
       intro K hK
       rw [if_pos (by rfl)]
       refine wp_build_at 55 _ rfl DA (by simp only [List.map_toArray, List.map_cons, List.map_nil]; exact HDA.out) ?_
       exact hK.out _ _ ⟨b0,true,b2,true,true,b5,b6,x18,.int .i64 bN,x20,.agg HA,(.agg DA),x3,(by go_simp),(by go_simp),hb,cd0,(fun _ => rfl),cd2,(fun _ => rfl),(fun _ => rfl),cd6,f_r,f_z,f_s⟩
     · have hf' : b5 = false := hf
       subst hf'
       have d4 : b4 = true := hd ⟨4, .data⟩ (by simp) rfl
       subst d4
       have d3 : b3 = true := hd ⟨3, .chain⟩ (by simp) rfl
       subst d3
       have d0 : b0 = true := hd ⟨0, .phase⟩ (by simp) rfl
       subst d0
       have d1 : b1 = true := hd ⟨1, .phase⟩ (by simp) rfl
       subst d1
       have d2 : b2 = true := hd ⟨2, .phase⟩ (by simp) rfl
       subst d2
       obtain rfl := cd4.out rfl
       obtain rfl := cd3.out rfl
       obtain rfl := cd0.out rfl
       obtain rfl := cd1.out rfl
       obtain rfl := cd2.out rfl
       clear hf hd
       have W_r := f_r.out
       have W_z := f_z.out rfl
       try simp only [setIfInBounds_toArray, set_cons_zero, set_cons_succ]
       have ZZ : Hid (w.heap[q]? = some (.cells DZ 55 (0, 0))) := Lib.hid W_z
       intro K hK
       rw [if_pos (by rfl)]
       refine wp_store_blkT 55 _ _ rfl q DZ DA rfl rfl 55 ZZ 33 dig_size HDZ.out HD0.out HD1.out fun w2 h8 b8 => ?_
       have hb2 := hb.grown b8 (Nat.le_trans hB0 hb.size) (fun z hz => by cases hz; exact hBq)
       exact hK.out _ _ ⟨true,true,true,true,true,true,b6,.pointer (some ⟨r,0,none⟩),.int .i64 bN,.agg CS,.agg HA,.agg DA,x3,(by go_simp),(by go_simp),hb2,(fun _ => rfl),(fun _ => rfl),(fun _ => rfl),(fun _ => rfl),(fun _ => rfl),cd6,(Bk.grown f_r.out b8 hrq),(fun h => by cases h),(fun _ => h8.out)⟩
     · have hf' : b6 = false := hf
       subst hf'
       have d5 : b5 = true := hd ⟨5, .chain⟩ (by simp) rfl
       subst d5
       have d0 : b0 = true := hd ⟨0, .phase⟩ (by simp) rfl
       subst d0
       have d1 : b1 = true := hd ⟨1, .phase⟩ (by simp) rfl
       subst d1
       have d2 : b2 = true := hd ⟨2, .phase⟩ (by simp) rfl
       subst d2
       have d3 : b3 = true := hd ⟨3, .phase⟩ (by simp) rfl
       subst d3
       have d4 : b4 = true := hd ⟨4, .phase⟩ (by simp) rfl
       subst d4
       obtain rfl := cd0.out rfl
       obtain rfl := cd1.out rfl
       obtain rfl := cd2.out rfl
       obtain rfl := cd3.out rfl
       obtain rfl := cd4.out rfl
       clear hf hd
       have W_r := f_r.out
       have W_s := f_s.out rfl
       intro K hK
       rw [if_pos (by rfl)]
       go_simp
       exact hK.out _ _ ⟨true,true,true,true,true,true,true,.pointer (some ⟨r,0,none⟩),.int .i64 bN,.agg CS,.agg HA,.agg DA,(.int .i64 0),(by go_simp),(by go_simp),hb,(fun _ => rfl),(fun _ => rfl),(fun _ => rfl),(fun _ => rfl),(fun _ => rfl),(fun _ => rfl),f_r,(fun h => by cases h),f_s⟩
   · rintro act V ⟨b0, b1, b2, b3, b4, b5, b6, x18, x19, x20, x21, x22, x3, hL, rfl, hb, cd0, cd1, cd2, cd3, cd4, cd6, f_r, f_z, f_s⟩
     have hL' : [true, true, true, true, true, true, true] = [b0, b1, b2, b3, b4, b5, b6] := congrArg Array.toList hL
     simp only [List.cons.injEq, and_true] at hL'
     obtain ⟨rfl, rfl, rfl, rfl, rfl, rfl, rfl⟩ := hL'
     obtain rfl := cd0.out rfl
     obtain rfl := cd1.out rfl
     obtain rfl := cd2.out rfl
     obtain rfl := cd3.out rfl
     obtain rfl := cd4.out rfl
     obtain rfl := cd6.out rfl
     have W_r := f_r.out
     have W_s := f_s.out rfl
     clear hL f_r f_z f_s cd0 cd1 cd2 cd3 cd4 cd6
     simp only [setIfInBounds_toArray, set_cons_zero, set_cons_succ]
     have BV : Below p w V := B3.trans ((Below.refl _ _).drew.trans hb)
     clear hb
     go_wp2_with fail
     refine bodyPost_ret (v := .tuple #[.agg DA, .int .i64 0]) (results_ct rfl _ _ q _ _ (0, 0) _ rfl W_s Tryz.underlying55 rfl (by rw [dig_size, HD0.out]) _ rfl) rfl ?_
     exact ⟨rfl, by rw [HG.out]; exact BV⟩
end Go.Proofs.YtdmnjjknkcnkgaaGreatDoor
