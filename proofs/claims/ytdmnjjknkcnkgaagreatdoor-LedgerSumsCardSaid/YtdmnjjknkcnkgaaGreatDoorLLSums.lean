/-
 LedgerSums (by gen_lsums.py).
-/
import Derived.Test.YtdmnjjknkcnkgaaGreatDoorMzS
namespace Go.Proofs.YtdmnjjknkcnkgaaGreatDoor
open List (setIfInBounds_toArray set_cons_zero set_cons_succ)
open Go.RowKit
set_option linter.unusedSimpArgs false
inductive LSm14 (B : Nat) (pc : Nat) (tx : Int) (sq : Int) (bt : ByteArray) (bo : Int) (ga : Option Addr) (xn : Nat) (gcp : Nat) (RA : Array Value) (a0 : Act) (w0 : World) (L : Array Bool) (a : Act) (w : World) : Prop
 | mk (b0 b1 b2 b3 b4 b5 b6 b7 b8 : Bool) (x61 x62 x63 x64 x65 x66 x67 x68 x69 : Value) (hL : L = #[b0,b1,b2,b3,b4,b5,b6,b7,b8]) (ha : a = ⟨(((((((((a0.tmps.setIfInBounds 61 x61).setIfInBounds 62 x62).setIfInBounds 63 x63).setIfInBounds 64 x64).setIfInBounds 65 x65).setIfInBounds 66 x66).setIfInBounds 67 x67).setIfInBounds 68 x68).setIfInBounds 69 x69),a0.defers⟩) (hb : Below B w0 w) (cd0 : Hid (b0 = true → x61 = .int .i64 tx)) (cd1 : Hid (b1 = true → x62 = .int .i64 sq)) (cd2 : Hid (b2 = true → x63 = .agg #[.string bt,.int .i64 bo,.slice ga xn gcp])) (cd3 : Hid (b3 = true → x64 = .agg RA)) (cd4 : Hid (b4 = true → x65 = .int .i64 tx)) (cd5 : Hid (b5 = true → x66 = .int .i64 sq)) (cd6 : Hid (b6 = true → x67 = .agg #[.string bt,.int .i64 bo,.slice ga xn gcp])) (cd7 : Hid (b7 = true → x68 = .agg RA)) (cd8 : Hid (b8 = true → x69 = .bool false)) (f_c : Hid (Bk w pc #[.string bt,.int .i64 bo,.slice ga xn gcp] 67)) : LSm14 B pc tx sq bt bo ga xn gcp RA a0 w0 L a w
inductive LSm16 (B : Nat) (pu : Nat) (pb : Nat) (id : Int) (uo : Option Addr) (cn : Nat) (uc : Nat) (bn : Int) (ct : Int) (lp : List UInt8) (lr : List UInt8) (RA : Array Value) (EA : Array Value) (HA : Array Value) (BA : Array Value) (a0 : Act) (w0 : World) (L : Array Bool) (a : Act) (w : World) : Prop
 | mk (b0 b1 b2 b3 b4 b5 b6 b7 b8 b9 b10 b11 b12 b13 b14 b15 b16 b17 b18 b19 b20 b21 b22 b23 b24 b25 b26 b27 : Bool) (x70 x71 x72 x73 x74 x75 x76 x77 x78 x79 x80 x81 x82 x83 x84 x85 x86 x87 x88 x89 x90 x91 x92 x93 x94 x95 x96 x8 : Value) (hL : L = #[b0,b1,b2,b3,b4,b5,b6,b7,b8,b9,b10,b11,b12,b13,b14,b15,b16,b17,b18,b19,b20,b21,b22,b23,b24,b25,b26,b27]) (ha : a = ⟨((((((((((((((((((((((((((((a0.tmps.setIfInBounds 70 x70).setIfInBounds 71 x71).setIfInBounds 72 x72).setIfInBounds 73 x73).setIfInBounds 74 x74).setIfInBounds 75 x75).setIfInBounds 76 x76).setIfInBounds 77 x77).setIfInBounds 78 x78).setIfInBounds 79 x79).setIfInBounds 80 x80).setIfInBounds 81 x81).setIfInBounds 82 x82).setIfInBounds 83 x83).setIfInBounds 84 x84).setIfInBounds 85 x85).setIfInBounds 86 x86).setIfInBounds 87 x87).setIfInBounds 88 x88).setIfInBounds 89 x89).setIfInBounds 90 x90).setIfInBounds 91 x91).setIfInBounds 92 x92).setIfInBounds 93 x93).setIfInBounds 94 x94).setIfInBounds 95 x95).setIfInBounds 96 x96).setIfInBounds 8 x8),a0.defers⟩) (hb : Below B w0 w) (cd0 : Hid (b0 = true → x70 = .agg #[.int .i64 id,.slice uo cn uc])) (cd1 : Hid (b1 = true → x71 = .agg RA)) (cd2 : Hid (b2 = true → x72 = .agg #[.int .i64 id,.slice uo cn uc])) (cd3 : Hid (b3 = true → x73 = .agg RA)) (cd4 : Hid (b4 = true → x74 = .bool true)) (cd5 : Hid (b5 = true → x75 = .bool true)) (cd6 : Hid (b6 = true → x76 = .agg #[.int .i64 id,.slice uo cn uc])) (cd7 : Hid (b7 = true → x77 = .agg EA)) (cd8 : Hid (b8 = true → x78 = .agg #[.int .i64 id,.slice uo cn uc])) (cd9 : Hid (b9 = true → x79 = .agg EA)) (cd10 : Hid (b10 = true → x80 = .bool true)) (cd11 : Hid (b11 = true → x81 = .bool true)) (cd12 : Hid (b12 = true → x82 = .bool true)) (cd13 : Hid (b13 = true → x83 = .agg BA)) (cd14 : Hid (b14 = true → x84 = .agg HA)) (cd15 : Hid (b15 = true → x85 = .pointer (some ⟨pb,0,none⟩))) (cd16 : Hid (b16 = true → x86 = .int .i64 bn)) (cd17 : Hid (b17 = true → x87 = .pointer (some ⟨pb,1,none⟩))) (cd18 : Hid (b18 = true → x88 = .agg (bcs lp).toArray)) (cd19 : Hid (b19 = true → x89 = .pointer (some ⟨pb,33,none⟩))) (cd20 : Hid (b20 = true → x90 = .agg (bcs lr).toArray)) (cd21 : Hid (b21 = true → x91 = .pointer (some ⟨pb,65,none⟩))) (cd22 : Hid (b22 = true → x92 = .int .i64 ct)) (cd23 : Hid (b23 = true → x93 = .agg BA)) (cd24 : Hid (b24 = true → x94 = .agg HA)) (cd25 : Hid (b25 = true → x95 = .bool true)) (cd26 : Hid (b26 = true → x96 = .bool true)) (cd27 : Hid (b27 = true → x8 = .bool true)) (f_u : Hid (Bk w pu #[.int .i64 id,.slice uo cn uc] 45)) (f_b : Hid (Bk w pb BA 64)) : LSm16 B pu pb id uo cn uc bn ct lp lr RA EA HA BA a0 w0 L a w
def gc (c : Chg) : Chg := (c.1, c.2.map gd)
theorem gd_60 (v : V) : (gd v).s.size ≤ 60 := by
 unfold gd
 split
 · exact Nat.zero_le _
 split
 · exact Nat.zero_le _
 split
 · show (v.s.extract 0 (min v.s.size 60)).size ≤ 60
   rw [ByteArray.size_extract]; omega
 · exact Nat.zero_le _
theorem gc_ok (c : Chg) (h1 : c.1.1.size ≤ 50) (h2 : c.2.length ≤ 12) : ChOk (gc c) := ⟨by simp only [gc]; omega, by simp only [gc, List.length_map]; omega, fun v hv => by
 simp only [gc, List.mem_map] at hv
 obtain ⟨y, -, rfl⟩ := hv
 exact gd_60 y⟩
theorem rblk_zero' : (Tryz.prog.info? 73).map (fun i => i.zero) = some (some (.agg Blk0.cs.toArray)) := by kernel_rfl
theorem rblk_places' : (match Tryz.prog.underlying 73 with | some (.struct fields) => fields.toList.mapM (fun f => (Tryz.prog.info? f.type).map fun i => (f.offset,i.size)) | _ => none) = some [(0,1),(1,32),(33,32),(65,1)] := by kernel_rfl
theorem built_rblk4 (b : Blk) : Tryz.prog.built 73 [(0,.int .i64 b.n),(1,.agg (bcs b.prev.l).toArray),(2,.agg (bcs b.root.l).toArray),(3,.int .i64 b.count)] = some b.cs.toArray := by
 have hi := rblk_zero'
 have hp := rblk_places'
 have l1 := b.prev.len
 have l2 := b.root.len
 have c1 : (bcs b.prev.l).length = 32 := by rw [bcs_length, l1]
 have c2 : (bcs b.root.l).length = 32 := by rw [bcs_length, l2]
 have hz : Blk0.cs = [Value.int .i64 0] ++ (bcs H0s.l ++ (bcs H0s.l ++ [.int .i64 0])) := rfl
 have hz32 : (bcs H0s.l).length = 32 := rfl
 unfold Program.built
 cases h1 : Tryz.prog.info? 73 with
 | none => rw [h1] at hi; cases hi
 | some it =>
  rw [h1] at hi
  simp only [Option.map_some, Option.some.injEq] at hi
  cases h2 : Tryz.prog.underlying 73 with
  | none => rw [h2] at hp; cases hp
  | some d =>
   rw [h2] at hp
   cases d <;> try (cases hp; done)
   simp only at hp
   simp only [hi, hp, hz, Value.cells]
   generalize bcs H0s.l = Z at hz32
   generalize hP : bcs b.prev.l = P at c1
   generalize hR : bcs b.root.l = R at c2
   rw [fill_next _ _ 0 0 1 (.int .i64 b.n) [.int .i64 b.n] _ rfl rfl rfl (by simp),fill_next _ _ 1 1 32 (.agg P.toArray) P _ rfl rfl c1 (by simp; omega),fill_next _ _ 2 33 32 (.agg R.toArray) R _ rfl rfl c2 (by simp; omega),fill_next _ _ 3 65 1 (.int .i64 b.count) [.int .i64 b.count] _ rfl rfl rfl (by simp; omega)]
   unfold Instr.fill
   unfold Blk.cs
   rw [hP, hR]
   have e33 : ∀ (x : Value), (x :: (P ++ (R ++ [.int .i64 0]))).take 33 = x :: P := fun x => by rw [show 33 = P.length + 1 by omega, List.take_succ_cons, List.take_left]
   simp [List.take_append, List.drop_append, c1, c2, hz32, List.take_of_length_le, List.drop_of_length_le]
theorem wpList_append_rr {α : Type} {E : Enc α} {P : Program} {zero : α} {w : World} {e : TypeId} {B : Nat} {ao : Option Addr} {n c : Nat} {l : List α} {ops : Array Oper} {rest : List Oper} {o : Oper} {a : Act} {Q : Exit → Act → World → Prop} (hgd : o.guard = none) (s x : Operand) (t tx : TypeId)
 (ho : o.op = .call { callee := .builtin .append,args := #[s,x],argTypes := #[t,tx] }) (hB : RowTy E P t e zero) (hsv : a.eval s = .slice ao n c) (h : TxtR E w e B ao n c l) (hBw : B ≤ w.heap.size)
 (X : Value) (hx : a.eval x = X) (m : Nat) (cs : List α) (hs : Src P E.sz tx X m (E.all cs) w) (hcl : cs.length = m) (hpos : 0 < m) (N : Nat) (hN : n + m = N) (L : List α) (hL : l ++ cs = L) (hmax : N ≤ 1000000)
 (hK : ∀ g' c' w',TxtR E w' e B (some ⟨g',0,none⟩) N c' L → w.grownBy w' (blk ao) → (blk ao = some g' ∨ w.heap.size ≤ g') → wpList P ops Q rest (a.put o.dst (.slice (some ⟨g',0,none⟩) N c')) w') : wpList P ops Q (o :: rest) a w :=
 wpList_plain hgd fun _ hK' => wp_append_r s x t tx ho hB hsv h hBw X hx m cs hs hcl hpos N hN L hL hmax fun g' c' w' h1 h2 h3 _ => hK' _ _ (hK g' c' w' h1 h2 h3)
set_option maxRecDepth 100000 in
set_option maxHeartbeats 4000000 in
theorem ledgerSums_walk (id : Int) (ca : Option Addr) (cn cc : Nat) (cl : List Chg) (tx sq : Int) (b : Blk) (w : World) (hC : RC w) (hT : IsD DC w (fun _ => True) ca cn cc cl) (_w1 : (Lit.int .i64 tx).wf = true) (_w2 : (Lit.int .i64 sq).wf = true) :
 Calls Tryz.prog 4 #[.agg #[.int .i64 id,.slice ca cn cc],.int .i64 tx,.int .i64 sq,.agg b.cs.toArray] w fun e w' => e = .returned (.bool true) ∧ Below w.heap.size w w' := by
 have hln := hT.len
 obtain ⟨BA, hBA⟩ : ∃ x, b.cs.toArray = x := ⟨_, rfl⟩
 rw [hBA]
 have HBA := Lib.hid hBA
 clear hBA
 have B0 : Below w.heap.size w ((w.alloc (.cells #[.int .i64 id, .slice ca cn cc] 45)).alloc (.cells BA 64)) := ((Below.refl _ _).alloc (Nat.le_refl _) _).alloc (by simp) _
 have hP : Bk ((w.alloc (.cells #[.int .i64 id, .slice ca cn cc] 45)).alloc (.cells BA 64)) w.heap.size #[.int .i64 id, .slice ca cn cc] 45 := (Bk.new w _ _).alloc _
 have hB : Bk ((w.alloc (.cells #[.int .i64 id, .slice ca cn cc] 45)).alloc (.cells BA 64)) (w.heap.size + 1) BA 64 := by
  have := Bk.new (w.alloc (.cells #[.int .i64 id, .slice ca cn cc] 45)) BA 64
  rwa [World.size_alloc] at this
 go_enter Tryz.func4, Tryz.ntmps4
 go_upto_region 3 with (go_at_call 13; refine (known14 _ (hC.past B0)).mono ?_; rintro e w1 ⟨rfl, b1⟩)
 have P1 := hP.past b1
 have Q1 := hB.past b1
 have B1 := B0.trans (b1.mono B0.size)
 obtain ⟨p, hp⟩ : ∃ p, w.heap.size = p := ⟨_, rfl⟩
 have HG := Lib.hid hp
 rw [hp] at P1 Q1 B1
 simp only [hp]
 clear hp b1 B0 hP hB
 have hp1 := Q1.lt
 obtain ⟨c0, c1⟩ : w1.cell? ⟨p, 0, none⟩ = some (.int .i64 id) ∧ w1.cell? ⟨p, 1, none⟩ = some (.slice ca cn cc) := ⟨P1.c rfl, P1.c rfl⟩
 by_cases hcn : cn ≤ 20
 · have hcni : ¬ ((20 : Int) < (cn : Int)) := by omega
   go_upto_region 6 with fail
   have BX : Below w1.heap.size w1 (w1.alloc (.cells #[.int .i64 id, .slice none 0 0] 45)) := (Below.refl _ _).alloc (Nat.le_refl _) _
   have P2 := P1.past BX
   have Q2 := Q1.past BX
   have U2 : Bk (w1.alloc (.cells #[.int .i64 id, .slice none 0 0] 45)) w1.heap.size #[.int .i64 id, .slice none 0 0] 45 := Bk.new w1 _ _
   have B2 := B1.trans (BX.mono (by omega))
   obtain ⟨pu, hpu⟩ : ∃ x, w1.heap.size = x := ⟨_, rfl⟩
   rw [hpu] at U2 hp1
   simp only [hpu]
   clear hpu BX c0 c1 P1 Q1 B1
   generalize w1.alloc (.cells #[.int .i64 id, .slice none 0 0] 45) = W at P2 Q2 U2 B2 ⊢
   have hTW : IsD DC W (fun _ => True) ca cn cc cl := hT.past (by rw [HG.out]; exact B2)
   have hCW : RC W := hC.past (by rw [HG.out]; exact B2)
   have hpl : p < pu := by omega
   go_wp2_with fail
   go_loopw [10] (fun i wr => ∃ (jn : Nat) (uo : Option Addr) (uc : Nat) (bs : List ((ByteArray × Int) × HdR)),jn ≤ cn ∧ i = .int .i64 (jn : Nat) ∧ Bk wr pu #[.int .i64 id,.slice uo jn uc] 45 ∧ TxD DC wr 67 (fun k => pu + 1 ≤ k) uo jn uc bs ((cl.take jn).map gc) ∧ (∀ c ∈ (cl.take jn).map gc,ChOk c) ∧ Below pu W wr) (fun i _ => cn - (intOf i).toNat)
   case atStart => exact ⟨0, none, 0, [], Nat.zero_le _, rfl, U2, TxD.nil _ _ _, fun c hc => by simp at hc, Below.refl _ _⟩
   case round =>
    obtain ⟨jn, uo, uc, bs, hj, rfl, hU, hO, hK, hB⟩ := hrel
    have P3 := P2.past9 hB hpl
    obtain ⟨c0, c1⟩ : wr.cell? ⟨p, 0, none⟩ = some (.int .i64 id) ∧ wr.cell? ⟨p, 1, none⟩ = some (.slice ca cn cc) := ⟨P3.c rfl, P3.c rfl⟩
    have hpw := hU.lt
    have hBw : Below w.heap.size w wr := by rw [HG.out]; exact B2.trans (hB.mono (Nat.le_of_lt hpl))
    by_cases hlt : jn < cn
    · have hlti : (jn : Int) < (cn : Int) := by omega
      obtain ⟨x, hx⟩ : ∃ x, cl[jn]? = some x := ⟨cl[jn]'(by omega), List.getElem?_eq_getElem _⟩
      obtain ⟨gb, goff, bb, rfl, hgl, -, hcl, hr⟩ := (hT.past hBw).at hx
      obtain ⟨⟨bt, bo⟩, ⟨xa, xn, xc⟩⟩ := bb
      obtain ⟨⟨xt, xo⟩, xl⟩ := x
      obtain ⟨hE, hr2⟩ := hr
      obtain ⟨rfl, rfl⟩ : bt = xt ∧ bo = xo := by simpa using hE
      have hxl : xl.length = xn := hr2.flat.len
      have hcl : ∀ k u, (ECh.f ((bt, bo), ⟨xa, xn, xc⟩))[k]? = some u → wr.cell? ⟨gb, goff + (jn * 3 + k), none⟩ = some u := hcl
      have y0 : wr.cell? ⟨gb, goff + jn * 3, none⟩ = some (.string bt) := hcl 0 _ rfl
      have y1 : wr.cell? ⟨gb, goff + jn * 3 + 1, none⟩ = some (.int .i64 bo) := by have := hcl 1 _ rfl; rwa [← Nat.add_assoc] at this
      have y2 : wr.cell? ⟨gb, goff + jn * 3 + 2, none⟩ = some (.slice xa xn xc) := by have := hcl 2 _ rfl; rwa [← Nat.add_assoc] at this
      have hFw := fun (w' : World) (b : Below wr.heap.size wr w') => few5_any xa xn xc xl w' (hr2.flat.past b)
      obtain ⟨fb, hfb⟩ : ∃ x, (fewB xl && decide ((xn : Int) ≤ 12)) = x := ⟨_, rfl⟩
      simp only [hfb] at hFw
      have HFB := Lib.hid hfb
      clear hfb
      cases fb with
      | false =>
       go_wp2_with (go_at_call 28; refine (hFw _ (Below.refl _ _)).mono ?_; rintro e w4 ⟨rfl, b4⟩)
       go_ret
       exact ⟨rfl, hBw.trans (b4.mono hBw.size)⟩
      | true =>
       have hxn : xn ≤ 12 := by
        have := HFB.out
        rw [Bool.and_eq_true, decide_eq_true_eq] at this
        omega
       by_cases ht : bt.size ≤ 50
       · have hti : ¬ ((50 : Int) < (bt.size : Int)) := by omega
         go_upto_region 11 with (go_at_call 28; refine (hFw _ (Below.refl _ _)).mono ?_; rintro e w4 ⟨rfl,b4⟩; have z0 := (b4.cell hgl).trans y0; have z1 := (b4.cell hgl).trans y1; have z2 := (b4.cell hgl).trans y2; have z8 : w4.cell? ⟨p,1,none⟩ = some (.slice (some ⟨gb,goff,none⟩) cn cc) := (P3.past b4).c rfl)
         go_upto_region 12 with fail
         have BX : Below w4.heap.size w4 (w4.alloc (.cells #[.string bt, .int .i64 bo, .slice xa xn xc] 67)) := (Below.refl _ _).alloc (Nat.le_refl _) _
         have C5 : Bk (w4.alloc (.cells #[.string bt, .int .i64 bo, .slice xa xn xc] 67)) w4.heap.size #[.string bt, .int .i64 bo, .slice xa xn xc] 67 := Bk.new w4 _ _
         have b5 := b4.trans (BX.mono b4.size)
         have hs4 := b4.size
         obtain ⟨pc, hpc⟩ : ∃ x, w4.heap.size = x := ⟨_, rfl⟩
         rw [hpc] at C5 hs4
         simp only [hpc]
         clear BX b4 z0 z1 z2 z8 hpc
         generalize w4.alloc (.cells #[.string bt, .int .i64 bo, .slice xa xn xc] 67) = w5 at C5 b5 ⊢
         have U5 := hU.past b5
         have T5 := (hO.imp (Q' := fun k => pu + 1 ≤ k ∧ k < wr.heap.size) (fun k hk h => ⟨h, hk⟩)).past b5
         have B5 := hB.trans (b5.mono (Nat.le_of_lt hpw))
         have hpc5 := C5.lt
         have hGd := good5_any xa xn xc xl w5 ((hr2.flat).past b5) (by omega)
         obtain ⟨e2, f2⟩ : w5.cell? ⟨pc, 2, none⟩ = some (.slice xa xn xc) ∧ w5.frozen? ⟨pc, 2, none⟩ = false := ⟨C5.c rfl, free_blk C5⟩
         clear hFw HFB hlti hti hcni y0 y1 y2 hcl
         go_upto_region 13 with (go_at_call 29; refine hGd.mono ?_; rintro e w6 ⟨ga,gcp,rfl,b6,hg6⟩; have C6 := C5.past b6; obtain ⟨e6,f6⟩ : w6.cell? ⟨pc,2,none⟩ = some (.slice xa xn xc) ∧ w6.frozen? ⟨pc,2,none⟩ = false := ⟨C6.c rfl,free_blk C6⟩)
         have hv6 : IsD DV w6 (fun k => w5.heap.size ≤ k) ga xn gcp (xl.map gd) := by
          rcases hg6 with ⟨q0, q1, q2⟩ | ⟨g, q1, o, hge⟩
          · have q3 : xl = [] := List.length_eq_zero_iff.1 (by omega)
            rw [q0, q1, q2, q3]
            exact IsD.nil _ _
          · rw [q1]
            exact o.isR.deep (by decide) (fun _ a ha => by cases ha; exact hge)
         have g7 := grown_cell (grown_self w6 pc) 2 (.slice ga xn gcp)
         have C7 : Bk (w6.setCell ⟨pc, 2, none⟩ (.slice ga xn gcp)) pc #[.string bt, .int .i64 bo, .slice ga xn gcp] 67 := heap_setCell_same C6
         have hpcu : some pu ≠ some pc := fun e => by have := Option.some.inj e; omega
         have U7 := (U5.past b6).grown g7 hpcu
         have T7 := (T5.past b6).grownO g7 (fun r er hq => by have := Option.some.inj er; omega)
         have hv7 := hv6.grown g7 (show ¬ w5.heap.size ≤ pc by omega)
         have B7 : Below pu W _ := (B5.trans (b6.mono (Nat.le_of_lt U5.lt))).grown g7 (by have := (U5.past b6).lt; omega) (fun z hz => by cases hz; omega)
         have hs57 : w5.heap.size ≤ (w6.setCell ⟨pc, 2, none⟩ (.slice ga xn gcp)).heap.size := Nat.le_trans b6.size g7.size
         clear e2 f2 e6 f6 hg6 hv6 g7 C6 C5 hGd T5 U5 b6 hO
         generalize w6.setCell ⟨pc, 2, none⟩ (.slice ga xn gcp) = w7 at C7 U7 T7 hv7 B7 hs57 ⊢
         have i8 : IsR ECh (w7.alloc (.cells #[.string bt,.int .i64 bo,.slice ga xn gcp] 67)) (some ⟨w7.heap.size,0,none⟩) 1 1 [((bt,bo),⟨ga,xn,gcp⟩)] := (OwnR.ofBlk (E := ECh) (l := [((bt,bo),⟨ga,xn,gcp⟩)]) (n := 1) (heap_alloc_new w7 _) rfl rfl (by omega)).isR
         have B8 : Below w7.heap.size w7 (w7.alloc (.cells #[.string bt, .int .i64 bo, .slice ga xn gcp] 67)) := (Below.refl _ _).alloc (Nat.le_refl _) _
         have U8 := U7.past B8
         have C8 := C7.past B8
         have T8 := T7.past B8
         have hv8 := hv7.past B8
         have hup : some pu ≠ blk uo := fun e => by have := (T8.frm pu e.symm).1; omega
         have hcp : some pc ≠ blk uo := fun e => by have := (T8.frm pc e.symm).2; omega
         have pl7 := U7.lt
         have pl8 := C7.lt
         obtain ⟨c0,c1,c2,c3,c4⟩ : w7.cell? ⟨pu,1,none⟩ = some (.slice uo jn uc) ∧ w7.cell? ⟨pc,0,none⟩ = some (.string bt) ∧ w7.cell? ⟨pc,1,none⟩ = some (.int .i64 bo) ∧ w7.cell? ⟨pc,2,none⟩ = some (.slice ga xn gcp) ∧ True := ⟨U7.c rfl,C7.c rfl,C7.c rfl,C7.c rfl,trivial⟩
         go_upto_region 14 with (at_builtin; refine wpList_append_rr (E := ECh) rfl _ _ 43 43 rfl rowTyCh rfl T8.row (Nat.zero_le _) _ rfl 1 [((bt,bo),⟨ga,xn,gcp⟩)] (i8.src Tryz.underlying43) rfl (by omega) (jn + 1) rfl (bs ++ [((bt,bo),⟨ga,xn,gcp⟩)]) rfl (by omega) ?_; intro g9 c9 w9 o9 gr9 hg9; have U9 := U8.grown gr9 hup; have e9 : w9.cell? ⟨pu,1,none⟩ = some (.slice uo jn uc) := U9.c rfl; have f9 := free_blk (i := 1) U9)
         have T9 := TxD.app (D := DC) (Qx := fun k => w5.heap.size ≤ k) (x := gc ((bt, bo), xl)) T8 ⟨rfl, hv8⟩ (fun z hz h => by have := (T8.frm z hz).2; have := b5.size; omega) o9 gr9 hg9
         have g10 := grown_cell (grown_self w9 pu) 1 (.slice (some ⟨g9, 0, none⟩) (jn + 1) c9)
         have U10 : Bk (w9.setCell ⟨pu, 1, none⟩ (.slice (some ⟨g9, 0, none⟩) (jn + 1) c9)) pu #[.int .i64 id, .slice (some ⟨g9, 0, none⟩) (jn + 1) c9] 45 := heap_setCell_same U9
         have C10 := (C8.grown gr9 hcp).grown g10 (Ne.symm hpcu)
         have hv10 := (hv8.grownO gr9 (fun r er hq => by have := (T8.frm r er).2; have := b5.size; omega)).grown g10 (show ¬ w5.heap.size ≤ pu by have := b5.size; omega)
         have T10 := (T9.imp (Q' := fun k => pu + 1 ≤ k) (fun k _ hk => by rcases hk with hk | hk | hk; exact hk.1; (have := b5.size; omega); (have := B8.size; have := b5.size; omega))).grownO g10 (fun r er hq => by have := Option.some.inj er; omega)
         have B10 : Below pu W _ := ((B7.trans (B8.mono (Nat.le_of_lt pl7))).trans ((show Below pu _ w9 from ⟨gr9.os,gr9.tape,gr9.output,gr9.size,fun k hk => gr9.block k (by have := B8.size; omega) (fun e => by have := (T8.frm k e.symm).1; omega)⟩))).grown g10 (by have := U9.lt; omega) (fun z hz => by cases hz; exact Nat.le_refl _)
         clear e9 f9 c0 c1 c2 c3 c4 T9 T8 T7 U9 U8 U7 C8 C7 o9 gr9 hg9 g10 i8 hv7 hv8 B8 hup hcp pl7 pl8 B7 B5
         generalize w9.setCell ⟨pu, 1, none⟩ (.slice (some ⟨g9, 0, none⟩) (jn + 1) c9) = w10 at U10 C10 hv10 T10 B10 ⊢
         obtain ⟨r, hr⟩ : ∃ r, w10.heap.size = r := ⟨_, rfl⟩
         have hr10 := Lib.hid hr
         have hB0 : r ≤ w10.heap.size := Nat.le_of_eq hr.symm
         clear hr
         have HOk : Hid (ChOk (gc ((bt, bo), xl))) := Lib.hid (gc_ok _ ht (show xl.length ≤ 12 by omega))
         have HTk : Hid ((cl.take (jn + 1)).map gc = (cl.take jn).map gc ++ [gc ((bt, bo), xl)]) := Lib.hid (by
          obtain ⟨hj2, hx2⟩ := List.getElem?_eq_some_iff.1 hx
          rw [List.take_succ_eq_append_getElem hj2, List.map_append, hx2]
          rfl)
         have HX := fun (w' : World) (hb : Below r w10.drew w') => (show Below w10.heap.size w10 w' by rw [hr10.out]; exact (Below.refl _ _).drew.trans hb)
         have hC10 : RC w10 := hC.past (by rw [HG.out]; exact B2.trans (B10.mono (Nat.le_of_lt hpl)))
         have HRw0 := fun (w' : World) (hb : Below r w10.drew w') => row_any w' (hC10.past (HX w' hb)) tx sq (gc ((bt, bo), xl)) ga xn gcp ((hv10.past (HX w' hb)).flat) HOk.out
         have HRr0 := fun (w' : World) (hb : Below r w10.drew w') => rrow_any w' tx sq (gc ((bt, bo), xl)) ga xn gcp ((hv10.past (HX w' hb)).flat) HOk.out
         have qR := equal_hash _ _ (rowS_len tx sq (gc ((bt, bo), xl))) (rowS_len tx sq (gc ((bt, bo), xl)))
         simp only [beq_self_eq_true] at qR
         obtain ⟨RA, hRA⟩ : ∃ x, (bcs (rowS tx sq (gc ((bt, bo), xl)))).toArray = x := ⟨_, rfl⟩
         simp only [hRA] at HRw0 HRr0 qR
         have HRw : ∀ (w' : World) (hb : Below r w10.drew w'),Calls Tryz.prog 30 #[.int .i64 tx,.int .i64 sq,.agg #[.string bt,.int .i64 bo,.slice ga xn gcp]] w' fun e w2 => e = .returned (.agg RA) ∧ Below w'.heap.size w' w2 := HRw0
         have HRr : ∀ (w' : World) (hb : Below r w10.drew w'),Calls Tryz.prog 31 #[.int .i64 tx,.int .i64 sq,.agg #[.string bt,.int .i64 bo,.slice ga xn gcp]] w' fun e w2 => e = .returned (.agg RA) ∧ Below w'.heap.size w' w2 := HRr0
         clear HRw0 HRr0 hRA hv10 hr2 hx HX
         refine region_inv (LSm14 r pc tx sq bt bo ga xn gcp RA) (by kernel_rfl) (by kernel_rfl) ?_ ?_ ?_
         · exact ⟨false,false,false,false,false,false,false,false,false,u61,u62,u63,u64,u65,u66,u67,u68,u69,rfl,(by go_simp),Below.refl _ _,nf2,nf2,nf2,nf2,nf2,nf2,nf2,nf2,nf2,(C10.past (Below.refl _ _).drew)⟩
         · refine ⟨?_, ?_, ?_, ?_, ?_, ?_, ?_, ?_, ?_, trivial⟩
           all_goals rintro L a w ⟨b0, b1, b2, b3, b4, b5, b6, b7, b8, x61, x62, x63, x64, x65, x66, x67, x68, x69, rfl, rfl, hb, cd0, cd1, cd2, cd3, cd4, cd5, cd6, cd7, cd8, f_c⟩ hf hd
           · have hf' : b0 = false := hf
             subst hf'
             clear hf hd
             have W_c := f_c.out
             try simp only [setIfInBounds_toArray, set_cons_zero, set_cons_succ]
             intro K hK
             rw [if_pos (by rfl)]
             go_simp
             exact hK.out _ _ ⟨true,b1,b2,b3,b4,b5,b6,b7,b8,(.int .i64 tx),x62,x63,x64,x65,x66,x67,x68,x69,(by go_simp),(by go_simp),hb,(fun _ => rfl),cd1,cd2,cd3,cd4,cd5,cd6,cd7,cd8,f_c⟩
           · have hf' : b1 = false := hf
             subst hf'
             clear hf hd
             have W_c := f_c.out
             try simp only [setIfInBounds_toArray, set_cons_zero, set_cons_succ]
             intro K hK
             rw [if_pos (by rfl)]
             go_simp
             exact hK.out _ _ ⟨b0,true,b2,b3,b4,b5,b6,b7,b8,x61,(.int .i64 sq),x63,x64,x65,x66,x67,x68,x69,(by go_simp),(by go_simp),hb,cd0,(fun _ => rfl),cd2,cd3,cd4,cd5,cd6,cd7,cd8,f_c⟩
           · have hf' : b2 = false := hf
             subst hf'
             clear hf hd
             have W_c := f_c.out
             try simp only [setIfInBounds_toArray, set_cons_zero, set_cons_succ]
             obtain ⟨z0, z1, z2⟩ := chg_cells W_c
             intro K hK
             rw [if_pos (by rfl)]
             go_simp
             exact hK.out _ _ ⟨b0,b1,true,b3,b4,b5,b6,b7,b8,x61,x62,(.agg #[.string bt,.int .i64 bo,.slice ga xn gcp]),x64,x65,x66,x67,x68,x69,(by go_simp),(by go_simp),hb,cd0,cd1,(fun _ => rfl),cd3,cd4,cd5,cd6,cd7,cd8,f_c⟩
           · have hf' : b3 = false := hf
             subst hf'
             have d0 : b0 = true := hd ⟨0, .data⟩ (by simp) rfl
             subst d0
             have d1 : b1 = true := hd ⟨1, .data⟩ (by simp) rfl
             subst d1
             have d2 : b2 = true := hd ⟨2, .data⟩ (by simp) rfl
             subst d2
             obtain rfl := cd0.out rfl
             obtain rfl := cd1.out rfl
             obtain rfl := cd2.out rfl
             clear hf hd
             have W_c := f_c.out
             try simp only [setIfInBounds_toArray, set_cons_zero, set_cons_succ]
             intro K hK
             rw [if_pos (by rfl)]
             go_simp
             go_at_call 30
             refine (HRw _ hb).mono ?_
             rintro e w' ⟨rfl, bx⟩
             exact hK.out _ _ ⟨true,true,true,true,b4,b5,b6,b7,b8,.int .i64 tx,.int .i64 sq,.agg #[.string bt,.int .i64 bo,.slice ga xn gcp],(.agg RA),x65,x66,x67,x68,x69,(by go_simp),(by go_simp),hb.trans (bx.mono (Nat.le_trans hB0 hb.size)),rf,rf,rf,rf,cd4,cd5,cd6,cd7,cd8,(f_c.out.past bx)⟩
           · have hf' : b4 = false := hf
             subst hf'
             clear hf hd
             have W_c := f_c.out
             try simp only [setIfInBounds_toArray, set_cons_zero, set_cons_succ]
             intro K hK
             rw [if_pos (by rfl)]
             go_simp
             exact hK.out _ _ ⟨b0,b1,b2,b3,true,b5,b6,b7,b8,x61,x62,x63,x64,(.int .i64 tx),x66,x67,x68,x69,(by go_simp),(by go_simp),hb,cd0,cd1,cd2,cd3,(fun _ => rfl),cd5,cd6,cd7,cd8,f_c⟩
           · have hf' : b5 = false := hf
             subst hf'
             clear hf hd
             have W_c := f_c.out
             try simp only [setIfInBounds_toArray, set_cons_zero, set_cons_succ]
             intro K hK
             rw [if_pos (by rfl)]
             go_simp
             exact hK.out _ _ ⟨b0,b1,b2,b3,b4,true,b6,b7,b8,x61,x62,x63,x64,x65,(.int .i64 sq),x67,x68,x69,(by go_simp),(by go_simp),hb,cd0,cd1,cd2,cd3,cd4,(fun _ => rfl),cd6,cd7,cd8,f_c⟩
           · have hf' : b6 = false := hf
             subst hf'
             clear hf hd
             have W_c := f_c.out
             try simp only [setIfInBounds_toArray, set_cons_zero, set_cons_succ]
             obtain ⟨z0, z1, z2⟩ := chg_cells W_c
             intro K hK
             rw [if_pos (by rfl)]
             go_simp
             exact hK.out _ _ ⟨b0,b1,b2,b3,b4,b5,true,b7,b8,x61,x62,x63,x64,x65,x66,(.agg #[.string bt,.int .i64 bo,.slice ga xn gcp]),x68,x69,(by go_simp),(by go_simp),hb,cd0,cd1,cd2,cd3,cd4,cd5,(fun _ => rfl),cd7,cd8,f_c⟩
           · have hf' : b7 = false := hf
             subst hf'
             have d4 : b4 = true := hd ⟨4, .data⟩ (by simp) rfl
             subst d4
             have d5 : b5 = true := hd ⟨5, .data⟩ (by simp) rfl
             subst d5
             have d6 : b6 = true := hd ⟨6, .data⟩ (by simp) rfl
             subst d6
             have d3 : b3 = true := hd ⟨3, .chain⟩ (by simp) rfl
             subst d3
             obtain rfl := cd4.out rfl
             obtain rfl := cd5.out rfl
             obtain rfl := cd6.out rfl
             obtain rfl := cd3.out rfl
             clear hf hd
             have W_c := f_c.out
             try simp only [setIfInBounds_toArray, set_cons_zero, set_cons_succ]
             intro K hK
             rw [if_pos (by rfl)]
             go_simp
             go_at_call 31
             refine (HRr _ hb).mono ?_
             rintro e w' ⟨rfl, bx⟩
             exact hK.out _ _ ⟨b0,b1,b2,true,true,true,true,true,b8,x61,x62,x63,.agg RA,.int .i64 tx,.int .i64 sq,.agg #[.string bt,.int .i64 bo,.slice ga xn gcp],(.agg RA),x69,(by go_simp),(by go_simp),hb.trans (bx.mono (Nat.le_trans hB0 hb.size)),cd0,cd1,cd2,rf,rf,rf,rf,rf,cd8,(f_c.out.past bx)⟩
           · have hf' : b8 = false := hf
             subst hf'
             have d3 : b3 = true := hd ⟨3, .data⟩ (by simp) rfl
             subst d3
             have d7 : b7 = true := hd ⟨7, .data⟩ (by simp) rfl
             subst d7
             obtain rfl := cd3.out rfl
             obtain rfl := cd7.out rfl
             clear hf hd
             have W_c := f_c.out
             try simp only [setIfInBounds_toArray, set_cons_zero, set_cons_succ]
             intro K hK
             rw [if_pos (by rfl)]
             go_simp
             exact hK.out _ _ ⟨b0,b1,b2,true,b4,b5,b6,true,true,x61,x62,x63,.agg RA,x65,x66,x67,.agg RA,(.bool false),(by go_simp),(by go_simp),hb,cd0,cd1,cd2,(fun _ => rfl),cd4,cd5,cd6,(fun _ => rfl),(fun _ => rfl),f_c⟩
         · rintro act V ⟨b0, b1, b2, b3, b4, b5, b6, b7, b8, x61, x62, x63, x64, x65, x66, x67, x68, x69, hL, rfl, hb, cd0, cd1, cd2, cd3, cd4, cd5, cd6, cd7, cd8, f_c⟩
           have hL' : [true, true, true, true, true, true, true, true, true] = [b0, b1, b2, b3, b4, b5, b6, b7, b8] := congrArg Array.toList hL
           simp only [List.cons.injEq, and_true] at hL'
           obtain ⟨rfl, rfl, rfl, rfl, rfl, rfl, rfl, rfl, rfl⟩ := hL'
           obtain rfl := cd0.out rfl
           obtain rfl := cd1.out rfl
           obtain rfl := cd2.out rfl
           obtain rfl := cd3.out rfl
           obtain rfl := cd4.out rfl
           obtain rfl := cd5.out rfl
           obtain rfl := cd6.out rfl
           obtain rfl := cd7.out rfl
           obtain rfl := cd8.out rfl
           have W_c := f_c.out
           clear hL f_c cd0 cd1 cd2 cd3 cd4 cd5 cd6 cd7 cd8
           simp only [setIfInBounds_toArray, set_cons_zero, set_cons_succ]
           have BV : Below r w10 V := (Below.refl _ _).drew.trans hb
           have BV' : Below w10.heap.size w10 V := by rw [hr10.out]; exact BV
           have U11 := U10.past BV'
           have T11 := T10.past BV'
           have B11 : Below pu W V := B10.trans (BV'.mono (Nat.le_of_lt U10.lt))
           clear W_c hb
           go_wp2_with fail
           go_roundw
           case rel =>
            refine ⟨jn + 1, _, _, _, by omega, by go_num, U11, by rw [HTk.out]; exact T11, fun c hc => ?_, B11⟩
            rw [HTk.out] at hc
            rcases List.mem_append.1 hc with hc | hc
            · exact hK c hc
            · rw [List.mem_singleton.1 hc]; exact HOk.out
           case measure => simp [intOf]; omega
       · have hti : ((50 : Int) < (bt.size : Int)) := by omega
         go_wp2_with (go_at_call 28; refine (hFw _ (Below.refl _ _)).mono ?_; rintro e w4 ⟨rfl,b4⟩; have z0 := (b4.cell hgl).trans y0; have z1 := (b4.cell hgl).trans y1; have z2 := (b4.cell hgl).trans y2; have z8 : w4.cell? ⟨p,1,none⟩ = some (.slice (some ⟨gb,goff,none⟩) cn cc) := (P3.past b4).c rfl)
         go_ret
         exact ⟨rfl, hBw.trans (b4.mono hBw.size)⟩
    · have hlti : ¬ (jn : Int) < (cn : Int) := by omega
      obtain rfl : jn = cn := by omega
      obtain ⟨cn, rfl⟩ : ∃ x, x = jn := ⟨_, rfl⟩
      have HTk : Hid ((cl.take cn).map gc = cl.map gc) := Lib.hid (by rw [List.take_of_length_le (Nat.le_of_eq hln)])
      rw [HTk.out] at hO hK
      have hOD := hO.isD
      have hTX : TxOk (id, cl.map gc) := ⟨by simp only [List.length_map]; omega, hK⟩
      have Q3 := Q2.past9 hB (show p + 1 < pu by omega)
      obtain ⟨pb, hpb⟩ : ∃ x, p + 1 = x := ⟨_, rfl⟩
      rw [hpb] at Q3
      simp only [hpb]
      obtain ⟨r, hr⟩ : ∃ r, wr.heap.size = r := ⟨_, rfl⟩
      have hr10 := Lib.hid hr
      have hB0 : r ≤ wr.heap.size := Nat.le_of_eq hr.symm
      have HX := fun (w' : World) (hb : Below r wr.drew w') => (show Below wr.heap.size wr w' by rw [hr10.out]; exact (Below.refl _ _).drew.trans hb)
      have hCr : RC wr := hC.past hBw
      have HRw0 := fun (w' : World) (hb : Below r wr.drew w') => rootx_any w' (hCr.past (HX w' hb)) _ id _ uo cn uc (hOD.past (HX w' hb)) hTX
      have HRr0 := fun (w' : World) (hb : Below r wr.drew w') => rroot14_any w' _ id _ uo cn uc (hOD.past (HX w' hb)) hTX
      have HEw0 := fun (w' : World) (hb : Below r wr.drew w') => entry_any w' (hCr.past (HX w' hb)) _ id _ uo cn uc (hOD.past (HX w' hb)) hTX
      have HEr0 := fun (w' : World) (hb : Below r wr.drew w') => rentry_any w' _ id _ uo cn uc (hOD.past (HX w' hb)) hTX
      have HHw0 := fun (w' : World) (hb : Below r wr.drew w') => lhash_any w' (hCr.past (HX w' hb)) b
      have HHr0 := fun (w' : World) (_ : Below r wr.drew w') => rhash_any w' b
      obtain ⟨RA, hRA⟩ : ∃ x, (bcs (rootX (id, cl.map gc))).toArray = x := ⟨_, rfl⟩
      obtain ⟨EA, hEA⟩ : ∃ x, (bcs (entS (id, cl.map gc))).toArray = x := ⟨_, rfl⟩
      obtain ⟨HA, hHA⟩ : ∃ x, (bcs (blkS b)).toArray = x := ⟨_, rfl⟩
      have hba := HBA.out
      have hc0 := blk_cs0 b
      have hc65 := blk_cs65 b
      have hbs : b.cs.toArray.toList.length = 66 := by simp [Blk.cs_len]
      have hbp : ∀ w, Bk w pb b.cs.toArray 64 → IsB w (some ⟨pb, 1, none⟩) 32 32 b.prev.l := fun w h => blk_prev h
      have hbr : ∀ w, Bk w pb b.cs.toArray 64 → IsB w (some ⟨pb, 33, none⟩) 32 32 b.root.l := fun w h => blk_root h
      have hbb := built_rblk4 b
      have hl1 : (bcs b.prev.l).length = 32 := by rw [bcs_length, b.prev.len]
      have hl2 : (bcs b.root.l).length = 32 := by rw [bcs_length, b.root.len]
      have qR := equal_hash _ _ (rootX_len (id, cl.map gc)) (rootX_len (id, cl.map gc))
      have qE := equal_hash _ _ (entS_len (id, cl.map gc)) (entS_len (id, cl.map gc))
      have qH := equal_hash _ _ (blkS_len b) (blkS_len b)
      simp only [beq_self_eq_true] at qR qE qH
      simp only [hRA] at HRw0 HRr0 qR
      simp only [hEA] at HEw0 HEr0 qE
      simp only [hHA, hba] at HHw0 HHr0 qH
      rw [hba] at hc0 hc65 hbs hbb
      simp only [hba] at hbp hbr
      obtain ⟨bn, ⟨lp, hlp⟩, ⟨lr, hlr⟩, ct⟩ := b
      simp only at hc0 hc65 hbp hbr hbb hl1 hl2
      have HC0 := Lib.hid hc0
      have HC65 := Lib.hid hc65
      have HBS := Lib.hid hbs.symm
      have HB1 := Lib.hid hbp
      have HB33 := Lib.hid hbr
      have HBB := Lib.hid hbb
      have HL1 := Lib.hid hl1.symm
      have HL33 := Lib.hid hl2.symm
      have HRw : ∀ (w' : World) (hb : Below r wr.drew w'),Calls Tryz.prog 32 #[.agg #[.int .i64 id,.slice uo cn uc]] w' fun e w2 => e = .returned (.agg RA) ∧ Below w'.heap.size w' w2 := HRw0
      have HRr : ∀ (w' : World) (hb : Below r wr.drew w'),Calls Tryz.prog 33 #[.agg #[.int .i64 id,.slice uo cn uc]] w' fun e w2 => e = .returned (.agg RA) ∧ Below w'.heap.size w' w2 := HRr0
      have HEw : ∀ (w' : World) (hb : Below r wr.drew w'),Calls Tryz.prog 34 #[.agg #[.int .i64 id,.slice uo cn uc]] w' fun e w2 => e = .returned (.agg EA) ∧ Below w'.heap.size w' w2 := HEw0
      have HEr : ∀ (w' : World) (hb : Below r wr.drew w'),Calls Tryz.prog 35 #[.agg #[.int .i64 id,.slice uo cn uc]] w' fun e w2 => e = .returned (.agg EA) ∧ Below w'.heap.size w' w2 := HEr0
      have HHw : ∀ (w' : World) (hb : Below r wr.drew w'), Calls Tryz.prog 36 #[.agg BA] w' fun e w2 => e = .returned (.agg HA) ∧ Below w'.heap.size w' w2 := HHw0
      have HHr : ∀ (w' : World) (hb : Below r wr.drew w'), Calls Tryz.prog 37 #[.agg BA] w' fun e w2 => e = .returned (.agg HA) ∧ Below w'.heap.size w' w2 := HHr0
      clear HRw0 HRr0 HEw0 HEr0 HHw0 HHr0 hRA hEA hHA hba hc0 hc65 hbs hbp hbr hbb hl1 hl2 hlp hlr hO hOD hTX hK HTk hr hpb HBA hlti hcni
      go_upto_region 16 with fail
      refine region_inv (LSm16 r pu pb id uo cn uc bn ct lp lr RA EA HA BA) (by kernel_rfl) (by kernel_rfl) ?_ ?_ ?_
      · exact ⟨false,false,false,false,false,false,false,false,false,false,false,false,false,false,false,false,false,false,false,false,false,false,false,false,false,false,false,false,undef,undef,undef,undef,undef,undef,undef,undef,undef,undef,undef,undef,undef,undef,undef,undef,undef,undef,undef,undef,undef,undef,undef,undef,undef,undef,undef,u8,rfl,(by go_simp),Below.refl _ _,nf2,nf2,nf2,nf2,nf2,nf2,nf2,nf2,nf2,nf2,nf2,nf2,nf2,nf2,nf2,nf2,nf2,nf2,nf2,nf2,nf2,nf2,nf2,nf2,nf2,nf2,nf2,nf2,(hU.past (Below.refl _ _).drew),(Q3.past (Below.refl _ _).drew)⟩
      · refine ⟨?_, ?_, ?_, ?_, ?_, ?_, ?_, ?_, ?_, ?_, ?_, ?_, ?_, ?_, ?_, ?_, ?_, ?_, ?_, ?_, ?_, ?_, ?_, ?_, ?_, ?_, ?_, ?_, trivial⟩
        all_goals rintro L a w ⟨b0,b1,b2,b3,b4,b5,b6,b7,b8,b9,b10,b11,b12,b13,b14,b15,b16,b17,b18,b19,b20,b21,b22,b23,b24,b25,b26,b27,x70,x71,x72,x73,x74,x75,x76,x77,x78,x79,x80,x81,x82,x83,x84,x85,x86,x87,x88,x89,x90,x91,x92,x93,x94,x95,x96,x8,rfl,rfl,hb,cd0,cd1,cd2,cd3,cd4,cd5,cd6,cd7,cd8,cd9,cd10,cd11,cd12,cd13,cd14,cd15,cd16,cd17,cd18,cd19,cd20,cd21,cd22,cd23,cd24,cd25,cd26,cd27,f_u,f_b⟩ hf hd
        · have hf' : b0 = false := hf
          subst hf'
          clear hf hd
          have W_u := f_u.out
          have W_b := f_b.out
          try simp only [setIfInBounds_toArray, set_cons_zero, set_cons_succ]
          have z0 : w.cell? ⟨pu, 0, none⟩ = some (.int .i64 id) := W_u.c rfl
          have z1 : w.cell? ⟨pu, 1, none⟩ = some (.slice uo cn uc) := W_u.c rfl
          intro K hK
          rw [if_pos (by rfl)]
          go_simp
          exact hK.out _ _ ⟨true,b1,b2,b3,b4,b5,b6,b7,b8,b9,b10,b11,b12,b13,b14,b15,b16,b17,b18,b19,b20,b21,b22,b23,b24,b25,b26,b27,(.agg #[.int .i64 id,.slice uo cn uc]),x71,x72,x73,x74,x75,x76,x77,x78,x79,x80,x81,x82,x83,x84,x85,x86,x87,x88,x89,x90,x91,x92,x93,x94,x95,x96,x8,(by go_simp),(by go_simp),hb,rf,cd1,cd2,cd3,cd4,cd5,cd6,cd7,cd8,cd9,cd10,cd11,cd12,cd13,cd14,cd15,cd16,cd17,cd18,cd19,cd20,cd21,cd22,cd23,cd24,cd25,cd26,cd27,f_u,f_b⟩
        · have hf' : b1 = false := hf
          subst hf'
          have d0 : b0 = true := hd ⟨0, .data⟩ (by simp) rfl
          subst d0
          obtain rfl := cd0.out rfl
          clear hf hd
          have W_u := f_u.out
          have W_b := f_b.out
          try simp only [setIfInBounds_toArray, set_cons_zero, set_cons_succ]
          intro K hK
          rw [if_pos (by rfl)]
          go_simp
          go_at_call 32
          refine (HRw _ hb).mono ?_
          rintro e w' ⟨rfl, bx⟩
          exact hK.out _ _ ⟨true,true,b2,b3,b4,b5,b6,b7,b8,b9,b10,b11,b12,b13,b14,b15,b16,b17,b18,b19,b20,b21,b22,b23,b24,b25,b26,b27,.agg #[.int .i64 id,.slice uo cn uc],(.agg RA),x72,x73,x74,x75,x76,x77,x78,x79,x80,x81,x82,x83,x84,x85,x86,x87,x88,x89,x90,x91,x92,x93,x94,x95,x96,x8,(by go_simp),(by go_simp),hb.trans (bx.mono (Nat.le_trans hB0 hb.size)),rf,rf,cd2,cd3,cd4,cd5,cd6,cd7,cd8,cd9,cd10,cd11,cd12,cd13,cd14,cd15,cd16,cd17,cd18,cd19,cd20,cd21,cd22,cd23,cd24,cd25,cd26,cd27,(f_u.out.past bx),(f_b.out.past bx)⟩
        · have hf' : b2 = false := hf
          subst hf'
          clear hf hd
          have W_u := f_u.out
          have W_b := f_b.out
          try simp only [setIfInBounds_toArray, set_cons_zero, set_cons_succ]
          have z0 : w.cell? ⟨pu, 0, none⟩ = some (.int .i64 id) := W_u.c rfl
          have z1 : w.cell? ⟨pu, 1, none⟩ = some (.slice uo cn uc) := W_u.c rfl
          intro K hK
          rw [if_pos (by rfl)]
          go_simp
          exact hK.out _ _ ⟨b0,b1,true,b3,b4,b5,b6,b7,b8,b9,b10,b11,b12,b13,b14,b15,b16,b17,b18,b19,b20,b21,b22,b23,b24,b25,b26,b27,x70,x71,(.agg #[.int .i64 id,.slice uo cn uc]),x73,x74,x75,x76,x77,x78,x79,x80,x81,x82,x83,x84,x85,x86,x87,x88,x89,x90,x91,x92,x93,x94,x95,x96,x8,(by go_simp),(by go_simp),hb,cd0,cd1,rf,cd3,cd4,cd5,cd6,cd7,cd8,cd9,cd10,cd11,cd12,cd13,cd14,cd15,cd16,cd17,cd18,cd19,cd20,cd21,cd22,cd23,cd24,cd25,cd26,cd27,f_u,f_b⟩
        · have hf' : b3 = false := hf
          subst hf'
          have d2 : b2 = true := hd ⟨2, .data⟩ (by simp) rfl
          subst d2
          have d1 : b1 = true := hd ⟨1, .chain⟩ (by simp) rfl
          subst d1
          obtain rfl := cd2.out rfl
          obtain rfl := cd1.out rfl
          clear hf hd
          have W_u := f_u.out
          have W_b := f_b.out
          try simp only [setIfInBounds_toArray, set_cons_zero, set_cons_succ]
          intro K hK
          rw [if_pos (by rfl)]
          go_simp
          go_at_call 33
          refine (HRr _ hb).mono ?_
          rintro e w' ⟨rfl, bx⟩
          exact hK.out _ _ ⟨b0,true,true,true,b4,b5,b6,b7,b8,b9,b10,b11,b12,b13,b14,b15,b16,b17,b18,b19,b20,b21,b22,b23,b24,b25,b26,b27,x70,.agg RA,.agg #[.int .i64 id,.slice uo cn uc],(.agg RA),x74,x75,x76,x77,x78,x79,x80,x81,x82,x83,x84,x85,x86,x87,x88,x89,x90,x91,x92,x93,x94,x95,x96,x8,(by go_simp),(by go_simp),hb.trans (bx.mono (Nat.le_trans hB0 hb.size)),cd0,rf,rf,rf,cd4,cd5,cd6,cd7,cd8,cd9,cd10,cd11,cd12,cd13,cd14,cd15,cd16,cd17,cd18,cd19,cd20,cd21,cd22,cd23,cd24,cd25,cd26,cd27,(f_u.out.past bx),(f_b.out.past bx)⟩
        · have hf' : b4 = false := hf
          subst hf'
          have d1 : b1 = true := hd ⟨1, .data⟩ (by simp) rfl
          subst d1
          have d3 : b3 = true := hd ⟨3, .data⟩ (by simp) rfl
          subst d3
          obtain rfl := cd1.out rfl
          obtain rfl := cd3.out rfl
          clear hf hd
          have W_u := f_u.out
          have W_b := f_b.out
          try simp only [setIfInBounds_toArray, set_cons_zero, set_cons_succ]
          intro K hK
          rw [if_pos (by rfl)]
          go_simp
          exact hK.out _ _ ⟨b0,true,b2,true,true,b5,b6,b7,b8,b9,b10,b11,b12,b13,b14,b15,b16,b17,b18,b19,b20,b21,b22,b23,b24,b25,b26,b27,x70,.agg RA,x72,.agg RA,(.bool true),x75,x76,x77,x78,x79,x80,x81,x82,x83,x84,x85,x86,x87,x88,x89,x90,x91,x92,x93,x94,x95,x96,x8,(by go_simp),(by go_simp),hb,cd0,rf,cd2,rf,rf,cd5,cd6,cd7,cd8,cd9,cd10,cd11,cd12,cd13,cd14,cd15,cd16,cd17,cd18,cd19,cd20,cd21,cd22,cd23,cd24,cd25,cd26,cd27,f_u,f_b⟩
        · have hf' : b5 = false := hf
          subst hf'
          have d4 : b4 = true := hd ⟨4, .data⟩ (by simp) rfl
          subst d4
          have d3 : b3 = true := hd ⟨3, .chain⟩ (by simp) rfl
          subst d3
          obtain rfl := cd4.out rfl
          obtain rfl := cd3.out rfl
          clear hf hd
          have W_u := f_u.out
          have W_b := f_b.out
          try simp only [setIfInBounds_toArray, set_cons_zero, set_cons_succ]
          intro K hK
          rw [if_pos (by rfl)]
          go_simp
          exact hK.out _ _ ⟨b0,b1,b2,true,true,true,b6,b7,b8,b9,b10,b11,b12,b13,b14,b15,b16,b17,b18,b19,b20,b21,b22,b23,b24,b25,b26,b27,x70,x71,x72,.agg RA,.bool true,(.bool true),x76,x77,x78,x79,x80,x81,x82,x83,x84,x85,x86,x87,x88,x89,x90,x91,x92,x93,x94,x95,x96,x8,(by go_simp),(by go_simp),hb,cd0,cd1,cd2,rf,rf,rf,cd6,cd7,cd8,cd9,cd10,cd11,cd12,cd13,cd14,cd15,cd16,cd17,cd18,cd19,cd20,cd21,cd22,cd23,cd24,cd25,cd26,cd27,f_u,f_b⟩
        · have hf' : b6 = false := hf
          subst hf'
          have d5 : b5 = true := hd ⟨5, .guard⟩ (by simp) rfl
          subst d5
          obtain rfl := cd5.out rfl
          clear hf hd
          have W_u := f_u.out
          have W_b := f_b.out
          try simp only [setIfInBounds_toArray, set_cons_zero, set_cons_succ]
          have z0 : w.cell? ⟨pu, 0, none⟩ = some (.int .i64 id) := W_u.c rfl
          have z1 : w.cell? ⟨pu, 1, none⟩ = some (.slice uo cn uc) := W_u.c rfl
          intro K hK
          rw [if_pos (by rfl)]
          go_simp
          exact hK.out _ _ ⟨b0,b1,b2,b3,b4,true,true,b7,b8,b9,b10,b11,b12,b13,b14,b15,b16,b17,b18,b19,b20,b21,b22,b23,b24,b25,b26,b27,x70,x71,x72,x73,x74,.bool true,(.agg #[.int .i64 id,.slice uo cn uc]),x77,x78,x79,x80,x81,x82,x83,x84,x85,x86,x87,x88,x89,x90,x91,x92,x93,x94,x95,x96,x8,(by go_simp),(by go_simp),hb,cd0,cd1,cd2,cd3,cd4,rf,rf,cd7,cd8,cd9,cd10,cd11,cd12,cd13,cd14,cd15,cd16,cd17,cd18,cd19,cd20,cd21,cd22,cd23,cd24,cd25,cd26,cd27,f_u,f_b⟩
        · have hf' : b7 = false := hf
          subst hf'
          have d6 : b6 = true := hd ⟨6, .data⟩ (by simp) rfl
          subst d6
          have d5 : b5 = true := hd ⟨5, .chain⟩ (by simp) rfl
          subst d5
          obtain rfl := cd6.out rfl
          obtain rfl := cd5.out rfl
          clear hf hd
          have W_u := f_u.out
          have W_b := f_b.out
          try simp only [setIfInBounds_toArray, set_cons_zero, set_cons_succ]
          intro K hK
          rw [if_pos (by rfl)]
          go_simp
          go_at_call 34
          refine (HEw _ hb).mono ?_
          rintro e w' ⟨rfl, bx⟩
          exact hK.out _ _ ⟨b0,b1,b2,b3,b4,true,true,true,b8,b9,b10,b11,b12,b13,b14,b15,b16,b17,b18,b19,b20,b21,b22,b23,b24,b25,b26,b27,x70,x71,x72,x73,x74,.bool true,.agg #[.int .i64 id,.slice uo cn uc],(.agg EA),x78,x79,x80,x81,x82,x83,x84,x85,x86,x87,x88,x89,x90,x91,x92,x93,x94,x95,x96,x8,(by go_simp),(by go_simp),hb.trans (bx.mono (Nat.le_trans hB0 hb.size)),cd0,cd1,cd2,cd3,cd4,rf,rf,rf,cd8,cd9,cd10,cd11,cd12,cd13,cd14,cd15,cd16,cd17,cd18,cd19,cd20,cd21,cd22,cd23,cd24,cd25,cd26,cd27,(f_u.out.past bx),(f_b.out.past bx)⟩
        · have hf' : b8 = false := hf
          subst hf'
          have d5 : b5 = true := hd ⟨5, .guard⟩ (by simp) rfl
          subst d5
          obtain rfl := cd5.out rfl
          clear hf hd
          have W_u := f_u.out
          have W_b := f_b.out
          try simp only [setIfInBounds_toArray, set_cons_zero, set_cons_succ]
          have z0 : w.cell? ⟨pu, 0, none⟩ = some (.int .i64 id) := W_u.c rfl
          have z1 : w.cell? ⟨pu, 1, none⟩ = some (.slice uo cn uc) := W_u.c rfl
          intro K hK
          rw [if_pos (by rfl)]
          go_simp
          exact hK.out _ _ ⟨b0,b1,b2,b3,b4,true,b6,b7,true,b9,b10,b11,b12,b13,b14,b15,b16,b17,b18,b19,b20,b21,b22,b23,b24,b25,b26,b27,x70,x71,x72,x73,x74,.bool true,x76,x77,(.agg #[.int .i64 id,.slice uo cn uc]),x79,x80,x81,x82,x83,x84,x85,x86,x87,x88,x89,x90,x91,x92,x93,x94,x95,x96,x8,(by go_simp),(by go_simp),hb,cd0,cd1,cd2,cd3,cd4,rf,cd6,cd7,rf,cd9,cd10,cd11,cd12,cd13,cd14,cd15,cd16,cd17,cd18,cd19,cd20,cd21,cd22,cd23,cd24,cd25,cd26,cd27,f_u,f_b⟩
        · have hf' : b9 = false := hf
          subst hf'
          have d8 : b8 = true := hd ⟨8, .data⟩ (by simp) rfl
          subst d8
          have d7 : b7 = true := hd ⟨7, .chain⟩ (by simp) rfl
          subst d7
          have d5 : b5 = true := hd ⟨5, .guard⟩ (by simp) rfl
          subst d5
          obtain rfl := cd8.out rfl
          obtain rfl := cd7.out rfl
          obtain rfl := cd5.out rfl
          clear hf hd
          have W_u := f_u.out
          have W_b := f_b.out
          try simp only [setIfInBounds_toArray, set_cons_zero, set_cons_succ]
          intro K hK
          rw [if_pos (by rfl)]
          go_simp
          go_at_call 35
          refine (HEr _ hb).mono ?_
          rintro e w' ⟨rfl, bx⟩
          exact hK.out _ _ ⟨b0,b1,b2,b3,b4,true,b6,true,true,true,b10,b11,b12,b13,b14,b15,b16,b17,b18,b19,b20,b21,b22,b23,b24,b25,b26,b27,x70,x71,x72,x73,x74,.bool true,x76,.agg EA,.agg #[.int .i64 id,.slice uo cn uc],(.agg EA),x80,x81,x82,x83,x84,x85,x86,x87,x88,x89,x90,x91,x92,x93,x94,x95,x96,x8,(by go_simp),(by go_simp),hb.trans (bx.mono (Nat.le_trans hB0 hb.size)),cd0,cd1,cd2,cd3,cd4,rf,cd6,rf,rf,rf,cd10,cd11,cd12,cd13,cd14,cd15,cd16,cd17,cd18,cd19,cd20,cd21,cd22,cd23,cd24,cd25,cd26,cd27,(f_u.out.past bx),(f_b.out.past bx)⟩
        · have hf' : b10 = false := hf
          subst hf'
          have d7 : b7 = true := hd ⟨7, .data⟩ (by simp) rfl
          subst d7
          have d9 : b9 = true := hd ⟨9, .data⟩ (by simp) rfl
          subst d9
          have d5 : b5 = true := hd ⟨5, .guard⟩ (by simp) rfl
          subst d5
          obtain rfl := cd7.out rfl
          obtain rfl := cd9.out rfl
          obtain rfl := cd5.out rfl
          clear hf hd
          have W_u := f_u.out
          have W_b := f_b.out
          try simp only [setIfInBounds_toArray, set_cons_zero, set_cons_succ]
          intro K hK
          rw [if_pos (by rfl)]
          go_simp
          exact hK.out _ _ ⟨b0,b1,b2,b3,b4,true,b6,true,b8,true,true,b11,b12,b13,b14,b15,b16,b17,b18,b19,b20,b21,b22,b23,b24,b25,b26,b27,x70,x71,x72,x73,x74,.bool true,x76,.agg EA,x78,.agg EA,(.bool true),x81,x82,x83,x84,x85,x86,x87,x88,x89,x90,x91,x92,x93,x94,x95,x96,x8,(by go_simp),(by go_simp),hb,cd0,cd1,cd2,cd3,cd4,rf,cd6,rf,cd8,rf,rf,cd11,cd12,cd13,cd14,cd15,cd16,cd17,cd18,cd19,cd20,cd21,cd22,cd23,cd24,cd25,cd26,cd27,f_u,f_b⟩
        · have hf' : b11 = false := hf
          subst hf'
          have d5 : b5 = true := hd ⟨5, .data⟩ (by simp) rfl
          subst d5
          have d10 : b10 = true := hd ⟨10, .data⟩ (by simp) rfl
          subst d10
          obtain rfl := cd5.out rfl
          obtain rfl := cd10.out rfl
          clear hf hd
          have W_u := f_u.out
          have W_b := f_b.out
          try simp only [setIfInBounds_toArray, set_cons_zero, set_cons_succ]
          intro K hK
          rw [if_pos (by rfl)]
          go_simp
          exact hK.out _ _ ⟨b0,b1,b2,b3,b4,true,b6,b7,b8,b9,true,true,b12,b13,b14,b15,b16,b17,b18,b19,b20,b21,b22,b23,b24,b25,b26,b27,x70,x71,x72,x73,x74,.bool true,x76,x77,x78,x79,.bool true,(.bool true),x82,x83,x84,x85,x86,x87,x88,x89,x90,x91,x92,x93,x94,x95,x96,x8,(by go_simp),(by go_simp),hb,cd0,cd1,cd2,cd3,cd4,rf,cd6,cd7,cd8,cd9,rf,rf,cd12,cd13,cd14,cd15,cd16,cd17,cd18,cd19,cd20,cd21,cd22,cd23,cd24,cd25,cd26,cd27,f_u,f_b⟩
        · have hf' : b12 = false := hf
          subst hf'
          have d11 : b11 = true := hd ⟨11, .data⟩ (by simp) rfl
          subst d11
          have d9 : b9 = true := hd ⟨9, .chain⟩ (by simp) rfl
          subst d9
          obtain rfl := cd11.out rfl
          obtain rfl := cd9.out rfl
          clear hf hd
          have W_u := f_u.out
          have W_b := f_b.out
          try simp only [setIfInBounds_toArray, set_cons_zero, set_cons_succ]
          intro K hK
          rw [if_pos (by rfl)]
          go_simp
          exact hK.out _ _ ⟨b0,b1,b2,b3,b4,b5,b6,b7,b8,true,b10,true,true,b13,b14,b15,b16,b17,b18,b19,b20,b21,b22,b23,b24,b25,b26,b27,x70,x71,x72,x73,x74,x75,x76,x77,x78,.agg EA,x80,.bool true,(.bool true),x83,x84,x85,x86,x87,x88,x89,x90,x91,x92,x93,x94,x95,x96,x8,(by go_simp),(by go_simp),hb,cd0,cd1,cd2,cd3,cd4,cd5,cd6,cd7,cd8,rf,cd10,rf,rf,cd13,cd14,cd15,cd16,cd17,cd18,cd19,cd20,cd21,cd22,cd23,cd24,cd25,cd26,cd27,f_u,f_b⟩
        · have hf' : b13 = false := hf
          subst hf'
          have d12 : b12 = true := hd ⟨12, .guard⟩ (by simp) rfl
          subst d12
          obtain rfl := cd12.out rfl
          clear hf hd
          have W_u := f_u.out
          have W_b := f_b.out
          try simp only [setIfInBounds_toArray, set_cons_zero, set_cons_succ]
          intro K hK
          rw [if_pos (by rfl)]
          refine wp_load_cells 64 _ rfl ⟨pb,0,none⟩ rfl BA.toList (fun j v hv => by rw [Addr.add_lit,Nat.zero_add]; exact W_b.c (by simpa using hv)) dig_agg (by rw [blk_size,HBS.out]) ?_
          simp only [Array.toArray_toList]
          exact hK.out _ _ ⟨b0,b1,b2,b3,b4,b5,b6,b7,b8,b9,b10,b11,true,true,b14,b15,b16,b17,b18,b19,b20,b21,b22,b23,b24,b25,b26,b27,x70,x71,x72,x73,x74,x75,x76,x77,x78,x79,x80,x81,.bool true,(.agg BA),x84,x85,x86,x87,x88,x89,x90,x91,x92,x93,x94,x95,x96,x8,(by go_simp),(by go_simp),hb,cd0,cd1,cd2,cd3,cd4,cd5,cd6,cd7,cd8,cd9,cd10,cd11,rf,rf,cd14,cd15,cd16,cd17,cd18,cd19,cd20,cd21,cd22,cd23,cd24,cd25,cd26,cd27,f_u,f_b⟩
        · have hf' : b14 = false := hf
          subst hf'
          have d13 : b13 = true := hd ⟨13, .data⟩ (by simp) rfl
          subst d13
          have d12 : b12 = true := hd ⟨12, .chain⟩ (by simp) rfl
          subst d12
          obtain rfl := cd13.out rfl
          obtain rfl := cd12.out rfl
          clear hf hd
          have W_u := f_u.out
          have W_b := f_b.out
          try simp only [setIfInBounds_toArray, set_cons_zero, set_cons_succ]
          intro K hK
          rw [if_pos (by rfl)]
          go_simp
          go_at_call 36
          refine (HHw _ hb).mono ?_
          rintro e w' ⟨rfl, bx⟩
          exact hK.out _ _ ⟨b0,b1,b2,b3,b4,b5,b6,b7,b8,b9,b10,b11,true,true,true,b15,b16,b17,b18,b19,b20,b21,b22,b23,b24,b25,b26,b27,x70,x71,x72,x73,x74,x75,x76,x77,x78,x79,x80,x81,.bool true,.agg BA,(.agg HA),x85,x86,x87,x88,x89,x90,x91,x92,x93,x94,x95,x96,x8,(by go_simp),(by go_simp),hb.trans (bx.mono (Nat.le_trans hB0 hb.size)),cd0,cd1,cd2,cd3,cd4,cd5,cd6,cd7,cd8,cd9,cd10,cd11,rf,rf,rf,cd15,cd16,cd17,cd18,cd19,cd20,cd21,cd22,cd23,cd24,cd25,cd26,cd27,(f_u.out.past bx),(f_b.out.past bx)⟩
        · have hf' : b15 = false := hf
          subst hf'
          have d12 : b12 = true := hd ⟨12, .guard⟩ (by simp) rfl
          subst d12
          obtain rfl := cd12.out rfl
          clear hf hd
          have W_u := f_u.out
          have W_b := f_b.out
          try simp only [setIfInBounds_toArray, set_cons_zero, set_cons_succ]
          intro K hK
          rw [if_pos (by rfl)]
          go_simp
          exact hK.out _ _ ⟨b0,b1,b2,b3,b4,b5,b6,b7,b8,b9,b10,b11,true,b13,b14,true,b16,b17,b18,b19,b20,b21,b22,b23,b24,b25,b26,b27,x70,x71,x72,x73,x74,x75,x76,x77,x78,x79,x80,x81,.bool true,x83,x84,(.pointer (some ⟨pb,0,none⟩)),x86,x87,x88,x89,x90,x91,x92,x93,x94,x95,x96,x8,(by go_simp),(by go_simp),hb,cd0,cd1,cd2,cd3,cd4,cd5,cd6,cd7,cd8,cd9,cd10,cd11,rf,cd13,cd14,rf,cd16,cd17,cd18,cd19,cd20,cd21,cd22,cd23,cd24,cd25,cd26,cd27,f_u,f_b⟩
        · have hf' : b16 = false := hf
          subst hf'
          have d15 : b15 = true := hd ⟨15, .data⟩ (by simp) rfl
          subst d15
          have d12 : b12 = true := hd ⟨12, .guard⟩ (by simp) rfl
          subst d12
          obtain rfl := cd15.out rfl
          obtain rfl := cd12.out rfl
          clear hf hd
          have W_u := f_u.out
          have W_b := f_b.out
          try simp only [setIfInBounds_toArray, set_cons_zero, set_cons_succ]
          have z0 := W_b.c HC0.out
          intro K hK
          rw [if_pos (by rfl)]
          go_simp
          exact hK.out _ _ ⟨b0,b1,b2,b3,b4,b5,b6,b7,b8,b9,b10,b11,true,b13,b14,true,true,b17,b18,b19,b20,b21,b22,b23,b24,b25,b26,b27,x70,x71,x72,x73,x74,x75,x76,x77,x78,x79,x80,x81,.bool true,x83,x84,.pointer (some ⟨pb,0,none⟩),(.int .i64 bn),x87,x88,x89,x90,x91,x92,x93,x94,x95,x96,x8,(by go_simp),(by go_simp),hb,cd0,cd1,cd2,cd3,cd4,cd5,cd6,cd7,cd8,cd9,cd10,cd11,rf,cd13,cd14,rf,rf,cd17,cd18,cd19,cd20,cd21,cd22,cd23,cd24,cd25,cd26,cd27,f_u,f_b⟩
        · have hf' : b17 = false := hf
          subst hf'
          have d12 : b12 = true := hd ⟨12, .guard⟩ (by simp) rfl
          subst d12
          obtain rfl := cd12.out rfl
          clear hf hd
          have W_u := f_u.out
          have W_b := f_b.out
          try simp only [setIfInBounds_toArray, set_cons_zero, set_cons_succ]
          intro K hK
          rw [if_pos (by rfl)]
          go_simp
          exact hK.out _ _ ⟨b0,b1,b2,b3,b4,b5,b6,b7,b8,b9,b10,b11,true,b13,b14,b15,b16,true,b18,b19,b20,b21,b22,b23,b24,b25,b26,b27,x70,x71,x72,x73,x74,x75,x76,x77,x78,x79,x80,x81,.bool true,x83,x84,x85,x86,(.pointer (some ⟨pb,1,none⟩)),x88,x89,x90,x91,x92,x93,x94,x95,x96,x8,(by go_simp),(by go_simp),hb,cd0,cd1,cd2,cd3,cd4,cd5,cd6,cd7,cd8,cd9,cd10,cd11,rf,cd13,cd14,cd15,cd16,rf,cd18,cd19,cd20,cd21,cd22,cd23,cd24,cd25,cd26,cd27,f_u,f_b⟩
        · have hf' : b18 = false := hf
          subst hf'
          have d17 : b17 = true := hd ⟨17, .data⟩ (by simp) rfl
          subst d17
          have d12 : b12 = true := hd ⟨12, .guard⟩ (by simp) rfl
          subst d12
          obtain rfl := cd17.out rfl
          obtain rfl := cd12.out rfl
          clear hf hd
          have W_u := f_u.out
          have W_b := f_b.out
          try simp only [setIfInBounds_toArray, set_cons_zero, set_cons_succ]
          intro K hK
          rw [if_pos (by rfl)]
          refine wp_load_cells 53 _ rfl ⟨pb, 1, none⟩ rfl (bcs lp) (fun j v hv => by
           simp only [bcs, List.getElem?_map, Option.map_eq_some_iff] at hv
           obtain ⟨y, hy, rfl⟩ := hv
           exact (HB1.out _ W_b).cell _ rfl j y hy) hash_agg (by rw [sizeHash, HL1.out]) ?_
          exact hK.out _ _ ⟨b0,b1,b2,b3,b4,b5,b6,b7,b8,b9,b10,b11,true,b13,b14,b15,b16,true,true,b19,b20,b21,b22,b23,b24,b25,b26,b27,x70,x71,x72,x73,x74,x75,x76,x77,x78,x79,x80,x81,.bool true,x83,x84,x85,x86,.pointer (some ⟨pb,1,none⟩),(.agg (bcs lp).toArray),x89,x90,x91,x92,x93,x94,x95,x96,x8,(by go_simp),(by go_simp),hb,cd0,cd1,cd2,cd3,cd4,cd5,cd6,cd7,cd8,cd9,cd10,cd11,rf,cd13,cd14,cd15,cd16,rf,rf,cd19,cd20,cd21,cd22,cd23,cd24,cd25,cd26,cd27,f_u,f_b⟩
        · have hf' : b19 = false := hf
          subst hf'
          have d12 : b12 = true := hd ⟨12, .guard⟩ (by simp) rfl
          subst d12
          obtain rfl := cd12.out rfl
          clear hf hd
          have W_u := f_u.out
          have W_b := f_b.out
          try simp only [setIfInBounds_toArray, set_cons_zero, set_cons_succ]
          intro K hK
          rw [if_pos (by rfl)]
          go_simp
          exact hK.out _ _ ⟨b0,b1,b2,b3,b4,b5,b6,b7,b8,b9,b10,b11,true,b13,b14,b15,b16,b17,b18,true,b20,b21,b22,b23,b24,b25,b26,b27,x70,x71,x72,x73,x74,x75,x76,x77,x78,x79,x80,x81,.bool true,x83,x84,x85,x86,x87,x88,(.pointer (some ⟨pb,33,none⟩)),x90,x91,x92,x93,x94,x95,x96,x8,(by go_simp),(by go_simp),hb,cd0,cd1,cd2,cd3,cd4,cd5,cd6,cd7,cd8,cd9,cd10,cd11,rf,cd13,cd14,cd15,cd16,cd17,cd18,rf,cd20,cd21,cd22,cd23,cd24,cd25,cd26,cd27,f_u,f_b⟩
        · have hf' : b20 = false := hf
          subst hf'
          have d19 : b19 = true := hd ⟨19, .data⟩ (by simp) rfl
          subst d19
          have d12 : b12 = true := hd ⟨12, .guard⟩ (by simp) rfl
          subst d12
          obtain rfl := cd19.out rfl
          obtain rfl := cd12.out rfl
          clear hf hd
          have W_u := f_u.out
          have W_b := f_b.out
          try simp only [setIfInBounds_toArray, set_cons_zero, set_cons_succ]
          intro K hK
          rw [if_pos (by rfl)]
          refine wp_load_cells 53 _ rfl ⟨pb, 33, none⟩ rfl (bcs lr) (fun j v hv => by
           simp only [bcs, List.getElem?_map, Option.map_eq_some_iff] at hv
           obtain ⟨y, hy, rfl⟩ := hv
           exact (HB33.out _ W_b).cell _ rfl j y hy) hash_agg (by rw [sizeHash, HL33.out]) ?_
          exact hK.out _ _ ⟨b0,b1,b2,b3,b4,b5,b6,b7,b8,b9,b10,b11,true,b13,b14,b15,b16,b17,b18,true,true,b21,b22,b23,b24,b25,b26,b27,x70,x71,x72,x73,x74,x75,x76,x77,x78,x79,x80,x81,.bool true,x83,x84,x85,x86,x87,x88,.pointer (some ⟨pb,33,none⟩),(.agg (bcs lr).toArray),x91,x92,x93,x94,x95,x96,x8,(by go_simp),(by go_simp),hb,cd0,cd1,cd2,cd3,cd4,cd5,cd6,cd7,cd8,cd9,cd10,cd11,rf,cd13,cd14,cd15,cd16,cd17,cd18,rf,rf,cd21,cd22,cd23,cd24,cd25,cd26,cd27,f_u,f_b⟩
        · have hf' : b21 = false := hf
          subst hf'
          have d12 : b12 = true := hd ⟨12, .guard⟩ (by simp) rfl
          subst d12
          obtain rfl := cd12.out rfl
          clear hf hd
          have W_u := f_u.out
          have W_b := f_b.out
          try simp only [setIfInBounds_toArray, set_cons_zero, set_cons_succ]
          intro K hK
          rw [if_pos (by rfl)]
          go_simp
          exact hK.out _ _ ⟨b0,b1,b2,b3,b4,b5,b6,b7,b8,b9,b10,b11,true,b13,b14,b15,b16,b17,b18,b19,b20,true,b22,b23,b24,b25,b26,b27,x70,x71,x72,x73,x74,x75,x76,x77,x78,x79,x80,x81,.bool true,x83,x84,x85,x86,x87,x88,x89,x90,(.pointer (some ⟨pb,65,none⟩)),x92,x93,x94,x95,x96,x8,(by go_simp),(by go_simp),hb,cd0,cd1,cd2,cd3,cd4,cd5,cd6,cd7,cd8,cd9,cd10,cd11,rf,cd13,cd14,cd15,cd16,cd17,cd18,cd19,cd20,rf,cd22,cd23,cd24,cd25,cd26,cd27,f_u,f_b⟩
        · have hf' : b22 = false := hf
          subst hf'
          have d21 : b21 = true := hd ⟨21, .data⟩ (by simp) rfl
          subst d21
          have d12 : b12 = true := hd ⟨12, .guard⟩ (by simp) rfl
          subst d12
          obtain rfl := cd21.out rfl
          obtain rfl := cd12.out rfl
          clear hf hd
          have W_u := f_u.out
          have W_b := f_b.out
          try simp only [setIfInBounds_toArray, set_cons_zero, set_cons_succ]
          have z0 := W_b.c HC65.out
          intro K hK
          rw [if_pos (by rfl)]
          go_simp
          exact hK.out _ _ ⟨b0,b1,b2,b3,b4,b5,b6,b7,b8,b9,b10,b11,true,b13,b14,b15,b16,b17,b18,b19,b20,true,true,b23,b24,b25,b26,b27,x70,x71,x72,x73,x74,x75,x76,x77,x78,x79,x80,x81,.bool true,x83,x84,x85,x86,x87,x88,x89,x90,.pointer (some ⟨pb,65,none⟩),(.int .i64 ct),x93,x94,x95,x96,x8,(by go_simp),(by go_simp),hb,cd0,cd1,cd2,cd3,cd4,cd5,cd6,cd7,cd8,cd9,cd10,cd11,rf,cd13,cd14,cd15,cd16,cd17,cd18,cd19,cd20,rf,rf,cd23,cd24,cd25,cd26,cd27,f_u,f_b⟩
        · have hf' : b23 = false := hf
          subst hf'
          have d16 : b16 = true := hd ⟨16, .data⟩ (by simp) rfl
          subst d16
          have d18 : b18 = true := hd ⟨18, .data⟩ (by simp) rfl
          subst d18
          have d20 : b20 = true := hd ⟨20, .data⟩ (by simp) rfl
          subst d20
          have d22 : b22 = true := hd ⟨22, .data⟩ (by simp) rfl
          subst d22
          have d12 : b12 = true := hd ⟨12, .guard⟩ (by simp) rfl
          subst d12
          obtain rfl := cd16.out rfl
          obtain rfl := cd18.out rfl
          obtain rfl := cd20.out rfl
          obtain rfl := cd22.out rfl
          obtain rfl := cd12.out rfl
          clear hf hd
          have W_u := f_u.out
          have W_b := f_b.out
          try simp only [setIfInBounds_toArray, set_cons_zero, set_cons_succ]
          intro K hK
          rw [if_pos (by rfl)]
          refine wp_build_at 73 _ rfl BA (by simp only [List.map_toArray, List.map_cons, List.map_nil]; exact HBB.out) ?_
          exact hK.out _ _ ⟨b0,b1,b2,b3,b4,b5,b6,b7,b8,b9,b10,b11,true,b13,b14,b15,true,b17,true,b19,true,b21,true,true,b24,b25,b26,b27,x70,x71,x72,x73,x74,x75,x76,x77,x78,x79,x80,x81,.bool true,x83,x84,x85,.int .i64 bn,x87,.agg (bcs lp).toArray,x89,.agg (bcs lr).toArray,x91,.int .i64 ct,(.agg BA),x94,x95,x96,x8,(by go_simp),(by go_simp),hb,cd0,cd1,cd2,cd3,cd4,cd5,cd6,cd7,cd8,cd9,cd10,cd11,rf,cd13,cd14,cd15,rf,cd17,rf,cd19,rf,cd21,rf,rf,cd24,cd25,cd26,cd27,f_u,f_b⟩
        · have hf' : b24 = false := hf
          subst hf'
          have d23 : b23 = true := hd ⟨23, .data⟩ (by simp) rfl
          subst d23
          have d14 : b14 = true := hd ⟨14, .chain⟩ (by simp) rfl
          subst d14
          have d12 : b12 = true := hd ⟨12, .guard⟩ (by simp) rfl
          subst d12
          obtain rfl := cd23.out rfl
          obtain rfl := cd14.out rfl
          obtain rfl := cd12.out rfl
          clear hf hd
          have W_u := f_u.out
          have W_b := f_b.out
          try simp only [setIfInBounds_toArray, set_cons_zero, set_cons_succ]
          intro K hK
          rw [if_pos (by rfl)]
          go_simp
          go_at_call 37
          refine (HHr _ hb).mono ?_
          rintro e w' ⟨rfl, bx⟩
          exact hK.out _ _ ⟨b0,b1,b2,b3,b4,b5,b6,b7,b8,b9,b10,b11,true,b13,true,b15,b16,b17,b18,b19,b20,b21,b22,true,true,b25,b26,b27,x70,x71,x72,x73,x74,x75,x76,x77,x78,x79,x80,x81,.bool true,x83,.agg HA,x85,x86,x87,x88,x89,x90,x91,x92,.agg BA,(.agg HA),x95,x96,x8,(by go_simp),(by go_simp),hb.trans (bx.mono (Nat.le_trans hB0 hb.size)),cd0,cd1,cd2,cd3,cd4,cd5,cd6,cd7,cd8,cd9,cd10,cd11,rf,cd13,rf,cd15,cd16,cd17,cd18,cd19,cd20,cd21,cd22,rf,rf,cd25,cd26,cd27,(f_u.out.past bx),(f_b.out.past bx)⟩
        · have hf' : b25 = false := hf
          subst hf'
          have d14 : b14 = true := hd ⟨14, .data⟩ (by simp) rfl
          subst d14
          have d24 : b24 = true := hd ⟨24, .data⟩ (by simp) rfl
          subst d24
          have d12 : b12 = true := hd ⟨12, .guard⟩ (by simp) rfl
          subst d12
          obtain rfl := cd14.out rfl
          obtain rfl := cd24.out rfl
          obtain rfl := cd12.out rfl
          clear hf hd
          have W_u := f_u.out
          have W_b := f_b.out
          try simp only [setIfInBounds_toArray, set_cons_zero, set_cons_succ]
          intro K hK
          rw [if_pos (by rfl)]
          go_simp
          exact hK.out _ _ ⟨b0,b1,b2,b3,b4,b5,b6,b7,b8,b9,b10,b11,true,b13,true,b15,b16,b17,b18,b19,b20,b21,b22,b23,true,true,b26,b27,x70,x71,x72,x73,x74,x75,x76,x77,x78,x79,x80,x81,.bool true,x83,.agg HA,x85,x86,x87,x88,x89,x90,x91,x92,x93,.agg HA,(.bool true),x96,x8,(by go_simp),(by go_simp),hb,cd0,cd1,cd2,cd3,cd4,cd5,cd6,cd7,cd8,cd9,cd10,cd11,rf,cd13,rf,cd15,cd16,cd17,cd18,cd19,cd20,cd21,cd22,cd23,rf,rf,cd26,cd27,f_u,f_b⟩
        · have hf' : b26 = false := hf
          subst hf'
          have d12 : b12 = true := hd ⟨12, .data⟩ (by simp) rfl
          subst d12
          have d25 : b25 = true := hd ⟨25, .data⟩ (by simp) rfl
          subst d25
          obtain rfl := cd12.out rfl
          obtain rfl := cd25.out rfl
          clear hf hd
          have W_u := f_u.out
          have W_b := f_b.out
          try simp only [setIfInBounds_toArray, set_cons_zero, set_cons_succ]
          intro K hK
          rw [if_pos (by rfl)]
          go_simp
          exact hK.out _ _ ⟨b0,b1,b2,b3,b4,b5,b6,b7,b8,b9,b10,b11,true,b13,b14,b15,b16,b17,b18,b19,b20,b21,b22,b23,b24,true,true,b27,x70,x71,x72,x73,x74,x75,x76,x77,x78,x79,x80,x81,.bool true,x83,x84,x85,x86,x87,x88,x89,x90,x91,x92,x93,x94,.bool true,(.bool true),x8,(by go_simp),(by go_simp),hb,cd0,cd1,cd2,cd3,cd4,cd5,cd6,cd7,cd8,cd9,cd10,cd11,rf,cd13,cd14,cd15,cd16,cd17,cd18,cd19,cd20,cd21,cd22,cd23,cd24,rf,rf,cd27,f_u,f_b⟩
        · have hf' : b27 = false := hf
          subst hf'
          have d26 : b26 = true := hd ⟨26, .data⟩ (by simp) rfl
          subst d26
          have d24 : b24 = true := hd ⟨24, .chain⟩ (by simp) rfl
          subst d24
          have d0 : b0 = true := hd ⟨0, .phase⟩ (by simp) rfl
          subst d0
          have d1 : b1 = true := hd ⟨1, .phase⟩ (by simp) rfl
          subst d1
          have d2 : b2 = true := hd ⟨2, .phase⟩ (by simp) rfl
          subst d2
          have d3 : b3 = true := hd ⟨3, .phase⟩ (by simp) rfl
          subst d3
          have d4 : b4 = true := hd ⟨4, .phase⟩ (by simp) rfl
          subst d4
          have d5 : b5 = true := hd ⟨5, .phase⟩ (by simp) rfl
          subst d5
          have d6 : b6 = true := hd ⟨6, .phase⟩ (by simp) rfl
          subst d6
          have d7 : b7 = true := hd ⟨7, .phase⟩ (by simp) rfl
          subst d7
          have d8 : b8 = true := hd ⟨8, .phase⟩ (by simp) rfl
          subst d8
          have d9 : b9 = true := hd ⟨9, .phase⟩ (by simp) rfl
          subst d9
          have d10 : b10 = true := hd ⟨10, .phase⟩ (by simp) rfl
          subst d10
          have d11 : b11 = true := hd ⟨11, .phase⟩ (by simp) rfl
          subst d11
          have d12 : b12 = true := hd ⟨12, .phase⟩ (by simp) rfl
          subst d12
          have d13 : b13 = true := hd ⟨13, .phase⟩ (by simp) rfl
          subst d13
          have d14 : b14 = true := hd ⟨14, .phase⟩ (by simp) rfl
          subst d14
          have d15 : b15 = true := hd ⟨15, .phase⟩ (by simp) rfl
          subst d15
          have d16 : b16 = true := hd ⟨16, .phase⟩ (by simp) rfl
          subst d16
          have d17 : b17 = true := hd ⟨17, .phase⟩ (by simp) rfl
          subst d17
          have d18 : b18 = true := hd ⟨18, .phase⟩ (by simp) rfl
          subst d18
          have d19 : b19 = true := hd ⟨19, .phase⟩ (by simp) rfl
          subst d19
          have d20 : b20 = true := hd ⟨20, .phase⟩ (by simp) rfl
          subst d20
          have d21 : b21 = true := hd ⟨21, .phase⟩ (by simp) rfl
          subst d21
          have d22 : b22 = true := hd ⟨22, .phase⟩ (by simp) rfl
          subst d22
          have d23 : b23 = true := hd ⟨23, .phase⟩ (by simp) rfl
          subst d23
          have d25 : b25 = true := hd ⟨25, .phase⟩ (by simp) rfl
          subst d25
          obtain rfl := cd26.out rfl
          obtain rfl := cd24.out rfl
          obtain rfl := cd0.out rfl
          obtain rfl := cd1.out rfl
          obtain rfl := cd2.out rfl
          obtain rfl := cd3.out rfl
          obtain rfl := cd4.out rfl
          obtain rfl := cd5.out rfl
          obtain rfl := cd6.out rfl
          obtain rfl := cd7.out rfl
          obtain rfl := cd8.out rfl
          obtain rfl := cd9.out rfl
          obtain rfl := cd10.out rfl
          obtain rfl := cd11.out rfl
          obtain rfl := cd12.out rfl
          obtain rfl := cd13.out rfl
          obtain rfl := cd14.out rfl
          obtain rfl := cd15.out rfl
          obtain rfl := cd16.out rfl
          obtain rfl := cd17.out rfl
          obtain rfl := cd18.out rfl
          obtain rfl := cd19.out rfl
          obtain rfl := cd20.out rfl
          obtain rfl := cd21.out rfl
          obtain rfl := cd22.out rfl
          obtain rfl := cd23.out rfl
          obtain rfl := cd25.out rfl
          clear hf hd
          have W_u := f_u.out
          have W_b := f_b.out
          try simp only [setIfInBounds_toArray, set_cons_zero, set_cons_succ]
          intro K hK
          rw [if_pos (by rfl)]
          go_simp
          exact hK.out _ _ ⟨true,true,true,true,true,true,true,true,true,true,true,true,true,true,true,true,true,true,true,true,true,true,true,true,true,true,true,true,.agg #[.int .i64 id,.slice uo cn uc],.agg RA,.agg #[.int .i64 id,.slice uo cn uc],.agg RA,.bool true,.bool true,.agg #[.int .i64 id,.slice uo cn uc],.agg EA,.agg #[.int .i64 id,.slice uo cn uc],.agg EA,.bool true,.bool true,.bool true,.agg BA,.agg HA,.pointer (some ⟨pb,0,none⟩),.int .i64 bn,.pointer (some ⟨pb,1,none⟩),.agg (bcs lp).toArray,.pointer (some ⟨pb,33,none⟩),.agg (bcs lr).toArray,.pointer (some ⟨pb,65,none⟩),.int .i64 ct,.agg BA,.agg HA,.bool true,.bool true,(.bool true),(by go_simp),(by go_simp),hb,rf,rf,rf,rf,rf,rf,rf,rf,rf,rf,rf,rf,rf,rf,rf,rf,rf,rf,rf,rf,rf,rf,rf,rf,rf,rf,rf,rf,f_u,f_b⟩
      · rintro act V ⟨b0,b1,b2,b3,b4,b5,b6,b7,b8,b9,b10,b11,b12,b13,b14,b15,b16,b17,b18,b19,b20,b21,b22,b23,b24,b25,b26,b27,x70,x71,x72,x73,x74,x75,x76,x77,x78,x79,x80,x81,x82,x83,x84,x85,x86,x87,x88,x89,x90,x91,x92,x93,x94,x95,x96,x8,hL,rfl,hb,cd0,cd1,cd2,cd3,cd4,cd5,cd6,cd7,cd8,cd9,cd10,cd11,cd12,cd13,cd14,cd15,cd16,cd17,cd18,cd19,cd20,cd21,cd22,cd23,cd24,cd25,cd26,cd27,f_u,f_b⟩
        have hL' : [true,true,true,true,true,true,true,true,true,true,true,true,true,true,true,true,true,true,true,true,true,true,true,true,true,true,true,true] = [b0,b1,b2,b3,b4,b5,b6,b7,b8,b9,b10,b11,b12,b13,b14,b15,b16,b17,b18,b19,b20,b21,b22,b23,b24,b25,b26,b27] := congrArg Array.toList hL
        simp only [List.cons.injEq, and_true] at hL'
        obtain ⟨rfl, rfl, rfl, rfl, rfl, rfl, rfl, rfl, rfl, rfl, rfl, rfl, rfl, rfl, rfl, rfl, rfl, rfl, rfl, rfl, rfl, rfl, rfl, rfl, rfl, rfl, rfl, rfl⟩ := hL'
        obtain rfl := cd0.out rfl
        obtain rfl := cd1.out rfl
        obtain rfl := cd2.out rfl
        obtain rfl := cd3.out rfl
        obtain rfl := cd4.out rfl
        obtain rfl := cd5.out rfl
        obtain rfl := cd6.out rfl
        obtain rfl := cd7.out rfl
        obtain rfl := cd8.out rfl
        obtain rfl := cd9.out rfl
        obtain rfl := cd10.out rfl
        obtain rfl := cd11.out rfl
        obtain rfl := cd12.out rfl
        obtain rfl := cd13.out rfl
        obtain rfl := cd14.out rfl
        obtain rfl := cd15.out rfl
        obtain rfl := cd16.out rfl
        obtain rfl := cd17.out rfl
        obtain rfl := cd18.out rfl
        obtain rfl := cd19.out rfl
        obtain rfl := cd20.out rfl
        obtain rfl := cd21.out rfl
        obtain rfl := cd22.out rfl
        obtain rfl := cd23.out rfl
        obtain rfl := cd24.out rfl
        obtain rfl := cd25.out rfl
        obtain rfl := cd26.out rfl
        obtain rfl := cd27.out rfl
        have W_u := f_u.out
        have W_b := f_b.out
        clear hL f_u f_b cd0 cd1 cd2 cd3 cd4 cd5 cd6 cd7 cd8 cd9 cd10 cd11 cd12 cd13 cd14 cd15 cd16 cd17 cd18 cd19 cd20 cd21 cd22 cd23 cd24 cd25 cd26 cd27
        simp only [setIfInBounds_toArray, set_cons_zero, set_cons_succ]
        have BV : Below wr.heap.size wr V := by rw [hr10.out]; exact (Below.refl _ _).drew.trans hb
        clear hb
        go_wp2_with fail
        go_ret
        exact ⟨rfl, hBw.trans (BV.mono hBw.size)⟩
 · have hcni : ((20 : Int) < (cn : Int)) := by omega
   go_wp2_with fail
   go_ret
   exact ⟨rfl, by rw [HG.out]; exact B1⟩
end Go.Proofs.YtdmnjjknkcnkgaaGreatDoor
