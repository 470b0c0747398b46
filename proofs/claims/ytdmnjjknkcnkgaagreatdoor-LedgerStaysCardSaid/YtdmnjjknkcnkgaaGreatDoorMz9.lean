/-
 The document's Close (by gen_rg6.py).
-/
import Derived.Test.YtdmnjjknkcnkgaaGreatDoorMz8
import Derived.Test.YtdmnjjknkcnkgaaGreatDoorMz6
namespace Go.Proofs.YtdmnjjknkcnkgaaGreatDoor
open List (setIfInBounds_toArray set_cons_zero set_cons_succ)
open Go.RowKit
set_option linter.unusedSimpArgs false
theorem rblk_zero : (Tryz.prog.info? 73).map (fun i => i.zero) = some (some (.agg Blk0.cs.toArray)) := by kernel_rfl
theorem rblk_info : (Tryz.prog.info? 73).map (fun i => (i.zero, i.size, i.bytes)) = some (some (.agg Blk0.cs.toArray), 66, 80) := by kernel_rfl
theorem rblk_places : (match Tryz.prog.underlying 73 with | some (.struct fields) => fields.toList.mapM (fun f => (Tryz.prog.info? f.type).map fun i => (f.offset,i.size)) | _ => none) = some [(0,1),(1,32),(33,32),(65,1)] := by kernel_rfl
theorem rblk_i : ∃ i z, Tryz.prog.info? 73 = some i ∧ i.zero = some z ∧ i.size = 66 := by
 have hi := rblk_info
 cases h1 : Tryz.prog.info? 73 with
 | none => rw [h1] at hi; cases hi
 | some it =>
  rw [h1] at hi
  simp only [Option.map_some, Option.some.injEq, Prod.mk.injEq] at hi
  exact ⟨it, _, rfl, hi.1, hi.2.1⟩
theorem rowTyRBk : RowTy EBk Tryz.prog 30 73 Blk0 := by
 obtain ⟨i, h1, h2, h3, h4⟩ := info_parts rblk_info
 exact ⟨Tryz.underlying30, i, _, h1, h2, h3, rfl, by rw [h4]; decide⟩
theorem built_rblk (n ct : Int) (rt : H32) : Tryz.prog.built 73 [(0,.int .i64 n),(2,.agg (bcs rt.l).toArray),(3,.int .i64 ct)] = some (⟨n,H0s,rt,ct⟩ : Blk).cs.toArray := by
 have hi := rblk_zero
 have hp := rblk_places
 have c2 : (bcs rt.l).length = 32 := by rw [bcs_length, rt.len]
 have hz : Blk0.cs = [Value.int .i64 0] ++ (bcs H0s.l ++ (bcs H0s.l ++ [.int .i64 0])) := rfl
 have hz32 : (bcs H0s.l).length = 32 := rfl
 unfold Program.built
 cases h1 : Tryz.prog.info? 73 with
 | none => rw [h1] at hi; cases hi
 | some it =>
  rw [h1] at hi
  simp only [Option.map_some, Option.some.injEq] at hi
  cases h2 : Tryz.prog.underlying 73 with
  | none => rw [h2] at hp; cases hp
  | some d =>
   rw [h2] at hp
   cases d <;> try (cases hp; done)
   simp only at hp
   simp only [hi, hp, hz, Value.cells]
   unfold Blk.cs
   simp only
   generalize bcs H0s.l = Z at hz32
   generalize hR : bcs rt.l = R at c2
   rw [fill_next _ _ 0 0 1 (.int .i64 n) [.int .i64 n] _ rfl rfl rfl (by simp),fill_next _ _ 2 33 32 (.agg R.toArray) R _ rfl rfl c2 (by simp; omega),fill_next _ _ 3 65 1 (.int .i64 ct) [.int .i64 ct] _ rfl rfl rfl (by simp; omega)]
   unfold Instr.fill
   simp [List.take_append, List.drop_append, c2, hz32, List.take_of_length_le, List.drop_of_length_le]
theorem wp_append_o {α : Type} {E : Enc α} {w : World} {e : TypeId} {bd g n c : Nat} {l : List α} {P : Program} {zero : α} {o : Oper} {a : Act} {K : Act → World → Prop} {Q : Exit → Act → World → Prop} (s x : Operand) (t tx : TypeId)
 (ho : o.op = .call { callee := .builtin .append,args := #[s,x],argTypes := #[t,tx] }) (hB : RowTy E P t e zero) (hsv : a.eval s = .slice (some ⟨g,0,none⟩) n c) (h : OwnR E w e g n c l) (hg : bd ≤ g) (hBw : bd ≤ w.heap.size)
 (X : Value) (hx : a.eval x = X) (m : Nat) (cs : List α) (hs : Src P E.sz tx X m (E.all cs) w) (hcl : cs.length = m) (N : Nat) (hN : n + m = N) (L : List α) (hL : l ++ cs = L) (hmax : N ≤ 1000000)
 (hK : ∀ g' c' w',OwnR E w' e g' N c' L → bd ≤ g' → w.grownBy w' (some g) → (g' = g ∨ w.heap.size ≤ g') → Below bd w w' → K (a.put o.dst (.slice (some ⟨g',0,none⟩) N c')) w') : o.wp P a w K Q := by
 subst hN
 subst hL
 obtain ⟨g', cap', w', hr, h1, h2, h3⟩ := run_append_or (P := P) w t tx o.type e hB g n c l h X m cs hs hcl hmax
 unfold Oper.wp execOp
 simp only [ho, resolve, invoke, builtin, Sem.run_bind, Sem.run_pure, Result.andThen_ok, List.map_toArray, List.map_cons, List.map_nil, hsv, hx, hr]
 exact hK g' cap' w' h1 (by rcases h3 with rfl | h3; exact hg; exact Nat.le_trans hBw h3) (puts_grown' h2) h3 (h2.below hg hBw)
def LtW (w : World) (g : Nat) : Prop := g < w.heap.size
theorem LtW.past {w w' : World} {g : Nat} (h : LtW w g) (b : Below w.heap.size w w') : LtW w' g := Nat.lt_of_lt_of_le h b.size
theorem LtW.grown {w w' : World} {g : Nat} {r : Option Nat} (h : LtW w g) (b : w.grownBy w' r) : LtW w' g := Nat.lt_of_lt_of_le h b.size
inductive RgC3 (B : Nat) (p : Nat) (q : Nat) (r0 : Nat) (next : Int) (oa : Option Addr) (on : Nat) (oc : Nat) (ba : Option Addr) (bn : Nat) (bc : Nat) (ta : Option Addr) (tn : Nat) (tc : Nat) (EL : List H32) (RA : Array Value) (NB : Array Value) (ZB : Array Value) (a0 : Act) (w0 : World) (L : Array Bool) (a : Act) (w : World) : Prop
 | mk (b0 b1 b2 b3 b4 b5 b6 b7 b8 b9 b10 b11 b12 b13 : Bool) (x10 x11 x12 x13 x14 x15 x16 x17 x18 x19 x20 x21 x4 : Value) (ea : Option Addr) (ec : Nat) (gb : Nat) (hL : L = #[b0,b1,b2,b3,b4,b5,b6,b7,b8,b9,b10,b11,b12,b13]) (ha : a = ⟨(((((((((((((a0.tmps.setIfInBounds 10 x10).setIfInBounds 11 x11).setIfInBounds 12 x12).setIfInBounds 13 x13).setIfInBounds 14 x14).setIfInBounds 15 x15).setIfInBounds 16 x16).setIfInBounds 17 x17).setIfInBounds 18 x18).setIfInBounds 19 x19).setIfInBounds 20 x20).setIfInBounds 21 x21).setIfInBounds 4 x4),a0.defers⟩) (hb : Below B w0 w) (cd0 : Hid (b0 = true → x10 = .pointer (some ⟨p,2,none⟩))) (cd1 : Hid (b1 = true → x11 = .slice ba bn bc)) (cd2 : Hid (b2 = true → x12 = .int .i64 (bn : Nat))) (cd3 : Hid (b3 = true → x13 = .int .i64 ((bn : Nat) + 1))) (cd4 : Hid (b4 = true → x14 = .pointer (some ⟨p,1,none⟩))) (cd5 : Hid (b5 = true → x15 = .slice oa on oc)) (cd6 : Hid (b6 = true → x16 = .slice ea on ec)) (cd7 : Hid (b7 = true → x17 = .agg RA)) (cd8 : Hid (b8 = true → x18 = .pointer (some ⟨p,1,none⟩))) (cd9 : Hid (b9 = true → x19 = .slice oa on oc)) (cd10 : Hid (b10 = true → x20 = .int .i64 (on : Nat))) (cd11 : Hid (b11 = true → x21 = .agg NB)) (cd12 : Hid (b12 = true → x4 = .pointer (some ⟨gb,0,none⟩))) (f_p : Hid (Bk w p #[.int .i64 next,.slice oa on oc,.slice ba bn bc,.slice ta tn tc] 32)) (f_q : Hid (Bk w q #[.int .i64 0,.slice none 0 0,.slice none 0 0,.slice none 0 0] 32)) (f_t : Hid (b6 = true → b7 = false → IsR EHs w ea on ec EL)) (f_zb : Hid (b12 = true → b13 = false → Bk w gb ZB 73)) (f_lg : Hid (b12 = true → r0 ≤ gb)) (f_s : Hid (b13 = true → Bk w gb NB 73)) (f_oq : Hid (b13 = true → b12 = true)) : RgC3 B p q r0 next oa on oc ba bn bc ta tn tc EL RA NB ZB a0 w0 L a w
inductive RgC6 (B : Nat) (p : Nat) (q : Nat) (r : Nat) (gb : Nat) (next : Int) (oa : Option Addr) (on : Nat) (oc : Nat) (ba : Option Addr) (bn : Nat) (bc : Nat) (ta : Option Addr) (tn : Nat) (tc : Nat) (n1 : Nat) (l1 : List Blk) (l2 : List Blk) (nb : Blk) (NC : Array Value) (a0 : Act) (w0 : World) (L : Array Bool) (a : Act) (w : World) : Prop
 | mk (b0 b1 b2 b3 b4 b5 b6 b7 b8 : Bool) (x36 x37 x38 x39 x40 x41 x42 x43 : Value) (ge : Nat) (g3 : Nat) (c3 : Nat) (gs : Nat) (g6 : Nat) (c6 : Nat) (hL : L = #[b0,b1,b2,b3,b4,b5,b6,b7,b8]) (ha : a = ⟨((((((((a0.tmps.setIfInBounds 36 x36).setIfInBounds 37 x37).setIfInBounds 38 x38).setIfInBounds 39 x39).setIfInBounds 40 x40).setIfInBounds 41 x41).setIfInBounds 42 x42).setIfInBounds 43 x43),a0.defers⟩) (hb : Below B w0 w) (cd0 : Hid (b0 = true → x36 = .slice (some ⟨ge,0,none⟩) 0 0)) (cd1 : Hid (b1 = true → x37 = .pointer (some ⟨p,2,none⟩))) (cd2 : Hid (b2 = true → x38 = .slice ba bn bc)) (cd3 : Hid (b3 = true → x39 = .slice (some ⟨g3,0,none⟩) bn c3)) (cd4 : Hid (b4 = true → x40 = .agg NC)) (cd5 : Hid (b5 = true → x41 = .slice (some ⟨gs,0,none⟩) 1 1)) (cd6 : Hid (b6 = true → x42 = .slice (some ⟨g6,0,none⟩) n1 c6)) (cd7 : Hid (b7 = true → x43 = .pointer (some ⟨p,2,none⟩))) (f_p : Hid (b8 = false → Bk w p #[.int .i64 next,.slice oa on oc,.slice ba bn bc,.slice ta tn tc] 32)) (f_q : Hid (Bk w q #[.int .i64 0,.slice none 0 0,.slice none 0 0,.slice none 0 0] 32)) (f_b : Hid (Bk w gb NC 73)) (f_o6_3 : Hid ((b6 = true → b3 = true))) (f_o8_3 : Hid ((b8 = true → b3 = true))) (f_o8_6 : Hid ((b8 = true → b6 = true))) (f_e : Hid (b0 = true → b3 = false → OwnR EBk w 73 ge 0 0 [])) (f_le : Hid (b0 = true → r ≤ ge)) (f_f : Hid (b3 = true → b6 = false → OwnR EBk w 73 g3 bn c3 l1)) (f_lf : Hid (b3 = true → r ≤ g3)) (f_l0 : Hid (b0 = true → LtW w ge)) (f_l5 : Hid (b5 = true → LtW w gs)) (f_nm : Hid ((b0 = true → b5 = true → ge ≠ gs))) (f_ls : Hid (b5 = true → b6 = false → IsR EBk w (some ⟨gs,0,none⟩) 1 1 [nb])) (f_o : Hid (b6 = true → OwnR EBk w 73 g6 n1 c6 l2)) (f_lo : Hid (b6 = true → r ≤ g6)) (f_s : Hid (b8 = true → Bk w p #[.int .i64 next,.slice oa on oc,.slice (some ⟨g6,0,none⟩) n1 c6,.slice ta tn tc] 32)) (f_qa2 : Hid (b8 = true → b2 = true)) : RgC6 B p q r gb next oa on oc ba bn bc ta tn tc n1 l1 l2 nb NC a0 w0 L a w
inductive RgC7 (B : Nat) (p : Nat) (q : Nat) (r7 : Nat) (gB : Nat) (bn4 : Nat) (cB : Nat) (l4 : List Blk) (next : Int) (oa : Option Addr) (on : Nat) (oc : Nat) (ba : Option Addr) (bn : Nat) (bc : Nat) (ta : Option Addr) (tn : Nat) (tc : Nat) (n7 : Nat) (t1 : List HdR) (t2 : List HdR) (a0 : Act) (w0 : World) (L : Array Bool) (a : Act) (w : World) : Prop
 | mk (b0 b1 b2 b3 b4 b5 b6 b7 b8 b9 : Bool) (x44 x45 x46 x47 x48 x49 x50 x51 x52 : Value) (ge : Nat) (g3 : Nat) (c3 : Nat) (gs : Nat) (g6 : Nat) (c6 : Nat) (hL : L = #[b0,b1,b2,b3,b4,b5,b6,b7,b8,b9]) (ha : a = ⟨(((((((((a0.tmps.setIfInBounds 44 x44).setIfInBounds 45 x45).setIfInBounds 46 x46).setIfInBounds 47 x47).setIfInBounds 48 x48).setIfInBounds 49 x49).setIfInBounds 50 x50).setIfInBounds 51 x51).setIfInBounds 52 x52),a0.defers⟩) (hb : Below B w0 w) (cd0 : Hid (b0 = true → x44 = .slice (some ⟨ge,0,none⟩) 0 0)) (cd1 : Hid (b1 = true → x45 = .pointer (some ⟨p,3,none⟩))) (cd2 : Hid (b2 = true → x46 = .slice ta tn tc)) (cd3 : Hid (b3 = true → x47 = .slice (some ⟨g3,0,none⟩) tn c3)) (cd4 : Hid (b4 = true → x48 = .pointer (some ⟨p,1,none⟩))) (cd5 : Hid (b5 = true → x49 = .slice oa on oc)) (cd6 : Hid (b6 = true → x50 = .slice (some ⟨gs,0,none⟩) 1 1)) (cd7 : Hid (b7 = true → x51 = .slice (some ⟨g6,0,none⟩) n7 c6)) (cd8 : Hid (b8 = true → x52 = .pointer (some ⟨p,3,none⟩))) (f_p : Hid (b9 = false → Bk w p #[.int .i64 next,.slice oa on oc,.slice (some ⟨gB,0,none⟩) bn4 cB,.slice ta tn tc] 32)) (f_q : Hid (Bk w q #[.int .i64 0,.slice none 0 0,.slice none 0 0,.slice none 0 0] 32)) (f_bk : Hid (OwnR EBk w 73 gB bn4 cB l4)) (f_o7_3 : Hid ((b7 = true → b3 = true))) (f_o9_3 : Hid ((b9 = true → b3 = true))) (f_o9_7 : Hid ((b9 = true → b7 = true))) (f_e : Hid (b0 = true → b3 = false → OwnR EH w 25 ge 0 0 [])) (f_le : Hid (b0 = true → r7 ≤ ge)) (f_f : Hid (b3 = true → b7 = false → OwnR EH w 25 g3 tn c3 t1)) (f_lf : Hid (b3 = true → r7 ≤ g3)) (f_l0 : Hid (b0 = true → LtW w ge)) (f_l5 : Hid (b6 = true → LtW w gs)) (f_nm : Hid ((b0 = true → b6 = true → ge ≠ gs))) (f_ls : Hid (b6 = true → b7 = false → IsR EH w (some ⟨gs,0,none⟩) 1 1 [⟨oa,on,oc⟩])) (f_o : Hid (b7 = true → OwnR EH w 25 g6 n7 c6 t2)) (f_lo : Hid (b7 = true → r7 ≤ g6)) (f_s : Hid (b9 = true → Bk w p #[.int .i64 next,.slice oa on oc,.slice (some ⟨gB,0,none⟩) bn4 cB,.slice (some ⟨g6,0,none⟩) n7 c6] 32)) (f_qa2 : Hid (b9 = true → b2 = true)) (f_qa5 : Hid (b9 = true → b5 = true)) : RgC7 B p q r7 gB bn4 cB l4 next oa on oc ba bn bc ta tn tc n7 t1 t2 a0 w0 L a w
theorem lg_set1 {w : World} {p : Nat} {v0 v1 v2 v3 : Value} {t : TypeId} (h : Bk w p #[v0, v1, v2, v3] t) (v : Value) : Bk (w.setCell ⟨p, 1, none⟩ v) p #[v0, v, v2, v3] t := heap_setCell_same h
theorem lg_set2 {w : World} {p : Nat} {v0 v1 v2 v3 : Value} {t : TypeId} (h : Bk w p #[v0, v1, v2, v3] t) (v : Value) : Bk (w.setCell ⟨p, 2, none⟩ v) p #[v0, v1, v, v3] t := heap_setCell_same h
theorem lg_set3 {w : World} {p : Nat} {v0 v1 v2 v3 : Value} {t : TypeId} (h : Bk w p #[v0, v1, v2, v3] t) (v : Value) : Bk (w.setCell ⟨p, 3, none⟩ v) p #[v0, v1, v2, v] t := heap_setCell_same h
theorem rblk_row {w : World} {g : Nat} {nb : Blk} {CL : List Value} (h : w.heap[g]? = some (.cells CL.toArray 73 (0,0))) (hc : CL = nb.cs) : IsR EBk w (some ⟨g,0,none⟩) 1 1 [nb] :=
 (OwnR.ofBlk (E := EBk) (l := [nb]) (n := 1) h (by rw [hc]; simp [Enc.all, EBk]) rfl (by omega)).isR
def RLed (w : World) (Q : Nat → Prop) (M : Lgr) (v : Value) (w' : World) : Prop :=
 ∃ oa on oc ba bn bc ta tn tc, v = .agg #[.int .i64 M.next, .slice oa on oc, .slice ba bn bc, .slice ta tn tc] ∧ LgR w' Q oa on oc ba bn bc ta tn tc M ∧ Below w.heap.size w w'
def RClosed (w : World) (Q : Nat → Prop) (M : Lgr) (e : Ending) (w' : World) : Prop := ∃ v, e = .returned (.tuple #[v, .int .i64 (clsE M)]) ∧ RLed w Q (cls M) v w'
set_option maxRecDepth 100000 in
set_option maxHeartbeats 2000000 in
theorem rclose_some (w : World) (Q : Nat → Prop) (hQ : ∀ k,w.heap.size ≤ k → Q k) (next : Int) (oa : Option Addr) (on oc : Nat) (ba : Option Addr) (bn bc : Nat) (ta : Option Addr) (tn tc : Nat) (M : Lgr) (hnx : M.next = next) (h : LgR w Q oa on oc ba bn bc ta tn tc M) (hL : LgOk M) (hon : 0 < on) :
 Calls Tryz.prog 18 #[.agg #[.int .i64 next, .slice oa on oc, .slice ba bn bc, .slice ta tn tc]] w (RClosed w Q M) := by
 have hon1 := h.op.len
 have hbn1 := h.bl.len
 have htn1 := h.ts.len
 have hon4 : on ≤ 4 := by have := hL.op; omega
 have hbn4 : bn ≤ 1000 := by have := hL.bl; omega
 have htn4 : tn ≤ 1000 := by have := hL.ts; omega
 have hop : ¬ (M.op = []) := fun h9 => by rw [h9] at hon1; simp at hon1; omega
 have HCE : Hid (clsE M = 0) := Lib.hid (if_neg hop)
 have HCM : Hid (cls M = ⟨M.next, [], M.bl ++ [newB M], M.ts ++ [M.op]⟩) := Lib.hid (if_neg hop)
 have HNX := Lib.hid hnx.symm
 obtain ⟨hs, hs1, hs2, hs3⟩ := id h.ts
 have hs4 := hs3.1
 obtain ⟨rt, hrt⟩ : ∃ x : H32, ⟨rootS (entsS M.op), rootS_length _ fun h hm => by obtain ⟨x, -, rfl⟩ := List.mem_map.1 hm; exact entS_len x⟩ = x := ⟨_, rfl⟩
 have hrl : rt.l = rootS (entsS M.op) := by rw [← hrt]
 obtain ⟨nb, hnb⟩ : ∃ x, newB M = x := ⟨_, rfl⟩
 have hnb2 : nb = ⟨(M.bl.length : Nat) + 1, ⟨hLast M.bl, hLast_len _⟩, rt, (M.op.length : Nat)⟩ := by rw [← hnb, ← hrt]; rfl
 obtain ⟨NB, hNB⟩ : ∃ x, (⟨(bn : Nat) + 1, H0s, rt, (on : Nat)⟩ : Blk).cs.toArray = x := ⟨_, rfl⟩
 have HNB : Hid (Tryz.prog.built 73 [(0,.int .i64 ((bn : Nat) + 1)),(2,.agg (bcs rt.l).toArray),(3,.int .i64 (on : Nat))] = some NB) := Lib.hid (by rw [← hNB]; exact built_rblk _ _ _)
 have HNB0 : Hid (NB.size = 66) := Lib.hid (by rw [← hNB]; simp [Blk.cs_len])
 have HNB1 : Hid (NB.all (·.oneCell') = true) := Lib.hid (by rw [← hNB]; exact Array.all_eq_true_iff_forall_mem.2 fun v hv => EBk.one _ v (Array.mem_toList_iff.2 hv))
 have HNBs : Hid (NB.toList.length = 66) := Lib.hid (by rw [← hNB]; simp [Blk.cs_len])
 obtain ⟨CL, hCL⟩ : ∃ x, nb.cs = x := ⟨_, rfl⟩
 have HCB := Lib.hid hCL.symm
 have HC66 : Hid (CL.length = 66) := Lib.hid (by rw [← hCL]; exact nb.cs_len)
 obtain ⟨NC, hNC⟩ : ∃ x, CL.toArray = x := ⟨_, rfl⟩
 have HCN := Lib.hid hNC
 have HNC : Hid (66 = NC.toList.length) := Lib.hid (by rw [← hNC]; exact HC66.out.symm)
 have HN0 : Hid (bn = 0 → NB = NC) := Lib.hid fun hz => by
  have e0 : M.bl = [] := List.length_eq_zero_iff.1 (by omega)
  rw [← hNB, ← hNC, ← hCL, hnb2, hon1, hbn1, e0]
  rfl
 have HN5 : Hid (¬ bn = 0 → ∃ lb, M.bl[bn - 1]? = some lb ∧ (NB.toList.take 1 ++ bcs (blkS lb) ++ NB.toList.drop (1 + 32)).toArray = NC) := Lib.hid fun hz => by
  have hlt : bn - 1 < M.bl.length := by omega
  refine ⟨M.bl[bn - 1], List.getElem?_eq_getElem hlt, ?_⟩
  have e1 : hLast M.bl = blkS M.bl[bn - 1] := by
   unfold hLast
   rw [List.getLast?_eq_getElem?, show M.bl.length - 1 = bn - 1 by omega, List.getElem?_eq_getElem hlt]
  have c1 : (bcs H0s.l).length = 32 := rfl
  rw [← hNB, ← hNC, ← hCL, hnb2, hon1, hbn1]
  simp only [Blk.cs, e1]
  generalize bcs H0s.l = Z at c1
  rw [show 1 + 32 = 32 + 1 from rfl, List.drop_succ_cons, List.drop_append, c1]
  simp [List.drop_eq_nil_of_le (Nat.le_of_eq c1)]
 have HSb0 := fun (w' : World) (b : Below w.heap.size w w') => (h.bl.flat).past b
 have HSt0 := fun (w' : World) (b : Below w.heap.size w w') => hs1.past b
 have HEn0 := fun (w' : World) (b : Below w.heap.size w w') => rentries_any w' Q M.op oa on oc (h.op.past b) (by omega) hL.tx
 have HRt0 := fun (w' : World) (ea : Option Addr) (ec : Nat) (hI : IsR EHs w' ea on ec (entsH M.op)) => rroot_any ea on ec (entsS M.op) w' (by have := hI.hs; rw [entsH_l] at this; exact this) (by omega)
 simp only [← hrl] at HRt0
 obtain ⟨EL, hEL⟩ : ∃ x, entsH M.op = x := ⟨_, rfl⟩
 simp only [hEL] at HEn0 HRt0
 obtain ⟨RA, hRA⟩ : ∃ x, (bcs rt.l).toArray = x := ⟨_, rfl⟩
 rw [hRA] at HNB
 simp only [hRA] at HRt0
 obtain ⟨ZB, hZB⟩ : ∃ x, Blk0.cs.toArray = x := ⟨_, rfl⟩
 have HZB := Lib.hid hZB
 have HZB1 : Hid (ZB.size = 66) := Lib.hid (by rw [← hZB]; simp [Blk.cs_len])
 obtain ⟨n1, hn1⟩ : ∃ n, bn + 1 = n := ⟨_, rfl⟩
 have hn1s : n1 ≤ 1001 := by omega
 have HN1 := Lib.hid hn1
 obtain ⟨n7, hn7⟩ : ∃ n, tn + 1 = n := ⟨_, rfl⟩
 have hn7s : n7 ≤ 1001 := by omega
 have HN7 := Lib.hid hn7
 obtain ⟨l1, hl1⟩ : ∃ l, M.bl = l := ⟨_, rfl⟩
 obtain ⟨l2, hl2⟩ : ∃ l, l1 ++ [nb] = l := ⟨_, rfl⟩
 have HL2 := Lib.hid hl2
 have HLN : Hid (l1.length = bn) := Lib.hid (hl1 ▸ hbn1)
 obtain ⟨t1, ht1⟩ : ∃ l : List HdR, hs = l := ⟨_, rfl⟩
 obtain ⟨t2, ht2⟩ : ∃ l, t1 ++ [(⟨oa, on, oc⟩ : HdR)] = l := ⟨_, rfl⟩
 have HL7 := Lib.hid ht2
 have HT2 := Lib.hid ht2
 have hs0 : hs.length = tn := hs1.len
 have HLN7 : Hid (t1.length = tn) := Lib.hid (ht1 ▸ hs0)
 have HR9 : Hid (∀ w',Below w.heap.size w w' → ∀ gB bN cB gT nT cT,OwnR EBk w' 73 gB bN cB l2 → w.heap.size ≤ gB → OwnR EH w' 25 gT nT cT (t1 ++ [(⟨oa,on,oc⟩ : HdR)]) → w.heap.size ≤ gT → LgR w' Q none 0 0 (some ⟨gB,0,none⟩) bN cB (some ⟨gT,0,none⟩) nT cT ⟨M.next,[],M.bl ++ [newB M],M.ts ++ [M.op]⟩) := Lib.hid fun w' b gB bN cB gT nT cT o1 h1 o2 h2 => by
  refine ⟨IsD.nil _ _, ?_, ?_⟩
  · have := (o1.isR).deep (E := EBk) (by decide) (Q := Q) (fun _ a ha => by cases ha; exact hQ _ h1)
    rw [← hl2, ← hl1, ← hnb] at this
    exact this
  · rw [← ht1] at o2
    exact ⟨_, o2.isR, fun _ a ha => by cases ha; exact hQ _ h2, (hs3.past b).append (RdD.one (h.op.past b))⟩
 rw [hl1] at HSb0 HN5
 rw [ht1] at HSt0
 clear hnb hnb2 hNB hCL hNC hEL hRA hZB hn1 hn7 hl1 hl2 ht1 ht2 hrt hrl hs1 hs2 hs3 hs4 hs0 hop hnx h hL hon1 hbn1 htn1 hQ
 have B0 : Below w.heap.size w ((w.alloc (.cells #[.int .i64 next,.slice oa on oc,.slice ba bn bc,.slice ta tn tc] 32)).alloc (.cells #[.int .i64 0,.slice none 0 0,.slice none 0 0,.slice none 0 0] 32)) := ((Below.refl _ _).alloc (Nat.le_refl _) _).alloc (by simp) _
 have hP : Bk ((w.alloc (.cells #[.int .i64 next,.slice oa on oc,.slice ba bn bc,.slice ta tn tc] 32)).alloc (.cells #[.int .i64 0,.slice none 0 0,.slice none 0 0,.slice none 0 0] 32)) w.heap.size #[.int .i64 next,.slice oa on oc,.slice ba bn bc,.slice ta tn tc] 32 := (Bk.new w _ _).alloc _
 have hQ0 : Bk ((w.alloc (.cells #[.int .i64 next,.slice oa on oc,.slice ba bn bc,.slice ta tn tc] 32)).alloc (.cells #[.int .i64 0,.slice none 0 0,.slice none 0 0,.slice none 0 0] 32)) (w.heap.size + 1) #[.int .i64 0,.slice none 0 0,.slice none 0 0,.slice none 0 0] 32 := by
  have := Bk.new (w.alloc (.cells #[.int .i64 next,.slice oa on oc,.slice ba bn bc,.slice ta tn tc] 32)) #[.int .i64 0,.slice none 0 0,.slice none 0 0,.slice none 0 0] 32
  rwa [World.size_alloc] at this
 have hsW : ((w.alloc (.cells #[.int .i64 next,.slice oa on oc,.slice ba bn bc,.slice ta tn tc] 32)).alloc (.cells #[.int .i64 0,.slice none 0 0,.slice none 0 0,.slice none 0 0] 32)).heap.size = w.heap.size + 1 + 1 := by simp only [World.size_alloc]
 go_enter Tryz.func18, Tryz.ntmps18
 go_upto_region 1 with fail
 generalize ((w.alloc (.cells #[.int .i64 next,.slice oa on oc,.slice ba bn bc,.slice ta tn tc] 32)).alloc (.cells #[.int .i64 0,.slice none 0 0,.slice none 0 0,.slice none 0 0] 32)) = W at B0 hP hQ0 hsW ⊢
 obtain ⟨p, hp⟩ : ∃ p, w.heap.size = p := ⟨_, rfl⟩
 obtain ⟨q, hq⟩ : ∃ q, p + 1 = q := ⟨_, rfl⟩
 have HG := Lib.hid hp
 rw [hp] at hP hQ0 B0 hsW
 rw [hq] at hQ0 hsW
 simp only [hp, hq]
 have hpq : p < q := by omega
 have hqp : some q ≠ some p := fun e => by have := Option.some.inj e; omega
 have B1 := B0
 clear hp hq B0
 obtain ⟨c0,c1,c2,c3⟩ : W.cell? ⟨p,0,none⟩ = some (.int .i64 next) ∧ W.cell? ⟨p,1,none⟩ = some (.slice oa on oc) ∧ W.cell? ⟨p,2,none⟩ = some (.slice ba bn bc) ∧ W.cell? ⟨p,3,none⟩ = some (.slice ta tn tc) := ⟨hP.c rfl,hP.c rfl,hP.c rfl,hP.c rfl⟩
 have hP3 := hP
 have hQ3 := hQ0
 have HSb0 := fun (w' : World) (b : Below p w w') => HSb0 w' (by rw [HG.out]; exact b)
 have HSt0 := fun (w' : World) (b : Below p w w') => HSt0 w' (by rw [HG.out]; exact b)
 have HEn := fun (w' : World) (hb : Below p W.drew w') => HEn0 w' (by rw [HG.out]; exact B1.trans ((Below.refl _ _).drew.trans hb))
 have HRt := HRt0
 obtain ⟨r0, hr0⟩ : ∃ x, W.heap.size = x := ⟨_, rfl⟩
 have hrW0 : r0 ≤ W.heap.size := Nat.le_of_eq hr0.symm
 have hpr0 : p < r0 := by omega
 have hpr0' : p ≤ r0 := by omega
 have hqr0 : q < r0 := by omega
 clear hr0 HEn0 HRt0 hP hQ0 hsW
 have honi : ¬ ((on : Int) = 0) := by omega
 go_upto_region 3 with fail
 simp only [show ((on : Int) == 0) = false from by simpa using honi]
 have hB0 : p ≤ W.heap.size := Nat.le_trans hpr0' hrW0
 clear c0 c1 c2 c3
 refine region_inv (RgC3 p p q r0 next oa on oc ba bn bc ta tn tc EL RA NB ZB) (by kernel_rfl) (by kernel_rfl) ?_ ?_ ?_
 · exact ⟨false,false,false,false,false,false,false,false,false,false,false,false,false,false,undef,undef,undef,undef,undef,undef,undef,undef,undef,undef,undef,undef,undef,none,0,0,rfl,(by go_simp),Below.refl _ _,nf2,nf2,nf2,nf2,nf2,nf2,nf2,nf2,nf2,nf2,nf2,nf2,nf2,(hP3.past (Below.refl _ _).drew),(hQ3.past (Below.refl _ _).drew),nf2,nf2,nf2,nf2,nf2⟩
 · refine ⟨?_, ?_, ?_, ?_, ?_, ?_, ?_, ?_, ?_, ?_, ?_, ?_, ?_, ?_, trivial⟩
   all_goals rintro L a w ⟨b0,b1,b2,b3,b4,b5,b6,b7,b8,b9,b10,b11,b12,b13,x10,x11,x12,x13,x14,x15,x16,x17,x18,x19,x20,x21,x4,ea,ec,gb,rfl,rfl,hb,cd0,cd1,cd2,cd3,cd4,cd5,cd6,cd7,cd8,cd9,cd10,cd11,cd12,f_p,f_q,f_t,f_zb,f_lg,f_s,f_oq⟩ hf hd
   · have hf' : b0 = false := hf
     subst hf'
     clear hf hd
     have W_p := f_p.out
     have W_q := f_q.out
     intro K hK
     rw [if_pos (by rfl)]
     go_simp
     exact hK.out _ _ ⟨true,b1,b2,b3,b4,b5,b6,b7,b8,b9,b10,b11,b12,b13,(.pointer (some ⟨p,2,none⟩)),x11,x12,x13,x14,x15,x16,x17,x18,x19,x20,x21,x4,ea,ec,gb,(by go_simp),(by go_simp),hb,(fun _ => rfl),cd1,cd2,cd3,cd4,cd5,cd6,cd7,cd8,cd9,cd10,cd11,cd12,f_p,f_q,f_t,f_zb,f_lg,f_s,f_oq⟩
   · have hf' : b1 = false := hf
     subst hf'
     have d0 : b0 = true := hd ⟨0, .data⟩ (by simp) rfl
     subst d0
     obtain rfl := cd0.out rfl
     clear hf hd
     have W_p := f_p.out
     have W_q := f_q.out
     try simp only [setIfInBounds_toArray, set_cons_zero, set_cons_succ]
     have z2 : w.cell? ⟨p, 2, none⟩ = some (.slice ba bn bc) := W_p.c rfl
     intro K hK
     rw [if_pos (by rfl)]
     go_simp
     exact hK.out _ _ ⟨true,true,b2,b3,b4,b5,b6,b7,b8,b9,b10,b11,b12,b13,.pointer (some ⟨p,2,none⟩),(.slice ba bn bc),x12,x13,x14,x15,x16,x17,x18,x19,x20,x21,x4,ea,ec,gb,(by go_simp),(by go_simp),hb,rf,rf,cd2,cd3,cd4,cd5,cd6,cd7,cd8,cd9,cd10,cd11,cd12,f_p,f_q,f_t,f_zb,f_lg,f_s,f_oq⟩
   · have hf' : b2 = false := hf
     subst hf'
     have d1 : b1 = true := hd ⟨1, .data⟩ (by simp) rfl
     subst d1
     obtain rfl := cd1.out rfl
     clear hf hd
     have W_p := f_p.out
     have W_q := f_q.out
     intro K hK
     rw [if_pos (by rfl)]
     go_simp
     exact hK.out _ _ ⟨b0,true,true,b3,b4,b5,b6,b7,b8,b9,b10,b11,b12,b13,x10,.slice ba bn bc,(.int .i64 (bn : Nat)),x13,x14,x15,x16,x17,x18,x19,x20,x21,x4,ea,ec,gb,(by go_simp),(by go_simp),hb,cd0,rf,rf,cd3,cd4,cd5,cd6,cd7,cd8,cd9,cd10,cd11,cd12,f_p,f_q,f_t,f_zb,f_lg,f_s,f_oq⟩
   · have hf' : b3 = false := hf
     subst hf'
     have d2 : b2 = true := hd ⟨2, .data⟩ (by simp) rfl
     subst d2
     obtain rfl := cd2.out rfl
     clear hf hd
     have W_p := f_p.out
     have W_q := f_q.out
     intro K hK
     rw [if_pos (by rfl)]
     go_simp
     rw [IntWalk.i64_in _ (by omega)]
     exact hK.out _ _ ⟨b0,b1,true,true,b4,b5,b6,b7,b8,b9,b10,b11,b12,b13,x10,x11,.int .i64 (bn : Nat),(.int .i64 ((bn : Nat) + 1)),x14,x15,x16,x17,x18,x19,x20,x21,x4,ea,ec,gb,(by go_simp),(by go_simp),hb,cd0,cd1,rf,rf,cd4,cd5,cd6,cd7,cd8,cd9,cd10,cd11,cd12,f_p,f_q,f_t,f_zb,f_lg,f_s,f_oq⟩
   · have hf' : b4 = false := hf
     subst hf'
     clear hf hd
     have W_p := f_p.out
     have W_q := f_q.out
     intro K hK
     rw [if_pos (by rfl)]
     go_simp
     exact hK.out _ _ ⟨b0,b1,b2,b3,true,b5,b6,b7,b8,b9,b10,b11,b12,b13,x10,x11,x12,x13,(.pointer (some ⟨p,1,none⟩)),x15,x16,x17,x18,x19,x20,x21,x4,ea,ec,gb,(by go_simp),(by go_simp),hb,cd0,cd1,cd2,cd3,(fun _ => rfl),cd5,cd6,cd7,cd8,cd9,cd10,cd11,cd12,f_p,f_q,f_t,f_zb,f_lg,f_s,f_oq⟩
   · have hf' : b5 = false := hf
     subst hf'
     have d4 : b4 = true := hd ⟨4, .data⟩ (by simp) rfl
     subst d4
     obtain rfl := cd4.out rfl
     clear hf hd
     have W_p := f_p.out
     have W_q := f_q.out
     try simp only [setIfInBounds_toArray, set_cons_zero, set_cons_succ]
     have z1 : w.cell? ⟨p, 1, none⟩ = some (.slice oa on oc) := W_p.c rfl
     intro K hK
     rw [if_pos (by rfl)]
     go_simp
     exact hK.out _ _ ⟨b0,b1,b2,b3,true,true,b6,b7,b8,b9,b10,b11,b12,b13,x10,x11,x12,x13,.pointer (some ⟨p,1,none⟩),(.slice oa on oc),x16,x17,x18,x19,x20,x21,x4,ea,ec,gb,(by go_simp),(by go_simp),hb,cd0,cd1,cd2,cd3,rf,rf,cd6,cd7,cd8,cd9,cd10,cd11,cd12,f_p,f_q,f_t,f_zb,f_lg,f_s,f_oq⟩
   · have hf' : b6 = false := hf
     subst hf'
     have d5 : b5 = true := hd ⟨5, .data⟩ (by simp) rfl
     subst d5
     obtain rfl := cd5.out rfl
     clear hf hd
     have W_p := f_p.out
     have W_q := f_q.out
     intro K hK
     rw [if_pos (by rfl)]
     go_simp
     go_at_call 40
     refine (HEn _ hb).mono ?_
     rintro e w' ⟨a9, c9, rfl, o9, bx⟩
     exact hK.out _ _ ⟨b0,b1,b2,b3,b4,true,true,b7,b8,b9,b10,b11,b12,b13,x10,x11,x12,x13,x14,.slice oa on oc,(.slice a9 on c9),x17,x18,x19,x20,x21,x4,a9,c9,gb,(by go_simp),(by go_simp),hb.trans (bx.mono (Nat.le_trans hB0 hb.size)),cd0,cd1,cd2,cd3,cd4,rf,rf,cd7,cd8,cd9,cd10,cd11,cd12,(f_p.out.past bx),(f_q.out.past bx),(fun _ _ => o9.isR),(fun h0 h1 => (f_zb.out h0 h1).past bx),f_lg,(fun h0 => (f_s.out h0).past bx),f_oq⟩
   · have hf' : b7 = false := hf
     subst hf'
     have d6 : b6 = true := hd ⟨6, .data⟩ (by simp) rfl
     subst d6
     obtain rfl := cd6.out rfl
     clear hf hd
     have W_p := f_p.out
     have W_q := f_q.out
     have W_t := f_t.out rfl rfl
     intro K hK
     rw [if_pos (by rfl)]
     go_simp
     go_at_call 39
     refine (HRt _ _ _ W_t).mono ?_
     rintro e w' ⟨rfl, bx⟩
     exact hK.out _ _ ⟨b0,b1,b2,b3,b4,b5,true,true,b8,b9,b10,b11,b12,b13,x10,x11,x12,x13,x14,x15,.slice ea on ec,(.agg RA),x18,x19,x20,x21,x4,ea,ec,gb,(by go_simp),(by go_simp),hb.trans (bx.mono (Nat.le_trans hB0 hb.size)),cd0,cd1,cd2,cd3,cd4,cd5,rf,rf,cd8,cd9,cd10,cd11,cd12,(f_p.out.past bx),(f_q.out.past bx),(fun _ h => by cases h),(fun h0 h1 => (f_zb.out h0 h1).past bx),f_lg,(fun h0 => (f_s.out h0).past bx),f_oq⟩
   · have hf' : b8 = false := hf
     subst hf'
     clear hf hd
     have W_p := f_p.out
     have W_q := f_q.out
     intro K hK
     rw [if_pos (by rfl)]
     go_simp
     exact hK.out _ _ ⟨b0,b1,b2,b3,b4,b5,b6,b7,true,b9,b10,b11,b12,b13,x10,x11,x12,x13,x14,x15,x16,x17,(.pointer (some ⟨p,1,none⟩)),x19,x20,x21,x4,ea,ec,gb,(by go_simp),(by go_simp),hb,cd0,cd1,cd2,cd3,cd4,cd5,cd6,cd7,(fun _ => rfl),cd9,cd10,cd11,cd12,f_p,f_q,f_t,f_zb,f_lg,f_s,f_oq⟩
   · have hf' : b9 = false := hf
     subst hf'
     have d8 : b8 = true := hd ⟨8, .data⟩ (by simp) rfl
     subst d8
     obtain rfl := cd8.out rfl
     clear hf hd
     have W_p := f_p.out
     have W_q := f_q.out
     try simp only [setIfInBounds_toArray, set_cons_zero, set_cons_succ]
     have z1 : w.cell? ⟨p, 1, none⟩ = some (.slice oa on oc) := W_p.c rfl
     intro K hK
     rw [if_pos (by rfl)]
     go_simp
     exact hK.out _ _ ⟨b0,b1,b2,b3,b4,b5,b6,b7,true,true,b10,b11,b12,b13,x10,x11,x12,x13,x14,x15,x16,x17,.pointer (some ⟨p,1,none⟩),(.slice oa on oc),x20,x21,x4,ea,ec,gb,(by go_simp),(by go_simp),hb,cd0,cd1,cd2,cd3,cd4,cd5,cd6,cd7,rf,rf,cd10,cd11,cd12,f_p,f_q,f_t,f_zb,f_lg,f_s,f_oq⟩
   · have hf' : b10 = false := hf
     subst hf'
     have d9 : b9 = true := hd ⟨9, .data⟩ (by simp) rfl
     subst d9
     obtain rfl := cd9.out rfl
     clear hf hd
     have W_p := f_p.out
     have W_q := f_q.out
     intro K hK
     rw [if_pos (by rfl)]
     go_simp
     exact hK.out _ _ ⟨b0,b1,b2,b3,b4,b5,b6,b7,b8,true,true,b11,b12,b13,x10,x11,x12,x13,x14,x15,x16,x17,x18,.slice oa on oc,(.int .i64 (on : Nat)),x21,x4,ea,ec,gb,(by go_simp),(by go_simp),hb,cd0,cd1,cd2,cd3,cd4,cd5,cd6,cd7,cd8,(fun _ => rfl),(fun _ => rfl),cd11,cd12,f_p,f_q,f_t,f_zb,f_lg,f_s,f_oq⟩
   · have hf' : b11 = false := hf
     subst hf'
     have d3 : b3 = true := hd ⟨3, .data⟩ (by simp) rfl
     subst d3
     have d7 : b7 = true := hd ⟨7, .data⟩ (by simp) rfl
     subst d7
     have d10 : b10 = true := hd ⟨10, .data⟩ (by simp) rfl
     subst d10
     obtain rfl := cd3.out rfl
     obtain rfl := cd7.out rfl
     obtain rfl := cd10.out rfl
     clear hf hd
     have W_p := f_p.out
     have W_q := f_q.out
     try simp only [setIfInBounds_toArray, set_cons_zero, set_cons_succ]
     intro K hK
     rw [if_pos (by rfl)]
     refine wp_build_at 73 _ rfl NB (by simp only [List.map_toArray, List.map_cons, List.map_nil]; exact HNB.out) ?_
     exact hK.out _ _ ⟨b0,b1,b2,true,b4,b5,b6,true,b8,b9,true,true,b12,b13,x10,x11,x12,.int .i64 ((bn : Nat) + 1),x14,x15,x16,.agg RA,x18,x19,.int .i64 (on : Nat),(.agg NB),x4,ea,ec,gb,(by go_simp),(by go_simp),hb,cd0,cd1,cd2,rf,cd4,cd5,cd6,rf,cd8,cd9,rf,rf,cd12,f_p,f_q,(fun _ h => by cases h),f_zb,f_lg,f_s,f_oq⟩
   · have hf' : b12 = false := hf
     subst hf'
     clear hf hd
     have W_p := f_p.out
     have W_q := f_q.out
     try simp only [setIfInBounds_toArray, set_cons_zero, set_cons_succ]
     intro K hK
     rw [if_pos (by rfl)]
     refine wp_alloc_blk 73 rfl _ rblk_zero fun w2 gn hz bx hge => ?_
     exact hK.out _ _ ⟨b0,b1,b2,b3,b4,b5,b6,b7,b8,b9,b10,b11,true,b13,x10,x11,x12,x13,x14,x15,x16,x17,x18,x19,x20,x21,(.pointer (some ⟨gn,0,none⟩)),ea,ec,gn,(by go_simp),(by go_simp),hb.trans (bx.mono (Nat.le_trans hB0 hb.size)),cd0,cd1,cd2,cd3,cd4,cd5,cd6,cd7,cd8,cd9,cd10,cd11,rf,(f_p.out.past bx),(f_q.out.past bx),(fun h0 h1 => (f_t.out h0 h1).past bx),(fun _ _ => (by rw [← HZB.out]; exact hz.out)),(fun _ => Nat.le_trans (Nat.le_trans hrW0 hb.size) hge),(fun h0 => absurd (f_oq.out h0) (by simp)),rf⟩
   · have hf' : b13 = false := hf
     subst hf'
     have d12 : b12 = true := hd ⟨12, .data⟩ (by simp) rfl
     subst d12
     have d11 : b11 = true := hd ⟨11, .data⟩ (by simp) rfl
     subst d11
     have d7 : b7 = true := hd ⟨7, .chain⟩ (by simp) rfl
     subst d7
     have d0 : b0 = true := hd ⟨0, .phase⟩ (by simp) rfl
     subst d0
     have d1 : b1 = true := hd ⟨1, .phase⟩ (by simp) rfl
     subst d1
     have d2 : b2 = true := hd ⟨2, .phase⟩ (by simp) rfl
     subst d2
     have d3 : b3 = true := hd ⟨3, .phase⟩ (by simp) rfl
     subst d3
     have d4 : b4 = true := hd ⟨4, .phase⟩ (by simp) rfl
     subst d4
     have d5 : b5 = true := hd ⟨5, .phase⟩ (by simp) rfl
     subst d5
     have d6 : b6 = true := hd ⟨6, .phase⟩ (by simp) rfl
     subst d6
     have d8 : b8 = true := hd ⟨8, .phase⟩ (by simp) rfl
     subst d8
     have d9 : b9 = true := hd ⟨9, .phase⟩ (by simp) rfl
     subst d9
     have d10 : b10 = true := hd ⟨10, .phase⟩ (by simp) rfl
     subst d10
     obtain rfl := cd12.out rfl
     obtain rfl := cd11.out rfl
     obtain rfl := cd7.out rfl
     obtain rfl := cd0.out rfl
     obtain rfl := cd1.out rfl
     obtain rfl := cd2.out rfl
     obtain rfl := cd3.out rfl
     obtain rfl := cd4.out rfl
     obtain rfl := cd5.out rfl
     obtain rfl := cd6.out rfl
     obtain rfl := cd8.out rfl
     obtain rfl := cd9.out rfl
     obtain rfl := cd10.out rfl
     clear hf hd
     have W_p := f_p.out
     have W_q := f_q.out
     have W_zb := f_zb.out rfl rfl
     have W_lg := f_lg.out rfl
     try simp only [setIfInBounds_toArray, set_cons_zero, set_cons_succ]
     have ZZ : Hid (w.heap[gb]? = some (.cells ZB 73 (0, 0))) := Lib.hid W_zb
     intro K hK
     rw [if_pos (by rfl)]
     refine wp_store_blkT 73 _ _ rfl gb ZB NB rfl rfl 73 ZZ 66 rblk_size HZB1.out HNB0.out HNB1.out fun w2 h8 b8 => ?_
     have hb2 := hb.grown b8 (Nat.le_trans (Nat.le_trans hpr0' hrW0) hb.size) (fun z hz => by cases hz; have := W_lg; omega)
     exact hK.out _ _ ⟨true,true,true,true,true,true,true,true,true,true,true,true,true,true,.pointer (some ⟨p,2,none⟩),.slice ba bn bc,.int .i64 (bn : Nat),.int .i64 ((bn : Nat) + 1),.pointer (some ⟨p,1,none⟩),.slice oa on oc,.slice ea on ec,.agg RA,.pointer (some ⟨p,1,none⟩),.slice oa on oc,.int .i64 (on : Nat),.agg NB,.pointer (some ⟨gb,0,none⟩),ea,ec,gb,(by go_simp),(by go_simp),hb2,rf,rf,rf,rf,rf,rf,rf,rf,rf,rf,rf,rf,rf,(Bk.grown f_p.out b8 (fun e => by have := Option.some.inj e; have := W_lg; omega)),(Bk.grown f_q.out b8 (fun e => by have := Option.some.inj e; have := W_lg; omega)),(fun _ h => by cases h),(fun _ h => by cases h),f_lg,(fun _ => h8.out),rf⟩
 · rintro act V3 ⟨b0,b1,b2,b3,b4,b5,b6,b7,b8,b9,b10,b11,b12,b13,x10,x11,x12,x13,x14,x15,x16,x17,x18,x19,x20,x21,x4,ea,ec,gb,hL,rfl,hb,cd0,cd1,cd2,cd3,cd4,cd5,cd6,cd7,cd8,cd9,cd10,cd11,cd12,f_p,f_q,f_t,f_zb,f_lg,f_s,f_oq⟩
   have hL' : [true, true, true, true, true, true, true, true, true, true, true, true, true, true] = [b0, b1, b2, b3, b4, b5, b6, b7, b8, b9, b10, b11, b12, b13] := congrArg Array.toList hL
   simp only [List.cons.injEq, and_true] at hL'
   obtain ⟨rfl, rfl, rfl, rfl, rfl, rfl, rfl, rfl, rfl, rfl, rfl, rfl, rfl, rfl⟩ := hL'
   obtain rfl := cd0.out rfl
   obtain rfl := cd1.out rfl
   obtain rfl := cd2.out rfl
   obtain rfl := cd3.out rfl
   obtain rfl := cd4.out rfl
   obtain rfl := cd5.out rfl
   obtain rfl := cd6.out rfl
   obtain rfl := cd7.out rfl
   obtain rfl := cd8.out rfl
   obtain rfl := cd9.out rfl
   obtain rfl := cd10.out rfl
   obtain rfl := cd11.out rfl
   obtain rfl := cd12.out rfl
   have W_p := f_p.out
   have W_q := f_q.out
   have W_lg := f_lg.out rfl
   have W_s := f_s.out rfl
   have W_oq := f_oq.out rfl
   clear hL f_p f_q f_t f_zb f_lg f_s f_oq cd0 cd1 cd2 cd3 cd4 cd5 cd6 cd7 cd8 cd9 cd10 cd11 cd12
   simp only [setIfInBounds_toArray, set_cons_zero, set_cons_succ]
   have hP3 := W_p
   have hQ3 := W_q
   have hS3 := W_s
   have hg3 := W_lg
   have B5 : Below p w V3 := B1.trans ((Below.refl _ _).drew.trans hb)
   clear W_p W_q W_s W_lg hb hB0
   obtain ⟨w5, rfl⟩ : ∃ x, x = V3 := ⟨_, rfl⟩
   have hbp : some gb ≠ some p := fun e => by have := Option.some.inj e; omega
   obtain ⟨z2, -⟩ : w5.cell? ⟨p, 2, none⟩ = some (.slice ba bn bc) ∧ True := ⟨hP3.c rfl, trivial⟩
   by_cases hz : bn = 0
   · have hS3 : Bk w5 gb NC 73 := by rw [← HN0.out hz]; exact hS3
     have hzi : ¬ (0 < (bn : Int)) := by omega
     have hzN : ¬ (0 < bn) := by omega
     clear hz
     obtain ⟨r, hr⟩ : ∃ x, w5.heap.size = x := ⟨_, rfl⟩
     have hrW : r ≤ w5.heap.size := Nat.le_of_eq hr.symm
     have hpr : p < r := by have := hP3.lt; omega
     have hpr' : p ≤ r := by omega
     have hqr : q < r := by have := hQ3.lt; omega
     have hbr : gb < r := by have := hS3.lt; omega
     have BV5 : Below p w5 w5 := Below.refl _ _
     clear hr
     have HSb := fun (w' : World) (hb : Below p w5.drew w') => HSb0 w' (B5.trans ((Below.refl _ _).drew.trans hb))
     clear HSb0
     have hB0 : p ≤ w5.heap.size := Nat.le_trans hpr' hrW
     go_upto_region 6 with fail
     try simp only [show decide (0 < bn) = false from decide_eq_false hzN]
     refine region_inv (RgC6 p p q r gb next oa on oc ba bn bc ta tn tc n1 l1 l2 nb NC) (by kernel_rfl) (by kernel_rfl) ?_ ?_ ?_
     · exact ⟨false,false,false,false,false,false,false,false,false,undef,undef,undef,undef,undef,undef,undef,undef,0,0,0,0,0,0,rfl,(by go_simp),Below.refl _ _,nf2,nf2,nf2,nf2,nf2,nf2,nf2,nf2,(fun h1 => hP3.past (Below.refl _ _).drew),(hQ3.past (Below.refl _ _).drew),(hS3.past (Below.refl _ _).drew),(nf2),(nf2),(nf2),nf2,nf2,nf2,nf2,nf2,nf2,(nf2),nf2,nf2,nf2,nf2,nf2⟩
     · refine ⟨?_, ?_, ?_, ?_, ?_, ?_, ?_, ?_, ?_, trivial⟩
       all_goals rintro L a w ⟨b0,b1,b2,b3,b4,b5,b6,b7,b8,x36,x37,x38,x39,x40,x41,x42,x43,ge,g3,c3,gs,g6,c6,rfl,rfl,hb,cd0,cd1,cd2,cd3,cd4,cd5,cd6,cd7,f_p,f_q,f_b,f_o6_3,f_o8_3,f_o8_6,f_e,f_le,f_f,f_lf,f_l0,f_l5,f_nm,f_ls,f_o,f_lo,f_s,f_qa2⟩ hf hd
       · have hf' : b0 = false := hf
         subst hf'
         clear hf hd
         have W_q := f_q.out
         have W_b := f_b.out
         have W_o6_3 := f_o6_3.out
         have W_o8_3 := f_o8_3.out
         have W_o8_6 := f_o8_6.out
         have W_nm := f_nm.out
         intro K hK
         rw [if_pos (by rfl)]
         go_simp
         have bx : Below w.heap.size w (w.alloc (.cells #[] 73)) := (Below.refl _ _).alloc (Nat.le_refl _) _
         exact hK.out _ _ ⟨true,b1,b2,b3,b4,b5,b6,b7,b8,(.slice (some ⟨(w.heap.size),0,none⟩) 0 0),x37,x38,x39,x40,x41,x42,x43,w.heap.size,g3,c3,gs,g6,c6,(by go_simp),(by go_simp),hb.trans (bx.mono (Nat.le_trans hB0 hb.size)),rf,cd1,cd2,cd3,cd4,cd5,cd6,cd7,(fun h1 => (f_p.out h1).past bx),(f_q.out.past bx),(f_b.out.past bx),f_o6_3,f_o8_3,f_o8_6,(fun _ _ => own_emptyR' w _),(fun _ => (Nat.le_trans hrW hb.size)),(fun h0 h1 => (f_f.out h0 h1).past bx),f_lf,(fun _ => (by show _ < _; rw [World.size_alloc]; omega)),(fun h0 => (f_l5.out h0).past bx),(fun _ h5 => Nat.ne_of_gt (f_l5.out h5)),(fun h0 h1 => (f_ls.out h0 h1).past bx),(fun h0 => (f_o.out h0).past bx),f_lo,(fun h0 => (f_s.out h0).past bx),f_qa2⟩
       · have hf' : b1 = false := hf
         subst hf'
         clear hf hd
         have W_q := f_q.out
         have W_b := f_b.out
         have W_o6_3 := f_o6_3.out
         have W_o8_3 := f_o8_3.out
         have W_o8_6 := f_o8_6.out
         have W_nm := f_nm.out
         intro K hK
         rw [if_pos (by rfl)]
         go_simp
         exact hK.out _ _ ⟨b0,true,b2,b3,b4,b5,b6,b7,b8,x36,(.pointer (some ⟨p,2,none⟩)),x38,x39,x40,x41,x42,x43,ge,g3,c3,gs,g6,c6,(by go_simp),(by go_simp),hb,cd0,(fun _ => rfl),cd2,cd3,cd4,cd5,cd6,cd7,f_p,f_q,f_b,f_o6_3,f_o8_3,f_o8_6,f_e,f_le,f_f,f_lf,f_l0,f_l5,f_nm,f_ls,f_o,f_lo,f_s,f_qa2⟩
       · have hf' : b2 = false := hf
         subst hf'
         have d1 : b1 = true := hd ⟨1, .data⟩ (by simp) rfl
         subst d1
         obtain rfl := cd1.out rfl
         clear hf hd
         have W_q := f_q.out
         have W_b := f_b.out
         have W_o6_3 := f_o6_3.out
         have W_o8_3 := f_o8_3.out
         have W_o8_6 := f_o8_6.out
         have W_nm := f_nm.out
         try simp only [setIfInBounds_toArray, set_cons_zero, set_cons_succ]
         have e_p : b8 = false := by cases hq : b8 with | false => rfl | true => exact absurd (f_qa2.out hq) (by simp)
         have W_p := f_p.out e_p
         have z2 : w.cell? ⟨p, 2, none⟩ = some (.slice ba bn bc) := W_p.c rfl
         intro K hK
         rw [if_pos (by rfl)]
         go_simp
         exact hK.out _ _ ⟨b0,true,true,b3,b4,b5,b6,b7,b8,x36,.pointer (some ⟨p,2,none⟩),(.slice ba bn bc),x39,x40,x41,x42,x43,ge,g3,c3,gs,g6,c6,(by go_simp),(by go_simp),hb,cd0,rf,rf,cd3,cd4,cd5,cd6,cd7,f_p,f_q,f_b,f_o6_3,f_o8_3,f_o8_6,f_e,f_le,f_f,f_lf,f_l0,f_l5,f_nm,f_ls,f_o,f_lo,f_s,rf⟩
       · have hf' : b3 = false := hf
         subst hf'
         have d0 : b0 = true := hd ⟨0, .data⟩ (by simp) rfl
         subst d0
         have d2 : b2 = true := hd ⟨2, .data⟩ (by simp) rfl
         subst d2
         obtain rfl := cd0.out rfl
         obtain rfl := cd2.out rfl
         clear hf hd
         have W_q := f_q.out
         have W_b := f_b.out
         have W_o6_3 := f_o6_3.out
         have W_o8_3 := f_o8_3.out
         have W_o8_6 := f_o8_6.out
         have W_e := f_e.out rfl rfl
         have W_le := f_le.out rfl
         have W_l0 := f_l0.out rfl
         have W_nm := f_nm.out
         try simp only [setIfInBounds_toArray, set_cons_zero, set_cons_succ]
         intro K hK
         rw [if_pos (by rfl)]
         refine wp_append_o (E := EBk) (bd := r) _ _ 30 30 rfl rowTyRBk rfl W_e W_le (Nat.le_trans hrW hb.size) _ rfl bn l1 ((HSb _ hb).src Tryz.underlying30) HLN.out bn (Nat.zero_add _) l1 (List.nil_append _) (by omega) ?_
         intro g9 c9 w2 o9 h9 gz9 _ bz9
         have hb2 := hb.trans (bz9.mono hpr')
         exact hK.out _ _ ⟨true,b1,true,true,b4,b5,b6,b7,b8,.slice (some ⟨ge,0,none⟩) 0 0,x37,.slice ba bn bc,(.slice (some ⟨g9,0,none⟩) bn c9),x40,x41,x42,x43,ge,g9,c9,gs,g6,c6,(by go_simp),(by go_simp),hb2,rf,cd1,rf,rf,cd4,cd5,cd6,cd7,(fun h1 => Bk.past9 (f_p.out h1) bz9 hpr),(Bk.past9 f_q.out bz9 hqr),(Bk.past9 f_b.out bz9 hbr),rf,rf,f_o8_6,(fun _ h => by cases h),f_le,(fun _ _ => o9),(fun _ => h9),(fun h0 => ((f_l0.out h0)).grown gz9),(fun h0 => ((f_l5.out h0)).grown gz9),f_nm,(fun h0 h1 => (IsR.grown (f_ls.out h0 h1) gz9 (fun a ha e => W_nm rfl h0 (by cases ha; exact (Option.some.inj e).symm)))),(fun h0 => absurd (f_o6_3.out h0) (by simp)),(fun h0 => absurd (f_o6_3.out h0) (by simp)),(fun h0 => absurd (f_o8_3.out h0) (by simp)),f_qa2⟩
       · have hf' : b4 = false := hf
         subst hf'
         clear hf hd
         have W_q := f_q.out
         have W_b := f_b.out
         have W_o6_3 := f_o6_3.out
         have W_o8_3 := f_o8_3.out
         have W_o8_6 := f_o8_6.out
         have W_nm := f_nm.out
         try simp only [setIfInBounds_toArray, set_cons_zero, set_cons_succ]
         intro K hK
         rw [if_pos (by rfl)]
         refine wp_load_cells 73 _ rfl ⟨gb,0,none⟩ rfl NC.toList (fun j v hv => by rw [Addr.add_lit,Nat.zero_add]; exact W_b.c (by simpa using hv)) rblk_agg (by rw [rblk_size,HNC.out]) ?_
         simp only [Array.toArray_toList]
         exact hK.out _ _ ⟨b0,b1,b2,b3,true,b5,b6,b7,b8,x36,x37,x38,x39,(.agg NC),x41,x42,x43,ge,g3,c3,gs,g6,c6,(by go_simp),(by go_simp),hb,cd0,cd1,cd2,cd3,(fun _ => rfl),cd5,cd6,cd7,f_p,f_q,f_b,f_o6_3,f_o8_3,f_o8_6,f_e,f_le,f_f,f_lf,f_l0,f_l5,f_nm,f_ls,f_o,f_lo,f_s,f_qa2⟩
       · have hf' : b5 = false := hf
         subst hf'
         have d4 : b4 = true := hd ⟨4, .data⟩ (by simp) rfl
         subst d4
         obtain rfl := cd4.out rfl
         clear hf hd
         have W_q := f_q.out
         have W_b := f_b.out
         have W_o6_3 := f_o6_3.out
         have W_o8_3 := f_o8_3.out
         have W_o8_6 := f_o8_6.out
         have W_nm := f_nm.out
         try simp only [setIfInBounds_toArray, set_cons_zero, set_cons_succ]
         intro K hK
         rw [if_pos (by rfl)]
         refine wp_buildSlice_one 30 73 _ rfl CL 66 (congrArg Value.agg HCN.out.symm) HC66.out (by omega) (by omega) Tryz.underlying30 rblk_i fun w' h7 bx l9 => ?_
         exact hK.out _ _ ⟨b0,b1,b2,b3,true,true,b6,b7,b8,x36,x37,x38,x39,.agg NC,(.slice (some ⟨(w.heap.size),0,none⟩) 1 1),x42,x43,ge,g3,c3,w.heap.size,g6,c6,(by go_simp),(by go_simp),hb.trans (bx.mono (Nat.le_trans hB0 hb.size)),cd0,cd1,cd2,cd3,rf,rf,cd6,cd7,(fun h1 => (f_p.out h1).past bx),(f_q.out.past bx),(f_b.out.past bx),f_o6_3,f_o8_3,f_o8_6,(fun h0 h1 => (f_e.out h0 h1).past bx),f_le,(fun h0 h1 => (f_f.out h0 h1).past bx),f_lf,(fun h0 => (f_l0.out h0).past bx),(fun _ => l9),(fun h0 _ => Nat.ne_of_lt (f_l0.out h0)),(fun _ _ => rblk_row h7 HCB.out),(fun h0 => (f_o.out h0).past bx),f_lo,(fun h0 => (f_s.out h0).past bx),f_qa2⟩
       · have hf' : b6 = false := hf
         subst hf'
         have d3 : b3 = true := hd ⟨3, .data⟩ (by simp) rfl
         subst d3
         have d5 : b5 = true := hd ⟨5, .data⟩ (by simp) rfl
         subst d5
         obtain rfl := cd3.out rfl
         obtain rfl := cd5.out rfl
         clear hf hd
         have W_q := f_q.out
         have W_b := f_b.out
         have W_o6_3 := f_o6_3.out
         have W_o8_3 := f_o8_3.out
         have W_o8_6 := f_o8_6.out
         have W_f := f_f.out rfl rfl
         have W_lf := f_lf.out rfl
         have W_l5 := f_l5.out rfl
         have W_nm := f_nm.out
         have W_ls := f_ls.out rfl rfl
         try simp only [setIfInBounds_toArray, set_cons_zero, set_cons_succ]
         intro K hK
         rw [if_pos (by rfl)]
         refine wp_append_o (E := EBk) (bd := r) _ _ 30 30 rfl rowTyRBk rfl W_f W_lf (Nat.le_trans hrW hb.size) _ rfl 1 [nb] (W_ls.src Tryz.underlying30) rfl n1 HN1.out l2 HL2.out (by omega) ?_
         intro g9 c9 w2 o9 h9 gz9 _ bz9
         have hb2 := hb.trans (bz9.mono hpr')
         exact hK.out _ _ ⟨b0,b1,b2,true,b4,true,true,b7,b8,x36,x37,x38,.slice (some ⟨g3,0,none⟩) bn c3,x40,.slice (some ⟨gs,0,none⟩) 1 1,(.slice (some ⟨g9,0,none⟩) n1 c9),x43,ge,g3,c3,gs,g9,c9,(by go_simp),(by go_simp),hb2,cd0,cd1,cd2,rf,cd4,rf,rf,cd7,(fun h1 => Bk.past9 (f_p.out h1) bz9 hpr),(Bk.past9 f_q.out bz9 hqr),(Bk.past9 f_b.out bz9 hbr),rf,f_o8_3,rf,(fun _ h => by cases h),f_le,(fun _ h => by cases h),f_lf,(fun h0 => ((f_l0.out h0)).grown gz9),(fun h0 => ((f_l5.out h0)).grown gz9),f_nm,(fun _ h => by cases h),(fun _ => o9),(fun _ => h9),(fun h0 => absurd (f_o8_6.out h0) (by simp)),f_qa2⟩
       · have hf' : b7 = false := hf
         subst hf'
         have d0 : b0 = true := hd ⟨0, .phase⟩ (by simp) rfl
         subst d0
         have d1 : b1 = true := hd ⟨1, .phase⟩ (by simp) rfl
         subst d1
         have d2 : b2 = true := hd ⟨2, .phase⟩ (by simp) rfl
         subst d2
         have d3 : b3 = true := hd ⟨3, .phase⟩ (by simp) rfl
         subst d3
         have d4 : b4 = true := hd ⟨4, .phase⟩ (by simp) rfl
         subst d4
         have d5 : b5 = true := hd ⟨5, .phase⟩ (by simp) rfl
         subst d5
         have d6 : b6 = true := hd ⟨6, .phase⟩ (by simp) rfl
         subst d6
         obtain rfl := cd0.out rfl
         obtain rfl := cd1.out rfl
         obtain rfl := cd2.out rfl
         obtain rfl := cd3.out rfl
         obtain rfl := cd4.out rfl
         obtain rfl := cd5.out rfl
         obtain rfl := cd6.out rfl
         clear hf hd
         have W_q := f_q.out
         have W_b := f_b.out
         have W_o6_3 := f_o6_3.out
         have W_o8_3 := f_o8_3.out
         have W_o8_6 := f_o8_6.out
         have W_le := f_le.out rfl
         have W_lf := f_lf.out rfl
         have W_l0 := f_l0.out rfl
         have W_l5 := f_l5.out rfl
         have W_nm := f_nm.out
         have W_o := f_o.out rfl
         have W_lo := f_lo.out rfl
         intro K hK
         rw [if_pos (by rfl)]
         go_simp
         exact hK.out _ _ ⟨true,true,true,true,true,true,true,true,b8,.slice (some ⟨ge,0,none⟩) 0 0,.pointer (some ⟨p,2,none⟩),.slice ba bn bc,.slice (some ⟨g3,0,none⟩) bn c3,.agg NC,.slice (some ⟨gs,0,none⟩) 1 1,.slice (some ⟨g6,0,none⟩) n1 c6,(.pointer (some ⟨p,2,none⟩)),ge,g3,c3,gs,g6,c6,(by go_simp),(by go_simp),hb,rf,rf,rf,rf,rf,rf,rf,rf,f_p,f_q,f_b,f_o6_3,f_o8_3,f_o8_6,(fun _ h => by cases h),f_le,(fun _ h => by cases h),f_lf,f_l0,f_l5,f_nm,(fun _ h => by cases h),f_o,f_lo,f_s,f_qa2⟩
       · have hf' : b8 = false := hf
         subst hf'
         have d7 : b7 = true := hd ⟨7, .data⟩ (by simp) rfl
         subst d7
         have d6 : b6 = true := hd ⟨6, .data⟩ (by simp) rfl
         subst d6
         have d0 : b0 = true := hd ⟨0, .phase⟩ (by simp) rfl
         subst d0
         have d1 : b1 = true := hd ⟨1, .phase⟩ (by simp) rfl
         subst d1
         have d2 : b2 = true := hd ⟨2, .phase⟩ (by simp) rfl
         subst d2
         have d3 : b3 = true := hd ⟨3, .phase⟩ (by simp) rfl
         subst d3
         have d4 : b4 = true := hd ⟨4, .phase⟩ (by simp) rfl
         subst d4
         have d5 : b5 = true := hd ⟨5, .phase⟩ (by simp) rfl
         subst d5
         obtain rfl := cd7.out rfl
         obtain rfl := cd6.out rfl
         obtain rfl := cd0.out rfl
         obtain rfl := cd1.out rfl
         obtain rfl := cd2.out rfl
         obtain rfl := cd3.out rfl
         obtain rfl := cd4.out rfl
         obtain rfl := cd5.out rfl
         clear hf hd
         have W_p := f_p.out rfl
         have W_q := f_q.out
         have W_b := f_b.out
         have W_o6_3 := f_o6_3.out
         have W_o8_3 := f_o8_3.out
         have W_o8_6 := f_o8_6.out
         have W_le := f_le.out rfl
         have W_lf := f_lf.out rfl
         have W_l0 := f_l0.out rfl
         have W_l5 := f_l5.out rfl
         have W_nm := f_nm.out
         have W_o := f_o.out rfl
         have W_lo := f_lo.out rfl
         try simp only [setIfInBounds_toArray, set_cons_zero, set_cons_succ]
         have z2 : w.cell? ⟨p, 2, none⟩ = some (.slice ba bn bc) := W_p.c rfl
         have fz := free_blk (i := 2) W_p
         intro K hK
         rw [if_pos (by rfl)]
         go_simp
         have gz9 := grown_cell (grown_self w p) 2 (.slice (some ⟨g6, 0, none⟩) n1 c6)
         have hb2 := hb.grown gz9 (Nat.le_trans (Nat.le_trans hpr' hrW) hb.size) (fun z hz => by cases hz; exact Nat.le_refl _)
         exact hK.out _ _ ⟨true,true,true,true,true,true,true,true,true,.slice (some ⟨ge,0,none⟩) 0 0,.pointer (some ⟨p,2,none⟩),.slice ba bn bc,.slice (some ⟨g3,0,none⟩) bn c3,.agg NC,.slice (some ⟨gs,0,none⟩) 1 1,.slice (some ⟨g6,0,none⟩) n1 c6,.pointer (some ⟨p,2,none⟩),ge,g3,c3,gs,g6,c6,(by go_simp),(by go_simp),hb2,rf,rf,rf,rf,rf,rf,rf,rf,nf2,(Bk.grown f_q.out gz9 hqp),(Bk.grown f_b.out gz9 hbp),f_o6_3,(fun _ => f_o6_3.out rfl),rf,(fun _ h => by cases h),f_le,(fun _ h => by cases h),f_lf,(fun h0 => ((f_l0.out h0)).grown gz9),(fun h0 => ((f_l5.out h0)).grown gz9),f_nm,(fun _ h => by cases h),(fun h0 => ((f_o.out h0)).grown gz9 (fun e => by have := Option.some.inj e; have := W_lo; omega)),f_lo,(fun _ => lg_set2 W_p _),rf⟩
     · rintro act V6 ⟨b0,b1,b2,b3,b4,b5,b6,b7,b8,x36,x37,x38,x39,x40,x41,x42,x43,ge,g3,c3,gs,g6,c6,hL,rfl,hb,cd0,cd1,cd2,cd3,cd4,cd5,cd6,cd7,f_p,f_q,f_b,f_o6_3,f_o8_3,f_o8_6,f_e,f_le,f_f,f_lf,f_l0,f_l5,f_nm,f_ls,f_o,f_lo,f_s,f_qa2⟩
       have hL' : [true, true, true, true, true, true, true, true, true] = [b0, b1, b2, b3, b4, b5, b6, b7, b8] := congrArg Array.toList hL
       simp only [List.cons.injEq, and_true] at hL'
       obtain ⟨rfl, rfl, rfl, rfl, rfl, rfl, rfl, rfl, rfl⟩ := hL'
       obtain rfl := cd0.out rfl
       obtain rfl := cd1.out rfl
       obtain rfl := cd2.out rfl
       obtain rfl := cd3.out rfl
       obtain rfl := cd4.out rfl
       obtain rfl := cd5.out rfl
       obtain rfl := cd6.out rfl
       obtain rfl := cd7.out rfl
       have W_q := f_q.out
       have W_b := f_b.out
       have W_o6_3 := f_o6_3.out
       have W_o8_3 := f_o8_3.out
       have W_o8_6 := f_o8_6.out
       have W_le := f_le.out rfl
       have W_lf := f_lf.out rfl
       have W_l0 := f_l0.out rfl
       have W_l5 := f_l5.out rfl
       have W_nm := f_nm.out
       have W_o := f_o.out rfl
       have W_lo := f_lo.out rfl
       have W_s := f_s.out rfl
       have W_qa2 := f_qa2.out rfl
       clear hL f_p f_q f_b f_o6_3 f_o8_3 f_o8_6 f_e f_le f_f f_lf f_l0 f_l5 f_nm f_ls f_o f_lo f_s f_qa2 cd0 cd1 cd2 cd3 cd4 cd5 cd6 cd7
       simp only [setIfInBounds_toArray, set_cons_zero, set_cons_succ]
       have hP6 := W_s
       have hQ6 := W_q
       have hO6 := W_o
       have hl6 := W_lo
       have BV6 : Below p w5 V6 := (Below.refl _ _).drew.trans hb
       clear W_s W_q W_b W_o W_lo W_le W_lf W_l0 W_l5 W_nm hb hP3 hQ3 hS3 HSb
       have BP : Below p w V6 := B5.trans BV6
       have HSt := fun (w' : World) (hb : Below p V6.drew w') => HSt0 w' (BP.trans ((Below.refl _ _).drew.trans hb))
       obtain ⟨w6, rfl⟩ : ∃ x, x = V6 := ⟨_, rfl⟩
       obtain ⟨gB, rfl⟩ : ∃ x, x = g6 := ⟨_, rfl⟩
       obtain ⟨bn4, rfl⟩ : ∃ x, x = n1 := ⟨_, rfl⟩
       obtain ⟨cB, rfl⟩ : ∃ x, x = c6 := ⟨_, rfl⟩
       obtain ⟨l4, rfl⟩ : ∃ x, x = l2 := ⟨_, rfl⟩
       obtain ⟨r7, hr7⟩ : ∃ x, w6.heap.size = x := ⟨_, rfl⟩
       have hrW7 : r7 ≤ w6.heap.size := Nat.le_of_eq hr7.symm
       have hpr7 : p < r7 := by have := hP6.lt; omega
       have hpr7' : p ≤ r7 := by omega
       have hqr7 : q < r7 := by have := hQ6.lt; omega
       have hBr : gB < r7 := by have := hO6.lt; omega
       have hBp : some gB ≠ some p := fun e => by have := Option.some.inj e; omega
       clear hr7 HSt0 hB0
       have hB0 : p ≤ w6.heap.size := Nat.le_trans hpr7' hrW7
       go_upto_region 7 with fail
       refine region_inv (RgC7 p p q r7 gB bn4 cB l4 next oa on oc ba bn bc ta tn tc n7 t1 t2) (by kernel_rfl) (by kernel_rfl) ?_ ?_ ?_
       · exact ⟨false,false,false,false,false,false,false,false,false,false,undef,undef,undef,undef,undef,undef,undef,undef,undef,0,0,0,0,0,0,rfl,(by go_simp),Below.refl _ _,nf2,nf2,nf2,nf2,nf2,nf2,nf2,nf2,nf2,(fun h1 => hP6.past (Below.refl _ _).drew),(hQ6.past (Below.refl _ _).drew),(hO6.past (Below.refl _ _).drew),(nf2),(nf2),(nf2),nf2,nf2,nf2,nf2,nf2,nf2,(nf2),nf2,nf2,nf2,nf2,nf2,nf2⟩
       · refine ⟨?_, ?_, ?_, ?_, ?_, ?_, ?_, ?_, ?_, ?_, trivial⟩
         all_goals rintro L a w ⟨b0,b1,b2,b3,b4,b5,b6,b7,b8,b9,x44,x45,x46,x47,x48,x49,x50,x51,x52,ge,g3,c3,gs,g6,c6,rfl,rfl,hb,cd0,cd1,cd2,cd3,cd4,cd5,cd6,cd7,cd8,f_p,f_q,f_bk,f_o7_3,f_o9_3,f_o9_7,f_e,f_le,f_f,f_lf,f_l0,f_l5,f_nm,f_ls,f_o,f_lo,f_s,f_qa2,f_qa5⟩ hf hd
         · have hf' : b0 = false := hf
           subst hf'
           clear hf hd
           have W_q := f_q.out
           have W_bk := f_bk.out
           have W_o7_3 := f_o7_3.out
           have W_o9_3 := f_o9_3.out
           have W_o9_7 := f_o9_7.out
           have W_nm := f_nm.out
           intro K hK
           rw [if_pos (by rfl)]
           go_simp
           have bx : Below w.heap.size w (w.alloc (.cells #[] 25)) := (Below.refl _ _).alloc (Nat.le_refl _) _
           exact hK.out _ _ ⟨true,b1,b2,b3,b4,b5,b6,b7,b8,b9,(.slice (some ⟨(w.heap.size),0,none⟩) 0 0),x45,x46,x47,x48,x49,x50,x51,x52,w.heap.size,g3,c3,gs,g6,c6,(by go_simp),(by go_simp),hb.trans (bx.mono (Nat.le_trans hB0 hb.size)),rf,cd1,cd2,cd3,cd4,cd5,cd6,cd7,cd8,(fun h1 => (f_p.out h1).past bx),(f_q.out.past bx),(f_bk.out.past bx),f_o7_3,f_o9_3,f_o9_7,(fun _ _ => own_emptyR' w _),(fun _ => (Nat.le_trans hrW7 hb.size)),(fun h0 h1 => (f_f.out h0 h1).past bx),f_lf,(fun _ => (by show _ < _; rw [World.size_alloc]; omega)),(fun h0 => (f_l5.out h0).past bx),(fun _ h5 => Nat.ne_of_gt (f_l5.out h5)),(fun h0 h1 => (f_ls.out h0 h1).past bx),(fun h0 => (f_o.out h0).past bx),f_lo,(fun h0 => (f_s.out h0).past bx),f_qa2,f_qa5⟩
         · have hf' : b1 = false := hf
           subst hf'
           clear hf hd
           have W_q := f_q.out
           have W_bk := f_bk.out
           have W_o7_3 := f_o7_3.out
           have W_o9_3 := f_o9_3.out
           have W_o9_7 := f_o9_7.out
           have W_nm := f_nm.out
           intro K hK
           rw [if_pos (by rfl)]
           go_simp
           exact hK.out _ _ ⟨b0,true,b2,b3,b4,b5,b6,b7,b8,b9,x44,(.pointer (some ⟨p,3,none⟩)),x46,x47,x48,x49,x50,x51,x52,ge,g3,c3,gs,g6,c6,(by go_simp),(by go_simp),hb,cd0,rf,cd2,cd3,cd4,cd5,cd6,cd7,cd8,f_p,f_q,f_bk,f_o7_3,f_o9_3,f_o9_7,f_e,f_le,f_f,f_lf,f_l0,f_l5,f_nm,f_ls,f_o,f_lo,f_s,f_qa2,f_qa5⟩
         · have hf' : b2 = false := hf
           subst hf'
           have d1 : b1 = true := hd ⟨1, .data⟩ (by simp) rfl
           subst d1
           obtain rfl := cd1.out rfl
           clear hf hd
           have W_q := f_q.out
           have W_bk := f_bk.out
           have W_o7_3 := f_o7_3.out
           have W_o9_3 := f_o9_3.out
           have W_o9_7 := f_o9_7.out
           have W_nm := f_nm.out
           try simp only [setIfInBounds_toArray, set_cons_zero, set_cons_succ]
           have e_p : b9 = false := by cases hq : b9 with | false => rfl | true => exact absurd (f_qa2.out hq) (by simp)
           have W_p := f_p.out e_p
           have z3 : w.cell? ⟨p, 3, none⟩ = some (.slice ta tn tc) := W_p.c rfl
           intro K hK
           rw [if_pos (by rfl)]
           go_simp
           exact hK.out _ _ ⟨b0,true,true,b3,b4,b5,b6,b7,b8,b9,x44,.pointer (some ⟨p,3,none⟩),(.slice ta tn tc),x47,x48,x49,x50,x51,x52,ge,g3,c3,gs,g6,c6,(by go_simp),(by go_simp),hb,cd0,rf,rf,cd3,cd4,cd5,cd6,cd7,cd8,f_p,f_q,f_bk,f_o7_3,f_o9_3,f_o9_7,f_e,f_le,f_f,f_lf,f_l0,f_l5,f_nm,f_ls,f_o,f_lo,f_s,rf,f_qa5⟩
         · have hf' : b3 = false := hf
           subst hf'
           have d0 : b0 = true := hd ⟨0, .data⟩ (by simp) rfl
           subst d0
           have d2 : b2 = true := hd ⟨2, .data⟩ (by simp) rfl
           subst d2
           obtain rfl := cd0.out rfl
           obtain rfl := cd2.out rfl
           clear hf hd
           have W_q := f_q.out
           have W_bk := f_bk.out
           have W_o7_3 := f_o7_3.out
           have W_o9_3 := f_o9_3.out
           have W_o9_7 := f_o9_7.out
           have W_e := f_e.out rfl rfl
           have W_le := f_le.out rfl
           have W_l0 := f_l0.out rfl
           have W_nm := f_nm.out
           try simp only [setIfInBounds_toArray, set_cons_zero, set_cons_succ]
           intro K hK
           rw [if_pos (by rfl)]
           refine wp_append_o (E := EH) (bd := r7) _ _ 27 27 rfl rowTyTxs rfl W_e W_le (Nat.le_trans hrW7 hb.size) _ rfl tn t1 ((HSt _ hb).src Tryz.underlying27) HLN7.out tn (Nat.zero_add _) t1 (List.nil_append _) (by omega) ?_
           intro g9 c9 w2 o9 h9 gz9 _ bz9
           have hb2 := hb.trans (bz9.mono hpr7')
           exact hK.out _ _ ⟨true,b1,true,true,b4,b5,b6,b7,b8,b9,.slice (some ⟨ge,0,none⟩) 0 0,x45,.slice ta tn tc,(.slice (some ⟨g9,0,none⟩) tn c9),x48,x49,x50,x51,x52,ge,g9,c9,gs,g6,c6,(by go_simp),(by go_simp),hb2,rf,cd1,rf,rf,cd4,cd5,cd6,cd7,cd8,(fun h1 => Bk.past9 (f_p.out h1) bz9 hpr7),(Bk.past9 f_q.out bz9 hqr7),(OwnR.below f_bk.out bz9 hBr),rf,rf,f_o9_7,(fun _ h => by cases h),f_le,(fun _ _ => o9),(fun _ => h9),(fun h0 => ((f_l0.out h0)).grown gz9),(fun h0 => ((f_l5.out h0)).grown gz9),f_nm,(fun h0 h1 => (IsR.grown (f_ls.out h0 h1) gz9 (fun a ha e => W_nm rfl h0 (by cases ha; exact (Option.some.inj e).symm)))),(fun h0 => absurd (f_o7_3.out h0) (by simp)),(fun h0 => absurd (f_o7_3.out h0) (by simp)),(fun h0 => absurd (f_o9_3.out h0) (by simp)),f_qa2,f_qa5⟩
         · have hf' : b4 = false := hf
           subst hf'
           clear hf hd
           have W_q := f_q.out
           have W_bk := f_bk.out
           have W_o7_3 := f_o7_3.out
           have W_o9_3 := f_o9_3.out
           have W_o9_7 := f_o9_7.out
           have W_nm := f_nm.out
           intro K hK
           rw [if_pos (by rfl)]
           go_simp
           exact hK.out _ _ ⟨b0,b1,b2,b3,true,b5,b6,b7,b8,b9,x44,x45,x46,x47,(.pointer (some ⟨p,1,none⟩)),x49,x50,x51,x52,ge,g3,c3,gs,g6,c6,(by go_simp),(by go_simp),hb,cd0,cd1,cd2,cd3,rf,cd5,cd6,cd7,cd8,f_p,f_q,f_bk,f_o7_3,f_o9_3,f_o9_7,f_e,f_le,f_f,f_lf,f_l0,f_l5,f_nm,f_ls,f_o,f_lo,f_s,f_qa2,f_qa5⟩
         · have hf' : b5 = false := hf
           subst hf'
           have d4 : b4 = true := hd ⟨4, .data⟩ (by simp) rfl
           subst d4
           obtain rfl := cd4.out rfl
           clear hf hd
           have W_q := f_q.out
           have W_bk := f_bk.out
           have W_o7_3 := f_o7_3.out
           have W_o9_3 := f_o9_3.out
           have W_o9_7 := f_o9_7.out
           have W_nm := f_nm.out
           try simp only [setIfInBounds_toArray, set_cons_zero, set_cons_succ]
           have e_p : b9 = false := by cases hq : b9 with | false => rfl | true => exact absurd (f_qa5.out hq) (by simp)
           have W_p := f_p.out e_p
           have z1 : w.cell? ⟨p, 1, none⟩ = some (.slice oa on oc) := W_p.c rfl
           intro K hK
           rw [if_pos (by rfl)]
           go_simp
           exact hK.out _ _ ⟨b0,b1,b2,b3,true,true,b6,b7,b8,b9,x44,x45,x46,x47,.pointer (some ⟨p,1,none⟩),(.slice oa on oc),x50,x51,x52,ge,g3,c3,gs,g6,c6,(by go_simp),(by go_simp),hb,cd0,cd1,cd2,cd3,rf,rf,cd6,cd7,cd8,f_p,f_q,f_bk,f_o7_3,f_o9_3,f_o9_7,f_e,f_le,f_f,f_lf,f_l0,f_l5,f_nm,f_ls,f_o,f_lo,f_s,f_qa2,rf⟩
         · have hf' : b6 = false := hf
           subst hf'
           have d5 : b5 = true := hd ⟨5, .data⟩ (by simp) rfl
           subst d5
           obtain rfl := cd5.out rfl
           clear hf hd
           have W_q := f_q.out
           have W_bk := f_bk.out
           have W_o7_3 := f_o7_3.out
           have W_o9_3 := f_o9_3.out
           have W_o9_7 := f_o9_7.out
           have W_nm := f_nm.out
           intro K hK
           rw [if_pos (by rfl)]
           go_simp
           have bx : Below w.heap.size w (w.alloc (.cells #[.slice oa on oc] 25)) := (Below.refl _ _).alloc (Nat.le_refl _) _
           have l9 : w.heap.size < (w.alloc (.cells #[.slice oa on oc] 25)).heap.size := by rw [World.size_alloc]; omega
           exact hK.out _ _ ⟨b0,b1,b2,b3,b4,true,true,b7,b8,b9,x44,x45,x46,x47,x48,.slice oa on oc,(.slice (some ⟨(w.heap.size),0,none⟩) 1 1),x51,x52,ge,g3,c3,w.heap.size,g6,c6,(by go_simp),(by go_simp),hb.trans (bx.mono (Nat.le_trans hB0 hb.size)),cd0,cd1,cd2,cd3,cd4,rf,rf,cd7,cd8,(fun h1 => (f_p.out h1).past bx),(f_q.out.past bx),(f_bk.out.past bx),f_o7_3,f_o9_3,f_o9_7,(fun h0 h1 => (f_e.out h0 h1).past bx),f_le,(fun h0 h1 => (f_f.out h0 h1).past bx),f_lf,(fun h0 => (f_l0.out h0).past bx),(fun _ => l9),(fun h0 _ => Nat.ne_of_lt (f_l0.out h0)),(fun _ _ => hd_one w _ ⟨oa,on,oc⟩),(fun h0 => (f_o.out h0).past bx),f_lo,(fun h0 => (f_s.out h0).past bx),f_qa2,f_qa5⟩
         · have hf' : b7 = false := hf
           subst hf'
           have d3 : b3 = true := hd ⟨3, .data⟩ (by simp) rfl
           subst d3
           have d6 : b6 = true := hd ⟨6, .data⟩ (by simp) rfl
           subst d6
           obtain rfl := cd3.out rfl
           obtain rfl := cd6.out rfl
           clear hf hd
           have W_q := f_q.out
           have W_bk := f_bk.out
           have W_o7_3 := f_o7_3.out
           have W_o9_3 := f_o9_3.out
           have W_o9_7 := f_o9_7.out
           have W_f := f_f.out rfl rfl
           have W_lf := f_lf.out rfl
           have W_l5 := f_l5.out rfl
           have W_nm := f_nm.out
           have W_ls := f_ls.out rfl rfl
           try simp only [setIfInBounds_toArray, set_cons_zero, set_cons_succ]
           intro K hK
           rw [if_pos (by rfl)]
           refine wp_append_o (E := EH) (bd := r7) _ _ 27 27 rfl rowTyTxs rfl W_f W_lf (Nat.le_trans hrW7 hb.size) _ rfl 1 [⟨oa,on,oc⟩] (W_ls.src Tryz.underlying27) rfl n7 HN7.out t2 HL7.out (by omega) ?_
           intro g9 c9 w2 o9 h9 gz9 _ bz9
           have hb2 := hb.trans (bz9.mono hpr7')
           exact hK.out _ _ ⟨b0,b1,b2,true,b4,b5,true,true,b8,b9,x44,x45,x46,.slice (some ⟨g3,0,none⟩) tn c3,x48,x49,.slice (some ⟨gs,0,none⟩) 1 1,(.slice (some ⟨g9,0,none⟩) n7 c9),x52,ge,g3,c3,gs,g9,c9,(by go_simp),(by go_simp),hb2,cd0,cd1,cd2,rf,cd4,cd5,rf,rf,cd8,(fun h1 => Bk.past9 (f_p.out h1) bz9 hpr7),(Bk.past9 f_q.out bz9 hqr7),(OwnR.below f_bk.out bz9 hBr),rf,f_o9_3,rf,(fun _ h => by cases h),f_le,(fun _ h => by cases h),f_lf,(fun h0 => ((f_l0.out h0)).grown gz9),(fun h0 => ((f_l5.out h0)).grown gz9),f_nm,(fun _ h => by cases h),(fun _ => o9),(fun _ => h9),(fun h0 => absurd (f_o9_7.out h0) (by simp)),f_qa2,f_qa5⟩
         · have hf' : b8 = false := hf
           subst hf'
           have d0 : b0 = true := hd ⟨0, .phase⟩ (by simp) rfl
           subst d0
           have d1 : b1 = true := hd ⟨1, .phase⟩ (by simp) rfl
           subst d1
           have d2 : b2 = true := hd ⟨2, .phase⟩ (by simp) rfl
           subst d2
           have d3 : b3 = true := hd ⟨3, .phase⟩ (by simp) rfl
           subst d3
           have d4 : b4 = true := hd ⟨4, .phase⟩ (by simp) rfl
           subst d4
           have d5 : b5 = true := hd ⟨5, .phase⟩ (by simp) rfl
           subst d5
           have d6 : b6 = true := hd ⟨6, .phase⟩ (by simp) rfl
           subst d6
           have d7 : b7 = true := hd ⟨7, .phase⟩ (by simp) rfl
           subst d7
           obtain rfl := cd0.out rfl
           obtain rfl := cd1.out rfl
           obtain rfl := cd2.out rfl
           obtain rfl := cd3.out rfl
           obtain rfl := cd4.out rfl
           obtain rfl := cd5.out rfl
           obtain rfl := cd6.out rfl
           obtain rfl := cd7.out rfl
           clear hf hd
           have W_q := f_q.out
           have W_bk := f_bk.out
           have W_o7_3 := f_o7_3.out
           have W_o9_3 := f_o9_3.out
           have W_o9_7 := f_o9_7.out
           have W_le := f_le.out rfl
           have W_lf := f_lf.out rfl
           have W_l0 := f_l0.out rfl
           have W_l5 := f_l5.out rfl
           have W_nm := f_nm.out
           have W_o := f_o.out rfl
           have W_lo := f_lo.out rfl
           intro K hK
           rw [if_pos (by rfl)]
           go_simp
           exact hK.out _ _ ⟨true,true,true,true,true,true,true,true,true,b9,.slice (some ⟨ge,0,none⟩) 0 0,.pointer (some ⟨p,3,none⟩),.slice ta tn tc,.slice (some ⟨g3,0,none⟩) tn c3,.pointer (some ⟨p,1,none⟩),.slice oa on oc,.slice (some ⟨gs,0,none⟩) 1 1,.slice (some ⟨g6,0,none⟩) n7 c6,(.pointer (some ⟨p,3,none⟩)),ge,g3,c3,gs,g6,c6,(by go_simp),(by go_simp),hb,rf,rf,rf,rf,rf,rf,rf,rf,rf,f_p,f_q,f_bk,f_o7_3,f_o9_3,f_o9_7,(fun _ h => by cases h),f_le,(fun _ h => by cases h),f_lf,f_l0,f_l5,f_nm,(fun _ h => by cases h),f_o,f_lo,f_s,f_qa2,f_qa5⟩
         · have hf' : b9 = false := hf
           subst hf'
           have d8 : b8 = true := hd ⟨8, .data⟩ (by simp) rfl
           subst d8
           have d7 : b7 = true := hd ⟨7, .data⟩ (by simp) rfl
           subst d7
           have d0 : b0 = true := hd ⟨0, .phase⟩ (by simp) rfl
           subst d0
           have d1 : b1 = true := hd ⟨1, .phase⟩ (by simp) rfl
           subst d1
           have d2 : b2 = true := hd ⟨2, .phase⟩ (by simp) rfl
           subst d2
           have d3 : b3 = true := hd ⟨3, .phase⟩ (by simp) rfl
           subst d3
           have d4 : b4 = true := hd ⟨4, .phase⟩ (by simp) rfl
           subst d4
           have d5 : b5 = true := hd ⟨5, .phase⟩ (by simp) rfl
           subst d5
           have d6 : b6 = true := hd ⟨6, .phase⟩ (by simp) rfl
           subst d6
           obtain rfl := cd8.out rfl
           obtain rfl := cd7.out rfl
           obtain rfl := cd0.out rfl
           obtain rfl := cd1.out rfl
           obtain rfl := cd2.out rfl
           obtain rfl := cd3.out rfl
           obtain rfl := cd4.out rfl
           obtain rfl := cd5.out rfl
           obtain rfl := cd6.out rfl
           clear hf hd
           have W_p := f_p.out rfl
           have W_q := f_q.out
           have W_bk := f_bk.out
           have W_o7_3 := f_o7_3.out
           have W_o9_3 := f_o9_3.out
           have W_o9_7 := f_o9_7.out
           have W_le := f_le.out rfl
           have W_lf := f_lf.out rfl
           have W_l0 := f_l0.out rfl
           have W_l5 := f_l5.out rfl
           have W_nm := f_nm.out
           have W_o := f_o.out rfl
           have W_lo := f_lo.out rfl
           try simp only [setIfInBounds_toArray, set_cons_zero, set_cons_succ]
           have z3 : w.cell? ⟨p, 3, none⟩ = some (.slice ta tn tc) := W_p.c rfl
           have fz := free_blk (i := 3) W_p
           intro K hK
           rw [if_pos (by rfl)]
           go_simp
           have gz9 := grown_cell (grown_self w p) 3 (.slice (some ⟨g6, 0, none⟩) n7 c6)
           have hb2 := hb.grown gz9 (Nat.le_trans (Nat.le_trans hpr7' hrW7) hb.size) (fun z hz => by cases hz; exact Nat.le_refl _)
           exact hK.out _ _ ⟨true,true,true,true,true,true,true,true,true,true,.slice (some ⟨ge,0,none⟩) 0 0,.pointer (some ⟨p,3,none⟩),.slice ta tn tc,.slice (some ⟨g3,0,none⟩) tn c3,.pointer (some ⟨p,1,none⟩),.slice oa on oc,.slice (some ⟨gs,0,none⟩) 1 1,.slice (some ⟨g6,0,none⟩) n7 c6,.pointer (some ⟨p,3,none⟩),ge,g3,c3,gs,g6,c6,(by go_simp),(by go_simp),hb2,rf,rf,rf,rf,rf,rf,rf,rf,rf,nf2,(Bk.grown f_q.out gz9 hqp),(OwnR.grown f_bk.out gz9 hBp),f_o7_3,(fun _ => f_o7_3.out rfl),rf,(fun _ h => by cases h),f_le,(fun _ h => by cases h),f_lf,(fun h0 => ((f_l0.out h0)).grown gz9),(fun h0 => ((f_l5.out h0)).grown gz9),f_nm,(fun _ h => by cases h),(fun h0 => ((f_o.out h0)).grown gz9 (fun e => by have := Option.some.inj e; have := W_lo; omega)),f_lo,(fun _ => lg_set3 W_p _),rf,rf⟩
       · rintro act V7 ⟨b0,b1,b2,b3,b4,b5,b6,b7,b8,b9,x44,x45,x46,x47,x48,x49,x50,x51,x52,ge,g3,c3,gs,g6,c6,hL,rfl,hb,cd0,cd1,cd2,cd3,cd4,cd5,cd6,cd7,cd8,f_p,f_q,f_bk,f_o7_3,f_o9_3,f_o9_7,f_e,f_le,f_f,f_lf,f_l0,f_l5,f_nm,f_ls,f_o,f_lo,f_s,f_qa2,f_qa5⟩
         have hL' : [true, true, true, true, true, true, true, true, true, true] = [b0, b1, b2, b3, b4, b5, b6, b7, b8, b9] := congrArg Array.toList hL
         simp only [List.cons.injEq, and_true] at hL'
         obtain ⟨rfl, rfl, rfl, rfl, rfl, rfl, rfl, rfl, rfl, rfl⟩ := hL'
         obtain rfl := cd0.out rfl
         obtain rfl := cd1.out rfl
         obtain rfl := cd2.out rfl
         obtain rfl := cd3.out rfl
         obtain rfl := cd4.out rfl
         obtain rfl := cd5.out rfl
         obtain rfl := cd6.out rfl
         obtain rfl := cd7.out rfl
         obtain rfl := cd8.out rfl
         have W_q := f_q.out
         have W_bk := f_bk.out
         have W_o7_3 := f_o7_3.out
         have W_o9_3 := f_o9_3.out
         have W_o9_7 := f_o9_7.out
         have W_le := f_le.out rfl
         have W_lf := f_lf.out rfl
         have W_l0 := f_l0.out rfl
         have W_l5 := f_l5.out rfl
         have W_nm := f_nm.out
         have W_o := f_o.out rfl
         have W_lo := f_lo.out rfl
         have W_s := f_s.out rfl
         have W_qa2 := f_qa2.out rfl
         have W_qa5 := f_qa5.out rfl
         clear hL f_p f_q f_bk f_o7_3 f_o9_3 f_o9_7 f_e f_le f_f f_lf f_l0 f_l5 f_nm f_ls f_o f_lo f_s f_qa2 f_qa5 cd0 cd1 cd2 cd3 cd4 cd5 cd6 cd7 cd8
         simp only [setIfInBounds_toArray, set_cons_zero, set_cons_succ]
         have P7 := W_s
         have Q7 := W_q
         have O7 := W_bk
         have S7 := W_o
         have h67 := W_lo
         have BV7 : Below p w6 V7 := (Below.refl _ _).drew.trans hb
         clear W_s W_q W_bk W_o W_lo W_le W_lf W_l0 W_l5 W_nm hb
         have f1 := free_blk (i := 1) P7
         have z1 : V7.cell? ⟨p, 1, none⟩ = some (.slice oa on oc) := P7.c rfl
         go_upto_region 9 with fail
         have P8 := lg_set1 P7 (.slice none 0 0)
         have G8 := grown_cell (grown_self V7 p) 1 (.slice none 0 0)
         have Q8 := Q7.grown G8 hqp
         have O8 := O7.grown G8 hBp
         have S8 := S7.grown G8 (fun e => by have := Option.some.inj e; omega)
         have BV8 : Below p w6 (V7.setCell ⟨p, 1, none⟩ (.slice none 0 0)) := BV7.grown G8 (Nat.le_of_lt P7.lt) (fun z hz => by cases hz; exact Nat.le_refl _)
         clear f1 z1 P7 Q7 O7 S7 G8 BV7
         generalize V7.setCell ⟨p, 1, none⟩ (.slice none 0 0) = V8 at P8 Q8 O8 S8 BV8 ⊢
         obtain ⟨c0,c1,c2,c3⟩ : V8.cell? ⟨p,0,none⟩ = some (.int .i64 next) ∧ V8.cell? ⟨p,1,none⟩ = some (.slice none 0 0) ∧ V8.cell? ⟨p,2,none⟩ = some (.slice (some ⟨gB,0,none⟩) bn4 cB) ∧ V8.cell? ⟨p,3,none⟩ = some (.slice (some ⟨g6,0,none⟩) n7 c6) := ⟨P8.c rfl,P8.c rfl,P8.c rfl,P8.c rfl⟩
         obtain ⟨e0,e1,e2,e3⟩ : V8.cell? ⟨q,0,none⟩ = some (.int .i64 0) ∧ V8.cell? ⟨q,1,none⟩ = some (.slice none 0 0) ∧ V8.cell? ⟨q,2,none⟩ = some (.slice none 0 0) ∧ V8.cell? ⟨q,3,none⟩ = some (.slice none 0 0) := ⟨Q8.c rfl,Q8.c rfl,Q8.c rfl,Q8.c rfl⟩
         obtain ⟨f0,f1,f2,f3⟩ : V8.frozen? ⟨q,0,none⟩ = false ∧ V8.frozen? ⟨q,1,none⟩ = false ∧ V8.frozen? ⟨q,2,none⟩ = false ∧ V8.frozen? ⟨q,3,none⟩ = false := ⟨free_blk Q8,free_blk Q8,free_blk Q8,free_blk Q8⟩
         go_wp2_with fail
         have G9 : V8.grownBy ((((V8.setCell ⟨q,0,none⟩ (.int .i64 next)).setCell ⟨q,1,none⟩ (.slice none 0 0)).setCell ⟨q,2,none⟩ (.slice (some ⟨gB,0,none⟩) bn4 cB)).setCell ⟨q,3,none⟩ (.slice (some ⟨g6,0,none⟩) n7 c6)) (some q) := grown_cell (grown_cell (grown_cell (grown_cell (grown_self _ _) _ _) _ _) _ _) _ _
         have Q9 : Bk ((((V8.setCell ⟨q,0,none⟩ (.int .i64 next)).setCell ⟨q,1,none⟩ (.slice none 0 0)).setCell ⟨q,2,none⟩ (.slice (some ⟨gB,0,none⟩) bn4 cB)).setCell ⟨q,3,none⟩ (.slice (some ⟨g6,0,none⟩) n7 c6)) q #[.int .i64 next,.slice none 0 0,.slice (some ⟨gB,0,none⟩) bn4 cB,.slice (some ⟨g6,0,none⟩) n7 c6] 32 := (heap_setCell_same (i := 3) (v := .slice (some ⟨g6,0,none⟩) n7 c6) (heap_setCell_same (i := 2) (v := .slice (some ⟨gB,0,none⟩) bn4 cB) (heap_setCell_same (i := 1) (v := .slice none 0 0) (heap_setCell_same (i := 0) (v := .int .i64 next) Q8))))
         have O9 := O8.grown G9 (fun e => by have := Option.some.inj e; omega)
         have S9 := S8.grown G9 (fun e => by have := Option.some.inj e; omega)
         have B9 : Below p w ((((V8.setCell ⟨q,0,none⟩ (.int .i64 next)).setCell ⟨q,1,none⟩ (.slice none 0 0)).setCell ⟨q,2,none⟩ (.slice (some ⟨gB,0,none⟩) bn4 cB)).setCell ⟨q,3,none⟩ (.slice (some ⟨g6,0,none⟩) n7 c6)) := (BP.trans BV8).grown G9 (by have := Q8.lt; omega) (fun z hz => by cases hz; exact Nat.le_of_lt hpq)
         generalize ((((V8.setCell ⟨q,0,none⟩ (.int .i64 next)).setCell ⟨q,1,none⟩ (.slice none 0 0)).setCell ⟨q,2,none⟩ (.slice (some ⟨gB,0,none⟩) bn4 cB)).setCell ⟨q,3,none⟩ (.slice (some ⟨g6,0,none⟩) n7 c6)) = w9 at Q9 O9 S9 B9 ⊢
         obtain ⟨d0,d1,d2,d3⟩ : w9.cell? ⟨q,0,none⟩ = some (.int .i64 next) ∧ w9.cell? ⟨q,1,none⟩ = some (.slice none 0 0) ∧ w9.cell? ⟨q,2,none⟩ = some (.slice (some ⟨gB,0,none⟩) bn4 cB) ∧ w9.cell? ⟨q,3,none⟩ = some (.slice (some ⟨g6,0,none⟩) n7 c6) := ⟨Q9.c rfl,Q9.c rfl,Q9.c rfl,Q9.c rfl⟩
         refine bodyPost_ret (v := .tuple #[.agg #[.int .i64 next,.slice none 0 0,.slice (some ⟨gB,0,none⟩) bn4 cB,.slice (some ⟨g6,0,none⟩) n7 c6],.int .i64 0]) (by simp [results, Tryz.results18, go_sem,d0,d1,d2,d3]) rfl ?_
         have BW9 : Below w.heap.size w w9 := by rw [HG.out]; exact B9
         have hr9 := HR9.out _ BW9 gB bn4 cB g6 n7 c6 O9 (by rw [HG.out]; omega) (by rw [HT2.out]; exact S9) (by rw [HG.out]; omega)
         unfold RClosed RLed
         rw [HCE.out, HCM.out]
         exact ⟨_, rfl, _, _, _, _, _, _, _, _, _, by rw [HNX.out], hr9, BW9⟩
   · have hzi : 0 < (bn : Int) := by omega
     obtain ⟨lb, hlb, HNC5⟩ := HN5.out hz
     have hIB := HSb0 w5 B5
     obtain ⟨gv, gvo, rfl, hgv, hcv⟩ := blk_in hIB hlb
     have hcv2 : ∀ j v, lb.cs[j]? = some v → w5.cell? ((⟨gv, gvo + (bn - 1) * 66, none⟩ : Addr).add j) = some v := hcv
     have hib : ((bn : Int) - 1).toNat = bn - 1 := by omega
     have hi0 : 0 ≤ (bn : Int) - 1 := by omega
     have hi1 : (bn : Int) - 1 < (bn : Int) := by omega
     go_upto_region 6 with (first
      | ((with_reducible refine wpList_load_cells rfl 73 _ rfl ⟨gv,gvo + (bn - 1) * 66,none⟩ ?_ lb.cs hcv2 rblk_agg ?_ ?_); (first | rfl | (simp [hib]; done)); (rw [rblk_size,Blk.cs_len]))
      | (go_at_call 37; refine (rhash_any _ lb).mono ?_; rintro e w6 ⟨rfl,b6⟩; have R5 : w6.heap[gb]? = some (.cells NB.toList.toArray 73 (0,0)) := by rw [Array.toArray_toList]; exact hS3.past b6)
      | ((with_reducible refine wpList_store_in rfl 53 _ _ rfl gb 1 (bcs (blkS lb)) NB.toList 73 ?_ ?_ R5 32 sizeHash ?_ ?_ (bcs_all _) ?_); (rfl); (rfl); (rw [bcs_length,blkS_len]); (rw [HNBs.out]; omega); (intro w7 h7 g7)))
     have hgp : some p ≠ some gb := fun e => hbp e.symm
     have hgq : some q ≠ some gb := fun e => by have := Option.some.inj e; omega
     have hS7 : Bk w7 gb NC 73 := by rw [← HNC5]; exact h7
     have hP7 := (hP3.past b6).grown g7 hgp
     have hQ7 := (hQ3.past b6).grown g7 hgq
     have B7 : Below p w w7 := (B5.trans (b6.mono (Nat.le_of_lt hP3.lt))).grown g7 (by have := hP3.lt; have := b6.size; omega) (fun z hz => by cases hz; omega)
     simp only [Act.put]
     clear z2 hcv hcv2 hIB hlb HNC5 hib hi0 hi1 h7 R5 b6 g7 hS3 hP3 hQ3 B5 hzi hgv hz
     obtain ⟨r, hr⟩ : ∃ x, w7.heap.size = x := ⟨_, rfl⟩
     have hrW : r ≤ w7.heap.size := Nat.le_of_eq hr.symm
     have hpr : p < r := by have := hP7.lt; omega
     have hpr' : p ≤ r := by omega
     have hqr : q < r := by have := hQ7.lt; omega
     have hbr : gb < r := by have := hS7.lt; omega
     have BV5 : Below p w7 w7 := Below.refl _ _
     clear hr
     have HSb := fun (w' : World) (hb : Below p w7.drew w') => HSb0 w' (B7.trans ((Below.refl _ _).drew.trans hb))
     clear HSb0
     have hB0 : p ≤ w7.heap.size := Nat.le_trans hpr' hrW
     go_upto_region 6 with fail
     refine region_inv (RgC6 p p q r gb next oa on oc (some ⟨gv, gvo, none⟩) bn bc ta tn tc n1 l1 l2 nb NC) (by kernel_rfl) (by kernel_rfl) ?_ ?_ ?_
     · exact ⟨false,false,false,false,false,false,false,false,false,undef,undef,undef,undef,undef,undef,undef,undef,0,0,0,0,0,0,rfl,(by go_simp),Below.refl _ _,nf2,nf2,nf2,nf2,nf2,nf2,nf2,nf2,(fun h1 => hP7.past (Below.refl _ _).drew),(hQ7.past (Below.refl _ _).drew),(hS7.past (Below.refl _ _).drew),(nf2),(nf2),(nf2),nf2,nf2,nf2,nf2,nf2,nf2,(nf2),nf2,nf2,nf2,nf2,nf2⟩
     · refine ⟨?_, ?_, ?_, ?_, ?_, ?_, ?_, ?_, ?_, trivial⟩
       all_goals rintro L a w ⟨b0,b1,b2,b3,b4,b5,b6,b7,b8,x36,x37,x38,x39,x40,x41,x42,x43,ge,g3,c3,gs,g6,c6,rfl,rfl,hb,cd0,cd1,cd2,cd3,cd4,cd5,cd6,cd7,f_p,f_q,f_b,f_o6_3,f_o8_3,f_o8_6,f_e,f_le,f_f,f_lf,f_l0,f_l5,f_nm,f_ls,f_o,f_lo,f_s,f_qa2⟩ hf hd
       · have hf' : b0 = false := hf
         subst hf'
         clear hf hd
         have W_q := f_q.out
         have W_b := f_b.out
         have W_o6_3 := f_o6_3.out
         have W_o8_3 := f_o8_3.out
         have W_o8_6 := f_o8_6.out
         have W_nm := f_nm.out
         intro K hK
         rw [if_pos (by rfl)]
         go_simp
         have bx : Below w.heap.size w (w.alloc (.cells #[] 73)) := (Below.refl _ _).alloc (Nat.le_refl _) _
         exact hK.out _ _ ⟨true,b1,b2,b3,b4,b5,b6,b7,b8,(.slice (some ⟨(w.heap.size),0,none⟩) 0 0),x37,x38,x39,x40,x41,x42,x43,w.heap.size,g3,c3,gs,g6,c6,(by go_simp),(by go_simp),hb.trans (bx.mono (Nat.le_trans hB0 hb.size)),rf,cd1,cd2,cd3,cd4,cd5,cd6,cd7,(fun h1 => (f_p.out h1).past bx),(f_q.out.past bx),(f_b.out.past bx),f_o6_3,f_o8_3,f_o8_6,(fun _ _ => own_emptyR' w _),(fun _ => (Nat.le_trans hrW hb.size)),(fun h0 h1 => (f_f.out h0 h1).past bx),f_lf,(fun _ => (by show _ < _; rw [World.size_alloc]; omega)),(fun h0 => (f_l5.out h0).past bx),(fun _ h5 => Nat.ne_of_gt (f_l5.out h5)),(fun h0 h1 => (f_ls.out h0 h1).past bx),(fun h0 => (f_o.out h0).past bx),f_lo,(fun h0 => (f_s.out h0).past bx),f_qa2⟩
       · have hf' : b1 = false := hf
         subst hf'
         clear hf hd
         have W_q := f_q.out
         have W_b := f_b.out
         have W_o6_3 := f_o6_3.out
         have W_o8_3 := f_o8_3.out
         have W_o8_6 := f_o8_6.out
         have W_nm := f_nm.out
         intro K hK
         rw [if_pos (by rfl)]
         go_simp
         exact hK.out _ _ ⟨b0,true,b2,b3,b4,b5,b6,b7,b8,x36,(.pointer (some ⟨p,2,none⟩)),x38,x39,x40,x41,x42,x43,ge,g3,c3,gs,g6,c6,(by go_simp),(by go_simp),hb,cd0,(fun _ => rfl),cd2,cd3,cd4,cd5,cd6,cd7,f_p,f_q,f_b,f_o6_3,f_o8_3,f_o8_6,f_e,f_le,f_f,f_lf,f_l0,f_l5,f_nm,f_ls,f_o,f_lo,f_s,f_qa2⟩
       · have hf' : b2 = false := hf
         subst hf'
         have d1 : b1 = true := hd ⟨1, .data⟩ (by simp) rfl
         subst d1
         obtain rfl := cd1.out rfl
         clear hf hd
         have W_q := f_q.out
         have W_b := f_b.out
         have W_o6_3 := f_o6_3.out
         have W_o8_3 := f_o8_3.out
         have W_o8_6 := f_o8_6.out
         have W_nm := f_nm.out
         try simp only [setIfInBounds_toArray, set_cons_zero, set_cons_succ]
         have e_p : b8 = false := by cases hq : b8 with | false => rfl | true => exact absurd (f_qa2.out hq) (by simp)
         have W_p := f_p.out e_p
         have z2 : w.cell? ⟨p, 2, none⟩ = some (.slice (some ⟨gv, gvo, none⟩) bn bc) := W_p.c rfl
         intro K hK
         rw [if_pos (by rfl)]
         go_simp
         exact hK.out _ _ ⟨b0,true,true,b3,b4,b5,b6,b7,b8,x36,.pointer (some ⟨p,2,none⟩),(.slice (some ⟨gv,gvo,none⟩) bn bc),x39,x40,x41,x42,x43,ge,g3,c3,gs,g6,c6,(by go_simp),(by go_simp),hb,cd0,rf,rf,cd3,cd4,cd5,cd6,cd7,f_p,f_q,f_b,f_o6_3,f_o8_3,f_o8_6,f_e,f_le,f_f,f_lf,f_l0,f_l5,f_nm,f_ls,f_o,f_lo,f_s,rf⟩
       · have hf' : b3 = false := hf
         subst hf'
         have d0 : b0 = true := hd ⟨0, .data⟩ (by simp) rfl
         subst d0
         have d2 : b2 = true := hd ⟨2, .data⟩ (by simp) rfl
         subst d2
         obtain rfl := cd0.out rfl
         obtain rfl := cd2.out rfl
         clear hf hd
         have W_q := f_q.out
         have W_b := f_b.out
         have W_o6_3 := f_o6_3.out
         have W_o8_3 := f_o8_3.out
         have W_o8_6 := f_o8_6.out
         have W_e := f_e.out rfl rfl
         have W_le := f_le.out rfl
         have W_l0 := f_l0.out rfl
         have W_nm := f_nm.out
         try simp only [setIfInBounds_toArray, set_cons_zero, set_cons_succ]
         intro K hK
         rw [if_pos (by rfl)]
         refine wp_append_o (E := EBk) (bd := r) _ _ 30 30 rfl rowTyRBk rfl W_e W_le (Nat.le_trans hrW hb.size) _ rfl bn l1 ((HSb _ hb).src Tryz.underlying30) HLN.out bn (Nat.zero_add _) l1 (List.nil_append _) (by omega) ?_
         intro g9 c9 w2 o9 h9 gz9 _ bz9
         have hb2 := hb.trans (bz9.mono hpr')
         exact hK.out _ _ ⟨true,b1,true,true,b4,b5,b6,b7,b8,.slice (some ⟨ge,0,none⟩) 0 0,x37,.slice (some ⟨gv,gvo,none⟩) bn bc,(.slice (some ⟨g9,0,none⟩) bn c9),x40,x41,x42,x43,ge,g9,c9,gs,g6,c6,(by go_simp),(by go_simp),hb2,rf,cd1,rf,rf,cd4,cd5,cd6,cd7,(fun h1 => Bk.past9 (f_p.out h1) bz9 hpr),(Bk.past9 f_q.out bz9 hqr),(Bk.past9 f_b.out bz9 hbr),rf,rf,f_o8_6,(fun _ h => by cases h),f_le,(fun _ _ => o9),(fun _ => h9),(fun h0 => ((f_l0.out h0)).grown gz9),(fun h0 => ((f_l5.out h0)).grown gz9),f_nm,(fun h0 h1 => (IsR.grown (f_ls.out h0 h1) gz9 (fun a ha e => W_nm rfl h0 (by cases ha; exact (Option.some.inj e).symm)))),(fun h0 => absurd (f_o6_3.out h0) (by simp)),(fun h0 => absurd (f_o6_3.out h0) (by simp)),(fun h0 => absurd (f_o8_3.out h0) (by simp)),f_qa2⟩
       · have hf' : b4 = false := hf
         subst hf'
         clear hf hd
         have W_q := f_q.out
         have W_b := f_b.out
         have W_o6_3 := f_o6_3.out
         have W_o8_3 := f_o8_3.out
         have W_o8_6 := f_o8_6.out
         have W_nm := f_nm.out
         try simp only [setIfInBounds_toArray, set_cons_zero, set_cons_succ]
         intro K hK
         rw [if_pos (by rfl)]
         refine wp_load_cells 73 _ rfl ⟨gb,0,none⟩ rfl NC.toList (fun j v hv => by rw [Addr.add_lit,Nat.zero_add]; exact W_b.c (by simpa using hv)) rblk_agg (by rw [rblk_size,HNC.out]) ?_
         simp only [Array.toArray_toList]
         exact hK.out _ _ ⟨b0,b1,b2,b3,true,b5,b6,b7,b8,x36,x37,x38,x39,(.agg NC),x41,x42,x43,ge,g3,c3,gs,g6,c6,(by go_simp),(by go_simp),hb,cd0,cd1,cd2,cd3,(fun _ => rfl),cd5,cd6,cd7,f_p,f_q,f_b,f_o6_3,f_o8_3,f_o8_6,f_e,f_le,f_f,f_lf,f_l0,f_l5,f_nm,f_ls,f_o,f_lo,f_s,f_qa2⟩
       · have hf' : b5 = false := hf
         subst hf'
         have d4 : b4 = true := hd ⟨4, .data⟩ (by simp) rfl
         subst d4
         obtain rfl := cd4.out rfl
         clear hf hd
         have W_q := f_q.out
         have W_b := f_b.out
         have W_o6_3 := f_o6_3.out
         have W_o8_3 := f_o8_3.out
         have W_o8_6 := f_o8_6.out
         have W_nm := f_nm.out
         try simp only [setIfInBounds_toArray, set_cons_zero, set_cons_succ]
         intro K hK
         rw [if_pos (by rfl)]
         refine wp_buildSlice_one 30 73 _ rfl CL 66 (congrArg Value.agg HCN.out.symm) HC66.out (by omega) (by omega) Tryz.underlying30 rblk_i fun w' h7 bx l9 => ?_
         exact hK.out _ _ ⟨b0,b1,b2,b3,true,true,b6,b7,b8,x36,x37,x38,x39,.agg NC,(.slice (some ⟨(w.heap.size),0,none⟩) 1 1),x42,x43,ge,g3,c3,w.heap.size,g6,c6,(by go_simp),(by go_simp),hb.trans (bx.mono (Nat.le_trans hB0 hb.size)),cd0,cd1,cd2,cd3,rf,rf,cd6,cd7,(fun h1 => (f_p.out h1).past bx),(f_q.out.past bx),(f_b.out.past bx),f_o6_3,f_o8_3,f_o8_6,(fun h0 h1 => (f_e.out h0 h1).past bx),f_le,(fun h0 h1 => (f_f.out h0 h1).past bx),f_lf,(fun h0 => (f_l0.out h0).past bx),(fun _ => l9),(fun h0 _ => Nat.ne_of_lt (f_l0.out h0)),(fun _ _ => rblk_row h7 HCB.out),(fun h0 => (f_o.out h0).past bx),f_lo,(fun h0 => (f_s.out h0).past bx),f_qa2⟩
       · have hf' : b6 = false := hf
         subst hf'
         have d3 : b3 = true := hd ⟨3, .data⟩ (by simp) rfl
         subst d3
         have d5 : b5 = true := hd ⟨5, .data⟩ (by simp) rfl
         subst d5
         obtain rfl := cd3.out rfl
         obtain rfl := cd5.out rfl
         clear hf hd
         have W_q := f_q.out
         have W_b := f_b.out
         have W_o6_3 := f_o6_3.out
         have W_o8_3 := f_o8_3.out
         have W_o8_6 := f_o8_6.out
         have W_f := f_f.out rfl rfl
         have W_lf := f_lf.out rfl
         have W_l5 := f_l5.out rfl
         have W_nm := f_nm.out
         have W_ls := f_ls.out rfl rfl
         try simp only [setIfInBounds_toArray, set_cons_zero, set_cons_succ]
         intro K hK
         rw [if_pos (by rfl)]
         refine wp_append_o (E := EBk) (bd := r) _ _ 30 30 rfl rowTyRBk rfl W_f W_lf (Nat.le_trans hrW hb.size) _ rfl 1 [nb] (W_ls.src Tryz.underlying30) rfl n1 HN1.out l2 HL2.out (by omega) ?_
         intro g9 c9 w2 o9 h9 gz9 _ bz9
         have hb2 := hb.trans (bz9.mono hpr')
         exact hK.out _ _ ⟨b0,b1,b2,true,b4,true,true,b7,b8,x36,x37,x38,.slice (some ⟨g3,0,none⟩) bn c3,x40,.slice (some ⟨gs,0,none⟩) 1 1,(.slice (some ⟨g9,0,none⟩) n1 c9),x43,ge,g3,c3,gs,g9,c9,(by go_simp),(by go_simp),hb2,cd0,cd1,cd2,rf,cd4,rf,rf,cd7,(fun h1 => Bk.past9 (f_p.out h1) bz9 hpr),(Bk.past9 f_q.out bz9 hqr),(Bk.past9 f_b.out bz9 hbr),rf,f_o8_3,rf,(fun _ h => by cases h),f_le,(fun _ h => by cases h),f_lf,(fun h0 => ((f_l0.out h0)).grown gz9),(fun h0 => ((f_l5.out h0)).grown gz9),f_nm,(fun _ h => by cases h),(fun _ => o9),(fun _ => h9),(fun h0 => absurd (f_o8_6.out h0) (by simp)),f_qa2⟩
       · have hf' : b7 = false := hf
         subst hf'
         have d0 : b0 = true := hd ⟨0, .phase⟩ (by simp) rfl
         subst d0
         have d1 : b1 = true := hd ⟨1, .phase⟩ (by simp) rfl
         subst d1
         have d2 : b2 = true := hd ⟨2, .phase⟩ (by simp) rfl
         subst d2
         have d3 : b3 = true := hd ⟨3, .phase⟩ (by simp) rfl
         subst d3
         have d4 : b4 = true := hd ⟨4, .phase⟩ (by simp) rfl
         subst d4
         have d5 : b5 = true := hd ⟨5, .phase⟩ (by simp) rfl
         subst d5
         have d6 : b6 = true := hd ⟨6, .phase⟩ (by simp) rfl
         subst d6
         obtain rfl := cd0.out rfl
         obtain rfl := cd1.out rfl
         obtain rfl := cd2.out rfl
         obtain rfl := cd3.out rfl
         obtain rfl := cd4.out rfl
         obtain rfl := cd5.out rfl
         obtain rfl := cd6.out rfl
         clear hf hd
         have W_q := f_q.out
         have W_b := f_b.out
         have W_o6_3 := f_o6_3.out
         have W_o8_3 := f_o8_3.out
         have W_o8_6 := f_o8_6.out
         have W_le := f_le.out rfl
         have W_lf := f_lf.out rfl
         have W_l0 := f_l0.out rfl
         have W_l5 := f_l5.out rfl
         have W_nm := f_nm.out
         have W_o := f_o.out rfl
         have W_lo := f_lo.out rfl
         intro K hK
         rw [if_pos (by rfl)]
         go_simp
         exact hK.out _ _ ⟨true,true,true,true,true,true,true,true,b8,.slice (some ⟨ge,0,none⟩) 0 0,.pointer (some ⟨p,2,none⟩),.slice (some ⟨gv,gvo,none⟩) bn bc,.slice (some ⟨g3,0,none⟩) bn c3,.agg NC,.slice (some ⟨gs,0,none⟩) 1 1,.slice (some ⟨g6,0,none⟩) n1 c6,(.pointer (some ⟨p,2,none⟩)),ge,g3,c3,gs,g6,c6,(by go_simp),(by go_simp),hb,rf,rf,rf,rf,rf,rf,rf,rf,f_p,f_q,f_b,f_o6_3,f_o8_3,f_o8_6,(fun _ h => by cases h),f_le,(fun _ h => by cases h),f_lf,f_l0,f_l5,f_nm,(fun _ h => by cases h),f_o,f_lo,f_s,f_qa2⟩
       · have hf' : b8 = false := hf
         subst hf'
         have d7 : b7 = true := hd ⟨7, .data⟩ (by simp) rfl
         subst d7
         have d6 : b6 = true := hd ⟨6, .data⟩ (by simp) rfl
         subst d6
         have d0 : b0 = true := hd ⟨0, .phase⟩ (by simp) rfl
         subst d0
         have d1 : b1 = true := hd ⟨1, .phase⟩ (by simp) rfl
         subst d1
         have d2 : b2 = true := hd ⟨2, .phase⟩ (by simp) rfl
         subst d2
         have d3 : b3 = true := hd ⟨3, .phase⟩ (by simp) rfl
         subst d3
         have d4 : b4 = true := hd ⟨4, .phase⟩ (by simp) rfl
         subst d4
         have d5 : b5 = true := hd ⟨5, .phase⟩ (by simp) rfl
         subst d5
         obtain rfl := cd7.out rfl
         obtain rfl := cd6.out rfl
         obtain rfl := cd0.out rfl
         obtain rfl := cd1.out rfl
         obtain rfl := cd2.out rfl
         obtain rfl := cd3.out rfl
         obtain rfl := cd4.out rfl
         obtain rfl := cd5.out rfl
         clear hf hd
         have W_p := f_p.out rfl
         have W_q := f_q.out
         have W_b := f_b.out
         have W_o6_3 := f_o6_3.out
         have W_o8_3 := f_o8_3.out
         have W_o8_6 := f_o8_6.out
         have W_le := f_le.out rfl
         have W_lf := f_lf.out rfl
         have W_l0 := f_l0.out rfl
         have W_l5 := f_l5.out rfl
         have W_nm := f_nm.out
         have W_o := f_o.out rfl
         have W_lo := f_lo.out rfl
         try simp only [setIfInBounds_toArray, set_cons_zero, set_cons_succ]
         have z2 : w.cell? ⟨p, 2, none⟩ = some (.slice (some ⟨gv, gvo, none⟩) bn bc) := W_p.c rfl
         have fz := free_blk (i := 2) W_p
         intro K hK
         rw [if_pos (by rfl)]
         go_simp
         have gz9 := grown_cell (grown_self w p) 2 (.slice (some ⟨g6, 0, none⟩) n1 c6)
         have hb2 := hb.grown gz9 (Nat.le_trans (Nat.le_trans hpr' hrW) hb.size) (fun z hz => by cases hz; exact Nat.le_refl _)
         exact hK.out _ _ ⟨true,true,true,true,true,true,true,true,true,.slice (some ⟨ge,0,none⟩) 0 0,.pointer (some ⟨p,2,none⟩),.slice (some ⟨gv,gvo,none⟩) bn bc,.slice (some ⟨g3,0,none⟩) bn c3,.agg NC,.slice (some ⟨gs,0,none⟩) 1 1,.slice (some ⟨g6,0,none⟩) n1 c6,.pointer (some ⟨p,2,none⟩),ge,g3,c3,gs,g6,c6,(by go_simp),(by go_simp),hb2,rf,rf,rf,rf,rf,rf,rf,rf,nf2,(Bk.grown f_q.out gz9 hqp),(Bk.grown f_b.out gz9 hbp),f_o6_3,(fun _ => f_o6_3.out rfl),rf,(fun _ h => by cases h),f_le,(fun _ h => by cases h),f_lf,(fun h0 => ((f_l0.out h0)).grown gz9),(fun h0 => ((f_l5.out h0)).grown gz9),f_nm,(fun _ h => by cases h),(fun h0 => ((f_o.out h0)).grown gz9 (fun e => by have := Option.some.inj e; have := W_lo; omega)),f_lo,(fun _ => lg_set2 W_p _),rf⟩
     · rintro act V6 ⟨b0,b1,b2,b3,b4,b5,b6,b7,b8,x36,x37,x38,x39,x40,x41,x42,x43,ge,g3,c3,gs,g6,c6,hL,rfl,hb,cd0,cd1,cd2,cd3,cd4,cd5,cd6,cd7,f_p,f_q,f_b,f_o6_3,f_o8_3,f_o8_6,f_e,f_le,f_f,f_lf,f_l0,f_l5,f_nm,f_ls,f_o,f_lo,f_s,f_qa2⟩
       have hL' : [true, true, true, true, true, true, true, true, true] = [b0, b1, b2, b3, b4, b5, b6, b7, b8] := congrArg Array.toList hL
       simp only [List.cons.injEq, and_true] at hL'
       obtain ⟨rfl, rfl, rfl, rfl, rfl, rfl, rfl, rfl, rfl⟩ := hL'
       obtain rfl := cd0.out rfl
       obtain rfl := cd1.out rfl
       obtain rfl := cd2.out rfl
       obtain rfl := cd3.out rfl
       obtain rfl := cd4.out rfl
       obtain rfl := cd5.out rfl
       obtain rfl := cd6.out rfl
       obtain rfl := cd7.out rfl
       have W_q := f_q.out
       have W_b := f_b.out
       have W_o6_3 := f_o6_3.out
       have W_o8_3 := f_o8_3.out
       have W_o8_6 := f_o8_6.out
       have W_le := f_le.out rfl
       have W_lf := f_lf.out rfl
       have W_l0 := f_l0.out rfl
       have W_l5 := f_l5.out rfl
       have W_nm := f_nm.out
       have W_o := f_o.out rfl
       have W_lo := f_lo.out rfl
       have W_s := f_s.out rfl
       have W_qa2 := f_qa2.out rfl
       clear hL f_p f_q f_b f_o6_3 f_o8_3 f_o8_6 f_e f_le f_f f_lf f_l0 f_l5 f_nm f_ls f_o f_lo f_s f_qa2 cd0 cd1 cd2 cd3 cd4 cd5 cd6 cd7
       simp only [setIfInBounds_toArray, set_cons_zero, set_cons_succ]
       have hP6 := W_s
       have hQ6 := W_q
       have hO6 := W_o
       have hl6 := W_lo
       have BV6 : Below p w7 V6 := (Below.refl _ _).drew.trans hb
       clear W_s W_q W_b W_o W_lo W_le W_lf W_l0 W_l5 W_nm hb hP7 hQ7 hS7 HSb
       have BP : Below p w V6 := B7.trans BV6
       have HSt := fun (w' : World) (hb : Below p V6.drew w') => HSt0 w' (BP.trans ((Below.refl _ _).drew.trans hb))
       obtain ⟨w6, rfl⟩ : ∃ x, x = V6 := ⟨_, rfl⟩
       obtain ⟨gB, rfl⟩ : ∃ x, x = g6 := ⟨_, rfl⟩
       obtain ⟨bn4, rfl⟩ : ∃ x, x = n1 := ⟨_, rfl⟩
       obtain ⟨cB, rfl⟩ : ∃ x, x = c6 := ⟨_, rfl⟩
       obtain ⟨l4, rfl⟩ : ∃ x, x = l2 := ⟨_, rfl⟩
       obtain ⟨r7, hr7⟩ : ∃ x, w6.heap.size = x := ⟨_, rfl⟩
       have hrW7 : r7 ≤ w6.heap.size := Nat.le_of_eq hr7.symm
       have hpr7 : p < r7 := by have := hP6.lt; omega
       have hpr7' : p ≤ r7 := by omega
       have hqr7 : q < r7 := by have := hQ6.lt; omega
       have hBr : gB < r7 := by have := hO6.lt; omega
       have hBp : some gB ≠ some p := fun e => by have := Option.some.inj e; omega
       clear hr7 HSt0 hB0
       have hB0 : p ≤ w6.heap.size := Nat.le_trans hpr7' hrW7
       go_upto_region 7 with fail
       refine region_inv (RgC7 p p q r7 gB bn4 cB l4 next oa on oc (some ⟨gv, gvo, none⟩) bn bc ta tn tc n7 t1 t2) (by kernel_rfl) (by kernel_rfl) ?_ ?_ ?_
       · exact ⟨false,false,false,false,false,false,false,false,false,false,undef,undef,undef,undef,undef,undef,undef,undef,undef,0,0,0,0,0,0,rfl,(by go_simp),Below.refl _ _,nf2,nf2,nf2,nf2,nf2,nf2,nf2,nf2,nf2,(fun h1 => hP6.past (Below.refl _ _).drew),(hQ6.past (Below.refl _ _).drew),(hO6.past (Below.refl _ _).drew),(nf2),(nf2),(nf2),nf2,nf2,nf2,nf2,nf2,nf2,(nf2),nf2,nf2,nf2,nf2,nf2,nf2⟩
       · refine ⟨?_, ?_, ?_, ?_, ?_, ?_, ?_, ?_, ?_, ?_, trivial⟩
         all_goals rintro L a w ⟨b0,b1,b2,b3,b4,b5,b6,b7,b8,b9,x44,x45,x46,x47,x48,x49,x50,x51,x52,ge,g3,c3,gs,g6,c6,rfl,rfl,hb,cd0,cd1,cd2,cd3,cd4,cd5,cd6,cd7,cd8,f_p,f_q,f_bk,f_o7_3,f_o9_3,f_o9_7,f_e,f_le,f_f,f_lf,f_l0,f_l5,f_nm,f_ls,f_o,f_lo,f_s,f_qa2,f_qa5⟩ hf hd
         · have hf' : b0 = false := hf
           subst hf'
           clear hf hd
           have W_q := f_q.out
           have W_bk := f_bk.out
           have W_o7_3 := f_o7_3.out
           have W_o9_3 := f_o9_3.out
           have W_o9_7 := f_o9_7.out
           have W_nm := f_nm.out
           intro K hK
           rw [if_pos (by rfl)]
           go_simp
           have bx : Below w.heap.size w (w.alloc (.cells #[] 25)) := (Below.refl _ _).alloc (Nat.le_refl _) _
           exact hK.out _ _ ⟨true,b1,b2,b3,b4,b5,b6,b7,b8,b9,(.slice (some ⟨(w.heap.size),0,none⟩) 0 0),x45,x46,x47,x48,x49,x50,x51,x52,w.heap.size,g3,c3,gs,g6,c6,(by go_simp),(by go_simp),hb.trans (bx.mono (Nat.le_trans hB0 hb.size)),rf,cd1,cd2,cd3,cd4,cd5,cd6,cd7,cd8,(fun h1 => (f_p.out h1).past bx),(f_q.out.past bx),(f_bk.out.past bx),f_o7_3,f_o9_3,f_o9_7,(fun _ _ => own_emptyR' w _),(fun _ => (Nat.le_trans hrW7 hb.size)),(fun h0 h1 => (f_f.out h0 h1).past bx),f_lf,(fun _ => (by show _ < _; rw [World.size_alloc]; omega)),(fun h0 => (f_l5.out h0).past bx),(fun _ h5 => Nat.ne_of_gt (f_l5.out h5)),(fun h0 h1 => (f_ls.out h0 h1).past bx),(fun h0 => (f_o.out h0).past bx),f_lo,(fun h0 => (f_s.out h0).past bx),f_qa2,f_qa5⟩
         · have hf' : b1 = false := hf
           subst hf'
           clear hf hd
           have W_q := f_q.out
           have W_bk := f_bk.out
           have W_o7_3 := f_o7_3.out
           have W_o9_3 := f_o9_3.out
           have W_o9_7 := f_o9_7.out
           have W_nm := f_nm.out
           intro K hK
           rw [if_pos (by rfl)]
           go_simp
           exact hK.out _ _ ⟨b0,true,b2,b3,b4,b5,b6,b7,b8,b9,x44,(.pointer (some ⟨p,3,none⟩)),x46,x47,x48,x49,x50,x51,x52,ge,g3,c3,gs,g6,c6,(by go_simp),(by go_simp),hb,cd0,rf,cd2,cd3,cd4,cd5,cd6,cd7,cd8,f_p,f_q,f_bk,f_o7_3,f_o9_3,f_o9_7,f_e,f_le,f_f,f_lf,f_l0,f_l5,f_nm,f_ls,f_o,f_lo,f_s,f_qa2,f_qa5⟩
         · have hf' : b2 = false := hf
           subst hf'
           have d1 : b1 = true := hd ⟨1, .data⟩ (by simp) rfl
           subst d1
           obtain rfl := cd1.out rfl
           clear hf hd
           have W_q := f_q.out
           have W_bk := f_bk.out
           have W_o7_3 := f_o7_3.out
           have W_o9_3 := f_o9_3.out
           have W_o9_7 := f_o9_7.out
           have W_nm := f_nm.out
           try simp only [setIfInBounds_toArray, set_cons_zero, set_cons_succ]
           have e_p : b9 = false := by cases hq : b9 with | false => rfl | true => exact absurd (f_qa2.out hq) (by simp)
           have W_p := f_p.out e_p
           have z3 : w.cell? ⟨p, 3, none⟩ = some (.slice ta tn tc) := W_p.c rfl
           intro K hK
           rw [if_pos (by rfl)]
           go_simp
           exact hK.out _ _ ⟨b0,true,true,b3,b4,b5,b6,b7,b8,b9,x44,.pointer (some ⟨p,3,none⟩),(.slice ta tn tc),x47,x48,x49,x50,x51,x52,ge,g3,c3,gs,g6,c6,(by go_simp),(by go_simp),hb,cd0,rf,rf,cd3,cd4,cd5,cd6,cd7,cd8,f_p,f_q,f_bk,f_o7_3,f_o9_3,f_o9_7,f_e,f_le,f_f,f_lf,f_l0,f_l5,f_nm,f_ls,f_o,f_lo,f_s,rf,f_qa5⟩
         · have hf' : b3 = false := hf
           subst hf'
           have d0 : b0 = true := hd ⟨0, .data⟩ (by simp) rfl
           subst d0
           have d2 : b2 = true := hd ⟨2, .data⟩ (by simp) rfl
           subst d2
           obtain rfl := cd0.out rfl
           obtain rfl := cd2.out rfl
           clear hf hd
           have W_q := f_q.out
           have W_bk := f_bk.out
           have W_o7_3 := f_o7_3.out
           have W_o9_3 := f_o9_3.out
           have W_o9_7 := f_o9_7.out
           have W_e := f_e.out rfl rfl
           have W_le := f_le.out rfl
           have W_l0 := f_l0.out rfl
           have W_nm := f_nm.out
           try simp only [setIfInBounds_toArray, set_cons_zero, set_cons_succ]
           intro K hK
           rw [if_pos (by rfl)]
           refine wp_append_o (E := EH) (bd := r7) _ _ 27 27 rfl rowTyTxs rfl W_e W_le (Nat.le_trans hrW7 hb.size) _ rfl tn t1 ((HSt _ hb).src Tryz.underlying27) HLN7.out tn (Nat.zero_add _) t1 (List.nil_append _) (by omega) ?_
           intro g9 c9 w2 o9 h9 gz9 _ bz9
           have hb2 := hb.trans (bz9.mono hpr7')
           exact hK.out _ _ ⟨true,b1,true,true,b4,b5,b6,b7,b8,b9,.slice (some ⟨ge,0,none⟩) 0 0,x45,.slice ta tn tc,(.slice (some ⟨g9,0,none⟩) tn c9),x48,x49,x50,x51,x52,ge,g9,c9,gs,g6,c6,(by go_simp),(by go_simp),hb2,rf,cd1,rf,rf,cd4,cd5,cd6,cd7,cd8,(fun h1 => Bk.past9 (f_p.out h1) bz9 hpr7),(Bk.past9 f_q.out bz9 hqr7),(OwnR.below f_bk.out bz9 hBr),rf,rf,f_o9_7,(fun _ h => by cases h),f_le,(fun _ _ => o9),(fun _ => h9),(fun h0 => ((f_l0.out h0)).grown gz9),(fun h0 => ((f_l5.out h0)).grown gz9),f_nm,(fun h0 h1 => (IsR.grown (f_ls.out h0 h1) gz9 (fun a ha e => W_nm rfl h0 (by cases ha; exact (Option.some.inj e).symm)))),(fun h0 => absurd (f_o7_3.out h0) (by simp)),(fun h0 => absurd (f_o7_3.out h0) (by simp)),(fun h0 => absurd (f_o9_3.out h0) (by simp)),f_qa2,f_qa5⟩
         · have hf' : b4 = false := hf
           subst hf'
           clear hf hd
           have W_q := f_q.out
           have W_bk := f_bk.out
           have W_o7_3 := f_o7_3.out
           have W_o9_3 := f_o9_3.out
           have W_o9_7 := f_o9_7.out
           have W_nm := f_nm.out
           intro K hK
           rw [if_pos (by rfl)]
           go_simp
           exact hK.out _ _ ⟨b0,b1,b2,b3,true,b5,b6,b7,b8,b9,x44,x45,x46,x47,(.pointer (some ⟨p,1,none⟩)),x49,x50,x51,x52,ge,g3,c3,gs,g6,c6,(by go_simp),(by go_simp),hb,cd0,cd1,cd2,cd3,rf,cd5,cd6,cd7,cd8,f_p,f_q,f_bk,f_o7_3,f_o9_3,f_o9_7,f_e,f_le,f_f,f_lf,f_l0,f_l5,f_nm,f_ls,f_o,f_lo,f_s,f_qa2,f_qa5⟩
         · have hf' : b5 = false := hf
           subst hf'
           have d4 : b4 = true := hd ⟨4, .data⟩ (by simp) rfl
           subst d4
           obtain rfl := cd4.out rfl
           clear hf hd
           have W_q := f_q.out
           have W_bk := f_bk.out
           have W_o7_3 := f_o7_3.out
           have W_o9_3 := f_o9_3.out
           have W_o9_7 := f_o9_7.out
           have W_nm := f_nm.out
           try simp only [setIfInBounds_toArray, set_cons_zero, set_cons_succ]
           have e_p : b9 = false := by cases hq : b9 with | false => rfl | true => exact absurd (f_qa5.out hq) (by simp)
           have W_p := f_p.out e_p
           have z1 : w.cell? ⟨p, 1, none⟩ = some (.slice oa on oc) := W_p.c rfl
           intro K hK
           rw [if_pos (by rfl)]
           go_simp
           exact hK.out _ _ ⟨b0,b1,b2,b3,true,true,b6,b7,b8,b9,x44,x45,x46,x47,.pointer (some ⟨p,1,none⟩),(.slice oa on oc),x50,x51,x52,ge,g3,c3,gs,g6,c6,(by go_simp),(by go_simp),hb,cd0,cd1,cd2,cd3,rf,rf,cd6,cd7,cd8,f_p,f_q,f_bk,f_o7_3,f_o9_3,f_o9_7,f_e,f_le,f_f,f_lf,f_l0,f_l5,f_nm,f_ls,f_o,f_lo,f_s,f_qa2,rf⟩
         · have hf' : b6 = false := hf
           subst hf'
           have d5 : b5 = true := hd ⟨5, .data⟩ (by simp) rfl
           subst d5
           obtain rfl := cd5.out rfl
           clear hf hd
           have W_q := f_q.out
           have W_bk := f_bk.out
           have W_o7_3 := f_o7_3.out
           have W_o9_3 := f_o9_3.out
           have W_o9_7 := f_o9_7.out
           have W_nm := f_nm.out
           intro K hK
           rw [if_pos (by rfl)]
           go_simp
           have bx : Below w.heap.size w (w.alloc (.cells #[.slice oa on oc] 25)) := (Below.refl _ _).alloc (Nat.le_refl _) _
           have l9 : w.heap.size < (w.alloc (.cells #[.slice oa on oc] 25)).heap.size := by rw [World.size_alloc]; omega
           exact hK.out _ _ ⟨b0,b1,b2,b3,b4,true,true,b7,b8,b9,x44,x45,x46,x47,x48,.slice oa on oc,(.slice (some ⟨(w.heap.size),0,none⟩) 1 1),x51,x52,ge,g3,c3,w.heap.size,g6,c6,(by go_simp),(by go_simp),hb.trans (bx.mono (Nat.le_trans hB0 hb.size)),cd0,cd1,cd2,cd3,cd4,rf,rf,cd7,cd8,(fun h1 => (f_p.out h1).past bx),(f_q.out.past bx),(f_bk.out.past bx),f_o7_3,f_o9_3,f_o9_7,(fun h0 h1 => (f_e.out h0 h1).past bx),f_le,(fun h0 h1 => (f_f.out h0 h1).past bx),f_lf,(fun h0 => (f_l0.out h0).past bx),(fun _ => l9),(fun h0 _ => Nat.ne_of_lt (f_l0.out h0)),(fun _ _ => hd_one w _ ⟨oa,on,oc⟩),(fun h0 => (f_o.out h0).past bx),f_lo,(fun h0 => (f_s.out h0).past bx),f_qa2,f_qa5⟩
         · have hf' : b7 = false := hf
           subst hf'
           have d3 : b3 = true := hd ⟨3, .data⟩ (by simp) rfl
           subst d3
           have d6 : b6 = true := hd ⟨6, .data⟩ (by simp) rfl
           subst d6
           obtain rfl := cd3.out rfl
           obtain rfl := cd6.out rfl
           clear hf hd
           have W_q := f_q.out
           have W_bk := f_bk.out
           have W_o7_3 := f_o7_3.out
           have W_o9_3 := f_o9_3.out
           have W_o9_7 := f_o9_7.out
           have W_f := f_f.out rfl rfl
           have W_lf := f_lf.out rfl
           have W_l5 := f_l5.out rfl
           have W_nm := f_nm.out
           have W_ls := f_ls.out rfl rfl
           try simp only [setIfInBounds_toArray, set_cons_zero, set_cons_succ]
           intro K hK
           rw [if_pos (by rfl)]
           refine wp_append_o (E := EH) (bd := r7) _ _ 27 27 rfl rowTyTxs rfl W_f W_lf (Nat.le_trans hrW7 hb.size) _ rfl 1 [⟨oa,on,oc⟩] (W_ls.src Tryz.underlying27) rfl n7 HN7.out t2 HL7.out (by omega) ?_
           intro g9 c9 w2 o9 h9 gz9 _ bz9
           have hb2 := hb.trans (bz9.mono hpr7')
           exact hK.out _ _ ⟨b0,b1,b2,true,b4,b5,true,true,b8,b9,x44,x45,x46,.slice (some ⟨g3,0,none⟩) tn c3,x48,x49,.slice (some ⟨gs,0,none⟩) 1 1,(.slice (some ⟨g9,0,none⟩) n7 c9),x52,ge,g3,c3,gs,g9,c9,(by go_simp),(by go_simp),hb2,cd0,cd1,cd2,rf,cd4,cd5,rf,rf,cd8,(fun h1 => Bk.past9 (f_p.out h1) bz9 hpr7),(Bk.past9 f_q.out bz9 hqr7),(OwnR.below f_bk.out bz9 hBr),rf,f_o9_3,rf,(fun _ h => by cases h),f_le,(fun _ h => by cases h),f_lf,(fun h0 => ((f_l0.out h0)).grown gz9),(fun h0 => ((f_l5.out h0)).grown gz9),f_nm,(fun _ h => by cases h),(fun _ => o9),(fun _ => h9),(fun h0 => absurd (f_o9_7.out h0) (by simp)),f_qa2,f_qa5⟩
         · have hf' : b8 = false := hf
           subst hf'
           have d0 : b0 = true := hd ⟨0, .phase⟩ (by simp) rfl
           subst d0
           have d1 : b1 = true := hd ⟨1, .phase⟩ (by simp) rfl
           subst d1
           have d2 : b2 = true := hd ⟨2, .phase⟩ (by simp) rfl
           subst d2
           have d3 : b3 = true := hd ⟨3, .phase⟩ (by simp) rfl
           subst d3
           have d4 : b4 = true := hd ⟨4, .phase⟩ (by simp) rfl
           subst d4
           have d5 : b5 = true := hd ⟨5, .phase⟩ (by simp) rfl
           subst d5
           have d6 : b6 = true := hd ⟨6, .phase⟩ (by simp) rfl
           subst d6
           have d7 : b7 = true := hd ⟨7, .phase⟩ (by simp) rfl
           subst d7
           obtain rfl := cd0.out rfl
           obtain rfl := cd1.out rfl
           obtain rfl := cd2.out rfl
           obtain rfl := cd3.out rfl
           obtain rfl := cd4.out rfl
           obtain rfl := cd5.out rfl
           obtain rfl := cd6.out rfl
           obtain rfl := cd7.out rfl
           clear hf hd
           have W_q := f_q.out
           have W_bk := f_bk.out
           have W_o7_3 := f_o7_3.out
           have W_o9_3 := f_o9_3.out
           have W_o9_7 := f_o9_7.out
           have W_le := f_le.out rfl
           have W_lf := f_lf.out rfl
           have W_l0 := f_l0.out rfl
           have W_l5 := f_l5.out rfl
           have W_nm := f_nm.out
           have W_o := f_o.out rfl
           have W_lo := f_lo.out rfl
           intro K hK
           rw [if_pos (by rfl)]
           go_simp
           exact hK.out _ _ ⟨true,true,true,true,true,true,true,true,true,b9,.slice (some ⟨ge,0,none⟩) 0 0,.pointer (some ⟨p,3,none⟩),.slice ta tn tc,.slice (some ⟨g3,0,none⟩) tn c3,.pointer (some ⟨p,1,none⟩),.slice oa on oc,.slice (some ⟨gs,0,none⟩) 1 1,.slice (some ⟨g6,0,none⟩) n7 c6,(.pointer (some ⟨p,3,none⟩)),ge,g3,c3,gs,g6,c6,(by go_simp),(by go_simp),hb,rf,rf,rf,rf,rf,rf,rf,rf,rf,f_p,f_q,f_bk,f_o7_3,f_o9_3,f_o9_7,(fun _ h => by cases h),f_le,(fun _ h => by cases h),f_lf,f_l0,f_l5,f_nm,(fun _ h => by cases h),f_o,f_lo,f_s,f_qa2,f_qa5⟩
         · have hf' : b9 = false := hf
           subst hf'
           have d8 : b8 = true := hd ⟨8, .data⟩ (by simp) rfl
           subst d8
           have d7 : b7 = true := hd ⟨7, .data⟩ (by simp) rfl
           subst d7
           have d0 : b0 = true := hd ⟨0, .phase⟩ (by simp) rfl
           subst d0
           have d1 : b1 = true := hd ⟨1, .phase⟩ (by simp) rfl
           subst d1
           have d2 : b2 = true := hd ⟨2, .phase⟩ (by simp) rfl
           subst d2
           have d3 : b3 = true := hd ⟨3, .phase⟩ (by simp) rfl
           subst d3
           have d4 : b4 = true := hd ⟨4, .phase⟩ (by simp) rfl
           subst d4
           have d5 : b5 = true := hd ⟨5, .phase⟩ (by simp) rfl
           subst d5
           have d6 : b6 = true := hd ⟨6, .phase⟩ (by simp) rfl
           subst d6
           obtain rfl := cd8.out rfl
           obtain rfl := cd7.out rfl
           obtain rfl := cd0.out rfl
           obtain rfl := cd1.out rfl
           obtain rfl := cd2.out rfl
           obtain rfl := cd3.out rfl
           obtain rfl := cd4.out rfl
           obtain rfl := cd5.out rfl
           obtain rfl := cd6.out rfl
           clear hf hd
           have W_p := f_p.out rfl
           have W_q := f_q.out
           have W_bk := f_bk.out
           have W_o7_3 := f_o7_3.out
           have W_o9_3 := f_o9_3.out
           have W_o9_7 := f_o9_7.out
           have W_le := f_le.out rfl
           have W_lf := f_lf.out rfl
           have W_l0 := f_l0.out rfl
           have W_l5 := f_l5.out rfl
           have W_nm := f_nm.out
           have W_o := f_o.out rfl
           have W_lo := f_lo.out rfl
           try simp only [setIfInBounds_toArray, set_cons_zero, set_cons_succ]
           have z3 : w.cell? ⟨p, 3, none⟩ = some (.slice ta tn tc) := W_p.c rfl
           have fz := free_blk (i := 3) W_p
           intro K hK
           rw [if_pos (by rfl)]
           go_simp
           have gz9 := grown_cell (grown_self w p) 3 (.slice (some ⟨g6, 0, none⟩) n7 c6)
           have hb2 := hb.grown gz9 (Nat.le_trans (Nat.le_trans hpr7' hrW7) hb.size) (fun z hz => by cases hz; exact Nat.le_refl _)
           exact hK.out _ _ ⟨true,true,true,true,true,true,true,true,true,true,.slice (some ⟨ge,0,none⟩) 0 0,.pointer (some ⟨p,3,none⟩),.slice ta tn tc,.slice (some ⟨g3,0,none⟩) tn c3,.pointer (some ⟨p,1,none⟩),.slice oa on oc,.slice (some ⟨gs,0,none⟩) 1 1,.slice (some ⟨g6,0,none⟩) n7 c6,.pointer (some ⟨p,3,none⟩),ge,g3,c3,gs,g6,c6,(by go_simp),(by go_simp),hb2,rf,rf,rf,rf,rf,rf,rf,rf,rf,nf2,(Bk.grown f_q.out gz9 hqp),(OwnR.grown f_bk.out gz9 hBp),f_o7_3,(fun _ => f_o7_3.out rfl),rf,(fun _ h => by cases h),f_le,(fun _ h => by cases h),f_lf,(fun h0 => ((f_l0.out h0)).grown gz9),(fun h0 => ((f_l5.out h0)).grown gz9),f_nm,(fun _ h => by cases h),(fun h0 => ((f_o.out h0)).grown gz9 (fun e => by have := Option.some.inj e; have := W_lo; omega)),f_lo,(fun _ => lg_set3 W_p _),rf,rf⟩
       · rintro act V7 ⟨b0,b1,b2,b3,b4,b5,b6,b7,b8,b9,x44,x45,x46,x47,x48,x49,x50,x51,x52,ge,g3,c3,gs,g6,c6,hL,rfl,hb,cd0,cd1,cd2,cd3,cd4,cd5,cd6,cd7,cd8,f_p,f_q,f_bk,f_o7_3,f_o9_3,f_o9_7,f_e,f_le,f_f,f_lf,f_l0,f_l5,f_nm,f_ls,f_o,f_lo,f_s,f_qa2,f_qa5⟩
         have hL' : [true, true, true, true, true, true, true, true, true, true] = [b0, b1, b2, b3, b4, b5, b6, b7, b8, b9] := congrArg Array.toList hL
         simp only [List.cons.injEq, and_true] at hL'
         obtain ⟨rfl, rfl, rfl, rfl, rfl, rfl, rfl, rfl, rfl, rfl⟩ := hL'
         obtain rfl := cd0.out rfl
         obtain rfl := cd1.out rfl
         obtain rfl := cd2.out rfl
         obtain rfl := cd3.out rfl
         obtain rfl := cd4.out rfl
         obtain rfl := cd5.out rfl
         obtain rfl := cd6.out rfl
         obtain rfl := cd7.out rfl
         obtain rfl := cd8.out rfl
         have W_q := f_q.out
         have W_bk := f_bk.out
         have W_o7_3 := f_o7_3.out
         have W_o9_3 := f_o9_3.out
         have W_o9_7 := f_o9_7.out
         have W_le := f_le.out rfl
         have W_lf := f_lf.out rfl
         have W_l0 := f_l0.out rfl
         have W_l5 := f_l5.out rfl
         have W_nm := f_nm.out
         have W_o := f_o.out rfl
         have W_lo := f_lo.out rfl
         have W_s := f_s.out rfl
         have W_qa2 := f_qa2.out rfl
         have W_qa5 := f_qa5.out rfl
         clear hL f_p f_q f_bk f_o7_3 f_o9_3 f_o9_7 f_e f_le f_f f_lf f_l0 f_l5 f_nm f_ls f_o f_lo f_s f_qa2 f_qa5 cd0 cd1 cd2 cd3 cd4 cd5 cd6 cd7 cd8
         simp only [setIfInBounds_toArray, set_cons_zero, set_cons_succ]
         have P7 := W_s
         have Q7 := W_q
         have O7 := W_bk
         have S7 := W_o
         have h67 := W_lo
         have BV7 : Below p w6 V7 := (Below.refl _ _).drew.trans hb
         clear W_s W_q W_bk W_o W_lo W_le W_lf W_l0 W_l5 W_nm hb
         have f1 := free_blk (i := 1) P7
         have z1 : V7.cell? ⟨p, 1, none⟩ = some (.slice oa on oc) := P7.c rfl
         go_upto_region 9 with fail
         have P8 := lg_set1 P7 (.slice none 0 0)
         have G8 := grown_cell (grown_self V7 p) 1 (.slice none 0 0)
         have Q8 := Q7.grown G8 hqp
         have O8 := O7.grown G8 hBp
         have S8 := S7.grown G8 (fun e => by have := Option.some.inj e; omega)
         have BV8 : Below p w6 (V7.setCell ⟨p, 1, none⟩ (.slice none 0 0)) := BV7.grown G8 (Nat.le_of_lt P7.lt) (fun z hz => by cases hz; exact Nat.le_refl _)
         clear f1 z1 P7 Q7 O7 S7 G8 BV7
         generalize V7.setCell ⟨p, 1, none⟩ (.slice none 0 0) = V8 at P8 Q8 O8 S8 BV8 ⊢
         obtain ⟨c0,c1,c2,c3⟩ : V8.cell? ⟨p,0,none⟩ = some (.int .i64 next) ∧ V8.cell? ⟨p,1,none⟩ = some (.slice none 0 0) ∧ V8.cell? ⟨p,2,none⟩ = some (.slice (some ⟨gB,0,none⟩) bn4 cB) ∧ V8.cell? ⟨p,3,none⟩ = some (.slice (some ⟨g6,0,none⟩) n7 c6) := ⟨P8.c rfl,P8.c rfl,P8.c rfl,P8.c rfl⟩
         obtain ⟨e0,e1,e2,e3⟩ : V8.cell? ⟨q,0,none⟩ = some (.int .i64 0) ∧ V8.cell? ⟨q,1,none⟩ = some (.slice none 0 0) ∧ V8.cell? ⟨q,2,none⟩ = some (.slice none 0 0) ∧ V8.cell? ⟨q,3,none⟩ = some (.slice none 0 0) := ⟨Q8.c rfl,Q8.c rfl,Q8.c rfl,Q8.c rfl⟩
         obtain ⟨f0,f1,f2,f3⟩ : V8.frozen? ⟨q,0,none⟩ = false ∧ V8.frozen? ⟨q,1,none⟩ = false ∧ V8.frozen? ⟨q,2,none⟩ = false ∧ V8.frozen? ⟨q,3,none⟩ = false := ⟨free_blk Q8,free_blk Q8,free_blk Q8,free_blk Q8⟩
         go_wp2_with fail
         have G9 : V8.grownBy ((((V8.setCell ⟨q,0,none⟩ (.int .i64 next)).setCell ⟨q,1,none⟩ (.slice none 0 0)).setCell ⟨q,2,none⟩ (.slice (some ⟨gB,0,none⟩) bn4 cB)).setCell ⟨q,3,none⟩ (.slice (some ⟨g6,0,none⟩) n7 c6)) (some q) := grown_cell (grown_cell (grown_cell (grown_cell (grown_self _ _) _ _) _ _) _ _) _ _
         have Q9 : Bk ((((V8.setCell ⟨q,0,none⟩ (.int .i64 next)).setCell ⟨q,1,none⟩ (.slice none 0 0)).setCell ⟨q,2,none⟩ (.slice (some ⟨gB,0,none⟩) bn4 cB)).setCell ⟨q,3,none⟩ (.slice (some ⟨g6,0,none⟩) n7 c6)) q #[.int .i64 next,.slice none 0 0,.slice (some ⟨gB,0,none⟩) bn4 cB,.slice (some ⟨g6,0,none⟩) n7 c6] 32 := (heap_setCell_same (i := 3) (v := .slice (some ⟨g6,0,none⟩) n7 c6) (heap_setCell_same (i := 2) (v := .slice (some ⟨gB,0,none⟩) bn4 cB) (heap_setCell_same (i := 1) (v := .slice none 0 0) (heap_setCell_same (i := 0) (v := .int .i64 next) Q8))))
         have O9 := O8.grown G9 (fun e => by have := Option.some.inj e; omega)
         have S9 := S8.grown G9 (fun e => by have := Option.some.inj e; omega)
         have B9 : Below p w ((((V8.setCell ⟨q,0,none⟩ (.int .i64 next)).setCell ⟨q,1,none⟩ (.slice none 0 0)).setCell ⟨q,2,none⟩ (.slice (some ⟨gB,0,none⟩) bn4 cB)).setCell ⟨q,3,none⟩ (.slice (some ⟨g6,0,none⟩) n7 c6)) := (BP.trans BV8).grown G9 (by have := Q8.lt; omega) (fun z hz => by cases hz; exact Nat.le_of_lt hpq)
         generalize ((((V8.setCell ⟨q,0,none⟩ (.int .i64 next)).setCell ⟨q,1,none⟩ (.slice none 0 0)).setCell ⟨q,2,none⟩ (.slice (some ⟨gB,0,none⟩) bn4 cB)).setCell ⟨q,3,none⟩ (.slice (some ⟨g6,0,none⟩) n7 c6)) = w9 at Q9 O9 S9 B9 ⊢
         obtain ⟨d0,d1,d2,d3⟩ : w9.cell? ⟨q,0,none⟩ = some (.int .i64 next) ∧ w9.cell? ⟨q,1,none⟩ = some (.slice none 0 0) ∧ w9.cell? ⟨q,2,none⟩ = some (.slice (some ⟨gB,0,none⟩) bn4 cB) ∧ w9.cell? ⟨q,3,none⟩ = some (.slice (some ⟨g6,0,none⟩) n7 c6) := ⟨Q9.c rfl,Q9.c rfl,Q9.c rfl,Q9.c rfl⟩
         refine bodyPost_ret (v := .tuple #[.agg #[.int .i64 next,.slice none 0 0,.slice (some ⟨gB,0,none⟩) bn4 cB,.slice (some ⟨g6,0,none⟩) n7 c6],.int .i64 0]) (by simp [results, Tryz.results18, go_sem,d0,d1,d2,d3]) rfl ?_
         have BW9 : Below w.heap.size w w9 := by rw [HG.out]; exact B9
         have hr9 := HR9.out _ BW9 gB bn4 cB g6 n7 c6 O9 (by rw [HG.out]; omega) (by rw [HT2.out]; exact S9) (by rw [HG.out]; omega)
         unfold RClosed RLed
         rw [HCE.out, HCM.out]
         exact ⟨_, rfl, _, _, _, _, _, _, _, _, _, by rw [HNX.out], hr9, BW9⟩
end Go.Proofs.YtdmnjjknkcnkgaaGreatDoor
